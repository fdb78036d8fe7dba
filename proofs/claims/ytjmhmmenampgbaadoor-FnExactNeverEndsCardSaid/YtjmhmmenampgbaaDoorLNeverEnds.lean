/- The program's NeverEnds answers as the specification's does, at every argument, leaves its arguments as they are, and its answer owns its memory: no condition. -/
import Derived.Test.YtjmhmmenampgbaaDoorRows
import Derived.Test.YtjmhmmenampgbaaDoorYv
import Derived.Test.YtjmhmmenampgbaaDoorYl
import Derived.Test.YtjmhmmenampgbaaDoorTie
import Derived.Test.YtjmhmmenampgbaaDoorCards
import Derived.LaidMore
import Derived.Stop.Joined
import Derived.Stop.LaidErr
import Derived.Lib.LaidTab
import Derived.SevenTiedAt
import Derived.Test.YtjmhmmenampgbaaDoorHar
import Derived.ProofKit
import Derived.OpenShut
import Derived.Lib.SmallJoins
namespace Go.Proofs.YtjmhmmenampgbaaDoor.FNeverEnds
open Go.ChangeShapes Go.WideShapes Go.ChangeAt Go.RowKit Go.Joins
set_option linter.unusedVariables false
set_option linter.unusedSimpArgs false
set_option maxRecDepth 100000

set_option maxHeartbeats 4000000 in
theorem law_c (v0 u0 : Value) (l0 : List (List Int)) (m0 : List Int) (w : World) (h0 : rows w.heap.size w v0 l0) (hlen0 : l0.length ≤ 9223372036854775807) (hrow0 : ∀ j, j < l0.length → (l0[j]?.getD []).length ≤ 9223372036854775807) (g0 : ints w.heap.size w u0 m0) (glen0 : m0.length ≤ 9223372036854775807) (hT : tab w) :
    Calls Tryd.prog 11 #[.agg #[v0, u0]] w fun e w' => e = .returned (.bool true) ∧ Below w.heap.size w w' := by
  have HT := hide hT
  clear hT
  generalize hR : (neB l0 m0) = R
  generalize hO : (cpB l0 m0) = ok
  have HR := hide hR
  have HO := hide hO
  clear hR hO
  have F1 := hide (((Below.refl w.heap.size w).alloc (Nat.le_refl _) (.cells #[v0, u0] 25)))
  have F2 := hide ((h0.alloc (.cells #[v0, u0] 25)))
  have F3 := hide ((g0.alloc (.cells #[v0, u0] 25)))
  have F4 := hide (show (w.alloc (.cells #[v0, u0] 25)).heap[w.heap.size]? = some (.cells #[v0, u0] 25) from (by have := hp_last w (.cells #[v0, u0] 25); simpa using this))
  have HZ0 := hide (show (w.alloc (.cells #[v0, u0] 25)).heap.size = w.heap.size + 1 by simp)
  clear h0 g0
  have hsz0 : szOf 1048576 (l0.length + tot l0 + m0.length) = -1 ∨ (0 ≤ szOf 1048576 (l0.length + tot l0 + m0.length) ∧ szOf 1048576 (l0.length + tot l0 + m0.length) ≤ 1048576 ∧ (l0.length + tot l0 + m0.length) ≤ 1048576) := by unfold szOf; split <;> omega
  generalize hq0 : szOf 1048576 (l0.length + tot l0 + m0.length) = q0 at hsz0
  have HQ0 := hide hq0
  clear hq0
  rcases hsz0 with hbig0 | ⟨hq0a, hq0b, hq0c⟩
  · have HBIG := hide hbig0
    have hneg : q0 < 0 := by omega
    clear hbig0
    go_enter Tryd.func11, Tryd.ntmps11
    go_wp2_with fail
    generalize hX : (w.alloc (.cells #[v0, u0] 25)) = W0 at F1 F2 F3 F4 HZ0 ⊢
    have hz0 := Nat.le_of_eq HZ0.out.symm
    clear hX HZ0
    refine (szChips_c v0 u0 l0 m0 (1048576) W0 (F2.out.mono (by omega)) hlen0 hrow0 (F3.out.mono (by omega)) glen0 (by omega) (by omega)).mono ?_
    rw [HQ0.out]
    rintro e W1 ⟨rfl, hb5⟩
    have hz6 := hb5.size
    have F7 := hide (F1.out.trans (hb5.mono (by omega)))
    have F8 := hide (F2.out.below hb5 (by omega))
    have F9 := hide (F3.out.below hb5 (by omega))
    have F10 := hide ((hb5.block (w.heap.size) (by omega)).trans F4.out)
    clear hb5 F1 F2 F3 F4
    go_wp2
    go_ret
    exact ⟨rfl, F7.out⟩
  have hneg0 : ¬ q0 < 0 := by omega
  have hsm0 : small2 l0 := ⟨by omega, by omega⟩
  have HSM0 := hide hsm0
  have hmx0 : tot l0 ≤ 1048576 := by omega
  have hmy0 : l0.length ≤ 1048576 := by omega
  clear hsm0
  go_enter Tryd.func11, Tryd.ntmps11
  go_wp2_with fail
  generalize hX : (w.alloc (.cells #[v0, u0] 25)) = W0 at F1 F2 F3 F4 HZ0 ⊢
  have hz0 := Nat.le_of_eq HZ0.out.symm
  clear hX HZ0
  refine (szChips_c v0 u0 l0 m0 (1048576) W0 (F2.out.mono (by omega)) hlen0 hrow0 (F3.out.mono (by omega)) glen0 (by omega) (by omega)).mono ?_
  rw [HQ0.out]
  rintro e W1 ⟨rfl, hb5⟩
  have hz6 := hb5.size
  have F7 := hide (F1.out.trans (hb5.mono (by omega)))
  have F8 := hide (F2.out.below hb5 (by omega))
  have F9 := hide (F3.out.below hb5 (by omega))
  have F10 := hide ((hb5.block (w.heap.size) (by omega)).trans F4.out)
  clear hb5 F1 F2 F3 F4
  have p11 := cells_at0 F10.out
  have p12 := cells_at1 F10.out
  go_wp2_with fail
  clear p11 p12
  refine (toChips_c v0 u0 l0 m0 W1 (F8.out.mono (by omega)) HSM0.out (F9.out.mono (by omega)) (by omega)).mono ?_
  rintro e W2 ⟨v13, u14, rfl, ho15, hb16⟩
  have hz17 := hb16.size
  have F18 := hide (F7.out.trans (hb16.mono (by omega)))
  have F19 := hide (F8.out.below hb16 (by omega))
  have F20 := hide (F9.out.below hb16 (by omega))
  have F21 := hide ((hb16.block (w.heap.size) (by omega)).trans F10.out)
  have hle22 : W1.heap.size + 3 ≤ W2.heap.size := (by obtain ⟨mm, h1, h2, _⟩ := ho15; omega)
  obtain ⟨q23, q24, q25⟩ := ho15.rows.shape
  obtain ⟨q26, q27, q28⟩ := ho15.ints.shape
  have F29 := hide (ho15)
  clear hb16 F7 F8 F9 F10 ho15
  subst q25
  subst q28
  have p30 := cells_at0 F21.out
  have p31 := cells_at1 F21.out
  go_wp2_with fail
  clear p30 p31
  refine (specNeverEnds_c _ _ l0 m0 W2 F29.out.rows HSM0.out F29.out.ints (by omega) (HT.out.belowB HT.out F18.out (Nat.le_refl _))).mono ?_
  rw [HR.out, HO.out]
  rintro e W3 ⟨rfl, hb32⟩
  have hz33 := hb32.size
  have F34 := hide (F18.out.trans (hb32.mono (by omega)))
  have F35 := hide (F19.out.below hb32 (by omega))
  have F36 := hide (F20.out.below hb32 (by omega))
  have F37 := hide ((hb32.block (w.heap.size) (by omega)).trans F21.out)
  have F38 := hide (F29.out.kept hb32)
  clear hb32 F18 F19 F20 F21 F29
  clear F38
  have p39 := cells_at0 F37.out
  have p40 := cells_at1 F37.out
  go_wp2_with fail
  clear p39 p40
  refine (toChips_c v0 u0 l0 m0 W3 (F35.out.mono (by omega)) HSM0.out (F36.out.mono (by omega)) (by omega)).mono ?_
  rintro e W4 ⟨v41, u42, rfl, ho43, hb44⟩
  have hz45 := hb44.size
  have F46 := hide (F34.out.trans (hb44.mono (by omega)))
  have F47 := hide (F35.out.below hb44 (by omega))
  have F48 := hide (F36.out.below hb44 (by omega))
  have F49 := hide ((hb44.block (w.heap.size) (by omega)).trans F37.out)
  have hle50 : W3.heap.size + 3 ≤ W4.heap.size := (by obtain ⟨mm, h1, h2, _⟩ := ho43; omega)
  obtain ⟨q51, q52, q53⟩ := ho43.rows.shape
  obtain ⟨q54, q55, q56⟩ := ho43.ints.shape
  have F57 := hide (ho43)
  clear hb44 F34 F35 F36 F37 ho43
  subst q53
  subst q56
  have F58 := hide (F46.out.alloc (by omega) (.cells #[.slice q51 l0.length q52, .slice q54 m0.length q55] 29))
  have F59 := hide (F47.out.alloc (.cells #[.slice q51 l0.length q52, .slice q54 m0.length q55] 29))
  have F60 := hide (F48.out.alloc (.cells #[.slice q51 l0.length q52, .slice q54 m0.length q55] 29))
  have F61 := hide ((hp_old W4 (.cells #[.slice q51 l0.length q52, .slice q54 m0.length q55] 29) (w.heap.size) (by omega)).trans F49.out)
  have F62 := hide (F57.out.alloc (.cells #[.slice q51 l0.length q52, .slice q54 m0.length q55] 29))
  have F63 := hide (hp_last W4 (.cells #[.slice q51 l0.length q52, .slice q54 m0.length q55] 29))
  have HZ64 := hide (show (W4.alloc (.cells #[.slice q51 l0.length q52, .slice q54 m0.length q55] 29)).heap.size = W4.heap.size + 1 by simp)
  clear F46 F47 F48 F49 F57
  have p65 := cells_at0 F61.out
  have p66 := cells_at1 F61.out
  have p67 := cells_at0 F63.out
  have p68 := cells_at1 F63.out
  go_wp2_with fail
  clear p65 p66 p67 p68
  generalize hX : W4.alloc (.cells #[.slice q51 l0.length q52, .slice q54 m0.length q55] 29) = W5 at F58 F59 F60 F61 F62 F63 HZ64 ⊢
  have hz69 := Nat.le_of_eq HZ64.out.symm
  clear hX HZ64
  refine (implNeverEnds_c _ _ l0 m0 W5 F62.out.rows HSM0.out F62.out.ints (by omega) (HT.out.belowB HT.out F58.out (Nat.le_refl _))).mono ?_
  rw [HR.out, HO.out]
  rintro e W6 ⟨rfl, hb70⟩
  have hz71 := hb70.size
  have F72 := hide (F58.out.trans (hb70.mono (by omega)))
  have F73 := hide (F59.out.below hb70 (by omega))
  have F74 := hide (F60.out.below hb70 (by omega))
  have F75 := hide ((hb70.block (w.heap.size) (by omega)).trans F61.out)
  have F76 := hide (F62.out.kept hb70)
  have F77 := hide ((hb70.block (W4.heap.size) (by omega)).trans F63.out)
  clear hb70 F58 F59 F60 F61 F62 F63
  have p78 := cells_at0 F75.out
  have p79 := cells_at1 F75.out
  have p80 := cells_at0 F77.out
  have p81 := cells_at1 F77.out
  go_wp2
  clear p78 p79 p80 p81
  refine wp_region_held (S := Below W6.heap.size W6) (by kernel_rfl) ?_
  have hS : Below W6.heap.size W6 { W6 with drawn := W6.drawn + 1 } := (Below.refl _ _).drew
  refine wpAnyH_take (i := 0) rfl (by kernel_rfl) (by kernel_rfl) (by kernel_rfl) (fun _ _ _ h => h) (yields_load_two rowCp sizeCp rfl (.tmp _) rfl _ rfl _ _ (fun w' h => (h.cell (p := ⟨W4.heap.size, 0, none⟩) (by show W4.heap.size < _; omega)).trans (cells_at0 F77.out)) (fun w' h => (h.cell (p := ⟨W4.heap.size, 1, none⟩) (by show W4.heap.size < _; omega)).trans (cells_at1 F77.out))) hS ?_
  refine wpAnyH_take (i := 1) rfl (by kernel_rfl) (by kernel_rfl) (by kernel_rfl) (fun _ _ _ h => h) (yields_load_two rowCl sizeCl rfl (.tmp _) rfl _ rfl _ _ (fun w' h => (h.cell (p := ⟨w.heap.size, 0, none⟩) (by show w.heap.size < _; omega)).trans (cells_at0 F75.out)) (fun w' h => (h.cell (p := ⟨w.heap.size, 1, none⟩) (by show w.heap.size < _; omega)).trans (cells_at1 F75.out))) hS ?_
  refine anyH_call (i := 2) (by kernel_rfl) rfl rfl 14 ent_toChips _ _ rfl #[.agg #[v0, u0]] rfl (toChips_c v0 u0 l0 m0 _ ((F73.out.below hS (by omega)).mono (show w.heap.size ≤ W6.heap.size by omega)) HSM0.out ((F74.out.below hS (by omega)).mono (show w.heap.size ≤ W6.heap.size by omega)) (by omega)) ?_
  rintro e W7 ⟨gv, gu, rfl, hkr, hbr⟩
  have hzr : W6.heap.size ≤ W7.heap.size := hbr.size
  have hS6 : Below W6.heap.size W6 W7 := hS.trans hbr
  refine ⟨_, rfl, hS6, ?_⟩
  refine anyH_call (i := 3) (by kernel_rfl) rfl rfl 17 ent_eqChips _ _ rfl #[.agg #[.slice q51 l0.length q52, .slice q54 m0.length q55], .agg #[gv, gu]] rfl (eqChips_same_c _ _ _ _ l0 m0 W7 ((F76.out.kept hS6).rows) ((F76.out.kept hS6).ints) hkr.rows hkr.ints HSM0.out (by omega)) ?_
  rintro e W8 ⟨rfl, hbs⟩
  have hS7 : Below W6.heap.size W6 W8 := hS6.trans (hbs.mono hzr)
  refine ⟨_, rfl, hS7, ?_⟩
  refine anyH_op (i := 4) (by kernel_rfl) rfl rfl (.bool false) W8 ?hq hS7 ?_
  case hq => simp [go_sem, Act.put]
  refine wpAnyH_done (by kernel_rfl) ?_ _
  simp only [Act.put, List.getElem_toArray, List.getElem_cons_zero, List.getElem_cons_succ, List.setIfInBounds_toArray, List.set_cons_zero, List.set_cons_succ]
  have hz82 : W6.heap.size ≤ W8.heap.size := hS7.size
  have F83 := hide (F72.out.trans (hS7.mono (by omega)))
  have F84 := hide (F73.out.below hS7 (by omega))
  have F85 := hide (F74.out.below hS7 (by omega))
  have F86 := hide ((hS7.block (w.heap.size) (by omega)).trans F75.out)
  have F87 := hide (F76.out.kept hS7)
  have F88 := hide ((hS7.block (W4.heap.size) (by omega)).trans F77.out)
  clear hS hS6 hS7 hbr hbs hkr hzr F72 F73 F74 F75 F76 F77
  have p89 := cells_at0 F86.out
  have p90 := cells_at1 F86.out
  have p91 := cells_at0 F88.out
  have p92 := cells_at1 F88.out
  go_wp2
  go_ret
  exact ⟨rfl, F83.out⟩

theorem ownK : ownKnob Tryd.prog.godebug = none := by kernel_rfl
theorem laidOut : laidOutB Tryd.prog = true := by kernel_rfl

/-- What a slice of int is, as it comes in. -/
theorem list_open {W : World} {v : Value} {l : List Int} (h : (v = .slice none 0 0 ∧ l = []) ∨ ∃ (a : Addr) (len c : Nat) (zs : List Int), v = .slice (some a) len c ∧ len ≤ zs.length ∧ len ≤ maxLen ∧ (∀ i, i < zs.length → W.cell? (a.add i) = some (.int .i64 (zs.getD i 0))) ∧ l = zs.take len) : ints W.heap.size W v l ∧ l.length ≤ 9223372036854775807 := by
  rcases h with ⟨rfl, rfl⟩ | ⟨x, len, c, zs, rfl, hlt, hm, hcell, rfl⟩
  · exact ⟨.inl ⟨rfl, none, 0, rfl⟩, by simp⟩
  · have htk : (zs.take len).length = len := by simp; omega
    refine ⟨?_, by unfold maxLen at hm; omega⟩
    rcases Nat.eq_zero_or_pos len with h0 | h0
    · subst h0
      exact .inl ⟨by simp, some x, c, rfl⟩
    · obtain ⟨b, off, rfl, hc⟩ := ints_at hcell (by omega)
      have hbl := block_lt_of_cell (hc 0 (by omega))
      refine .inr ⟨b, off, c, by rw [htk], hbl, hbl, fun j hj => ?_⟩
      rw [htk] at hj
      rw [hc j (by omega), List.getElem?_take, if_pos hj]
      rfl

/-- What chips are, as they come in. -/
theorem chips_open {H : Type} {enc : TypeId × Value → H} {W : World} {b0 : Nat} {v : Value} {d : DataW H} {p : List MemPlace}
    (hv : Value.okWide Tryd.prog W .any b0 25 v) (h : DataW.Trod enc Tryd.prog W 0 (fun _ => true) true 25 v d p) :
    ∃ (x u : Value) (M : List (List Int)) (l : List Int), v = .agg #[x, u] ∧ rows W.heap.size W x M ∧ M.length ≤ 9223372036854775807 ∧ (∀ j, j < M.length → (M[j]?.getD []).length ≤ 9223372036854775807) ∧ ints W.heap.size W u l ∧ l.length ≤ 9223372036854775807 := by
  obtain ⟨v0, v1, y0, y1, m, rfl, rfl, rfl, hy0, hy1⟩ := open_agg2 Tryd.underlying25 (by kernel_rfl) (by kernel_rfl) hv h
  have h0 : ∃ (x : Value) (M : List (List Int)), v0 = x ∧ rows W.heap.size W x M ∧ M.length ≤ 9223372036854775807 ∧ ∀ j, j < M.length → (M[j]?.getD []).length ≤ 9223372036854775807 := by
    rcases Go.Deep.open_int_rows Tryd.underlying22 Tryd.underlying23 Tryd.underlying3 (by kernel_rfl) (by kernel_rfl) hy0 with ⟨hcs, _⟩ | ⟨x, len, c, A, Ln, C, Z, hcs, _, hl, hm, _, hr⟩
    · simp at hcs
      subst hcs
      exact ⟨_, [], rfl, .inl ⟨rfl, none, 0, rfl⟩, by simp, fun j hj => by simp at hj⟩
    · simp at hcs
      subst hcs
      obtain ⟨h1, h2⟩ := rows_in hl hr
      exact ⟨_, _, rfl, h1, by simp; unfold maxLen at hm; omega, fun j hj => h2 j (by simpa using hj)⟩
  obtain ⟨x, M, rfl, hM1, hM2, hM3⟩ := h0
  rcases open_ints Tryd.underlying23 Tryd.underlying3 (by kernel_rfl) hy1 with ⟨hcs, _⟩ | ⟨x, len, c, zs, hcs, _, hl, hm, hz, _, hcell, hwz⟩
  · simp at hcs
    subst hcs
    obtain ⟨k1, k2⟩ := list_open (W := W) (v := .slice none 0 0) (l := []) (.inl ⟨rfl, rfl⟩)
    exact ⟨_, _, M, [], rfl, hM1, hM2, hM3, k1, k2⟩
  · simp at hcs
    subst hcs
    have hz' : zs.length = c := by simpa using hz
    obtain ⟨k1, k2⟩ := list_open (W := W) (v := .slice (some x) len c) (l := zs.take len) (.inr ⟨x, len, c, zs, rfl, by omega, by unfold maxLen at hm ⊢; omega, hcell, rfl⟩)
    exact ⟨_, _, M, zs.take len, rfl, hM1, hM2, hM3, k1, k2⟩


/-- What the card's condition gives: the table's cells. -/
theorem tab_of {W : World} (h : laidMetH Tryd.prog Rows.fnExactNeverEndsRow.laid W) : tab W := by
  rw [MakeChecks.laidMetH_plain _ _ _ (by kernel_rfl)] at h
  have h2 := h.tail
  have e : (Rows.laid_math_bits_deBruijn64tab : DataW Unit) = Lib.tabData .u8 (Lib.deBruijn64tab.map fun n : Nat => (n : Int)) := by kernel_rfl
  rw [e] at h2
  have hT := Lib.tabIs_of_head (g := 1) (t := 108) (e := 5) (n := 64) (by kernel_rfl) (by kernel_rfl) (by kernel_rfl) (by kernel_rfl) (by kernel_rfl) (by kernel_rfl) h2
  have hc : ∀ j, j < 64 → W.cell? ⟨1, j, none⟩ = some (.int .u8 (Lib.deBruijn64tab.getD j 0)) := by
    intro j hj
    have h3 := hT.cell (g := 1) (by kernel_rfl) j (by rw [show (Lib.deBruijn64tab.map fun n : Nat => (n : Int)).length = 64 by decide +kernel]; exact hj)
    rw [h3]
    have h4 : ∀ j, j < 64 → (Lib.deBruijn64tab.map fun n : Nat => (n : Int)).getD j 0 = (Lib.deBruijn64tab.getD j 0 : Int) := by decide +kernel
    rw [h4 j hj]
  exact ⟨block_lt_of_cell (hc 0 (by omega)), hc⟩
theorem door_met (os : Os) (args : Array Value) : laidMetH Tryd.prog Rows.fnExactNeverEndsRow.laid ((World.doorLaid Tryd.prog 400 os).forCall (fun _ _ => 0) ⟨#[], args, []⟩).memory :=
  laidMetH_of_parts3 (fuel := 8) (laidMet_of_run' 8 (by kernel_rfl) (by kernel_rfl)) (by kernel_rfl) (by kernel_rfl)

theorem lifted (os : Os) (started : os.Started) (H : Type) (enc : TypeId × Value → H) :
    ReturnsInHanded {} Tryd.checked os 11 .any (fun w args => (Rows.fnExactNeverEndsSpec.pre enc Tryd.prog Tryd.f11 [] false w args ∧ laidMetH Tryd.prog Rows.fnExactNeverEndsRow.laid w) ∧ sizedMet enc Tryd.prog Tryd.f11 (OpenSpec.ofChange Rows.fnExactNeverEndsSpec) false w args)
      (Rows.fnExactNeverEndsSpec.post enc Tryd.prog Tryd.f11 false true false false) := by
  refine returnsInHanded_of_change_and (C := Tryd.checked) (X := fun w _ => laidMetH Tryd.prog Rows.fnExactNeverEndsRow.laid w) (fun _ _ _ hh h => h.of_heap hh) ownK started (by kernel_rfl) Tryd.func11
    (ChangeSpec.witness_shaped (enc := enc) (C := Tryd.checked) (os := os) (X := fun w _ => laidMetH Tryd.prog Rows.fnExactNeverEndsRow.laid w) false (World.doorLaid Tryd.prog 400 os) #[.agg #[.slice none 0 0, .slice none 0 0]] 8 rfl (World.shaped_of_RefB (by kernel_rfl) (by kernel_rfl)) (by kernel_rfl) (by kernel_rfl) (by kernel_rfl) (door_met os _)) ?_
  intro W base args ds gs before hval0 hW _ _ hL _
  have hTab := tab_of hL
  have hval : ∀ (j : Nat) t v, Tryd.f11.params[j]? = some t → args[j]? = some v → Value.okWide Tryd.prog W .any base t v := hval0
  have hW' := hW
  obtain ⟨p, q, hA0, hV, rfl, hfz, hnd⟩ := hW
  have hA : DataW.TrodAll enc Tryd.prog W 0 (fun _ => true) true Tryd.f11.params.toList args.toList ds p := hA0
  rw [Tryd.params11] at hA hval
  obtain ⟨v0, vs0, d0, ds0, p0, q0, hargs, rfl, rfl, t0, r0⟩ := trodAll_cons hA
  obtain ⟨rfl, rfl, rfl⟩ := trodAll_nil r0
  obtain rfl : args = #[v0] := by cases args; simp_all
  obtain ⟨rfl, rfl⟩ := trodVars_none hV
  have k0 := t0
  have lt0 : ∀ x ∈ p0, x.block < W.heap.size := by obtain ⟨m, hm⟩ := k0; exact DataW.trod_lt m _ _ _ hm
  obtain ⟨c0, u0, l0, m0, rfl, i0, e0, f0, y0, z0⟩ := chips_open (hval 0 25 v0 rfl rfl) t0
  clear hA0 hval0
  refine (law_c c0 u0 l0 m0 W i0 e0 f0 y0 z0 hTab).mono fun e W' ⟨he, bel⟩ => ?_
  subst he
  exact ⟨_, rfl, _, _, _, [], _, [], hW', trodAll_mk1 (shut_bool Tryd.underlying4 _), (trodAll_cons_mk (Below.trod laidOut (by kernel_rfl) (of_decide_eq_true (by kernel_rfl)) k0 bel lt0) trodAll_mk0), rfl, bel.frame _, fun h => by cases h⟩

set_option maxHeartbeats 4000000 in
theorem over : Rows.fnExactNeverEndsRow.holds Tryd.pinned (OpenSpec.ofChange Rows.fnExactNeverEndsSpec) :=
  OpenClaim.holds_of_wide 11 Tryd.f11 rfl rfl rfl rfl rfl rfl rfl ⟨rfl, rfl, rfl, rfl, rfl⟩ rfl rfl rfl rfl rfl (by as_aux_lemma => kernel_rfl) Tryd.func11 (by as_aux_lemma => kernel_rfl)
    (of_decide_eq_true (by as_aux_lemma => kernel_rfl)) (by unfold Func.isWrapper; first | (rw [if_pos (by decide +kernel)]; kernel_rfl) | (rw [if_neg (by decide +kernel)]; exact ⟨rfl, rfl⟩))
    (fun os started H enc _ => lifted os started H enc)

set_option maxHeartbeats 8000000 in
theorem proved : Rows.FnExactNeverEndsCardSaid :=
  Claim7.holds_tied_plain_at .later [] [.data, .data] true _ false
    over (fun _ h => by cases h) (by as_aux_lemma => kernel_rfl) (fun _ h => by cases h) fnExactNeverEnds_row_tie rfl ⟨rfl, rfl⟩ (by as_aux_lemma => kernel_rfl) rfl
    (fun f fn hf hfn => by
      obtain rfl : f = 11 := Option.some.inj ((show Tryd.prog.funcNamed "loop.example/g01137/laws.FnExactNeverEnds" = some 11 by as_aux_lemma => kernel_rfl).symm.trans hf) |>.symm
      obtain rfl : fn = Tryd.f11 := (Option.some.inj (Tryd.func11.symm.trans hfn)).symm
      exact ⟨by as_aux_lemma => kernel_rfl, fun j t ht => by
        rw [Tryd.params11] at ht
        have hm : t ∈ [25] := by simpa using Array.mem_of_getElem? ht
        have hall : ([25].all fun u => !Tryd.prog.wantsStandIn u) = true := by as_aux_lemma => kernel_rfl
        exact (show Tryd.prog.wantsStandIn t = false by simpa using List.all_eq_true.1 hall t hm)⟩)
    (by as_aux_lemma => kernel_rfl)
#print axioms proved
end Go.Proofs.YtjmhmmenampgbaaDoor.FNeverEnds
