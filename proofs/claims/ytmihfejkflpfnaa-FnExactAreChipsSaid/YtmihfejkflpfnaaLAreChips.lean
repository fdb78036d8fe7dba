/- The program's AreChips answers as the specification's does, at every argument, leaves its arguments as they are, and its answer owns its memory: no condition. -/
import Derived.Test.YtmihfejkflpfnaaRows
import Derived.Test.YtmihfejkflpfnaaYq
import Derived.Test.YtmihfejkflpfnaaYl
import Derived.Test.YtmihfejkflpfnaaHar
import Derived.ProofKit
import Derived.OpenShut
import Derived.Lib.SmallJoins
namespace Go.Proofs.Ytmihfejkflpfnaa.FAreChips
open Go.ChangeShapes Go.WideShapes Go.ChangeAt Go.RowKit Go.Joins
set_option linter.unusedVariables false
set_option linter.unusedSimpArgs false
set_option maxRecDepth 100000

set_option maxHeartbeats 4000000 in
theorem law_c (v0 u0 : Value) (l0 : List (List Int)) (m0 : List Int) (w : World) (h0 : rows w.heap.size w v0 l0) (hlen0 : l0.length ≤ 9223372036854775807) (hrow0 : ∀ j, j < l0.length → (l0[j]?.getD []).length ≤ 9223372036854775807) (g0 : ints w.heap.size w u0 m0) (glen0 : m0.length ≤ 9223372036854775807) :
    Calls Try.prog 3 #[.agg #[v0, u0]] w fun e w' => e = .returned (.bool true) ∧ Below w.heap.size w w' := by
  generalize hR : cpB l0 m0 = R
  have HR := hide hR
  clear hR
  have F1 := hide (((Below.refl w.heap.size w).alloc (Nat.le_refl _) (.cells #[v0, u0] 25)))
  have F2 := hide ((h0.alloc (.cells #[v0, u0] 25)))
  have F3 := hide ((g0.alloc (.cells #[v0, u0] 25)))
  have F4 := hide (show (w.alloc (.cells #[v0, u0] 25)).heap[w.heap.size]? = some (.cells #[v0, u0] 25) from (by have := hp_last w (.cells #[v0, u0] 25); simpa using this))
  have HZ0 := hide (show (w.alloc (.cells #[v0, u0] 25)).heap.size = w.heap.size + 1 by simp)
  clear h0 g0
  have hsz0 : szOf 1048576 (l0.length + tot l0 + m0.length) = -1 ∨ (0 ≤ szOf 1048576 (l0.length + tot l0 + m0.length) ∧ szOf 1048576 (l0.length + tot l0 + m0.length) ≤ 1048576 ∧ (l0.length + tot l0 + m0.length) ≤ 1048576) := by unfold szOf; split <;> omega
  generalize hq0 : szOf 1048576 (l0.length + tot l0 + m0.length) = q0 at hsz0
  have HQ0 := hide hq0
  clear hq0
  rcases hsz0 with hbig0 | ⟨hq0a, hq0b, hq0c⟩
  · have HBIG := hide hbig0
    have hneg : q0 < 0 := by omega
    clear hbig0
    go_enter Try.func3, Try.ntmps3
    go_wp2_with fail
    generalize hX : (w.alloc (.cells #[v0, u0] 25)) = W0 at F1 F2 F3 F4 HZ0 ⊢
    have hz0 := Nat.le_of_eq HZ0.out.symm
    clear hX HZ0
    refine (szChips_c v0 u0 l0 m0 (1048576) W0 (F2.out.mono (by omega)) hlen0 hrow0 (F3.out.mono (by omega)) glen0 (by omega) (by omega)).mono ?_
    rw [HQ0.out]
    rintro e W1 ⟨rfl, hb5⟩
    have hz6 := hb5.size
    have F7 := hide (F1.out.trans (hb5.mono (by omega)))
    have F8 := hide (F2.out.below hb5 (by omega))
    have F9 := hide (F3.out.below hb5 (by omega))
    have F10 := hide ((hb5.block (w.heap.size) (by omega)).trans F4.out)
    clear hb5 F1 F2 F3 F4
    go_wp2
    go_ret
    exact ⟨rfl, F7.out⟩
  have hneg0 : ¬ q0 < 0 := by omega
  have hsm0 : small2 l0 := ⟨by omega, by omega⟩
  have HSM0 := hide hsm0
  have hmx0 : tot l0 ≤ 1048576 := by omega
  have hmy0 : l0.length ≤ 1048576 := by omega
  clear hsm0
  go_enter Try.func3, Try.ntmps3
  go_wp2_with fail
  generalize hX : (w.alloc (.cells #[v0, u0] 25)) = W0 at F1 F2 F3 F4 HZ0 ⊢
  have hz0 := Nat.le_of_eq HZ0.out.symm
  clear hX HZ0
  refine (szChips_c v0 u0 l0 m0 (1048576) W0 (F2.out.mono (by omega)) hlen0 hrow0 (F3.out.mono (by omega)) glen0 (by omega) (by omega)).mono ?_
  rw [HQ0.out]
  rintro e W1 ⟨rfl, hb5⟩
  have hz6 := hb5.size
  have F7 := hide (F1.out.trans (hb5.mono (by omega)))
  have F8 := hide (F2.out.below hb5 (by omega))
  have F9 := hide (F3.out.below hb5 (by omega))
  have F10 := hide ((hb5.block (w.heap.size) (by omega)).trans F4.out)
  clear hb5 F1 F2 F3 F4
  have p11 := cells_at0 F10.out
  have p12 := cells_at1 F10.out
  go_wp2_with fail
  clear p11 p12
  refine (toChips_c v0 u0 l0 m0 W1 (F8.out.mono (by omega)) HSM0.out (F9.out.mono (by omega)) (by omega)).mono ?_
  rintro e W2 ⟨v13, u14, rfl, ho15, hb16⟩
  have hz17 := hb16.size
  have F18 := hide (F7.out.trans (hb16.mono (by omega)))
  have F19 := hide (F8.out.below hb16 (by omega))
  have F20 := hide (F9.out.below hb16 (by omega))
  have F21 := hide ((hb16.block (w.heap.size) (by omega)).trans F10.out)
  obtain ⟨q22, q23, q24⟩ := ho15.rows.shape
  obtain ⟨q25, q26, q27⟩ := ho15.ints.shape
  have F28 := hide (ho15)
  clear hb16 F7 F8 F9 F10 ho15
  subst q24
  subst q27
  have p29 := cells_at0 F21.out
  have p30 := cells_at1 F21.out
  go_wp2_with fail
  clear p29 p30
  refine (specAreChips_c _ _ l0 m0 W2 F28.out.rows HSM0.out F28.out.ints (by omega)).mono ?_
  rw [HR.out]
  rintro e W3 ⟨rfl, hb31⟩
  have hz32 := hb31.size
  have F33 := hide (F18.out.trans (hb31.mono (by omega)))
  have F34 := hide (F19.out.below hb31 (by omega))
  have F35 := hide (F20.out.below hb31 (by omega))
  have F36 := hide ((hb31.block (w.heap.size) (by omega)).trans F21.out)
  have F37 := hide (F28.out.kept hb31)
  clear hb31 F18 F19 F20 F21 F28
  clear F37
  have p38 := cells_at0 F36.out
  have p39 := cells_at1 F36.out
  go_wp2_with fail
  clear p38 p39
  refine (toChips_c v0 u0 l0 m0 W3 (F34.out.mono (by omega)) HSM0.out (F35.out.mono (by omega)) (by omega)).mono ?_
  rintro e W4 ⟨v40, u41, rfl, ho42, hb43⟩
  have hz44 := hb43.size
  have F45 := hide (F33.out.trans (hb43.mono (by omega)))
  have F46 := hide (F34.out.below hb43 (by omega))
  have F47 := hide (F35.out.below hb43 (by omega))
  have F48 := hide ((hb43.block (w.heap.size) (by omega)).trans F36.out)
  obtain ⟨q49, q50, q51⟩ := ho42.rows.shape
  obtain ⟨q52, q53, q54⟩ := ho42.ints.shape
  have F55 := hide (ho42)
  clear hb43 F33 F34 F35 F36 ho42
  subst q51
  subst q54
  have F56 := hide (F45.out.alloc (by omega) (.cells #[.slice q49 l0.length q50, .slice q52 m0.length q53] 28))
  have F57 := hide (F46.out.alloc (.cells #[.slice q49 l0.length q50, .slice q52 m0.length q53] 28))
  have F58 := hide (F47.out.alloc (.cells #[.slice q49 l0.length q50, .slice q52 m0.length q53] 28))
  have F59 := hide ((hp_old W4 (.cells #[.slice q49 l0.length q50, .slice q52 m0.length q53] 28) (w.heap.size) (by omega)).trans F48.out)
  have F60 := hide (F55.out.alloc (.cells #[.slice q49 l0.length q50, .slice q52 m0.length q53] 28))
  have F61 := hide (hp_last W4 (.cells #[.slice q49 l0.length q50, .slice q52 m0.length q53] 28))
  have HZ62 := hide (show (W4.alloc (.cells #[.slice q49 l0.length q50, .slice q52 m0.length q53] 28)).heap.size = W4.heap.size + 1 by simp)
  clear F45 F46 F47 F48 F55
  have p63 := cells_at0 F59.out
  have p64 := cells_at1 F59.out
  have p65 := cells_at0 F61.out
  have p66 := cells_at1 F61.out
  go_wp2_with fail
  clear p63 p64 p65 p66
  generalize hX : W4.alloc (.cells #[.slice q49 l0.length q50, .slice q52 m0.length q53] 28) = W5 at F56 F57 F58 F59 F60 F61 HZ62 ⊢
  have hz67 := Nat.le_of_eq HZ62.out.symm
  clear hX HZ62
  refine (implAreChips_c _ _ l0 m0 W5 F60.out.rows HSM0.out F60.out.ints (by omega)).mono ?_
  rw [HR.out]
  rintro e W6 ⟨rfl, hb68⟩
  have hz69 := hb68.size
  have F70 := hide (F56.out.trans (hb68.mono (by omega)))
  have F71 := hide (F57.out.below hb68 (by omega))
  have F72 := hide (F58.out.below hb68 (by omega))
  have F73 := hide ((hb68.block (w.heap.size) (by omega)).trans F59.out)
  have F74 := hide (F60.out.kept hb68)
  have F75 := hide ((hb68.block (W4.heap.size) (by omega)).trans F61.out)
  clear hb68 F56 F57 F58 F59 F60 F61
  have p76 := cells_at0 F73.out
  have p77 := cells_at1 F73.out
  have p78 := cells_at0 F75.out
  have p79 := cells_at1 F75.out
  go_wp2
  clear p76 p77 p78 p79
  refine wp_region_held (S := Below W6.heap.size W6) (by kernel_rfl) ?_
  have hS : Below W6.heap.size W6 { W6 with drawn := W6.drawn + 1 } := (Below.refl _ _).drew
  refine wpAnyH_take (i := 0) rfl (by kernel_rfl) (by kernel_rfl) (by kernel_rfl) (fun _ _ _ h => h) (yields_load_two rowCp sizeCp rfl (.tmp _) rfl _ rfl _ _ (fun w' h => (h.cell (p := ⟨W4.heap.size, 0, none⟩) (by show W4.heap.size < _; omega)).trans (cells_at0 F75.out)) (fun w' h => (h.cell (p := ⟨W4.heap.size, 1, none⟩) (by show W4.heap.size < _; omega)).trans (cells_at1 F75.out))) hS ?_
  refine wpAnyH_take (i := 1) rfl (by kernel_rfl) (by kernel_rfl) (by kernel_rfl) (fun _ _ _ h => h) (yields_load_two rowCl sizeCl rfl (.tmp _) rfl _ rfl _ _ (fun w' h => (h.cell (p := ⟨w.heap.size, 0, none⟩) (by show w.heap.size < _; omega)).trans (cells_at0 F73.out)) (fun w' h => (h.cell (p := ⟨w.heap.size, 1, none⟩) (by show w.heap.size < _; omega)).trans (cells_at1 F73.out))) hS ?_
  refine anyH_call (i := 2) (by kernel_rfl) rfl rfl 7 ent_toChips _ _ rfl #[.agg #[v0, u0]] rfl (toChips_c v0 u0 l0 m0 _ ((F71.out.below hS (by omega)).mono (show w.heap.size ≤ W6.heap.size by omega)) HSM0.out ((F72.out.below hS (by omega)).mono (show w.heap.size ≤ W6.heap.size by omega)) (by omega)) ?_
  rintro e W7 ⟨gv, gu, rfl, hkr, hbr⟩
  have hzr : W6.heap.size ≤ W7.heap.size := hbr.size
  have hS6 : Below W6.heap.size W6 W7 := hS.trans hbr
  refine ⟨_, rfl, hS6, ?_⟩
  refine anyH_call (i := 3) (by kernel_rfl) rfl rfl 9 ent_eqChips _ _ rfl #[.agg #[.slice q49 l0.length q50, .slice q52 m0.length q53], .agg #[gv, gu]] rfl (eqChips_same_c _ _ _ _ l0 m0 W7 ((F74.out.kept hS6).rows) ((F74.out.kept hS6).ints) hkr.rows hkr.ints HSM0.out (by omega)) ?_
  rintro e W8 ⟨rfl, hbs⟩
  have hS7 : Below W6.heap.size W6 W8 := hS6.trans (hbs.mono hzr)
  refine ⟨_, rfl, hS7, ?_⟩
  refine anyH_op (i := 4) (by kernel_rfl) rfl rfl (.bool false) W8 ?hq hS7 ?_
  case hq => simp [go_sem, Act.put]
  refine wpAnyH_done (by kernel_rfl) ?_ _
  simp only [Act.put, List.getElem_toArray, List.getElem_cons_zero, List.getElem_cons_succ, List.setIfInBounds_toArray, List.set_cons_zero, List.set_cons_succ]
  have hz80 : W6.heap.size ≤ W8.heap.size := hS7.size
  have F81 := hide (F70.out.trans (hS7.mono (by omega)))
  have F82 := hide (F71.out.below hS7 (by omega))
  have F83 := hide (F72.out.below hS7 (by omega))
  have F84 := hide ((hS7.block (w.heap.size) (by omega)).trans F73.out)
  have F85 := hide (F74.out.kept hS7)
  have F86 := hide ((hS7.block (W4.heap.size) (by omega)).trans F75.out)
  clear hS hS6 hS7 hbr hbs hkr hzr F70 F71 F72 F73 F74 F75
  have p87 := cells_at0 F84.out
  have p88 := cells_at1 F84.out
  have p89 := cells_at0 F86.out
  have p90 := cells_at1 F86.out
  go_wp2
  go_ret
  exact ⟨rfl, F81.out⟩

theorem ownK : ownKnob Try.prog.godebug = none := by kernel_rfl
theorem laidOut : laidOutB Try.prog = true := by kernel_rfl

/-- What a slice of int is, as it comes in. -/
theorem list_open {W : World} {v : Value} {l : List Int} (h : (v = .slice none 0 0 ∧ l = []) ∨ ∃ (a : Addr) (len c : Nat) (zs : List Int), v = .slice (some a) len c ∧ len ≤ zs.length ∧ len ≤ maxLen ∧ (∀ i, i < zs.length → W.cell? (a.add i) = some (.int .i64 (zs.getD i 0))) ∧ l = zs.take len) : ints W.heap.size W v l ∧ l.length ≤ 9223372036854775807 := by
  rcases h with ⟨rfl, rfl⟩ | ⟨x, len, c, zs, rfl, hlt, hm, hcell, rfl⟩
  · exact ⟨.inl ⟨rfl, none, 0, rfl⟩, by simp⟩
  · have htk : (zs.take len).length = len := by simp; omega
    refine ⟨?_, by unfold maxLen at hm; omega⟩
    rcases Nat.eq_zero_or_pos len with h0 | h0
    · subst h0
      exact .inl ⟨by simp, some x, c, rfl⟩
    · obtain ⟨b, off, rfl, hc⟩ := ints_at hcell (by omega)
      have hbl := block_lt_of_cell (hc 0 (by omega))
      refine .inr ⟨b, off, c, by rw [htk], hbl, hbl, fun j hj => ?_⟩
      rw [htk] at hj
      rw [hc j (by omega), List.getElem?_take, if_pos hj]
      rfl

/-- What chips are, as they come in. -/
theorem chips_open {H : Type} {enc : TypeId × Value → H} {W : World} {b0 : Nat} {v : Value} {d : DataW H} {p : List MemPlace}
    (hv : Value.okWide Try.prog W .any b0 25 v) (h : DataW.Trod enc Try.prog W 0 (fun _ => true) true 25 v d p) :
    ∃ (x u : Value) (M : List (List Int)) (l : List Int), v = .agg #[x, u] ∧ rows W.heap.size W x M ∧ M.length ≤ 9223372036854775807 ∧ (∀ j, j < M.length → (M[j]?.getD []).length ≤ 9223372036854775807) ∧ ints W.heap.size W u l ∧ l.length ≤ 9223372036854775807 := by
  obtain ⟨v0, v1, y0, y1, m, rfl, rfl, rfl, hy0, hy1⟩ := open_agg2 Try.underlying25 (by kernel_rfl) (by kernel_rfl) hv h
  have h0 : ∃ (x : Value) (M : List (List Int)), v0 = x ∧ rows W.heap.size W x M ∧ M.length ≤ 9223372036854775807 ∧ ∀ j, j < M.length → (M[j]?.getD []).length ≤ 9223372036854775807 := by
    rcases Go.Deep.open_int_rows Try.underlying22 Try.underlying23 Try.underlying3 (by kernel_rfl) (by kernel_rfl) hy0 with ⟨hcs, _⟩ | ⟨x, len, c, A, Ln, C, Z, hcs, _, hl, hm, _, hr⟩
    · simp at hcs
      subst hcs
      exact ⟨_, [], rfl, .inl ⟨rfl, none, 0, rfl⟩, by simp, fun j hj => by simp at hj⟩
    · simp at hcs
      subst hcs
      obtain ⟨h1, h2⟩ := rows_in hl hr
      exact ⟨_, _, rfl, h1, by simp; unfold maxLen at hm; omega, fun j hj => h2 j (by simpa using hj)⟩
  obtain ⟨x, M, rfl, hM1, hM2, hM3⟩ := h0
  rcases open_ints Try.underlying23 Try.underlying3 (by kernel_rfl) hy1 with ⟨hcs, _⟩ | ⟨x, len, c, zs, hcs, _, hl, hm, hz, _, hcell, hwz⟩
  · simp at hcs
    subst hcs
    obtain ⟨k1, k2⟩ := list_open (W := W) (v := .slice none 0 0) (l := []) (.inl ⟨rfl, rfl⟩)
    exact ⟨_, _, M, [], rfl, hM1, hM2, hM3, k1, k2⟩
  · simp at hcs
    subst hcs
    have hz' : zs.length = c := by simpa using hz
    obtain ⟨k1, k2⟩ := list_open (W := W) (v := .slice (some x) len c) (l := zs.take len) (.inr ⟨x, len, c, zs, rfl, by omega, by unfold maxLen at hm ⊢; omega, hcell, rfl⟩)
    exact ⟨_, _, M, zs.take len, rfl, hM1, hM2, hM3, k1, k2⟩

theorem lifted (os : Os) (started : os.Started) (H : Type) (enc : TypeId × Value → H) :
    ReturnsInHanded {} Try.checked os 3 .any (Rows.fnExactAreChipsSpec.pre6 enc Try.prog Try.f3 Rows.fnExactAreChipsRow.domain false) (Rows.fnExactAreChipsSpec.post enc Try.prog Try.f3 false true false false) := by
  refine returnsInHanded_of_change (C := Try.checked) ownK started (by kernel_rfl) Try.func3
    (ChangeSpec.witness6 (enc := enc) (C := Try.checked) false ⟨#[], #[.agg #[.slice none 0 0, .slice none 0 0]], []⟩ 8 (by kernel_rfl) (by kernel_rfl) (by kernel_rfl) (by kernel_rfl)) ?_
  intro W base args ds gs before hval0 hW hcnd _
  have hval : ∀ (j : Nat) t v, Try.f3.params[j]? = some t → args[j]? = some v → Value.okWide Try.prog W .any base t v := hval0
  have hW' := hW
  obtain ⟨p, q, hA0, hV, rfl, hfz, hnd⟩ := hW
  have hA : DataW.TrodAll enc Try.prog W 0 (fun _ => true) true Try.f3.params.toList args.toList ds p := hA0
  rw [Try.params3] at hA hval
  obtain ⟨v0, vs0, d0, ds0, p0, q0, hargs, rfl, rfl, t0, r0⟩ := trodAll_cons hA
  obtain ⟨rfl, rfl, rfl⟩ := trodAll_nil r0
  obtain rfl : args = #[v0] := by cases args; simp_all
  obtain ⟨rfl, rfl⟩ := trodVars_none hV
  have k0 := t0
  have lt0 : ∀ x ∈ p0, x.block < W.heap.size := by obtain ⟨m, hm⟩ := k0; exact DataW.trod_lt m _ _ _ hm
  obtain ⟨c0, u0, l0, m0, rfl, i0, e0, f0, y0, z0⟩ := chips_open (hval 0 25 v0 rfl rfl) t0
  clear hA0 hval0
  refine (law_c c0 u0 l0 m0 W i0 e0 f0 y0 z0).mono fun e W' ⟨he, bel⟩ => ?_
  subst he
  exact ⟨_, rfl, _, _, _, [], _, [], hW', trodAll_mk1 (shut_bool Try.underlying4 _), (trodAll_cons_mk (Below.trod laidOut (by kernel_rfl) (of_decide_eq_true (by kernel_rfl)) k0 bel lt0) trodAll_mk0), rfl, bel.frame _, fun h => by cases h⟩

set_option maxHeartbeats 4000000 in
theorem over : Rows.fnExactAreChipsRow.holds Try.pinned (OpenSpec.ofChange Rows.fnExactAreChipsSpec) :=
  OpenClaim.holds_of_wide 3 Try.f3 rfl rfl rfl rfl rfl rfl rfl ⟨rfl, rfl, rfl, rfl, rfl⟩ rfl rfl rfl rfl rfl (by as_aux_lemma => kernel_rfl) Try.func3 (by as_aux_lemma => kernel_rfl)
    (of_decide_eq_true (by as_aux_lemma => kernel_rfl)) (by unfold Func.isWrapper; first | (rw [if_pos (by decide +kernel)]; kernel_rfl) | (rw [if_neg (by decide +kernel)]; exact ⟨rfl, rfl⟩))
    (fun os started H enc _ => lifted os started H enc)

theorem proved : Rows.FnExactAreChipsSaid := over
#print axioms proved
end Go.Proofs.Ytmihfejkflpfnaa.FAreChips
