/- The program's IsElimination answers as the specification's does, at every argument, leaves its arguments as they are, and its answer owns its memory: no condition. -/
import Derived.Test.YtojejhdlfklhkaaDoorRows
import Derived.Test.YtojejhdlfklhkaaDoorNe
import Derived.Test.YtojejhdlfklhkaaDoorNr
import Derived.Test.YtojejhdlfklhkaaDoorTie
import Derived.Test.YtojejhdlfklhkaaDoorCards
import Derived.LaidMore
import Derived.Stop.Joined
import Derived.Stop.LaidErr
import Derived.Lib.LaidTab
import Derived.SevenTiedAt
import Derived.Test.YtojejhdlfklhkaaDoorHar
import Derived.ProofKit
import Derived.OpenShut
import Derived.Lib.SmallJoins
namespace Go.Proofs.YtojejhdlfklhkaaDoor.FIsElimination
open Go.ChangeShapes Go.WideShapes Go.ChangeAt Go.RowKit Go.Joins
set_option linter.unusedVariables false
set_option linter.unusedSimpArgs false
set_option maxRecDepth 100000

set_option maxHeartbeats 4000000 in
theorem law_c (v0 : Value) (l0 : List Int) (v1 : Value) (l1 : List Int) (w : World) (h0 : ints w.heap.size w v0 l0) (hlen0 : l0.length ≤ 9223372036854775807) (h1 : ints w.heap.size w v1 l1) (hlen1 : l1.length ≤ 9223372036854775807) (hT : tab w) :
    Calls Tryd.prog 8 #[.agg #[v0], v1] w fun e w' => e = .returned (.bool true) ∧ Below w.heap.size w w' := by
  have HT := hide hT
  clear hT
  generalize hR : ieR l0 l1 = R
  generalize hO : neB l0 = ok
  have HR := hide hR
  have HO := hide hO
  clear hR hO
  have F1 := hide (((Below.refl w.heap.size w).alloc (Nat.le_refl _) (.cells #[v0] 24)))
  have F2 := hide ((h0.alloc (.cells #[v0] 24)))
  have F3 := hide ((h1.alloc (.cells #[v0] 24)))
  have F4 := hide (show (w.alloc (.cells #[v0] 24)).heap[w.heap.size]? = some (.cells #[v0] 24) from (by have := hp_last w (.cells #[v0] 24); simpa using this))
  have HZ0 := hide (show (w.alloc (.cells #[v0] 24)).heap.size = w.heap.size + 1 by simp)
  clear h0 h1
  by_cases big1 : (1048576 : Int) < (l1.length : Int)
  · have big1n : 1048576 < l1.length := by omega
    go_enter Tryd.func8, Tryd.ntmps8
    go_wp2_with (first | (refine wpList_len sliceT rfl (.tmp _) rfl v1 rfl w.heap.size l1 F3.out ?_))
    go_ret
    exact ⟨rfl, F1.out⟩
  have big1n : ¬ 1048576 < l1.length := by omega
  have big1d : decide (1048576 < l1.length) = false := by simp; omega
  have hsz0 : szOf 1048576 l0.length = -1 ∨ (0 ≤ szOf 1048576 l0.length ∧ szOf 1048576 l0.length ≤ 1048576 ∧ l0.length ≤ 1048576) := by unfold szOf; split <;> omega
  generalize hq0 : szOf 1048576 l0.length = q0 at hsz0
  have HQ0 := hide hq0
  clear hq0
  rcases hsz0 with hbig0 | ⟨hq0a, hq0b, hq0c⟩
  · have HBIG := hide hbig0
    have hneg : q0 < 0 := by omega
    clear hbig0
    go_enter Tryd.func8, Tryd.ntmps8
    go_wp2_with (first | (refine wpList_len sliceT rfl (.tmp _) rfl v1 rfl w.heap.size l1 F3.out ?_))
    generalize hX : (w.alloc (.cells #[v0] 24)) = W0 at F1 F2 F3 F4 HZ0 ⊢
    have hz0 := Nat.le_of_eq HZ0.out.symm
    clear hX HZ0
    refine (szNet_c v0 l0 (1048576) W0 (F2.out.mono (by omega)) hlen0 (by omega) (by omega)).mono ?_
    rw [HQ0.out]
    rintro e W1 ⟨rfl, hb5⟩
    have hz6 := hb5.size
    have F7 := hide (F1.out.trans (hb5.mono (by omega)))
    have F8 := hide (F2.out.below hb5 (by omega))
    have F9 := hide (F3.out.below hb5 (by omega))
    have F10 := hide ((hb5.block (w.heap.size) (by omega)).trans F4.out)
    clear hb5 F1 F2 F3 F4
    go_wp2
    go_ret
    exact ⟨rfl, F7.out⟩
  have hneg0 : ¬ q0 < 0 := by omega
  go_enter Tryd.func8, Tryd.ntmps8
  go_wp2_with (first | (refine wpList_len sliceT rfl (.tmp _) rfl v1 rfl w.heap.size l1 F3.out ?_))
  generalize hX : (w.alloc (.cells #[v0] 24)) = W0 at F1 F2 F3 F4 HZ0 ⊢
  have hz0 := Nat.le_of_eq HZ0.out.symm
  clear hX HZ0
  refine (szNet_c v0 l0 (1048576) W0 (F2.out.mono (by omega)) hlen0 (by omega) (by omega)).mono ?_
  rw [HQ0.out]
  rintro e W1 ⟨rfl, hb5⟩
  have hz6 := hb5.size
  have F7 := hide (F1.out.trans (hb5.mono (by omega)))
  have F8 := hide (F2.out.below hb5 (by omega))
  have F9 := hide (F3.out.below hb5 (by omega))
  have F10 := hide ((hb5.block (w.heap.size) (by omega)).trans F4.out)
  clear hb5 F1 F2 F3 F4
  have p11 := cell1_at0 F10.out
  go_wp2_with fail
  clear p11
  refine (toNet_c v0 l0 W1 (F8.out.mono (by omega)) (by omega)).mono ?_
  rintro e W2 ⟨g12, rfl, hg13, hk14, hb15⟩
  have hz16 := hb15.size
  have F17 := hide (F7.out.trans (hb15.mono (by omega)))
  have F18 := hide (F8.out.below hb15 (by omega))
  have F19 := hide (F9.out.below hb15 (by omega))
  have F20 := hide ((hb15.block (w.heap.size) (by omega)).trans F10.out)
  have F21 := hide (hk14.own hg13 (by unfold maxLen; omega))
  have B22 := hide (F21.out.base)
  have L23 := hide (F21.out.blockLt)
  clear hb15 F7 F8 F9 F10 hk14 hg13
  have p24 := cell1_at0 F20.out
  go_wp2_with fail
  clear p24
  refine (toIntS_c v1 l1 W2 (F19.out.mono (by omega)) (by omega)).mono ?_
  rintro e W3 ⟨rfl, hk25, hb26⟩
  have hz27 := hb26.size
  have F28 := hide (F17.out.trans (hb26.mono (by omega)))
  have F29 := hide (F18.out.below hb26 (by omega))
  have F30 := hide (F19.out.below hb26 (by omega))
  have F31 := hide ((hb26.block (w.heap.size) (by omega)).trans F20.out)
  have F32 := hide (F21.out.kept hb26)
  have F33 := hide (hk25.own (Nat.le_refl _) (by unfold maxLen; omega))
  have B34 := hide (F33.out.base)
  have L35 := hide (F33.out.blockLt)
  clear hb26 F17 F18 F19 F20 F21 hk25
  have p36 := cell1_at0 F31.out
  go_wp2_with fail
  clear p36
  refine (specIsElimination_c _ l0 _ l1 W3 F32.out.ints (by omega) _ F33.out (by omega) (HT.out.belowB HT.out F28.out (Nat.le_refl _))).mono ?_
  rw [HR.out, HO.out]
  rintro e W4 ⟨rfl, hb37⟩
  have hz38 := hb37.size
  have F39 := hide (F28.out.trans (hb37.mono (by omega)))
  have F40 := hide (F29.out.below hb37 (by omega))
  have F41 := hide (F30.out.below hb37 (by omega))
  have F42 := hide ((hb37.block (w.heap.size) (by omega)).trans F31.out)
  have F43 := hide (F32.out.kept hb37)
  have F44 := hide (F33.out.kept hb37)
  clear hb37 F28 F29 F30 F31 F32 F33
  clear F43
  clear B22 L23
  clear F44
  clear B34 L35
  have p45 := cell1_at0 F42.out
  go_wp2_with fail
  clear p45
  refine (toNet_c v0 l0 W4 (F40.out.mono (by omega)) (by omega)).mono ?_
  rintro e W5 ⟨g46, rfl, hg47, hk48, hb49⟩
  have hz50 := hb49.size
  have F51 := hide (F39.out.trans (hb49.mono (by omega)))
  have F52 := hide (F40.out.below hb49 (by omega))
  have F53 := hide (F41.out.below hb49 (by omega))
  have F54 := hide ((hb49.block (w.heap.size) (by omega)).trans F42.out)
  have F55 := hide (hk48.own hg47 (by unfold maxLen; omega))
  have B56 := hide (F55.out.base)
  have L57 := hide (F55.out.blockLt)
  clear hb49 F39 F40 F41 F42 hk48 hg47
  have F58 := hide (F51.out.alloc (by omega) (.cells #[.slice (some ⟨g46, 0, none⟩) l0.length l0.length] 27))
  have F59 := hide (F52.out.alloc (.cells #[.slice (some ⟨g46, 0, none⟩) l0.length l0.length] 27))
  have F60 := hide (F53.out.alloc (.cells #[.slice (some ⟨g46, 0, none⟩) l0.length l0.length] 27))
  have F61 := hide ((hp_old W5 (.cells #[.slice (some ⟨g46, 0, none⟩) l0.length l0.length] 27) (w.heap.size) (by omega)).trans F54.out)
  have F62 := hide (F55.out.alloc (.cells #[.slice (some ⟨g46, 0, none⟩) l0.length l0.length] 27))
  have F63 := hide (hp_last W5 (.cells #[.slice (some ⟨g46, 0, none⟩) l0.length l0.length] 27))
  have HZ64 := hide (show (W5.alloc (.cells #[.slice (some ⟨g46, 0, none⟩) l0.length l0.length] 27)).heap.size = W5.heap.size + 1 by simp)
  clear F51 F52 F53 F54 F55
  have p65 := cell1_at0 F61.out
  have p66 := cell1_at0 F63.out
  go_wp2_with fail
  clear p65 p66
  generalize hX : W5.alloc (.cells #[.slice (some ⟨g46, 0, none⟩) l0.length l0.length] 27) = W6 at F58 F59 F60 F61 F62 F63 HZ64 ⊢
  have hz67 := Nat.le_of_eq HZ64.out.symm
  clear hX HZ64
  refine (toIntS_c v1 l1 W6 (F60.out.mono (by omega)) (by omega)).mono ?_
  rintro e W7 ⟨rfl, hk68, hb69⟩
  have hz70 := hb69.size
  have F71 := hide (F58.out.trans (hb69.mono (by omega)))
  have F72 := hide (F59.out.below hb69 (by omega))
  have F73 := hide (F60.out.below hb69 (by omega))
  have F74 := hide ((hb69.block (w.heap.size) (by omega)).trans F61.out)
  have F75 := hide (F62.out.kept hb69)
  have F76 := hide ((hb69.block (W5.heap.size) (by omega)).trans F63.out)
  have F77 := hide (hk68.own (Nat.le_refl _) (by unfold maxLen; omega))
  have B78 := hide (F77.out.base)
  have L79 := hide (F77.out.blockLt)
  clear hb69 F58 F59 F60 F61 F62 F63 hk68
  have p80 := cell1_at0 F74.out
  have p81 := cell1_at0 F76.out
  go_wp2_with fail
  clear p80 p81
  refine (implIsElimination_c _ l0 _ l1 W7 F75.out.ints (by omega) _ F77.out (by omega) (HT.out.belowB HT.out F71.out (Nat.le_refl _))).mono ?_
  rw [HR.out, HO.out]
  rintro e W8 ⟨rfl, hb82⟩
  have hz83 := hb82.size
  have F84 := hide (F71.out.trans (hb82.mono (by omega)))
  have F85 := hide (F72.out.below hb82 (by omega))
  have F86 := hide (F73.out.below hb82 (by omega))
  have F87 := hide ((hb82.block (w.heap.size) (by omega)).trans F74.out)
  have F88 := hide (F75.out.kept hb82)
  have F89 := hide ((hb82.block (W5.heap.size) (by omega)).trans F76.out)
  have F90 := hide (F77.out.kept hb82)
  clear hb82 F71 F72 F73 F74 F75 F76 F77
  have p91 := cell1_at0 F87.out
  have p92 := cell1_at0 F89.out
  go_wp2
  clear p91 p92
  refine wp_region_held (S := Below W8.heap.size W8) (by kernel_rfl) ?_
  have hS : Below W8.heap.size W8 { W8 with drawn := W8.drawn + 1 } := (Below.refl _ _).drew
  refine wpAnyH_take (i := 0) rfl (by kernel_rfl) (by kernel_rfl) (by kernel_rfl) (fun _ _ _ h => h) (yields_load_one rowNp sizeNp rfl (.tmp _) rfl _ rfl _ (fun w' h => (h.cell (p := ⟨W5.heap.size, 0, none⟩) (by show W5.heap.size < _; omega)).trans (cell1_at0 F89.out))) hS ?_
  refine wpAnyH_take (i := 1) rfl (by kernel_rfl) (by kernel_rfl) (by kernel_rfl) (fun _ _ _ h => h) (yields_load_one rowNl sizeNl rfl (.tmp _) rfl _ rfl _ (fun w' h => (h.cell (p := ⟨w.heap.size, 0, none⟩) (by show w.heap.size < _; omega)).trans (cell1_at0 F87.out))) hS ?_
  refine anyH_call (i := 2) (by kernel_rfl) rfl rfl 17 ent_toNet _ _ rfl #[.agg #[v0]] rfl (toNet_c v0 l0 _ ((F85.out.below hS (by omega)).mono (show w.heap.size ≤ W8.heap.size by omega)) (by omega)) ?_
  rintro e W9 ⟨g93, rfl, hgr, hkr, hbr⟩
  have hzr : W8.heap.size ≤ W9.heap.size := hbr.size
  have hS6 : Below W8.heap.size W8 W9 := hS.trans hbr
  refine ⟨_, rfl, hS6, ?_⟩
  refine anyH_call (i := 3) (by kernel_rfl) rfl rfl 19 ent_eqNet _ _ rfl #[.agg #[.slice (some ⟨g46, 0, none⟩) l0.length l0.length], .agg #[.slice (some ⟨g93, 0, none⟩) l0.length l0.length]] rfl (eqNet_same_c _ _ l0 W9 ((F88.out.kept hS6).ints) (hkr.ints _) (by omega)) ?_
  rintro e W10 ⟨rfl, hbs⟩
  have hS7 : Below W8.heap.size W8 W10 := hS6.trans (hbs.mono hzr)
  refine ⟨_, rfl, hS7, ?_⟩
  refine anyH_op (i := 4) (by kernel_rfl) rfl rfl (.bool false) W10 ?hq hS7 ?_
  case hq => simp [go_sem, Act.put]
  refine wpAnyH_done (by kernel_rfl) ?_ _
  simp only [Act.put, List.getElem_toArray, List.getElem_cons_zero, List.getElem_cons_succ, List.setIfInBounds_toArray, List.set_cons_zero, List.set_cons_succ]
  have hz94 : W8.heap.size ≤ W10.heap.size := hS7.size
  have F95 := hide (F84.out.trans (hS7.mono (by omega)))
  have F96 := hide (F85.out.below hS7 (by omega))
  have F97 := hide (F86.out.below hS7 (by omega))
  have F98 := hide ((hS7.block (w.heap.size) (by omega)).trans F87.out)
  have F99 := hide (F88.out.kept hS7)
  have F100 := hide ((hS7.block (W5.heap.size) (by omega)).trans F89.out)
  have F101 := hide (F90.out.kept hS7)
  clear hS hS6 hS7 hbr hbs hkr hgr hzr F84 F85 F86 F87 F88 F89 F90
  have p102 := cell1_at0 F98.out
  have p103 := cell1_at0 F100.out
  go_wp2_with fail
  clear p102 p103
  refine (toIntS_c v1 l1 W10 (F97.out.mono (by omega)) (by omega)).mono ?_
  rintro e W11 ⟨rfl, hk104, hb105⟩
  have hz106 := hb105.size
  have F107 := hide (F95.out.trans (hb105.mono (by omega)))
  have F108 := hide (F96.out.below hb105 (by omega))
  have F109 := hide (F97.out.below hb105 (by omega))
  have F110 := hide ((hb105.block (w.heap.size) (by omega)).trans F98.out)
  have F111 := hide (F99.out.kept hb105)
  have F112 := hide ((hb105.block (W5.heap.size) (by omega)).trans F100.out)
  have F113 := hide (F101.out.kept hb105)
  have F114 := hide (hk104.own (Nat.le_refl _) (by unfold maxLen; omega))
  have B115 := hide (F114.out.base)
  have L116 := hide (F114.out.blockLt)
  clear hb105 F95 F96 F97 F98 F99 F100 F101 hk104
  have p117 := cell1_at0 F110.out
  have p118 := cell1_at0 F112.out
  go_wp2_with fail
  clear p117 p118
  refine (eqIntS_same_c _ _ l1 W11 (F113.out.ints) (F114.out.ints) (by omega)).mono ?_
  rintro e W12 ⟨rfl, hb119⟩
  have hz120 := hb119.size
  have F121 := hide (F107.out.trans (hb119.mono (by omega)))
  have F122 := hide (F108.out.below hb119 (by omega))
  have F123 := hide (F109.out.below hb119 (by omega))
  have F124 := hide ((hb119.block (w.heap.size) (by omega)).trans F110.out)
  have F125 := hide (F111.out.kept hb119)
  have F126 := hide ((hb119.block (W5.heap.size) (by omega)).trans F112.out)
  have F127 := hide (F113.out.kept hb119)
  have F128 := hide (F114.out.kept hb119)
  clear hb119 F107 F108 F109 F110 F111 F112 F113 F114
  clear F128
  clear B115 L116
  have p129 := cell1_at0 F124.out
  have p130 := cell1_at0 F126.out
  go_wp2
  go_ret
  exact ⟨rfl, F121.out⟩

theorem ownK : ownKnob Tryd.prog.godebug = none := by kernel_rfl
theorem laidOut : laidOutB Tryd.prog = true := by kernel_rfl

/-- What a slice of int is, as it comes in. -/
theorem list_open {W : World} {v : Value} {l : List Int} (h : (v = .slice none 0 0 ∧ l = []) ∨ ∃ (a : Addr) (len c : Nat) (zs : List Int), v = .slice (some a) len c ∧ len ≤ zs.length ∧ len ≤ maxLen ∧ (∀ i, i < zs.length → W.cell? (a.add i) = some (.int .i64 (zs.getD i 0))) ∧ l = zs.take len) : ints W.heap.size W v l ∧ l.length ≤ 9223372036854775807 := by
  rcases h with ⟨rfl, rfl⟩ | ⟨x, len, c, zs, rfl, hlt, hm, hcell, rfl⟩
  · exact ⟨.inl ⟨rfl, none, 0, rfl⟩, by simp⟩
  · have htk : (zs.take len).length = len := by simp; omega
    refine ⟨?_, by unfold maxLen at hm; omega⟩
    rcases Nat.eq_zero_or_pos len with h0 | h0
    · subst h0
      exact .inl ⟨by simp, some x, c, rfl⟩
    · obtain ⟨b, off, rfl, hc⟩ := ints_at hcell (by omega)
      have hbl := block_lt_of_cell (hc 0 (by omega))
      refine .inr ⟨b, off, c, by rw [htk], hbl, hbl, fun j hj => ?_⟩
      rw [htk] at hj
      rw [hc j (by omega), List.getElem?_take, if_pos hj]
      rfl

/-- What a struct of one slice of int is, as it comes in. -/
theorem net_open {H : Type} {enc : TypeId × Value → H} {W : World} {b0 : Nat} {v : Value} {d : DataW H} {p : List MemPlace}
    (hv : Value.okWide Tryd.prog W .any b0 24 v) (h : DataW.Trod enc Tryd.prog W 0 (fun _ => true) true 24 v d p) :
    ∃ (u : Value) (l : List Int), v = .agg #[u] ∧ ints W.heap.size W u l ∧ l.length ≤ 9223372036854775807 := by
  obtain ⟨v0, y0, m, rfl, rfl, rfl, hy0⟩ := open_agg1 Tryd.underlying24 (by kernel_rfl) (by kernel_rfl) hv h
  rcases open_ints Tryd.underlying22 Tryd.underlying3 (by kernel_rfl) hy0 with ⟨hcs, _⟩ | ⟨x, len, c, zs, hcs, _, hl, hm, hz, _, hcell, hwz⟩
  · simp at hcs
    subst hcs
    exact ⟨_, [], rfl, list_open (.inl ⟨rfl, rfl⟩)⟩
  · simp at hcs
    subst hcs
    have hz' : zs.length = c := by simpa using hz
    exact ⟨_, zs.take len, rfl, list_open (.inr ⟨x, len, c, zs, rfl, by omega, by unfold maxLen at hm ⊢; omega, hcell, rfl⟩)⟩

theorem slice_open {H : Type} {enc : TypeId × Value → H} {W : World} {b0 : Nat} {v : Value} {d : DataW H} {p : List MemPlace}
    (hv : Value.okWide Tryd.prog W .any b0 22 v) (h : DataW.Trod enc Tryd.prog W 0 (fun _ => true) true 22 v d p) :
    ∃ (l : List Int), ints W.heap.size W v l ∧ l.length ≤ 9223372036854775807 := by
  obtain ⟨a0, len0, cap0, rfl⟩ := okWide_slice Tryd.underlying22 hv
  obtain ⟨fuel, hf⟩ := h
  rcases open_ints Tryd.underlying22 Tryd.underlying3 (by kernel_rfl) hf with ⟨hcs, _⟩ | ⟨x, len, c, zs, hcs, _, hl, hm, hz, _, hcell, hwz⟩
  · simp [Value.cells] at hcs
    obtain ⟨rfl, rfl, rfl⟩ := hcs
    exact ⟨[], list_open (.inl ⟨rfl, rfl⟩)⟩
  · simp [Value.cells] at hcs
    obtain ⟨rfl, rfl, rfl⟩ := hcs
    have hz' : zs.length = cap0 := by simpa using hz
    exact ⟨zs.take len0, list_open (.inr ⟨x, len0, cap0, zs, rfl, by omega, by omega, hcell, rfl⟩)⟩


/-- What the card's condition gives: the table's cells. -/
theorem tab_of {W : World} (h : laidMetH Tryd.prog Rows.fnExactIsEliminationRow.laid W) : tab W := by
  rw [MakeChecks.laidMetH_plain _ _ _ (by kernel_rfl)] at h
  have h2 := h.tail
  have e : (Rows.laid_math_bits_deBruijn64tab : DataW Unit) = Lib.tabData .u8 (Lib.deBruijn64tab.map fun n : Nat => (n : Int)) := by kernel_rfl
  rw [e] at h2
  have hT := Lib.tabIs_of_head (g := 1) (t := 119) (e := 5) (n := 64) (by kernel_rfl) (by kernel_rfl) (by kernel_rfl) (by kernel_rfl) (by kernel_rfl) (by kernel_rfl) h2
  have hc : ∀ j, j < 64 → W.cell? ⟨1, j, none⟩ = some (.int .u8 (Lib.deBruijn64tab.getD j 0)) := by
    intro j hj
    have h3 := hT.cell (g := 1) (by kernel_rfl) j (by rw [show (Lib.deBruijn64tab.map fun n : Nat => (n : Int)).length = 64 by decide +kernel]; exact hj)
    rw [h3]
    have h4 : ∀ j, j < 64 → (Lib.deBruijn64tab.map fun n : Nat => (n : Int)).getD j 0 = (Lib.deBruijn64tab.getD j 0 : Int) := by decide +kernel
    rw [h4 j hj]
  exact ⟨block_lt_of_cell (hc 0 (by omega)), hc⟩
theorem door_met (os : Os) (args : Array Value) : laidMetH Tryd.prog Rows.fnExactIsEliminationRow.laid ((World.doorLaid Tryd.prog 400 os).forCall (fun _ _ => 0) ⟨#[], args, []⟩).memory :=
  laidMetH_of_parts3 (fuel := 8) (laidMet_of_run' 8 (by kernel_rfl) (by kernel_rfl)) (by kernel_rfl) (by kernel_rfl)

theorem lifted (os : Os) (started : os.Started) (H : Type) (enc : TypeId × Value → H) :
    ReturnsInHanded {} Tryd.checked os 8 .any (fun w args => (Rows.fnExactIsEliminationSpec.pre enc Tryd.prog Tryd.f8 [] false w args ∧ laidMetH Tryd.prog Rows.fnExactIsEliminationRow.laid w) ∧ sizedMet enc Tryd.prog Tryd.f8 (OpenSpec.ofChange Rows.fnExactIsEliminationSpec) false w args)
      (Rows.fnExactIsEliminationSpec.post enc Tryd.prog Tryd.f8 false true false false) := by
  refine returnsInHanded_of_change_and (C := Tryd.checked) (X := fun w _ => laidMetH Tryd.prog Rows.fnExactIsEliminationRow.laid w) (fun _ _ _ hh h => h.of_heap hh) ownK started (by kernel_rfl) Tryd.func8
    (ChangeSpec.witness_shaped (enc := enc) (C := Tryd.checked) (os := os) (X := fun w _ => laidMetH Tryd.prog Rows.fnExactIsEliminationRow.laid w) false (World.doorLaid Tryd.prog 400 os) #[.agg #[.slice none 0 0], .slice none 0 0] 8 rfl (World.shaped_of_RefB (by kernel_rfl) (by kernel_rfl)) (by kernel_rfl) (by kernel_rfl) (by kernel_rfl) (door_met os _)) ?_
  intro W base args ds gs before hval0 hW _ _ hL _
  have hTab := tab_of hL
  have hval : ∀ (j : Nat) t v, Tryd.f8.params[j]? = some t → args[j]? = some v → Value.okWide Tryd.prog W .any base t v := hval0
  have hW' := hW
  obtain ⟨p, q, hA0, hV, rfl, hfz, hnd⟩ := hW
  have hA : DataW.TrodAll enc Tryd.prog W 0 (fun _ => true) true Tryd.f8.params.toList args.toList ds p := hA0
  rw [Tryd.params8] at hA hval
  obtain ⟨v0, vs0, d0, ds0, p0, q0, hargs, rfl, rfl, t0, r0⟩ := trodAll_cons hA
  obtain ⟨v1, vs1, d1, ds1, p1, q1, rfl, rfl, rfl, t1, r1⟩ := trodAll_cons r0
  obtain ⟨rfl, rfl, rfl⟩ := trodAll_nil r1
  obtain rfl : args = #[v0, v1] := by cases args; simp_all
  obtain ⟨rfl, rfl⟩ := trodVars_none hV
  have k0 := t0
  have lt0 : ∀ x ∈ p0, x.block < W.heap.size := by obtain ⟨m, hm⟩ := k0; exact DataW.trod_lt m _ _ _ hm
  obtain ⟨u0, l0, rfl, i0, e0⟩ := net_open (hval 0 24 v0 rfl rfl) t0
  have k1 := t1
  have lt1 : ∀ x ∈ p1, x.block < W.heap.size := by obtain ⟨m, hm⟩ := k1; exact DataW.trod_lt m _ _ _ hm
  obtain ⟨l1, i1, e1⟩ := slice_open (hval 1 22 v1 rfl rfl) t1
  clear hA0 hval0
  refine (law_c u0 l0 v1 l1 W i0 e0 i1 e1 hTab).mono fun e W' ⟨he, bel⟩ => ?_
  subst he
  exact ⟨_, rfl, _, _, _, [], _, [], hW', trodAll_mk1 (shut_bool Tryd.underlying4 _), (trodAll_cons_mk (Below.trod laidOut (by kernel_rfl) (of_decide_eq_true (by kernel_rfl)) k0 bel lt0) (trodAll_cons_mk (Below.trod laidOut (by kernel_rfl) (of_decide_eq_true (by kernel_rfl)) k1 bel lt1) trodAll_mk0)), rfl, bel.frame _, fun h => by cases h⟩

set_option maxHeartbeats 4000000 in
theorem over : Rows.fnExactIsEliminationRow.holds Tryd.pinned (OpenSpec.ofChange Rows.fnExactIsEliminationSpec) :=
  OpenClaim.holds_of_wide 8 Tryd.f8 rfl rfl rfl rfl rfl rfl rfl ⟨rfl, rfl, rfl, rfl, rfl⟩ rfl rfl rfl rfl rfl (by as_aux_lemma => kernel_rfl) Tryd.func8 (by as_aux_lemma => kernel_rfl)
    (of_decide_eq_true (by as_aux_lemma => kernel_rfl)) (by unfold Func.isWrapper; first | (rw [if_pos (by decide +kernel)]; kernel_rfl) | (rw [if_neg (by decide +kernel)]; exact ⟨rfl, rfl⟩))
    (fun os started H enc _ => lifted os started H enc)

theorem proved : Rows.FnExactIsEliminationCardSaid :=
  Claim7.holds_tied_plain_at .later [] [.data, .data] true _ false
    over (fun _ h => by cases h) (by kernel_rfl) (fun _ h => by cases h) fnExactIsElimination_row_tie rfl ⟨rfl, rfl⟩ (by kernel_rfl) rfl
    (fun f fn hf hfn => by
      obtain rfl : f = 8 := Option.some.inj ((show Tryd.prog.funcNamed "loop.example/g01137/laws.FnExactIsElimination" = some 8 by kernel_rfl).symm.trans hf) |>.symm
      obtain rfl : fn = Tryd.f8 := (Option.some.inj (Tryd.func8.symm.trans hfn)).symm
      exact ⟨by kernel_rfl, fun j t ht => by
        rw [Tryd.params8] at ht
        have hm : t ∈ [24, 22] := by simpa using Array.mem_of_getElem? ht
        have hall : ([24, 22].all fun u => !Tryd.prog.wantsStandIn u) = true := by kernel_rfl
        exact (show Tryd.prog.wantsStandIn t = false by simpa using List.all_eq_true.1 hall t hm)⟩)
    (by kernel_rfl)
#print axioms proved
end Go.Proofs.YtojejhdlfklhkaaDoor.FIsElimination
