/- The laws' harness for desks: sizes, copies, comparison, marks. -/
import Derived.Test.YtppojaekngeelaaHar
import Derived.Test.YtppojaekngeelaaOw
namespace Go.Proofs.Ytppojaekngeelaa
open Go.RowKit
set_option maxRecDepth 100000
set_option linter.unusedSimpArgs false
theorem cells3_at0 {w : World} {g : Nat} {T : TypeId} {x y z : Value} (h : w.heap[g]? = some (.cells #[x, y, z] T)) : w.cell? ⟨g, 0, none⟩ = some x := by rw [hp_cell h]; rfl
theorem cells3_at1 {w : World} {g : Nat} {T : TypeId} {x y z : Value} (h : w.heap[g]? = some (.cells #[x, y, z] T)) : w.cell? ⟨g, 1, none⟩ = some y := by rw [hp_cell h]; rfl
theorem cells3_at2 {w : World} {g : Nat} {T : TypeId} {x y z : Value} (h : w.heap[g]? = some (.cells #[x, y, z] T)) : w.cell? ⟨g, 2, none⟩ = some z := by rw [hp_cell h]; rfl
theorem rowDp : (Try.prog.underlying 26).map TypeDesc.isRow = some true := by kernel_rfl
theorem sizeDp : (Try.prog.info? 26).map (·.size) = some 3 := by kernel_rfl
theorem rowDl : (Try.prog.underlying 33).map TypeDesc.isRow = some true := by kernel_rfl
theorem sizeDl : (Try.prog.info? 33).map (·.size) = some 3 := by kernel_rfl
theorem szDesk_c (n : Int) (v : Value) (l : List Int) (k : Int) (left : Int) (w : World) (hl : ints w.heap.size w v l) (hlen : l.length ≤ 9223372036854775807) (h1 : 0 ≤ left) (h2 : left ≤ 1048576) :
    Calls Try.prog 10 #[.agg #[.int .i64 n, v, .int .i64 k], .int .i64 left] w fun e w' => e = .returned (.int .i64 (szOf left l.length)) ∧ Below w.heap.size w w' := by
  have HL1 := hide ((hl.alloc (.cells #[.int .i64 n, v, .int .i64 k] 33)).mono (show w.heap.size ≤ (w.alloc (.cells #[.int .i64 n, v, .int .i64 k] 33)).heap.size by simp))
  have HB0 := hide ((Below.refl w.heap.size w).alloc (Nat.le_refl _) (.cells #[.int .i64 n, v, .int .i64 k] 33))
  clear hl
  have hz : szOf left l.length = -1 ∨ ¬ szOf left l.length < 0 := by unfold szOf; split <;> omega
  generalize hq : szOf left l.length = q at hz ⊢
  have HQ := hide hq
  clear hq
  rcases hz with hz | hz
  · have HZ := hide hz
    have h3 : q < 0 := by omega
    clear hz
    go_enter Try.func10, Try.ntmps10
    go_wp2_with (go_at_call 17; refine (szSpace_c n v l left _ HL1.out hlen h1 h2).mono ?_; rw [HQ.out]; rintro e w' ⟨rfl, hb⟩; have HB := hide (HB0.out.trans (hb.mono (by simp))); clear hb)
    go_ret
    exact ⟨ret_i HZ.out.symm, HB.out⟩
  · go_enter Try.func10, Try.ntmps10
    go_wp2_with (go_at_call 17; refine (szSpace_c n v l left _ HL1.out hlen h1 h2).mono ?_; rw [HQ.out]; rintro e w' ⟨rfl, hb⟩; have HB := hide (HB0.out.trans (hb.mono (by simp))); clear hb)
    go_ret
    exact ⟨rfl, HB.out⟩
set_option maxHeartbeats 1000000 in
theorem toDesk_c (n : Int) (v : Value) (l : List Int) (k : Int) (w : World) (hl : ints w.heap.size w v l) (hlen : l.length < 1000000000) :
    Calls Try.prog 12 #[.agg #[.int .i64 n, v, .int .i64 k]] w fun e w' => ∃ g, e = .returned (.agg #[.int .i64 n, .slice (some ⟨g, 0, none⟩) l.length l.length, .int .i64 k]) ∧ w.heap.size ≤ g ∧ blk 3 w' g l ∧ Below w.heap.size w w' := by
  have HL := hide hl
  clear hl
  go_enter Try.func12, Try.ntmps12
  go_wp2_with fail
  refine (toSpace_c n v l _ ((((HL.out.alloc _).alloc _).alloc _).mono (by simp; omega)) hlen).mono ?_
  rintro e w1 ⟨g, rfl, hg, hb, hw⟩
  have hz : (((w.alloc (.cells #[.int .i64 n, v, .int .i64 k] 33)).alloc (.cells #[.int .i64 0, .slice none 0 0, .int .i64 0] 26)).alloc (.cells #[.int .i64 0, .slice none 0 0, .int .i64 0] 26)).heap.size = w.heap.size + 1 + 1 + 1 := by simp
  rw [hz] at hg hw
  have c02 : w1.cell? ⟨w.heap.size, 1, none⟩ = some v := by rw [hw.cell (p := ⟨w.heap.size, 1, none⟩) (by show w.heap.size < _; omega)]; simp [go_sem]
  have c03 : w1.cell? ⟨w.heap.size, 2, none⟩ = some (.int .i64 k) := by rw [hw.cell (p := ⟨w.heap.size, 2, none⟩) (by show w.heap.size < _; omega)]; simp [go_sem]
  have c20 : w1.cell? ⟨w.heap.size + 1 + 1, 0, none⟩ = some (.int .i64 0) := by rw [hw.cell (p := ⟨w.heap.size + 1 + 1, 0, none⟩) (by show w.heap.size + 1 + 1 < _; omega)]; simp [go_sem]
  have f20 : w1.frozen? ⟨w.heap.size + 1 + 1, 0, none⟩ = false := by rw [hw.frozen (p := ⟨w.heap.size + 1 + 1, 0, none⟩) (by show w.heap.size + 1 + 1 < _; omega)]; simp [go_sem]
  have c21 : w1.cell? ⟨w.heap.size + 1 + 1, 1, none⟩ = some (.slice none 0 0) := by rw [hw.cell (p := ⟨w.heap.size + 1 + 1, 1, none⟩) (by show w.heap.size + 1 + 1 < _; omega)]; simp [go_sem]
  have f21 : w1.frozen? ⟨w.heap.size + 1 + 1, 1, none⟩ = false := by rw [hw.frozen (p := ⟨w.heap.size + 1 + 1, 1, none⟩) (by show w.heap.size + 1 + 1 < _; omega)]; simp [go_sem]
  have c22 : w1.cell? ⟨w.heap.size + 1 + 1, 2, none⟩ = some (.int .i64 0) := by rw [hw.cell (p := ⟨w.heap.size + 1 + 1, 2, none⟩) (by show w.heap.size + 1 + 1 < _; omega)]; simp [go_sem]
  have f22 : w1.frozen? ⟨w.heap.size + 1 + 1, 2, none⟩ = false := by rw [hw.frozen (p := ⟨w.heap.size + 1 + 1, 2, none⟩) (by show w.heap.size + 1 + 1 < _; omega)]; simp [go_sem]
  have c10 : w1.cell? ⟨w.heap.size + 1, 0, none⟩ = some (.int .i64 0) := by rw [hw.cell (p := ⟨w.heap.size + 1, 0, none⟩) (by show w.heap.size + 1 < _; omega)]; simp [go_sem]
  have f10 : w1.frozen? ⟨w.heap.size + 1, 0, none⟩ = false := by rw [hw.frozen (p := ⟨w.heap.size + 1, 0, none⟩) (by show w.heap.size + 1 < _; omega)]; simp [go_sem]
  have c11 : w1.cell? ⟨w.heap.size + 1, 1, none⟩ = some (.slice none 0 0) := by rw [hw.cell (p := ⟨w.heap.size + 1, 1, none⟩) (by show w.heap.size + 1 < _; omega)]; simp [go_sem]
  have f11 : w1.frozen? ⟨w.heap.size + 1, 1, none⟩ = false := by rw [hw.frozen (p := ⟨w.heap.size + 1, 1, none⟩) (by show w.heap.size + 1 < _; omega)]; simp [go_sem]
  have c12 : w1.cell? ⟨w.heap.size + 1, 2, none⟩ = some (.int .i64 0) := by rw [hw.cell (p := ⟨w.heap.size + 1, 2, none⟩) (by show w.heap.size + 1 < _; omega)]; simp [go_sem]
  have f12 : w1.frozen? ⟨w.heap.size + 1, 2, none⟩ = false := by rw [hw.frozen (p := ⟨w.heap.size + 1, 2, none⟩) (by show w.heap.size + 1 < _; omega)]; simp [go_sem]
  have HBK := hide hb
  have HW := hide hw
  clear hb hw hz
  go_wp2
  have hlt := HBK.out.lt
  have hb0 := (((Below.refl w.heap.size w).alloc (Nat.le_refl _) (.cells #[.int .i64 n, v, .int .i64 k] 33)).alloc (by simp) (.cells #[.int .i64 0, .slice none 0 0, .int .i64 0] 26)).alloc (by simp; omega) (.cells #[.int .i64 0, .slice none 0 0, .int .i64 0] 26)
  refine bodyPost_ret (v := .agg #[.int .i64 n, .slice (some ⟨g, 0, none⟩) l.length l.length, .int .i64 k]) (by simp [results, Try.results12, go_sem, c10, c11, c12]) rfl ⟨_, rfl, by omega, ?_, ?_⟩
  · iterate 6 (refine (hp_setO _ _ _ _ (by dsimp only; omega)).trans ?_)
    exact HBK.out
  · have hb1 := hb0.trans (HW.out.mono (by omega))
    iterate 6 (refine Below.setCell ?_ (by dsimp only; omega) _)
    exact hb1
set_option maxHeartbeats 400000 in
theorem eqDesk_same_c (n k : Int) (va vb : Value) (l : List Int) (w : World) (ha : ints w.heap.size w va l) (hb : ints w.heap.size w vb l) (hla : l.length < 1000000000) :
    Calls Try.prog 7 #[.agg #[.int .i64 n, va, .int .i64 k], .agg #[.int .i64 n, vb, .int .i64 k]] w fun e w' => e = .returned (.bool true) ∧ Below w.heap.size w w' := by
  have HA := hide (((ha.alloc (.cells #[.int .i64 n, va, .int .i64 k] 26)).alloc (.cells #[.int .i64 n, vb, .int .i64 k] 26)).mono (show w.heap.size ≤ ((w.alloc (.cells #[.int .i64 n, va, .int .i64 k] 26)).alloc (.cells #[.int .i64 n, vb, .int .i64 k] 26)).heap.size by simp; omega))
  have HB := hide (((hb.alloc (.cells #[.int .i64 n, va, .int .i64 k] 26)).alloc (.cells #[.int .i64 n, vb, .int .i64 k] 26)).mono (show w.heap.size ≤ ((w.alloc (.cells #[.int .i64 n, va, .int .i64 k] 26)).alloc (.cells #[.int .i64 n, vb, .int .i64 k] 26)).heap.size by simp; omega))
  clear ha hb
  have H0 := hide (((Below.refl w.heap.size w).alloc (Nat.le_refl _) (.cells #[.int .i64 n, va, .int .i64 k] 26)).alloc (by simp) (.cells #[.int .i64 n, vb, .int .i64 k] 26))
  have HX := hide (hp_last (w.alloc (.cells #[.int .i64 n, va, .int .i64 k] 26)) (.cells #[.int .i64 n, vb, .int .i64 k] 26))
  have HY := hide ((hp_old (w.alloc (.cells #[.int .i64 n, va, .int .i64 k] 26)) (.cells #[.int .i64 n, vb, .int .i64 k] 26) w.heap.size (by simp)).trans (hp_last w (.cells #[.int .i64 n, va, .int .i64 k] 26)))
  have HZ := hide (show ((w.alloc (.cells #[.int .i64 n, va, .int .i64 k] 26)).alloc (.cells #[.int .i64 n, vb, .int .i64 k] 26)).heap.size = w.heap.size + 2 by simp)
  have hz1 : (w.alloc (.cells #[.int .i64 n, va, .int .i64 k] 26)).heap.size = w.heap.size + 1 := by simp
  rw [hz1] at HX
  go_enter Try.func7, Try.ntmps7
  go_wp2_with (go_at_call 14; refine (eqSpace_same_c n va vb l _ HA.out HB.out hla).mono ?_; rintro e w1 ⟨rfl, hb1⟩; have hx2 := cells3_at2 ((hb1.block (w.heap.size + 1) (by rw [HZ.out]; omega)).trans HX.out); have hy2 := cells3_at2 ((hb1.block w.heap.size (by rw [HZ.out]; omega)).trans HY.out); have HB1 := hide (H0.out.trans (hb1.mono (by rw [HZ.out]; omega))); clear hb1)
  go_ret
  exact ⟨rfl, HB1.out⟩
theorem markDesk_c (n : Int) (v : Value) (l : List Int) (k k0 : Int) (w : World) (base : Nat) (hl : own 3 w base v l) (hlen : l.length < 1000000000) (h1 : 0 ≤ k0) (h2 : k0 < 1000000000) :
    Calls Try.prog 8 #[.agg #[.int .i64 n, v, .int .i64 k], .int .i64 k0] w fun e w' => e = .returned (.int .i64 (k0 + l.length)) ∧ own 3 w' base v (upFrom k0 l.length) ∧ Other v w w' := by
  have HL := hide (hl.alloc (.cells #[.int .i64 n, v, .int .i64 k] 26))
  have HB := hide (Below.other v ((Below.refl w.heap.size w).alloc (Nat.le_refl _) (.cells #[.int .i64 n, v, .int .i64 k] 26)))
  clear hl
  go_enter Try.func8, Try.ntmps8
  go_wp2_with (go_at_call 15; refine (markSpace_c n v l k0 _ base HL.out hlen h1 h2).mono ?_; rintro e w' ⟨rfl, ho, hb⟩; have HO := hide ho; have HB2 := hide hb; clear ho hb)
  go_ret
  exact ⟨rfl, HO.out, HB.out.trans HB2.out⟩
theorem heldDesk_c (n : Int) (v : Value) (m : Nat) (k k0 : Int) (w : World) (hl : ints w.heap.size w v (upFrom k0 m)) (hlen : m < 1000000000) (h1 : 0 ≤ k0) (h2 : k0 < 1000000000) :
    Calls Try.prog 9 #[.agg #[.int .i64 n, v, .int .i64 k], .int .i64 k0] w fun e w' => e = .returned (.int .i64 (k0 + m)) ∧ Below w.heap.size w w' := by
  have HL := hide ((hl.alloc (.cells #[.int .i64 n, v, .int .i64 k] 26)).mono (show w.heap.size ≤ (w.alloc (.cells #[.int .i64 n, v, .int .i64 k] 26)).heap.size by simp))
  have HB := hide ((Below.refl w.heap.size w).alloc (Nat.le_refl _) (.cells #[.int .i64 n, v, .int .i64 k] 26))
  have hneg : ¬ (k0 + (m : Int) < 0) := by omega
  clear hl
  go_enter Try.func9, Try.ntmps9
  go_wp2_with (go_at_call 16; refine (heldSpace_c n v m k0 _ HL.out hlen h1 h2).mono ?_; rintro e w1 ⟨rfl, hb⟩; have HB1 := hide (HB.out.trans (hb.mono (by simp))); clear hb)
  go_ret
  exact ⟨rfl, HB1.out⟩
end Go.Proofs.Ytppojaekngeelaa
