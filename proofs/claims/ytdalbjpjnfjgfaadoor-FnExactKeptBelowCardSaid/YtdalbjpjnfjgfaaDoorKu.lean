/- Contracts: the items of the outer fringe whose cost is at most a limit. -/
import Derived.Test.YtdalbjpjnfjgfaaDoorKn
import Derived.Test.YtdalbjpjnfjgfaaDoorKc
namespace Go.Proofs.YtdalbjpjnfjgfaaDoor
open Go.RowKit
set_option maxRecDepth 100000
set_option linter.unusedSimpArgs false
attribute [local irreducible] p2 low memB risB
theorem ent_hasU : enters Tryd.prog 124 := enters_of Tryd.func124 (by kernel_rfl) (by kernel_rfl)
theorem ent_fringeBelow1 : enters Tryd.prog 147 := enters_of Tryd.func147 (by kernel_rfl) (by kernel_rfl)
/-- What may be learnt if a cost is at most a limit. -/
def alC (c : Nat → Nat → Int) (lim : Int) (s i : Nat) : Bool := decide (c s i ≤ lim)
theorem fringeBelow1_c (kf : Nat) (caps : Array Value) (c : Nat → Nat → Int) (n O s i g1 g2 g3 g4 : Nat) (lim : Int) (w : World) (hk : enters Tryd.prog kf) (hc : isCost w kf caps n c) (hs : s < 128) (hO : O < 128) (hi : i < n) (h7 : n ≤ 7)
    (hc1 : w.cell? ⟨g1, 0, none⟩ = some (.int .i64 (O : Int))) (h1 : g1 < w.heap.size) (hc2 : w.cell? ⟨g2, 0, none⟩ = some (.func (.func kf) #[] caps)) (h2 : g2 < w.heap.size)
    (hc3 : w.cell? ⟨g3, 0, none⟩ = some (.int .i64 (s : Int))) (h3 : g3 < w.heap.size) (hc4 : w.cell? ⟨g4, 0, none⟩ = some (.int .i64 lim)) (h4 : g4 < w.heap.size) :
    Calls Tryd.prog 147 #[.int .i64 (i : Int), .pointer (some ⟨g1, 0, none⟩), .pointer (some ⟨g2, 0, none⟩), .pointer (some ⟨g3, 0, none⟩), .pointer (some ⟨g4, 0, none⟩)] w fun e w' => e = .returned (.bool (O.testBit i && alC c lim s i)) ∧ Below w.heap.size w w' := by
  have hk1 : ∀ (args : Array Value) (w : World), Sem.run Tryd.prog (callFunc kf args) w = .ok (.enter kf args) w := hk
  have HC1 := hide (fun w' (h : Below w.heap.size w w') => (h.cell (p := ⟨g1, 0, none⟩) h1).trans hc1)
  have HC2 := hide (fun w' (h : Below w.heap.size w w') => (h.cell (p := ⟨g2, 0, none⟩) h2).trans hc2)
  have HC3 := hide (fun w' (h : Below w.heap.size w w') => (h.cell (p := ⟨g3, 0, none⟩) h3).trans hc3)
  have HC4 := hide (fun w' (h : Below w.heap.size w w') => (h.cell (p := ⟨g4, 0, none⟩) h4).trans hc4)
  have HA := hide (fun w1 (h : Below w.heap.size w w1) => hc w1 h s i hs hi)
  have HH := hide (fun w1 => by have := has_c (O : Int) (i : Int) w1 (by omega) (by omega) (by omega) (by omega); rw [Int.toNat_natCast, Int.toNat_natCast] at this; exact this)
  clear hc1 hc2 hc3 hc4 hc
  unfold alC
  generalize c s i = x at *
  cases hb : O.testBit i
  · rw [hb] at HH
    clear hb
    go_enter Tryd.func147, Tryd.ntmps147
    go_wp2_with fail
    refine wp_region_old (by kernel_rfl) (by kernel_rfl) ?_
    refine q_load_cell rowSetK rfl (.tmp _) rfl _ rfl _ HC1.out ?_
    simp only [Act.put, List.setIfInBounds_toArray, List.set_cons_zero, List.set_cons_succ]
    go_big_quiet_step ((first | exact fun _ => rfl | exact fun _ => ⟨rfl, rfl⟩))
    refine q_pure rfl 124 ent_hasU _ _ rfl #[.int .i64 (O : Int), .int .i64 (i : Int)] rfl (.bool false) (fun w' _ => HH.out w') ?_
    simp only [Act.put, List.setIfInBounds_toArray, List.set_cons_zero, List.set_cons_succ]
    repeat (go_big_quiet_step ((first | exact fun _ => rfl | exact fun _ => ⟨rfl, rfl⟩)))
    refine wpQuiet_nil ?_
    intro w2 hb2
    go_wp2
    go_ret
    exact ⟨rfl, hb2⟩
  · rw [hb] at HH
    clear hb
    go_enter Tryd.func147, Tryd.ntmps147
    go_wp2_with fail
    refine wp_region_old (by kernel_rfl) (by kernel_rfl) ?_
    refine q_load_cell rowSetK rfl (.tmp _) rfl _ rfl _ HC1.out ?_
    simp only [Act.put, List.setIfInBounds_toArray, List.set_cons_zero, List.set_cons_succ]
    go_big_quiet_step ((first | exact fun _ => rfl | exact fun _ => ⟨rfl, rfl⟩))
    refine q_pure rfl 124 ent_hasU _ _ rfl #[.int .i64 (O : Int), .int .i64 (i : Int)] rfl (.bool true) (fun w' _ => HH.out w') ?_
    simp only [Act.put, List.setIfInBounds_toArray, List.set_cons_zero, List.set_cons_succ]
    go_big_quiet_step ((first | exact fun _ => rfl | exact fun _ => ⟨rfl, rfl⟩))
    refine q_load_cell rowRule rfl (.tmp _) rfl _ rfl _ HC2.out ?_
    simp only [Act.put, List.setIfInBounds_toArray, List.set_cons_zero, List.set_cons_succ]
    refine q_load_cell rowSetK rfl (.tmp _) rfl _ rfl _ HC3.out ?_
    simp only [Act.put, List.setIfInBounds_toArray, List.set_cons_zero, List.set_cons_succ]
    go_big_quiet_step ((first | exact fun _ => rfl | exact fun _ => ⟨rfl, rfl⟩))
    refine q_callF rfl kf caps hk (.tmp _) _ _ rfl rfl #[.int .i64 (s : Int), .int .i64 (i : Int)] rfl (.int .i64 x) (fun w' h => HA.out w' h) ?_
    simp only [Act.put, List.setIfInBounds_toArray, List.set_cons_zero, List.set_cons_succ]
    refine q_load_cell rowI rfl (.tmp _) rfl _ rfl _ HC4.out ?_
    simp only [Act.put, List.setIfInBounds_toArray, List.set_cons_zero, List.set_cons_succ]
    repeat (go_big_quiet_step ((first | exact fun _ => rfl | exact fun _ => ⟨rfl, rfl⟩)))
    refine wpQuiet_nil ?_
    intro w2 hb2
    go_wp2
    go_ret
    exact ⟨ret_b (by simp), hb2⟩
theorem nxA_items (F : Nat → Bool) (c : Nat → Nat → Int) (lim : Int) (n s : Nat) : itemsOf (fun i => (outerOf F n s).testBit i && alC c lim s i) n = nxA F (alC c lim) n s := by
  apply Nat.eq_of_testBit_eq
  intro i
  rw [itemsOf_bit, nxA_bit, outer_bit]
  cases decide (i < n) <;> simp
theorem cell_at0U {w : World} {b : Nat} {x : Value} {T : TypeId} (h : w.heap[b]? = some (.cells #[x] T)) : w.cell? ⟨b, 0, none⟩ = some x := by rw [hp_cell h]; rfl
set_option maxHeartbeats 2000000 in
theorem fringeBelow_c (kf : Nat) (caps : Array Value) (c : Nat → Nat → Int) (n : Nat) (F : Nat → Bool) (s : Nat) (lim : Int) (w : World) (h7 : n ≤ 7) (hk : enters Tryd.prog kf) (hc : isCost w kf caps n c) (hs : s < 128) :
    Calls Tryd.prog 112 #[.agg (fam (n : Int) F), .int .i64 (s : Int), .func (.func kf) #[] caps, .int .i64 lim] w fun e w' => e = .returned (.int .i64 (nxA F (alC c lim) n s : Int)) ∧ Below w.heap.size w w' := by
  have HX1 := hide (show ((((w.alloc (.cells (fam (n : Int) F) 97)).alloc (.cells #[.int .i64 (s : Int)] 121)).alloc (.cells #[.func (.func kf) #[] caps] 117)).alloc (.cells #[.int .i64 lim] 3)).cell? ⟨w.heap.size + 1, 0, none⟩ = some (.int .i64 (s : Int)) by simp [go_sem])
  have HX2 := hide (show ((((w.alloc (.cells (fam (n : Int) F) 97)).alloc (.cells #[.int .i64 (s : Int)] 121)).alloc (.cells #[.func (.func kf) #[] caps] 117)).alloc (.cells #[.int .i64 lim] 3)).cell? ⟨w.heap.size + 2, 0, none⟩ = some (.func (.func kf) #[] caps) by simp [go_sem])
  have HX3 := hide (show ((((w.alloc (.cells (fam (n : Int) F) 97)).alloc (.cells #[.int .i64 (s : Int)] 121)).alloc (.cells #[.func (.func kf) #[] caps] 117)).alloc (.cells #[.int .i64 lim] 3)).cell? ⟨w.heap.size + 3, 0, none⟩ = some (.int .i64 lim) by simp [go_sem])
  have HF := hide ((((famAt.new 97 w (n : Int) F).alloc (.cells #[.int .i64 (s : Int)] 121)).alloc (.cells #[.func (.func kf) #[] caps] 117)).alloc (.cells #[.int .i64 lim] 3))
  have HB0 := hide (((((Below.refl w.heap.size w).alloc (Nat.le_refl _) (.cells (fam (n : Int) F) 97)).alloc (by simp) (.cells #[.int .i64 (s : Int)] 121)).alloc (by simp; omega) (.cells #[.func (.func kf) #[] caps] 117)).alloc (by simp; omega) (.cells #[.int .i64 lim] 3))
  have HZ := hide (show ((((w.alloc (.cells (fam (n : Int) F) 97)).alloc (.cells #[.int .i64 (s : Int)] 121)).alloc (.cells #[.func (.func kf) #[] caps] 117)).alloc (.cells #[.int .i64 lim] 3)).heap.size = w.heap.size + 4 by simp)
  have HK := hide (fun (w2 : World) (h : Below ((((w.alloc (.cells (fam (n : Int) F) 97)).alloc (.cells #[.int .i64 (s : Int)] 121)).alloc (.cells #[.func (.func kf) #[] caps] 117)).alloc (.cells #[.int .i64 lim] 3)).heap.size ((((w.alloc (.cells (fam (n : Int) F) 97)).alloc (.cells #[.int .i64 (s : Int)] 121)).alloc (.cells #[.func (.func kf) #[] caps] 117)).alloc (.cells #[.int .i64 lim] 3)) w2) => show w2.cell? ⟨w.heap.size + 1, 0, none⟩ = some (.int .i64 (s : Int)) ∧ w2.cell? ⟨w.heap.size + 2, 0, none⟩ = some (.func (.func kf) #[] caps) ∧ w2.cell? ⟨w.heap.size + 3, 0, none⟩ = some (.int .i64 lim) ∧ Below w.heap.size w w2 from
    ⟨(h.cell (p := ⟨w.heap.size + 1, 0, none⟩) (by show w.heap.size + 1 < _; rw [HZ.out]; omega)).trans HX1.out, (h.cell (p := ⟨w.heap.size + 2, 0, none⟩) (by show w.heap.size + 2 < _; rw [HZ.out]; omega)).trans HX2.out, (h.cell (p := ⟨w.heap.size + 3, 0, none⟩) (by show w.heap.size + 3 < _; rw [HZ.out]; omega)).trans HX3.out, HB0.out.trans (h.mono (by rw [HZ.out]; omega))⟩)
  have HC := hide hc
  have HO := hide (fun w1 => by have := outerFringe_c (n : Int) F (s : Int) w1 (by omega) (by omega) (by omega) (by omega); rw [Int.toNat_natCast, Int.toNat_natCast] at this; exact this)
  have hO := outer_lt F n s h7
  have HNX := hide (nxA_items F c lim n s)
  generalize outerOf F n s = O at *
  clear hc
  go_enter Tryd.func112, Tryd.ntmps112
  go_wp2_with (first
    | (refine wpList_load_fam rowT sizeT rfl (.tmp _) rfl _ rfl (n : Int) F HF.out ?_)
    | (go_at_call 146; refine (HO.out _).mono ?_; rintro e w1 ⟨rfl, hb1⟩; have hz1 := hb1.size; rw [HZ.out] at hz1; have HB1 := hide hb1; have h00 := ((HF.out.below hb1 HF.out.lt).alloc (.cells #[.int .i64 (O : Int)] 121)).get0; clear hb1))
  refine (itemsWhere_c (n : Int) 147 #[.pointer (some ⟨w1.heap.size, 0, none⟩), .pointer (some ⟨w.heap.size + 2, 0, none⟩), .pointer (some ⟨w.heap.size + 1, 0, none⟩), .pointer (some ⟨w.heap.size + 3, 0, none⟩)] (w1.alloc (.cells #[.int .i64 (O : Int)] 121)) (fun i => O.testBit i && alC c lim s i) ent_fringeBelow1 (by omega) (by omega) ?hcl).mono ?_
  case hcl =>
    intro i w2 hi0 hin hb2
    obtain ⟨i, rfl⟩ := Int.eq_ofNat_of_zero_le hi0
    rw [Int.toNat_natCast]
    have hba : Below w1.heap.size w1 (w1.alloc (.cells #[.int .i64 (O : Int)] 121)) := (Below.refl w1.heap.size w1).alloc (Nat.le_refl _) _
    have hz2 := hb2.size
    have hsa : (w1.alloc (.cells #[.int .i64 (O : Int)] 121)).heap.size = w1.heap.size + 1 := by simp
    have hbw : Below w1.heap.size w1 w2 := hba.trans (hb2.mono (by omega))
    obtain ⟨k1, k2, k3, k4⟩ := HK.out w2 (HB1.out.trans (hbw.mono (by rw [HZ.out]; omega)))
    exact fringeBelow1_c kf caps c n O s i w1.heap.size (w.heap.size + 2) (w.heap.size + 1) (w.heap.size + 3) lim w2 hk (HC.out.below k4) hs hO (by omega) h7 ((hb2.cell (p := ⟨w1.heap.size, 0, none⟩) (by show w1.heap.size < (w1.alloc _).heap.size; rw [hsa]; omega)).trans (cell_at0U (hp_last _ _))) (by omega) k2 (by omega) k1 (by omega) k3 (by omega)
  rw [Int.toNat_natCast, HNX.out]
  rintro e w3 ⟨rfl, hb3⟩
  have HB3 := hide (HB0.out.trans ((HB1.out.trans ((((Below.refl w1.heap.size w1).alloc (Nat.le_refl _) (.cells #[.int .i64 (O : Int)] 121)).trans (hb3.mono (by simp))).mono (by rw [HZ.out]; omega))).mono (by rw [HZ.out]; omega)))
  clear hb3
  go_wp2
  go_ret
  exact ⟨rfl, HB3.out⟩
end Go.Proofs.YtdalbjpjnfjgfaaDoor
