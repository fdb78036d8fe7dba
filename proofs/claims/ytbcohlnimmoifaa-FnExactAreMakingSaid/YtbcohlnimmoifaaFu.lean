/- Contracts: full words. -/
import Derived.Test.YtbcohlnimmoifaaWs
import Derived.Test.YtbcohlnimmoifaaHar
namespace Go.Proofs.Ytbcohlnimmoifaa
open Go.RowKit
set_option maxRecDepth 100000
attribute [local irreducible] p2 low memB risB
def okFu (n : Int) (l m : List Int) : Bool := okWd n l m && decide ((m.length : Int) = n)
theorem okFu_wd {n : Int} {l m : List Int} (h : okFu n l m = true) : okWd n l m = true ∧ (m.length : Int) = n := by
  simp only [okFu, Bool.and_eq_true, decide_eq_true_eq] at h; exact h

theorem okFu_no1 {n : Int} {l m : List Int} (h : okSp n l = false) : okFu n l m = false := by simp [okFu, okWd_no h]
theorem okFu_no2 {n : Int} {l m : List Int} (h : ¬ (m.length : Int) = n) : okFu n l m = false := by simp [okFu, h]
theorem okFu_eq {n : Int} {l m : List Int} (h : (m.length : Int) = n) : okFu n l m = okWd n l m := by simp [okFu, h]

set_option maxHeartbeats 1000000 in
theorem isFullWord_c (n : Nat) (F : Nat → Bool) (u : Value) (m : List Int) (w : World) (hm : ints w.heap.size w u m) (hml : m.length < 1000000000) (h7 : n ≤ 7) :
    Calls Try.prog 37 #[.agg (fam (n : Int) F), u] w fun e w' => e = .returned (.bool (decide (m.length = n) && wordB F n m)) ∧ Below w.heap.size w w' := by
  have H0 := hide ((Below.refl w.heap.size w).alloc (Nat.le_refl _) (.cells (fam (n : Int) F) 44))
  have HM := hide ((hm.alloc (.cells (fam (n : Int) F) 44)).mono (show w.heap.size ≤ (w.alloc (.cells (fam (n : Int) F) 44)).heap.size by simp))
  have hf0 := famAt.new 44 w (n : Int) F
  have c0 := hf0.get0
  have HF := hide hf0
  clear hm hf0
  by_cases he : m.length = n
  · have hb : ((m.length : Int) == (n : Int)) = true := by simp; omega
    have HE := hide he
    clear he
    go_enter Try.func37, Try.ntmps37
    go_wp2_with (first
      | (refine wpList_len sliceT rfl (.tmp _) rfl u rfl _ m HM.out ?_)
      | (refine wpList_load_fam rowT sizeT rfl (.tmp _) rfl _ rfl (n : Int) F HF.out ?_)
      | (go_at_call 51; refine (isWord_c (n : Int) F u m _ HM.out hml (by omega) (by omega)).mono ?_; rw [Int.toNat_natCast]; rintro e w1 ⟨rfl, hb1⟩; have HB := hide (H0.out.trans (hb1.mono (by simp))); clear hb1))
    go_ret
    exact ⟨ret_b (by rw [decide_eq_true HE.out, Bool.true_and]), HB.out⟩
  · have hb : ((m.length : Int) == (n : Int)) = false := by simp; omega
    have HE := hide he
    clear he
    go_enter Try.func37, Try.ntmps37
    go_wp2_with (refine wpList_len sliceT rfl (.tmp _) rfl u rfl _ m HM.out ?_)
    go_ret
    exact ⟨ret_b (by rw [decide_eq_false HE.out, Bool.false_and]), H0.out⟩

end Go.Proofs.Ytbcohlnimmoifaa
