/- AreMaking: mathematics. -/
import Derived.Test.YtbcohlnimmoifaaSox
import Derived.Test.YtbcohlnimmoifaaGw
import Derived.Test.YtbcohlnimmoifaaEqs
import Derived.Test.YtbcohlnimmoifaaQs
import Derived.Test.YtbcohlnimmoifaaFu
import Derived.Test.YtbcohlnimmoifaaCt
namespace Go.Proofs.Ytbcohlnimmoifaa
open Go.RowKit
set_option maxRecDepth 100000
set_option linter.unusedSimpArgs false
/-! ### Mathematics -/
def amTo (g : List Int → Bool) (L : List (List Int)) : Nat → Bool
  | 0 => true
  | k + 1 => amTo g L k && g (L[k]?.getD [])
theorem amTo_next (g : List Int → Bool) (L : List (List Int)) (k : Nat) : amTo g L (k + 1) = (amTo g L k && g (L[k]?.getD [])) := rfl
theorem amTo_no {g : List Int → Bool} {L : List (List Int)} {k : Nat} (h : amTo g L k = false) : ∀ m, k ≤ m → amTo g L m = false := by
  intro m
  induction m with
  | zero => intro hm; rw [show k = 0 by omega] at h; exact h
  | succ m ih =>
    intro hm
    rcases Nat.lt_or_ge m k with h1 | h1
    · rw [show m + 1 = k by omega]; exact h
    · rw [amTo_next, ih h1]; rfl
theorem amTo_in {g : List Int → Bool} {L : List (List Int)} : ∀ m, amTo g L m = true → ∀ k, k < m → g (L[k]?.getD []) = true
  | 0, _, k, hk => by omega
  | m + 1, h, k, hk => by
    rw [amTo_next, Bool.and_eq_true] at h
    rcases Nat.lt_or_ge k m with h1 | h1
    · exact amTo_in m h.1 k h1
    · rw [show k = m by omega]; exact h.2
def amB (n : Int) (l : List Int) (L : List (List Int)) : Bool := okSp n l && (decide (L.length ≤ 35) && amTo (fwG n l) L L.length)
def amR (n : Int) (l : List Int) (L : List (List Int)) : Bool := amB n l L && (decide (0 < L.length) && decide (setsTo (unionsF (swC L L.length)) 128 = l))
theorem amR_no {n : Int} {l : List Int} {L : List (List Int)} (h : amB n l L = false) : amR n l L = false := by unfold amR; rw [h]; rfl
theorem amR_yes {n : Int} {l : List Int} {L : List (List Int)} (h : amB n l L = true) : amR n l L = (decide (0 < L.length) && decide (setsTo (unionsF (swC L L.length)) 128 = l)) := by unfold amR; rw [h]; rfl
theorem amB_no1 {n : Int} {l : List Int} {L : List (List Int)} (h : okSp n l = false) : amB n l L = false := by unfold amB; rw [h]; rfl
theorem amB_no2 {n : Int} {l : List Int} {L : List (List Int)} (h : ¬ L.length ≤ 35) : amB n l L = false := by unfold amB; rw [decide_eq_false h]; simp
theorem amB_no3 {n : Int} {l : List Int} {L : List (List Int)} (h : amTo (fwG n l) L L.length = false) : amB n l L = false := by unfold amB; rw [h]; simp
theorem amB_yes {n : Int} {l : List Int} {L : List (List Int)} (h1 : okSp n l = true) (h2 : L.length ≤ 35) (h3 : amTo (fwG n l) L L.length = true) : amB n l L = true := by unfold amB; rw [h1, h3, decide_eq_true h2]; rfl
theorem fwG_ord {n : Int} {l m : List Int} (hn : 1 ≤ n.toNat ∧ n.toNat ≤ 7) (h : fwG n l m = true) : m.length = n.toNat ∧ okOrd m = true := by
  unfold fwG at h
  rw [Bool.and_eq_true, decide_eq_true_eq] at h
  refine ⟨h.1, ?_⟩
  have h2 := any_wordG _ h.2
  unfold okOrd
  rw [decide_eq_true (by omega), Bool.true_and]
  rw [← h.1] at h2
  exact h2
/-- The program's way: it is what SpaceOfWords makes. -/
theorem am_made {n : Int} {l : List Int} {L : List (List Int)} (hsp : okSp n l = true) (h35 : L.length ≤ 35) (h : amTo (fwG n l) L L.length = true) :
    decide (swL L = l) = (decide (0 < L.length) && decide (setsTo (unionsF (swC L L.length)) 128 = l)) := by
  have hn := okSp_n hsp
  by_cases h0 : 0 < L.length
  · have hw : wlB L = true := by
      unfold wlB
      rw [decide_eq_true (by omega), Bool.true_and, wlTo_iff]
      intro j hj
      have h1 := fwG_ord (by omega) (amTo_in _ h j hj)
      have h2 := fwG_ord (by omega) (amTo_in _ h 0 h0)
      exact ⟨by rw [h1.1, h2.1], h1.2⟩
    rw [(sw_yes hw).2, decide_eq_true h0, Bool.true_and]
  · have hw : wlB L = false := by unfold wlB; rw [decide_eq_false (by omega)]; rfl
    rw [(sw_no hw).2, decide_eq_false h0, Bool.false_and, decide_eq_false]
    intro e
    have h1 : memB l (0 : Int) = true := by
      have := (okSp_spc hsp).zero
      rwa [okSp_marks hsp] at this
    rw [← e] at h1
    unfold memB at h1
    simp at h1
end Go.Proofs.Ytbcohlnimmoifaa
