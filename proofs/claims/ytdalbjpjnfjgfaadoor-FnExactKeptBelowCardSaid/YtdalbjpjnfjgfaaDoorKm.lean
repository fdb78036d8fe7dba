/- Contracts: CostOfWord, both. -/
import Derived.Test.YtdalbjpjnfjgfaaDoorKl
import Derived.Test.YtdalbjpjnfjgfaaDoorXw
namespace Go.Proofs.YtdalbjpjnfjgfaaDoor
open Go.RowKit
set_option maxRecDepth 100000
set_option linter.unusedSimpArgs false
attribute [local irreducible] p2 low memB risB
def fwB (n : Int) (l : List Int) (m : List Int) : Bool := decide (m.length = n.toNat) && wordB (marksTo l l.length) n.toNat m
def cwB (n : Int) (l : List Int) (T : List Tsk) (m : List Int) : Bool := gvB n l T && fwB n l m
def cwR (n : Int) (l : List Int) (T : List Tsk) (m : List Int) : Int := if cwB n l T m then mxW (coT T) (-10000) m m.length else 0
theorem cwR_no {n : Int} {l : List Int} {T : List Tsk} {m : List Int} (h : cwB n l T m = false) : cwR n l T m = 0 := by unfold cwR; rw [h]; rfl
theorem cwR_yes {n : Int} {l : List Int} {T : List Tsk} {m : List Int} (h : cwB n l T m = true) : cwR n l T m = mxW (coT T) (-10000) m m.length := by unfold cwR; rw [h]; rfl
theorem fw_wOk {n : Int} {l m : List Int} (h : fwB n l m = true) : m.length = n.toNat ∧ wOk n.toNat m := by
  unfold fwB at h
  rw [Bool.and_eq_true, decide_eq_true_eq] at h
  exact ⟨h.1, wordTo_len h.2⟩
/-- Both start values tell the same. -/
theorem mx_start {T : List Tsk} {n : Int} {m : List Int} (hta : taB T n = true) (hw : wOk T.length m) (hm : m.length = T.length) : mxW (coT T) (-9223372036854775808) m m.length = mxW (coT T) (-10000) m m.length := by
  refine mxW_least (fun j hj => ?_) (by omega) _ (by have := taB_is hta; omega) (Nat.le_refl _)
  have h1 := hw j hj
  have h2 := co_bd hta (setTo m j) (i := (m[j]?.getD 0).toNat) (by omega)
  omega
theorem fwB_no1 {n : Int} {l m : List Int} (h : ¬ m.length = n.toNat) : fwB n l m = false := by unfold fwB; rw [decide_eq_false h]; rfl
theorem any_word {F : Nat → Bool} {n : Nat} {m : List Int} : ∀ k, wordTo F n m k = true → wordTo anySet n m k = true
  | 0, _ => rfl
  | k + 1, h => by
    simp only [wordTo, stepB, Bool.and_eq_true] at h ⊢
    exact ⟨any_word k h.1, h.2.1, h.2.2.1, rfl⟩
theorem word_any {F : Nat → Bool} {n : Nat} {m : List Int} : ∀ k, wordTo anySet n m k = true → (∀ j, j < k → F (setTo m (j + 1)) = true) → wordTo F n m k = true
  | 0, _, _ => rfl
  | k + 1, h, hF => by
    have h2 := hF k (by omega)
    rw [setTo_next] at h2
    simp only [wordTo, stepB, Bool.and_eq_true] at h ⊢
    exact ⟨word_any k h.1 (fun j hj => hF j (by omega)), h.2.1, h.2.2.1, h2⟩
theorem word_in {F : Nat → Bool} {n : Nat} {m : List Int} : ∀ k j, wordTo F n m k = true → j < k → F (setTo m (j + 1)) = true
  | 0, j, _, h => by omega
  | k + 1, j, h, hj => by
    simp only [wordTo, stepB, Bool.and_eq_true] at h
    rcases Nat.lt_or_ge j k with h1 | h1
    · exact word_in k j h.1 h1
    · rw [show j = k by omega, setTo_next]; exact h.2.2.2
theorem fwB_no2 {n : Int} {l m : List Int} (hn : n.toNat ≤ 7) (h1 : 1 ≤ n.toNat) (hm : m.length = n.toNat) (h : okOrd m = false) : fwB n l m = false := by
  cases e : fwB n l m
  · rfl
  · unfold fwB at e
    rw [Bool.and_eq_true] at e
    have h2 := any_word _ e.2
    unfold okOrd at h
    rw [decide_eq_true (by omega), Bool.true_and, hm] at h
    rw [hm] at h2
    rw [h2] at h; cases h
theorem fwB_no3 {n : Int} {l m : List Int} {k : Nat} (hk : k < m.length) (h : marksTo l l.length (setTo m (k + 1)) = false) : fwB n l m = false := by
  cases e : fwB n l m
  · rfl
  · unfold fwB at e
    rw [Bool.and_eq_true] at e
    rw [word_in _ k e.2 hk] at h; cases h
theorem fwB_yes {n : Int} {l m : List Int} (hm : m.length = n.toNat) (h : okOrd m = true) (hF : ∀ k, k < m.length → marksTo l l.length (setTo m (k + 1)) = true) : fwB n l m = true := by
  unfold fwB
  rw [decide_eq_true hm, Bool.true_and]
  have := okOrd_word h
  rw [hm] at this
  unfold wordB
  rw [hm]
  exact word_any _ this (fun j hj => hF j (by omega))
theorem ord_wOk {m : List Int} (h : okOrd m = true) : wOk m.length m := wordTo_len (okOrd_word h)
end Go.Proofs.YtdalbjpjnfjgfaaDoor
