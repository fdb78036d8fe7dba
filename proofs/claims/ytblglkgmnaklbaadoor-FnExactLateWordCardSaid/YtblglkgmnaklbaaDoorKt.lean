/- Mathematics: tasks told by their lists. No program is named here. -/
import Derived.Test.YtblglkgmnaklbaaDoorLib
namespace Go.Proofs.YtblglkgmnaklbaaDoor
set_option maxRecDepth 100000
abbrev Tsk := Int × Int × Int
def tkT (T : List Tsk) (i : Nat) : Int := (T[i]?.getD (0, 0, 0)).1
def tkR (T : List Tsk) (i : Nat) : Int := (T[i]?.getD (0, 0, 0)).2.1
def tkB (T : List Tsk) (i : Nat) : Int := (T[i]?.getD (0, 0, 0)).2.2
def oneB (t r b : Int) : Bool := decide (1 ≤ t ∧ t ≤ 9) && (decide (0 ≤ r ∧ r ≤ 9) && decide (-100 ≤ b ∧ b ≤ 100))
def tkTo (T : List Tsk) : Nat → Bool
  | 0 => true
  | k + 1 => tkTo T k && oneB (tkT T k) (tkR T k) (tkB T k)
def taB (T : List Tsk) (n : Int) : Bool := decide (1 ≤ n ∧ n ≤ 7) && (decide ((T.length : Int) = n) && tkTo T T.length)
theorem oneB_iff (t r b : Int) : oneB t r b = true ↔ (1 ≤ t ∧ t ≤ 9) ∧ (0 ≤ r ∧ r ≤ 9) ∧ -100 ≤ b ∧ b ≤ 100 := by
  unfold oneB; rw [Bool.and_eq_true, Bool.and_eq_true, decide_eq_true_eq, decide_eq_true_eq, decide_eq_true_eq]
theorem tkTo_iff (T : List Tsk) : ∀ k, tkTo T k = true ↔ ∀ j, j < k → oneB (tkT T j) (tkR T j) (tkB T j) = true
  | 0 => by simp [tkTo]
  | k + 1 => by
    rw [tkTo, Bool.and_eq_true, tkTo_iff T k]
    constructor
    · rintro ⟨h1, h2⟩ j hj
      rcases Nat.lt_or_ge j k with h | h
      · exact h1 j h
      · rw [show j = k by omega]; exact h2
    · intro h; exact ⟨fun j hj => h j (by omega), h k (by omega)⟩
theorem tkTo_bad {T : List Tsk} {k : Nat} (hk : k < T.length) (h : oneB (tkT T k) (tkR T k) (tkB T k) = false) (n : Int) : taB T n = false := by
  unfold taB
  have : tkTo T T.length = false := by
    rw [← Bool.not_eq_true, tkTo_iff]
    intro h2
    rw [h2 k hk] at h; cases h
  rw [this]; simp
theorem taB_len {T : List Tsk} {n : Int} (h : ¬ (T.length : Int) = n) : taB T n = false := by unfold taB; rw [decide_eq_false h]; simp
theorem taB_n {T : List Tsk} {n : Int} (h : ¬ (1 ≤ n ∧ n ≤ 7)) : taB T n = false := by unfold taB; rw [decide_eq_false h]; simp
theorem taB_yes {T : List Tsk} {n : Int} (h1 : 1 ≤ n ∧ n ≤ 7) (h2 : (T.length : Int) = n) (h3 : tkTo T T.length = true) : taB T n = true := by unfold taB; rw [decide_eq_true h1, decide_eq_true h2, h3]; rfl
theorem taB_is {T : List Tsk} {n : Int} (h : taB T n = true) : (1 ≤ n ∧ n ≤ 7) ∧ (T.length : Int) = n ∧ tkTo T T.length = true := by
  unfold taB at h
  rw [Bool.and_eq_true, Bool.and_eq_true, decide_eq_true_eq, decide_eq_true_eq] at h
  exact h
end Go.Proofs.YtblglkgmnaklbaaDoor
