/- Contracts of the specification's functions, I: numbers in a range, increasing lists, one set among them. -/
import Derived.Test.YtdihjonfhedciaaImpG
namespace Go.Proofs.Ytdihjonfhedciaa
open Go.RowKit
set_option maxRecDepth 100000

theorem l1In_c (n lo hi : Int) (w : World) : Calls Try.prog 18 #[.int .i64 n, .int .i64 lo, .int .i64 hi] w fun e w' => e = .returned (.bool (decide (lo ≤ n ∧ n ≤ hi))) ∧ w = w' := by
  by_cases h : lo ≤ n <;> by_cases h2 : n ≤ hi
  all_goals
    go_enter Try.func18, Try.ntmps18
    go_wp2
    go_ret
    exact ⟨ret_b (by simp [h, h2]), rfl⟩

theorem spItems_c (n : Int) (w : World) : Calls Try.prog 9 #[.int .i64 n] w fun e w' => e = .returned (.bool (decide (1 ≤ n ∧ n ≤ 7))) ∧ w = w' := by
  go_enter Try.func9, Try.ntmps9
  go_wp2_with (go_at_call 18; refine (l1In_c _ _ _ _).mono ?_; rintro e w' ⟨rfl, rfl⟩)
  go_ret
  exact ⟨ret_b (by simp), rfl⟩

/-- Strictly increasing. -/
def inc (l : List Int) : Prop := ∀ i j, i < j → j < l.length → l[i]?.getD 0 < l[j]?.getD 0
def memB (l : List Int) (x : Int) : Bool := decide (∃ j, j < l.length ∧ l[j]?.getD 0 = x)

def innerSp (l : List Int) (s : Nat) (i : Nat) : Bool := s.testBit i && memB l ((s ^^^ p2 i : Nat) : Int)

def risB (lo hi : Int) (l : List Int) : Nat → Bool
  | 0 => true
  | k + 1 => risB lo hi l k && (decide (lo ≤ l[k]?.getD 0 ∧ l[k]?.getD 0 ≤ hi) && !(decide (0 < k) && decide (l[k]?.getD 0 ≤ l[k - 1]?.getD 0)))
theorem risB_false (lo hi : Int) (l : List Int) (k : Nat) (h : risB lo hi l k = false) : ∀ m, k ≤ m → risB lo hi l m = false := by
  intro m hm
  induction m with
  | zero => have : k = 0 := by omega
            subst this; exact h
  | succ m ih =>
    rcases Nat.lt_or_ge k (m + 1) with h1 | h1
    · rw [risB, ih (by omega)]; rfl
    · have : k = m + 1 := by omega
      subst this; exact h

end Go.Proofs.Ytdihjonfhedciaa
