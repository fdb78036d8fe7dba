/- Contracts of the small functions of the program: single items, sets of items, unions over closures. -/
import Derived.Test.YtdihjonfhedciaaProg
import Derived.Test.YtdihjonfhedciaaLib
import Derived.Test.YtdihjonfhedciaaMath
namespace Go.Proofs.Ytdihjonfhedciaa
open Go.RowKit

theorem ret_i {k : IntKind} {a b : Int} (h : a = b) : Ending.returned (.int k a) = .returned (.int k b) := by rw [h]
theorem ret_b {a b : Bool} (h : a = b) : Ending.returned (.bool a) = .returned (.bool b) := by rw [h]

theorem single_c (a : Int) (w : World) (h : 0 ≤ a) (h2 : a ≤ 7) : Calls Try.prog 20 #[.int .i64 a] w fun e w' => e = .returned (.int .i64 (p2 a.toNat : Int)) ∧ w = w' := by
  go_enter Try.func20, Try.ntmps20
  go_wp2
  go_ret
  exact ⟨ret_i (wrap_p2 _ (by omega)), rfl⟩

theorem below_c (a : Int) (w : World) (h : 0 ≤ a) (h2 : a ≤ 7) : Calls Try.prog 12 #[.int .i64 a] w fun e w' => e = .returned (.int .i64 (low a.toNat : Int)) ∧ w = w' := by
  have h1 := p2_le128 a.toNat (by omega)
  have h3 := p2_pos a.toNat
  go_enter Try.func12, Try.ntmps12
  go_wp2_with (go_at_call 20; refine (single_c _ _ (by omega) (by omega)).mono ?_; rintro e w' ⟨rfl, rfl⟩)
  go_ret
  exact ⟨ret_i (by unfold p2 low; omega), rfl⟩

theorem isItemCount_c (n : Int) (w : World) : Calls Try.prog 11 #[.int .i64 n] w fun e w' => e = .returned (.bool (decide (1 ≤ n ∧ n ≤ 7))) ∧ w = w' := by
  by_cases h : 1 ≤ n <;> by_cases h2 : n ≤ 7
  all_goals
    go_enter Try.func11, Try.ntmps11
    go_wp2
    go_ret
    exact ⟨ret_b (by simp [h, h2]), rfl⟩
end Go.Proofs.Ytdihjonfhedciaa
