/- Contracts of the small functions of the program: single items, sets of items, unions over closures. -/
import Derived.Test.YtciignipklfmjaaProg
import Derived.Test.YtciignipklfmjaaLib
import Derived.Test.YtciignipklfmjaaMath
namespace Go.Proofs.Ytciignipklfmjaa
open Go.RowKit

theorem ret_i {k : IntKind} {a b : Int} (h : a = b) : Ending.returned (.int k a) = .returned (.int k b) := by rw [h]
theorem ret_b {a b : Bool} (h : a = b) : Ending.returned (.bool a) = .returned (.bool b) := by rw [h]

theorem single_c (a : Int) (w : World) (h : 0 ≤ a) (h2 : a ≤ 7) : Calls Try.prog 28 #[.int .i64 a] w fun e w' => e = .returned (.int .i64 (p2 a.toNat : Int)) ∧ w = w' := by
  go_enter Try.func28, Try.ntmps28
  go_wp2
  go_ret
  exact ⟨ret_i (wrap_p2 _ (by omega)), rfl⟩

theorem below_c (a : Int) (w : World) (h : 0 ≤ a) (h2 : a ≤ 7) : Calls Try.prog 37 #[.int .i64 a] w fun e w' => e = .returned (.int .i64 (low a.toNat : Int)) ∧ w = w' := by
  have h1 := p2_le128 a.toNat (by omega)
  have h3 := p2_pos a.toNat
  go_enter Try.func37, Try.ntmps37
  go_wp2_with (go_at_call 28; refine (single_c _ _ (by omega) (by omega)).mono ?_; rintro e w' ⟨rfl, rfl⟩)
  go_ret
  exact ⟨ret_i (by unfold p2 low; omega), rfl⟩

theorem without_c (a i : Int) (w : World) (h : 0 ≤ i) (h2 : i ≤ 7) (ha : 0 ≤ a) (ha2 : a < 128) : Calls Try.prog 21 #[.int .i64 a, .int .i64 i] w fun e w' => e = .returned (.int .i64 ((andNot a.toNat (p2 i.toNat) : Nat) : Int)) ∧ w = w' := by
  obtain ⟨a, rfl⟩ := Int.eq_ofNat_of_zero_le ha
  go_enter Try.func21, Try.ntmps21
  go_wp2_with (go_at_call 28; refine (single_c _ _ (by omega) (by omega)).mono ?_; rintro e w' ⟨rfl, rfl⟩)
  go_ret
  exact ⟨ret_i (i64_andNot _ _ (by omega)), rfl⟩

theorem isItemCount_c (n : Int) (w : World) : Calls Try.prog 30 #[.int .i64 n] w fun e w' => e = .returned (.bool (decide (1 ≤ n ∧ n ≤ 7))) ∧ w = w' := by
  by_cases h : 1 ≤ n <;> by_cases h2 : n ≤ 7
  all_goals
    go_enter Try.func30, Try.ntmps30
    go_wp2
    go_ret
    exact ⟨ret_b (by simp [h, h2]), rfl⟩
end Go.Proofs.Ytciignipklfmjaa
