/- Contracts of the small functions of the program: single items, sets of items, unions over closures. -/
import Derived.Test.YtlgcnablhkmdaaaProg
import Derived.Test.YtlgcnablhkmdaaaLib
import Derived.Test.YtlgcnablhkmdaaaMath
namespace Go.Proofs.Ytlgcnablhkmdaaa
open Go.RowKit

theorem ret_i {k : IntKind} {a b : Int} (h : a = b) : Ending.returned (.int k a) = .returned (.int k b) := by rw [h]
theorem ret_b {a b : Bool} (h : a = b) : Ending.returned (.bool a) = .returned (.bool b) := by rw [h]

theorem single_c (a : Int) (w : World) (h : 0 ≤ a) (h2 : a ≤ 7) : Calls Try.prog 42 #[.int .i64 a] w fun e w' => e = .returned (.int .i64 (p2 a.toNat : Int)) ∧ w = w' := by
  go_enter Try.func42, Try.ntmps42
  go_wp2
  go_ret
  exact ⟨ret_i (wrap_p2 _ (by omega)), rfl⟩

theorem below_c (a : Int) (w : World) (h : 0 ≤ a) (h2 : a ≤ 7) : Calls Try.prog 37 #[.int .i64 a] w fun e w' => e = .returned (.int .i64 (low a.toNat : Int)) ∧ w = w' := by
  have h1 := p2_le128 a.toNat (by omega)
  have h3 := p2_pos a.toNat
  go_enter Try.func37, Try.ntmps37
  go_wp2_with (go_at_call 42; refine (single_c _ _ (by omega) (by omega)).mono ?_; rintro e w' ⟨rfl, rfl⟩)
  go_ret
  exact ⟨ret_i (by unfold p2 low; omega), rfl⟩

theorem has_c (a i : Int) (w : World) (h : 0 ≤ i) (h2 : i ≤ 7) (ha : 0 ≤ a) (ha2 : a < 128) : Calls Try.prog 34 #[.int .i64 a, .int .i64 i] w fun e w' => e = .returned (.bool (a.toNat.testBit i.toNat)) ∧ w = w' := by
  have h1 := p2_le128 i.toNat (by omega)
  obtain ⟨a, rfl⟩ := Int.eq_ofNat_of_zero_le ha
  have hx := i64_and a (p2 i.toNat) (by omega) (by omega)
  go_enter Try.func34, Try.ntmps34
  go_wp2_with (go_at_call 42; refine (single_c _ _ (by omega) (by omega)).mono ?_; rintro e w' ⟨rfl, rfl⟩)
  go_ret
  refine ⟨ret_b ?_, rfl⟩
  rw [Int.toNat_natCast, ← bit_test, Bool.eq_iff_iff]
  simp

theorem with_c (a i : Int) (w : World) (h : 0 ≤ i) (h2 : i ≤ 7) (ha : 0 ≤ a) (ha2 : a < 128) : Calls Try.prog 36 #[.int .i64 a, .int .i64 i] w fun e w' => e = .returned (.int .i64 ((a.toNat ||| p2 i.toNat : Nat) : Int)) ∧ w = w' := by
  have h1 := p2_le128 i.toNat (by omega)
  obtain ⟨a, rfl⟩ := Int.eq_ofNat_of_zero_le ha
  go_enter Try.func36, Try.ntmps36
  go_wp2_with (go_at_call 42; refine (single_c _ _ (by omega) (by omega)).mono ?_; rintro e w' ⟨rfl, rfl⟩)
  go_ret
  exact ⟨ret_i (i64_or _ _ (by omega) (by omega)), rfl⟩

theorem within_c (a b : Int) (w : World) (ha : 0 ≤ a) (ha2 : a < 128) (hb : 0 ≤ b) : Calls Try.prog 64 #[.int .i64 a, .int .i64 b] w fun e w' => e = .returned (.bool (andNot a.toNat b.toNat == 0)) ∧ w = w' := by
  obtain ⟨a, rfl⟩ := Int.eq_ofNat_of_zero_le ha
  obtain ⟨b, rfl⟩ := Int.eq_ofNat_of_zero_le hb
  have hx := i64_andNot a b (by omega)
  go_enter Try.func64, Try.ntmps64
  go_wp2
  go_ret
  refine ⟨ret_b ?_, rfl⟩
  rw [Int.toNat_natCast, Int.toNat_natCast, Bool.eq_iff_iff]
  simp

theorem isItem_c (i n : Int) (w : World) : Calls Try.prog 32 #[.int .i64 i, .int .i64 n] w fun e w' => e = .returned (.bool (decide (0 ≤ i ∧ i < n))) ∧ w = w' := by
  by_cases h : 0 ≤ i <;> by_cases h2 : i < n
  all_goals
    go_enter Try.func32, Try.ntmps32
    go_wp2
    go_ret
    exact ⟨ret_b (by simp [h, h2]), rfl⟩

theorem isItemCount_c (n : Int) (w : World) : Calls Try.prog 22 #[.int .i64 n] w fun e w' => e = .returned (.bool (decide (1 ≤ n ∧ n ≤ 7))) ∧ w = w' := by
  by_cases h : 1 ≤ n <;> by_cases h2 : n ≤ 7
  all_goals
    go_enter Try.func22, Try.ntmps22
    go_wp2
    go_ret
    exact ⟨ret_b (by simp [h, h2]), rfl⟩
end Go.Proofs.Ytlgcnablhkmdaaa
