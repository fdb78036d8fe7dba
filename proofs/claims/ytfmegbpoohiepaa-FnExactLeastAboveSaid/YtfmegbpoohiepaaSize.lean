/- Contract: bits.OnesCount of a number below 128. -/
import Derived.Test.YtfmegbpoohiepaaCnt
namespace Go.Proofs.Ytfmegbpoohiepaa
open Go.RowKit
set_option maxRecDepth 100000
attribute [local irreducible] p2 low

set_option maxHeartbeats 600000 in
theorem onesCount64_c (x : Nat) (w : World) (h : x < 128) : Calls Try.prog 36 #[.int .u64 x] w fun e w' => e = .returned (.int .i64 (pc x : Int)) ∧ w = w' := by
  go_enter Try.func36, Try.ntmps36
  go_wp2
  go_ret
  refine ⟨ret_i ?_, rfl⟩

  revert x
  decide +kernel

theorem onesCount_c (x : Nat) (w : World) (h : x < 128) : Calls Try.prog 30 #[.int .u64 x] w fun e w' => e = .returned (.int .i64 (pc x : Int)) ∧ w = w' := by
  go_enter Try.func30, Try.ntmps30
  go_wp2_with (go_at_call 36; refine (onesCount64_c x _ h).mono ?_; rintro e w' ⟨rfl, rfl⟩)
  go_ret
  exact ⟨rfl, rfl⟩

theorem size_c (x : Int) (w : World) (h0 : 0 ≤ x) (h1 : x < 128) : Calls Try.prog 22 #[.int .i64 x] w fun e w' => e = .returned (.int .i64 (pc x.toNat : Int)) ∧ w = w' := by
  obtain ⟨x, rfl⟩ := Int.eq_ofNat_of_zero_le h0
  have hx : x < 128 := by omega
  rw [Int.toNat_natCast]
  clear h0 h1
  go_enter Try.func22, Try.ntmps22
  go_wp2_with (go_at_call 30; refine (onesCount_c x _ hx).mono ?_; rintro e w' ⟨rfl, rfl⟩)
  go_ret
  exact ⟨rfl, rfl⟩
end Go.Proofs.Ytfmegbpoohiepaa
