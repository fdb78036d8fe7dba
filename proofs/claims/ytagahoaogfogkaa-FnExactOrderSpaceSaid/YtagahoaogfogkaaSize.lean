/- Contract: bits.OnesCount of a number below 128. -/
import Derived.Test.YtagahoaogfogkaaCnt
namespace Go.Proofs.Ytagahoaogfogkaa
open Go.RowKit
set_option maxRecDepth 100000
attribute [local irreducible] p2 low

set_option maxHeartbeats 600000 in
theorem onesCount64_c (x : Nat) (w : World) (h : x < 128) : Calls Try.prog 118 #[.int .u64 x] w fun e w' => e = .returned (.int .i64 (pc x : Int)) ∧ w = w' := by
  go_enter Try.func118, Try.ntmps118
  go_wp2
  go_ret
  refine ⟨ret_i ?_, rfl⟩

  revert x
  decide +kernel

theorem onesCount_c (x : Nat) (w : World) (h : x < 128) : Calls Try.prog 111 #[.int .u64 x] w fun e w' => e = .returned (.int .i64 (pc x : Int)) ∧ w = w' := by
  go_enter Try.func111, Try.ntmps111
  go_wp2_with (go_at_call 118; refine (onesCount64_c x _ h).mono ?_; rintro e w' ⟨rfl, rfl⟩)
  go_ret
  exact ⟨rfl, rfl⟩

theorem size_c (x : Int) (w : World) (h0 : 0 ≤ x) (h1 : x < 128) : Calls Try.prog 90 #[.int .i64 x] w fun e w' => e = .returned (.int .i64 (pc x.toNat : Int)) ∧ w = w' := by
  obtain ⟨x, rfl⟩ := Int.eq_ofNat_of_zero_le h0
  have hx : x < 128 := by omega
  rw [Int.toNat_natCast]
  clear h0 h1
  go_enter Try.func90, Try.ntmps90
  go_wp2_with (go_at_call 111; refine (onesCount_c x _ hx).mono ?_; rintro e w' ⟨rfl, rfl⟩)
  go_ret
  exact ⟨rfl, rfl⟩
end Go.Proofs.Ytagahoaogfogkaa
