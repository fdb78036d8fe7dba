/- Contract: bits.OnesCount of a number below 128. -/
import Derived.Test.YtojejhdlfklhkaaDoorCnt
namespace Go.Proofs.YtojejhdlfklhkaaDoor
open Go.RowKit
set_option maxRecDepth 100000
attribute [local irreducible] p2 low

set_option maxHeartbeats 600000 in
theorem onesCount64_c (x : Nat) (w : World) (h : x < 128) : Calls Tryd.prog 139 #[.int .u64 x] w fun e w' => e = .returned (.int .i64 (pc x : Int)) ∧ w = w' := by
  go_enter Tryd.func139, Tryd.ntmps139
  go_wp2
  go_ret
  refine ⟨ret_i ?_, rfl⟩

  revert x
  decide +kernel

theorem onesCount_c (x : Nat) (w : World) (h : x < 128) : Calls Tryd.prog 132 #[.int .u64 x] w fun e w' => e = .returned (.int .i64 (pc x : Int)) ∧ w = w' := by
  go_enter Tryd.func132, Tryd.ntmps132
  go_wp2_with (go_at_call 139; refine (onesCount64_c x _ h).mono ?_; rintro e w' ⟨rfl, rfl⟩)
  go_ret
  exact ⟨rfl, rfl⟩

theorem size_c (x : Int) (w : World) (h0 : 0 ≤ x) (h1 : x < 128) : Calls Tryd.prog 119 #[.int .i64 x] w fun e w' => e = .returned (.int .i64 (pc x.toNat : Int)) ∧ w = w' := by
  obtain ⟨x, rfl⟩ := Int.eq_ofNat_of_zero_le h0
  have hx : x < 128 := by omega
  rw [Int.toNat_natCast]
  clear h0 h1
  go_enter Tryd.func119, Tryd.ntmps119
  go_wp2_with (go_at_call 132; refine (onesCount_c x _ hx).mono ?_; rintro e w' ⟨rfl, rfl⟩)
  go_ret
  exact ⟨rfl, rfl⟩
end Go.Proofs.YtojejhdlfklhkaaDoor
