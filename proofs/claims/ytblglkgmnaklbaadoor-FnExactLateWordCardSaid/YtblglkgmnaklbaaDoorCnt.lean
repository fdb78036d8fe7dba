/- Contracts: the number of a set's items, the program's and the specification's. -/
import Derived.Test.YtblglkgmnaklbaaDoorImp
namespace Go.Proofs.YtblglkgmnaklbaaDoor
open Go.RowKit
set_option maxRecDepth 100000
attribute [local irreducible] p2 low

/-- The number of ones of a number below 128. -/
def pc (x : Nat) : Nat := x % 2 + x / 2 % 2 + x / 4 % 2 + x / 8 % 2 + x / 16 % 2 + x / 32 % 2 + x / 64 % 2
theorem pc_step (x : Nat) (h : x < 128) : pc x = x % 2 + pc (x / 2) := by unfold pc; omega
theorem pc_le (x : Nat) : pc x ≤ 7 := by unfold pc; omega

set_option maxHeartbeats 600000 in
theorem spCount_c (x : Int) (w : World) (h0 : 0 ≤ x) (h1 : x < 128) : Calls Tryd.prog 64 #[.int .i64 x] w fun e w' => e = .returned (.int .i64 (pc x.toNat : Int)) ∧ w = w' := by
  obtain ⟨x, rfl⟩ := Int.eq_ofNat_of_zero_le h0
  have hx : x < 128 := by omega
  rw [Int.toNat_natCast]
  clear h0 h1
  go_enter Tryd.func64, Tryd.ntmps64
  go_wp2
  go_loop [0, 3] (fun s o => ∃ a b : Nat, a < 128 ∧ b + pc a = pc x ∧ b ≤ 7 ∧ s = .int .i64 a ∧ o = .int .i64 b) (fun s _ => (intOf s).toNat)
  case atStart => exact ⟨x, 0, hx, by omega, by omega, rfl, rfl⟩
  case round =>
    obtain ⟨a, b, ha, hb, hb7, rfl, rfl⟩ := hrel
    have hs := pc_step a ha
    have hp := pc_le x
    by_cases hz : 0 < a
    · go_wp2
      go_round
      case rel => exact ⟨a / 2, b + a % 2, by omega, by omega, by omega, by go_num, by go_num⟩
      case measure => simp [intOf]; omega
    · have hz0 : a = 0 := by omega
      subst hz0
      go_wp2
      go_ret
      exact ⟨ret_i (by have : pc 0 = 0 := rfl; omega), rfl⟩
end Go.Proofs.YtblglkgmnaklbaaDoor
/- Contract: bits.OnesCount of a number below 128. -/
namespace Go.Proofs.YtblglkgmnaklbaaDoor
open Go.RowKit
set_option maxRecDepth 100000
attribute [local irreducible] p2 low

set_option maxHeartbeats 600000 in
theorem onesCount64_c (x : Nat) (w : World) (h : x < 128) : Calls Tryd.prog 126 #[.int .u64 x] w fun e w' => e = .returned (.int .i64 (pc x : Int)) ∧ w = w' := by
  go_enter Tryd.func126, Tryd.ntmps126
  go_wp2
  go_ret
  refine ⟨ret_i ?_, rfl⟩

  revert x
  decide +kernel

theorem onesCount_c (x : Nat) (w : World) (h : x < 128) : Calls Tryd.prog 122 #[.int .u64 x] w fun e w' => e = .returned (.int .i64 (pc x : Int)) ∧ w = w' := by
  go_enter Tryd.func122, Tryd.ntmps122
  go_wp2_with (go_at_call 126; refine (onesCount64_c x _ h).mono ?_; rintro e w' ⟨rfl, rfl⟩)
  go_ret
  exact ⟨rfl, rfl⟩

theorem size_c (x : Int) (w : World) (h0 : 0 ≤ x) (h1 : x < 128) : Calls Tryd.prog 118 #[.int .i64 x] w fun e w' => e = .returned (.int .i64 (pc x.toNat : Int)) ∧ w = w' := by
  obtain ⟨x, rfl⟩ := Int.eq_ofNat_of_zero_le h0
  have hx : x < 128 := by omega
  rw [Int.toNat_natCast]
  clear h0 h1
  go_enter Tryd.func118, Tryd.ntmps118
  go_wp2_with (go_at_call 122; refine (onesCount_c x _ hx).mono ?_; rintro e w' ⟨rfl, rfl⟩)
  go_ret
  exact ⟨rfl, rfl⟩
end Go.Proofs.YtblglkgmnaklbaaDoor
