/- Contracts: HalvingBound, the program's and the specification's. -/
import Derived.Test.YtppojaekngeelaaDoorHb
import Derived.Test.YtppojaekngeelaaDoorHar
namespace Go.Proofs.YtppojaekngeelaaDoor
open Go.RowKit
set_option maxRecDepth 100000
set_option linter.unusedSimpArgs false
theorem hv_ltP {c k : Nat} (hc : c ≤ 128) (hk : k ≤ 7) : p2 k < c ↔ k < hvN c := hv_lt hc hk
attribute [local irreducible] p2 low memB risB
theorem halvings_c (c : Nat) (w : World) (hc : c ≤ 128) :
    Calls Tryd.prog 68 #[.int .i64 (c : Int)] w fun e w' => e = .returned (.int .i64 (hvN c : Int)) ∧ w = w' := by
  have HV := hide (fun k (h : k ≤ 7) => hv_ltP hc h)
  have h7 := hv_le c
  generalize hvN c = h at *
  go_enter Tryd.func68, Tryd.ntmps68
  go_wp2
  go_loopw [3] (fun i wr => ∃ k : Nat, k ≤ h ∧ i = .int .i64 (k : Int) ∧ wr = w) (fun i _ => h - (intOf i).toNat)
  case atStart => exact ⟨0, Nat.zero_le _, rfl, rfl⟩
  case round =>
    obtain ⟨k, hk, rfl, rfl⟩ := hrel
    have hp1 := wrap_p2 k (by omega)
    have hp2 : IntKind.i64.wrap (2 ^ k) = (p2 k : Int) := by rw [IntWalk.i64_left]; exact hp1
    have hv := HV.out k (by omega)
    by_cases hlt : k < h
    · have hlt' : (p2 k : Int) < (c : Int) := by have := hv.2 hlt; omega
      generalize p2 k = P at *
      go_wp2
      go_roundw
      case rel => exact ⟨k + 1, by omega, by go_num, trivial⟩
      case measure => (simp [intOf] <;> omega)
    · have hlt' : ¬ (p2 k : Int) < (c : Int) := by intro h2; exact hlt (hv.1 (by omega))
      generalize p2 k = P at *
      have hke : k = h := by omega
      subst hke
      go_wp2
      go_ret
      exact ⟨rfl, rfl⟩
theorem ent_count : enters Tryd.prog 69 := enters_of Tryd.func69 (by kernel_rfl) (by kernel_rfl)
theorem hb_prog (n : Int) (l : List Int) : ∃ N F b, famVal n l = .tuple #[.agg (fam N F), .bool b] ∧ okSp n l = b ∧ hbR n l = (hvN (cntS F) : Int) := by
  cases h : okSp n l
  · refine ⟨0, noSet, false, famVal_no n l h, rfl, ?_⟩
    unfold hbR cntS
    rw [h, sets_noneH]; rfl
  · refine ⟨n, _, true, famVal_yes n l h, rfl, ?_⟩
    unfold hbR cntS
    rw [if_pos h, ← okSp_list h]
end Go.Proofs.YtppojaekngeelaaDoor
