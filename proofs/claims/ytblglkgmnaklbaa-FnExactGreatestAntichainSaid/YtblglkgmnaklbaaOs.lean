/- Contracts: OrderSpace: the specification's and the program's. -/
import Derived.Test.YtblglkgmnaklbaaPr
import Derived.Test.YtblglkgmnaklbaaSq
namespace Go.Proofs.Ytblglkgmnaklbaa
open Go.RowKit
set_option maxRecDepth 100000
def osK (L : List (List Int)) (s : Nat) : Bool := kpTo L s L.length
def osB (n : Int) (L : List (List Int)) : Bool := ordOk n (prA n L) (osK L)
def osN (n : Int) (L : List (List Int)) : Int := ordN n (prA n L) (osK L)
def osL (n : Int) (L : List (List Int)) : List Int := ordL n (prA n L) (osK L)
theorem osL_len (n : Int) (L : List (List Int)) : (osL n L).length < 1000000000 := by
  unfold osL ordL
  split
  · have := setsTo_len (cutAt (osK L) (low n.toNat + 1)) 128; omega
  · simp
/-- The specification's test of a pair. -/
theorem pair_spec {n : Int} {r : List Int} (h : r.length = 2) : pairB n r = (allTo 0 (n - 1) r r.length && !(r0 r == r1 r)) := by
  have e : allTo 0 (n - 1) r r.length = (decide (0 ≤ r0 r ∧ r0 r < n) && decide (0 ≤ r1 r ∧ r1 r < n)) := by
    rw [h]
    unfold allTo allTo allTo r0 r1
    rw [Bool.true_and]
    congr 1 <;> rw [decide_eq_decide] <;> omega
  unfold pairB
  rw [decide_eq_true h, e, Bool.true_and]
theorem sets_cut (K : Nat → Bool) (m : Nat) (hm : 2 ^ m ≤ 128) : setsTo (cutAt K (low m + 1)) 128 = setsTo K (2 ^ m) := by
  have hl := low_succ m
  have h1 : ∀ k, 2 ^ m ≤ k → setsTo (cutAt K (low m + 1)) k = setsTo (cutAt K (low m + 1)) (2 ^ m) := by
    intro k
    induction k with
    | zero => intro h; have := p2_pos m; omega
    | succ k ih =>
      intro h
      rcases Nat.lt_or_ge k (2 ^ m) with h1 | h1
      · have : k + 1 = 2 ^ m := by omega
        rw [this]
      · rw [setsTo, ih h1]
        have : cutAt K (low m + 1) k = false := by unfold cutAt; simp; omega
        rw [this]; rfl
  rw [h1 128 hm]
  refine setsTo_congr _ fun x hx => ?_
  unfold cutAt
  rw [decide_eq_true (by omega), Bool.true_and]
theorem os_good {m : Nat} (h1 : 1 ≤ m) (h7 : m ≤ 7) (K : Nat → Bool) : goodB (m : Int) (setsTo K (2 ^ m)) = spaceB (cutAt K (low m + 1)) m := by
  have hp := p2_le m 7 h7
  have hl := low_succ m
  rw [← sets_cut K m (by omega), ← ok_good]
  refine okSp_sets m (cutAt K (low m + 1)) h1 h7 fun x hx => ?_
  unfold cutAt at hx
  rw [Bool.and_eq_true, decide_eq_true_eq] at hx
  omega
theorem osB_no1 {n : Int} {L : List (List Int)} (h : ¬ (1 ≤ n ∧ n ≤ 7)) : osB n L = false := by unfold osB ordOk; rw [decide_eq_false h]; rfl
theorem osB_no2 {n : Int} {L : List (List Int)} (h : prA n L = false) : osB n L = false := by unfold osB ordOk; rw [h]; simp
theorem osNL_no {n : Int} {L : List (List Int)} (h : osB n L = false) : osN n L = 0 ∧ osL n L = [] ∧ osB n L = false := ⟨ordN_no h, ordL_no h, h⟩
theorem osNL_yes {n : Int} {L : List (List Int)} (h : osB n L = true) : osN n L = n ∧ osL n L = setsTo (cutAt (osK L) (low n.toNat + 1)) 128 ∧ osB n L = true := ⟨ordN_yes h, ordL_yes h, h⟩
theorem os_goodP {m : Nat} (h1 : 1 ≤ m) (h7 : m ≤ 7) (K : Nat → Bool) : goodB (m : Int) (setsTo K (p2 m)) = spaceB (cutAt K (low m + 1)) m := os_good h1 h7 K
theorem osB_g {m : Nat} {L : List (List Int)} (h1 : 1 ≤ m) (h7 : m ≤ 7) (h : prA (m : Int) L = true) : osB (m : Int) L = goodB (m : Int) (setsTo (osK L) (p2 m)) := by
  rw [os_goodP h1 h7]
  unfold osB ordOk
  rw [decide_eq_true (show 1 ≤ (m : Int) ∧ (m : Int) ≤ 7 by omega), h, Int.toNat_natCast, Bool.true_and, Bool.true_and]
theorem osL_g {m : Nat} {L : List (List Int)} (h7 : m ≤ 7) (h : osB (m : Int) L = true) : osL (m : Int) L = setsTo (osK L) (p2 m) := by
  rw [(osNL_yes h).2.1, Int.toNat_natCast]
  exact sets_cut (osK L) m (p2_le m 7 h7)
attribute [local irreducible] p2 low memB risB
theorem ent_spInO : enters Try.prog 55 := enters_of Try.func55 (by kernel_rfl) (by kernel_rfl)
end Go.Proofs.Ytblglkgmnaklbaa
