/- Contracts: pairs of items: arePairs, keepsPairs, OrderSpace, the program's. -/
import Derived.Test.YtblglkgmnaklbaaRt
import Derived.Test.YtblglkgmnaklbaaFre
namespace Go.Proofs.Ytblglkgmnaklbaa
open Go.RowKit
set_option maxRecDepth 100000
def r0 (r : List Int) : Int := r[0]?.getD 0
def r1 (r : List Int) : Int := r[1]?.getD 0
def pairB (n : Int) (r : List Int) : Bool := decide (r.length = 2) && ((decide (0 ≤ r0 r ∧ r0 r < n) && decide (0 ≤ r1 r ∧ r1 r < n)) && !(r0 r == r1 r))
def prTo (n : Int) (L : List (List Int)) : Nat → Bool
  | 0 => true
  | k + 1 => prTo n L k && pairB n (L[k]?.getD [])
theorem prTo_iff (n : Int) (L : List (List Int)) : ∀ k, prTo n L k = true ↔ ∀ j, j < k → pairB n (L[j]?.getD []) = true
  | 0 => by simp [prTo]
  | k + 1 => by
    rw [prTo, Bool.and_eq_true, prTo_iff n L k]
    constructor
    · rintro ⟨h1, h2⟩ j hj
      rcases Nat.lt_or_ge j k with h | h
      · exact h1 j h
      · have : j = k := by omega
        subst this; exact h2
    · intro h
      exact ⟨fun j hj => h j (by omega), h k (by omega)⟩
theorem prTo_false {n : Int} {L : List (List Int)} {k : Nat} (h : pairB n (L[k]?.getD []) = false) (m : Nat) (hm : k < m) : prTo n L m = false := by
  cases h2 : prTo n L m
  · rfl
  · have := (prTo_iff n L m).1 h2 k hm
    rw [h] at this; cases this
def prA (n : Int) (L : List (List Int)) : Bool := decide (L.length ≤ 40) && prTo n L L.length
/-- Whether a set keeps the first k pairs. -/
def kpTo (L : List (List Int)) (s : Nat) : Nat → Bool
  | 0 => true
  | k + 1 => kpTo L s k && (!s.testBit (r1 (L[k]?.getD [])).toNat || s.testBit (r0 (L[k]?.getD [])).toNat)
theorem kpTo_false {L : List (List Int)} {s k : Nat} (h : kpTo L s k = false) : ∀ m, k ≤ m → kpTo L s m = false := by
  intro m hm
  induction m with
  | zero => have : k = 0 := by omega
            subst this; exact h
  | succ m ih =>
    rcases Nat.lt_or_ge k (m + 1) with h1 | h1
    · rw [kpTo, ih (by omega)]; rfl
    · have : k = m + 1 := by omega
      subst this; exact h
theorem pairB_in {n : Int} {r : List Int} (h : pairB n r = true) : r.length = 2 ∧ 0 ≤ r0 r ∧ r0 r < n ∧ 0 ≤ r1 r ∧ r1 r < n ∧ r0 r ≠ r1 r := by
  simp only [pairB, Bool.and_eq_true, decide_eq_true_eq, Bool.not_eq_true', beq_eq_false_iff_ne] at h
  exact ⟨h.1, h.2.1.1.1, h.2.1.1.2, h.2.1.2.1, h.2.1.2.2, h.2.2⟩
theorem prA_in {n : Int} {L : List (List Int)} (h : prA n L = true) : L.length ≤ 40 ∧ ∀ j, j < L.length → pairB n (L[j]?.getD []) = true := by
  simp only [prA, Bool.and_eq_true, decide_eq_true_eq] at h
  exact ⟨h.1, (prTo_iff n L _).1 h.2⟩
attribute [local irreducible] p2 low memB risB
end Go.Proofs.Ytblglkgmnaklbaa
