/- Mathematics: points told by their lists. No program is named here. -/
import Derived.Test.YtojejhdlfklhkaaLib
namespace Go.Proofs.Ytojejhdlfklhkaa
open Go.RowKit
set_option maxRecDepth 100000
/-! ### Points told by their lists -/
def ptX (L : List (List Int)) (i : Nat) : Int := (L[i]?.getD [])[0]?.getD 0
def ptY (L : List (List Int)) (i : Nat) : Int := (L[i]?.getD [])[1]?.getD 0
def plB (x : Int) : Bool := decide (-20 ≤ x ∧ x ≤ 20)
/-- Whether a list is a point. -/
def ptRow (r : List Int) : Bool := decide (r.length = 2) && (plB (r[0]?.getD 0) && plB (r[1]?.getD 0))
/-- Whether the k-th one is a point, and not one of those before it. -/
def ptNew (L : List (List Int)) (k : Nat) : Bool := !((List.range k).any fun j => decide (ptX L j = ptX L k) && decide (ptY L j = ptY L k))
def ptTo (L : List (List Int)) : Nat → Bool
  | 0 => true
  | k + 1 => ptTo L k && (ptRow (L[k]?.getD []) && ptNew L k)
def ptB (L : List (List Int)) : Bool := decide (1 ≤ (L.length : Int) ∧ (L.length : Int) ≤ 7) && ptTo L L.length
theorem ptTo_iff (L : List (List Int)) : ∀ k, ptTo L k = true ↔ ∀ j, j < k → ptRow (L[j]?.getD []) = true ∧ ptNew L j = true
  | 0 => by simp [ptTo]
  | k + 1 => by
    rw [ptTo, Bool.and_eq_true, Bool.and_eq_true, ptTo_iff L k]
    constructor
    · rintro ⟨h1, h2⟩ j hj
      rcases Nat.lt_or_ge j k with h | h
      · exact h1 j h
      · rw [show j = k by omega]; exact h2
    · intro h; exact ⟨fun j hj => h j (by omega), h k (by omega)⟩
theorem ptB_n {L : List (List Int)} (h : ptB L = true) : 1 ≤ L.length ∧ L.length ≤ 7 := by
  unfold ptB at h; rw [Bool.and_eq_true, decide_eq_true_eq] at h; omega
theorem ptB_in {L : List (List Int)} (h : ptB L = true) (j : Nat) (hj : j < L.length) : ((-20 ≤ ptX L j ∧ ptX L j ≤ 20) ∧ -20 ≤ ptY L j ∧ ptY L j ≤ 20) ∧ ∀ i, i < j → ¬ (ptX L i = ptX L j ∧ ptY L i = ptY L j) := by
  unfold ptB at h
  rw [Bool.and_eq_true, ptTo_iff] at h
  obtain ⟨h1, h2⟩ := h.2 j hj
  unfold ptRow plB at h1
  rw [Bool.and_eq_true, Bool.and_eq_true, decide_eq_true_eq, decide_eq_true_eq, decide_eq_true_eq] at h1
  refine ⟨h1.2, fun i hi he => ?_⟩
  unfold ptNew at h2
  rw [Bool.not_eq_true', ← Bool.not_eq_true, List.any_eq_true] at h2
  exact h2 ⟨i, List.mem_range.2 hi, by rw [Bool.and_eq_true, decide_eq_true_eq, decide_eq_true_eq]; exact he⟩
theorem pt_same {L : List (List Int)} (h : ptB L = true) {i j : Nat} (hi : i < L.length) (hj : j < L.length) (hx : ptX L i = ptX L j) (hy : ptY L i = ptY L j) : i = j := by
  rcases Nat.lt_trichotomy i j with h1 | h1 | h1
  · exact absurd ⟨hx, hy⟩ ((ptB_in h j hj).2 i h1)
  · exact h1
  · exact absurd ⟨hx.symm, hy.symm⟩ ((ptB_in h i hi).2 j h1)
end Go.Proofs.Ytojejhdlfklhkaa
