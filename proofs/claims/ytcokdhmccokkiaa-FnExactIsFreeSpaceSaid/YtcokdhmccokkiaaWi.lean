/- Contracts: the greatest set within, and the outer fringe, the program's and the specification's. -/
import Derived.Test.YtcokdhmccokkiaaFr
namespace Go.Proofs.Ytcokdhmccokkiaa
open Go.RowKit
set_option maxRecDepth 100000
attribute [local irreducible] p2 low memB risB

def wiTo (l : List Int) (lim : Nat) : Nat → Nat
  | 0 => 0
  | k + 1 => if andNot (nth l k) lim == 0 then wiTo l lim k ||| nth l k else wiTo l lim k
theorem wiTo_lt (l : List Int) (lim : Nat) (hl : ∀ j, j < l.length → nth l j < 128) : ∀ k, k ≤ l.length → wiTo l lim k < 128
  | 0, _ => by simp [wiTo]
  | k + 1, hk => by
    unfold wiTo
    split
    · exact or_lt128 _ _ (wiTo_lt l lim hl k (by omega)) (hl k (by omega))
    · exact wiTo_lt l lim hl k (by omega)
theorem wiTo_bit (l : List Int) (lim b : Nat) : ∀ k, (wiTo l lim k).testBit b = true ↔ ∃ j, j < k ∧ andNot (nth l j) lim = 0 ∧ (nth l j).testBit b = true
  | 0 => by simp [wiTo]
  | k + 1 => by
    unfold wiTo
    split
    · rename_i h
      rw [Nat.testBit_or, Bool.or_eq_true, wiTo_bit l lim b k]
      constructor
      · rintro (⟨j, hj, h1⟩ | h1)
        · exact ⟨j, by omega, h1⟩
        · exact ⟨k, by omega, by simpa using h, h1⟩
      · rintro ⟨j, hj, h1, h2⟩
        rcases Nat.lt_or_ge j k with h3 | h3
        · exact .inl ⟨j, h3, h1, h2⟩
        · have : j = k := by omega
          subst this; exact .inr h2
    · rename_i h
      rw [wiTo_bit l lim b k]
      constructor
      · rintro ⟨j, hj, h1⟩; exact ⟨j, by omega, h1⟩
      · rintro ⟨j, hj, h1, h2⟩
        rcases Nat.lt_or_ge j k with h3 | h3
        · exact ⟨j, h3, h1, h2⟩
        · have : j = k := by omega
          subst this; simp [h1] at h
theorem nth_lt {n : Int} {l : List Int} (h : okSp n l = true) : ∀ j, j < l.length → nth l j < 2 ^ n.toNat := fun j hj => by
  have := okSp_pos h j hj
  have hpl := low_succ n.toNat
  unfold nth; omega
theorem wi_same {n : Int} {l : List Int} (h : okSp n l = true) (lim : Nat) : withinOf (marksTo l l.length) n.toNat lim = wiTo l lim l.length := by
  apply Nat.eq_of_testBit_eq
  intro b
  rw [Bool.eq_iff_iff, wiTo_bit]
  unfold withinOf
  rw [orTo_bit, decide_eq_true_eq]
  constructor
  · rintro ⟨s, hs, h1⟩
    unfold pickIn at h1
    split at h1
    · rename_i h2
      simp only [Bool.and_eq_true, beq_iff_eq] at h2
      obtain ⟨j, hj, e⟩ := (marks_iff l s l.length).1 h2.1
      exact ⟨j, hj, by unfold nth; rw [e]; exact h2.2, by unfold nth; rw [e]; exact h1⟩
    · simp at h1
  · rintro ⟨j, hj, h1, h2⟩
    refine ⟨nth l j, nth_lt h j hj, ?_⟩
    unfold pickIn
    have h3 : marksTo l l.length (nth l j) = true := (marks_iff l _ _).2 ⟨j, hj, rfl⟩
    rw [if_pos (by simp [h3, h1])]
    exact h2

def withinR (n : Int) (l : List Int) (x : Int) : Int := if okSet n l x then (wiTo l x.toNat l.length : Int) else 0
theorem withinR_no {n : Int} {l : List Int} {x : Int} (h : okSet n l x = false) : withinR n l x = 0 := by simp [withinR, h]
theorem withinR_yes {n : Int} {l : List Int} {x : Int} (h : okSet n l x = true) : withinR n l x = (wiTo l x.toNat l.length : Int) := by simp [withinR, h]

end Go.Proofs.Ytcokdhmccokkiaa
