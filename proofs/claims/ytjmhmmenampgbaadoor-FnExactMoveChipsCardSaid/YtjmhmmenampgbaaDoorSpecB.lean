/- Contracts of the specification's functions, II: whether numbers and sets are a space. -/
import Derived.Test.YtjmhmmenampgbaaDoorImp
import Derived.Test.YtjmhmmenampgbaaDoorLib
namespace Go.Proofs.YtjmhmmenampgbaaDoor
open Go.RowKit
set_option maxRecDepth 100000
attribute [local irreducible] p2 low memB risB
theorem rowS : (Tryd.prog.underlying 23).map TypeDesc.isRow = some false := by kernel_rfl
theorem wrap_low (n : Nat) (h : n ≤ 7) : IntKind.i64.wrap ((p2 n : Int) - 1) = (low n : Int) := by
  have h1 := p2_pos n
  have h2 := p2_le128 n h
  have h4 := low_lt n h
  have h3 : ((p2 n : Int) - 1) = (low n : Int) := by unfold p2 low; omega
  rw [h3]
  exact IntWalk.i64_in _ (by omega)

theorem risB_at (lo hi : Int) (l : List Int) : ∀ m, risB lo hi l m = true → ∀ k, k < m → (lo ≤ l[k]?.getD 0 ∧ l[k]?.getD 0 ≤ hi) ∧ (0 < k → l[k - 1]?.getD 0 < l[k]?.getD 0)
  | 0, _, k, hk => by omega
  | m + 1, h, k, hk => by
    rw [risB, Bool.and_eq_true, Bool.and_eq_true] at h
    obtain ⟨h1, h2, h3⟩ := h
    rcases Nat.lt_or_ge k m with h4 | h4
    · exact risB_at lo hi l m h1 k h4
    · have : k = m := by omega
      subst this
      refine ⟨by simpa using h2, fun h0 => ?_⟩
      simp [h0] at h3
      exact h3
theorem risB_inc (lo hi : Int) (l : List Int) (h : risB lo hi l l.length = true) : inc l := by
  have key : ∀ d i, i + d + 1 < l.length → l[i]?.getD 0 < l[i + d + 1]?.getD 0 := by
    intro d
    induction d with
    | zero => intro i hi'; have := (risB_at lo hi l _ h (i + 1) (by omega)).2 (by omega); simpa using this
    | succ d ih =>
      intro i hi'
      have h1 := ih i (by omega)
      have h2 := (risB_at lo hi l _ h (i + (d + 1) + 1) hi').2 (by omega)
      rw [show i + (d + 1) + 1 - 1 = i + d + 1 by omega] at h2
      omega
  intro i j hij hj
  have := key (j - i - 1) i (by omega)
  rwa [show i + (j - i - 1) + 1 = j by omega] at this
def closeTo (l : List Int) (a : Nat) : Nat → Bool
  | 0 => true
  | j + 1 => closeTo l a j && memB l ((a ||| (l[j]?.getD 0).toNat : Nat) : Int)
def goodTo (l : List Int) : Nat → Bool
  | 0 => true
  | k + 1 => goodTo l k && (!(decide (0 < l[k]?.getD 0) && itemsOf (innerSp l (l[k]?.getD 0).toNat) 7 == 0) && closeTo l (l[k]?.getD 0).toNat l.length)
def goodB (n : Int) (l : List Int) : Bool :=
  decide (1 ≤ n ∧ n ≤ 7) && (decide (l.length ≤ p2 n.toNat) && (risB 0 (low n.toNat) l l.length && (memB l 0 && (memB l (low n.toNat) && goodTo l l.length))))
theorem closeTo_false (l : List Int) (a k : Nat) (h : closeTo l a k = false) : ∀ m, k ≤ m → closeTo l a m = false := by
  intro m hm
  induction m with
  | zero => have : k = 0 := by omega
            subst this; exact h
  | succ m ih =>
    rcases Nat.lt_or_ge k (m + 1) with h1 | h1
    · rw [closeTo, ih (by omega)]; rfl
    · have : k = m + 1 := by omega
      subst this; exact h
theorem goodTo_false (l : List Int) (k : Nat) (h : goodTo l k = false) : ∀ m, k ≤ m → goodTo l m = false := by
  intro m hm
  induction m with
  | zero => have : k = 0 := by omega
            subst this; exact h
  | succ m ih =>
    rcases Nat.lt_or_ge k (m + 1) with h1 | h1
    · rw [goodTo, ih (by omega)]; rfl
    · have : k = m + 1 := by omega
      subst this; exact h


end Go.Proofs.YtjmhmmenampgbaaDoor
