/- Contracts: whether a list is a word of a family and the set of its items, the program's and the specification's. -/
import Derived.Test.YtblglkgmnaklbaaDoorFam
namespace Go.Proofs.YtblglkgmnaklbaaDoor
open Go.RowKit
set_option maxRecDepth 100000
theorem p2_lt_pow (i n : Nat) (h : i < n) : p2 i < 2 ^ n := p2_lt i n h
attribute [local irreducible] p2 low memB risB
theorem ent_l1InW : enters Tryd.prog 87 := enters_of Tryd.func87 (by kernel_rfl) (by kernel_rfl)
theorem ent_spInW : enters Tryd.prog 66 := enters_of Tryd.func66 (by kernel_rfl) (by kernel_rfl)

/-- The set of the first k items. -/
def setTo (l : List Int) : Nat → Nat
  | 0 => 0
  | k + 1 => setTo l k ||| p2 (l[k]?.getD 0).toNat
def stepB (F : Nat → Bool) (n s : Nat) (x : Int) : Bool := decide (0 ≤ x ∧ x < (n : Int)) && (!s.testBit x.toNat && F (s ||| p2 x.toNat))
/-- Whether the first k items are a word. -/
def wordTo (F : Nat → Bool) (n : Nat) (l : List Int) : Nat → Bool
  | 0 => true
  | k + 1 => wordTo F n l k && stepB F n (setTo l k) (l[k]?.getD 0)
def wordB (F : Nat → Bool) (n : Nat) (l : List Int) : Bool := wordTo F n l l.length
def wordS (F : Nat → Bool) (n : Nat) (l : List Int) : Nat := if wordB F n l then setTo l l.length else 0
theorem wordTo_false (F : Nat → Bool) (n : Nat) (l : List Int) (k : Nat) (h : wordTo F n l k = false) : ∀ m, k ≤ m → wordTo F n l m = false := by
  intro m hm
  induction m with
  | zero => have : k = 0 := by omega
            subst this; exact h
  | succ m ih =>
    rcases Nat.lt_or_ge k (m + 1) with h1 | h1
    · rw [wordTo, ih (by omega)]; rfl
    · have : k = m + 1 := by omega
      subst this; exact h
theorem wordTo_at {F : Nat → Bool} {n : Nat} {l : List Int} {m : Nat} (h : wordTo F n l m = true) : ∀ k, k ≤ m → wordTo F n l k = true := by
  intro k hk
  cases h1 : wordTo F n l k
  · rw [wordTo_false F n l k h1 m hk] at h; cases h
  · rfl
theorem setTo_lt {F : Nat → Bool} {n : Nat} {l : List Int} : ∀ k, wordTo F n l k = true → setTo l k < 2 ^ n
  | 0, _ => by simp [setTo]; exact Nat.two_pow_pos n
  | k + 1, h => by
    rw [wordTo, Bool.and_eq_true] at h
    have h1 := setTo_lt k h.1
    have h2 := h.2
    simp only [stepB, Bool.and_eq_true, decide_eq_true_eq] at h2
    rw [setTo]
    refine Nat.or_lt_two_pow h1 ?_
    exact p2_lt_pow _ _ (by omega)
theorem wordS_no {F : Nat → Bool} {n : Nat} {l : List Int} (h : wordB F n l = false) : wordS F n l = 0 := by simp [wordS, h]
theorem wordS_yes {F : Nat → Bool} {n : Nat} {l : List Int} (h : wordB F n l = true) : wordS F n l = setTo l l.length := by simp [wordS, h]
theorem stepB_congr {F G : Nat → Bool} {n s : Nat} {x : Int} (hn : n ≤ 7) (hs : s < 128) (hF : ∀ x, x < 128 → F x = G x) : stepB F n s x = stepB G n s x := by
  unfold stepB
  by_cases hx : 0 ≤ x ∧ x < (n : Int)
  · rw [hF _ (or_lt128 _ _ hs (p2_lt128 _ (by omega)))]
  · rw [decide_eq_false hx]; rfl
theorem wordTo_congr {F G : Nat → Bool} {n : Nat} {l : List Int} (hn : n ≤ 7) (hF : ∀ x, x < 128 → F x = G x) : ∀ k, wordTo F n l k = wordTo G n l k
  | 0 => rfl
  | k + 1 => by
    rw [wordTo, wordTo, wordTo_congr hn hF k]
    cases h : wordTo G n l k
    · rfl
    · have h1 := setTo_lt k h
      have h2 := p2_le n 7 hn
      rw [stepB_congr hn (by omega) hF]

end Go.Proofs.YtblglkgmnaklbaaDoor
