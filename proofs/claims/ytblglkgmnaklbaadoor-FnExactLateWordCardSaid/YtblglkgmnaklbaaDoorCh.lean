/- Contracts: whether a list has each of the first numbers once; the space of a chain: the program's and the specification's. -/
import Derived.Test.YtblglkgmnaklbaaDoorPs
namespace Go.Proofs.YtblglkgmnaklbaaDoor
open Go.RowKit
set_option maxRecDepth 100000
def anySet : Nat → Bool := fun _ => true
theorem p2_bit' (n i : Nat) : (p2 n).testBit i = decide (n = i) := p2_bit n i
attribute [local irreducible] p2 low memB risB

theorem wordTo_iff (F : Nat → Bool) (n : Nat) (l : List Int) : ∀ k, wordTo F n l k = true ↔ ∀ j, j < k → stepB F n (setTo l j) (l[j]?.getD 0) = true
  | 0 => by simp [wordTo]
  | k + 1 => by
    rw [wordTo, Bool.and_eq_true, wordTo_iff F n l k]
    constructor
    · rintro ⟨h1, h2⟩ j hj
      rcases Nat.lt_or_ge j k with h | h
      · exact h1 j h
      · rw [show j = k by omega]; exact h2
    · intro h
      exact ⟨fun j hj => h j (by omega), h k (by omega)⟩
theorem setTo_bit (l : List Int) (i : Nat) : ∀ k, (setTo l k).testBit i = true ↔ ∃ j, j < k ∧ (l[j]?.getD 0).toNat = i
  | 0 => by simp [setTo]
  | k + 1 => by
    rw [setTo, Nat.testBit_or, Bool.or_eq_true, setTo_bit l i k, p2_bit', decide_eq_true_eq]
    constructor
    · rintro (⟨j, hj, e⟩ | e)
      · exact ⟨j, by omega, e⟩
      · exact ⟨k, by omega, e⟩
    · rintro ⟨j, hj, e⟩
      rcases Nat.lt_or_ge j k with h | h
      · exact .inl ⟨j, h, e⟩
      · have : j = k := by omega
        subst this; exact .inr e
def dupTo (l : List Int) : Nat → Bool
  | 0 => true
  | k + 1 => dupTo l k && !memB (l.take k) (l[k]?.getD 0)
theorem dupTo_iff (l : List Int) : ∀ k, dupTo l k = true ↔ ∀ j, j < k → memB (l.take j) (l[j]?.getD 0) = false
  | 0 => by simp [dupTo]
  | k + 1 => by
    rw [dupTo, Bool.and_eq_true, dupTo_iff l k, Bool.not_eq_true']
    constructor
    · rintro ⟨h1, h2⟩ j hj
      rcases Nat.lt_or_ge j k with h | h
      · exact h1 j h
      · rw [show j = k by omega]; exact h2
    · intro h
      exact ⟨fun j hj => h j (by omega), h k (by omega)⟩
theorem take_mem (l : List Int) (k : Nat) (hk : k ≤ l.length) (x : Int) : memB (l.take k) x = true ↔ ∃ j, j < k ∧ l[j]?.getD 0 = x := by
  rw [mem_iff]
  have hl : (l.take k).length = k := by simp; omega
  constructor
  · rintro ⟨j, hj, e⟩
    rw [hl] at hj
    rw [List.getElem?_take, if_pos hj] at e
    exact ⟨j, hj, e⟩
  · rintro ⟨j, hj, e⟩
    refine ⟨j, by omega, ?_⟩
    rw [List.getElem?_take, if_pos hj]; exact e
theorem ord_same (l : List Int) : (allTo 0 ((l.length : Int) - 1) l l.length && dupTo l l.length) = wordTo anySet l.length l l.length := by
  rw [Bool.eq_iff_iff, Bool.and_eq_true, allTo_iff, dupTo_iff, wordTo_iff]
  constructor
  · rintro ⟨h1, h2⟩ j hj
    have hj1 := h1 j hj
    simp only [stepB, anySet, Bool.and_true, Bool.and_eq_true, decide_eq_true_eq, Bool.not_eq_true']
    refine ⟨by omega, ?_⟩
    have hj2 := h2 j hj
    rw [← Bool.not_eq_true] at hj2 ⊢
    intro hb
    obtain ⟨i, hi, e⟩ := (setTo_bit l _ j).1 hb
    apply hj2
    rw [take_mem l j (by omega)]
    have hi1 := h1 i (by omega)
    exact ⟨i, hi, by omega⟩
  · intro h
    have h1 : ∀ j, j < l.length → 0 ≤ l[j]?.getD 0 ∧ l[j]?.getD 0 ≤ (l.length : Int) - 1 := fun j hj => by
      have := h j hj
      simp only [stepB, Bool.and_eq_true, decide_eq_true_eq] at this
      omega
    refine ⟨h1, fun j hj => ?_⟩
    have hj1 := h j hj
    simp only [stepB, anySet, Bool.and_true, Bool.and_eq_true, decide_eq_true_eq, Bool.not_eq_true'] at hj1
    rw [← Bool.not_eq_true]
    intro hm
    obtain ⟨i, hi, e⟩ := (take_mem l j (by omega) _).1 hm
    have := (setTo_bit l (l[j]?.getD 0).toNat j).2 ⟨i, hi, by rw [e]⟩
    rw [hj1.2] at this; cases this

/-- Whether a list has each of 0, 1, .., its length - 1 once. -/
def okOrd (l : List Int) : Bool := decide (1 ≤ (l.length : Int) ∧ (l.length : Int) ≤ 7) && wordTo anySet l.length l l.length
theorem okOrd_len {l : List Int} (h : okOrd l = true) : 1 ≤ l.length ∧ l.length ≤ 7 := by
  simp only [okOrd, Bool.and_eq_true, decide_eq_true_eq] at h; omega
theorem okOrd_word {l : List Int} (h : okOrd l = true) : wordTo anySet l.length l l.length = true := by
  simp only [okOrd, Bool.and_eq_true] at h; exact h.2

/-- The sets of a chain up to its first k items. -/
def chF (l : List Int) : Nat → (Nat → Bool)
  | 0 => upd noSet 0 true
  | k + 1 => upd (chF l k) (setTo l (k + 1)) true
def chN (l : List Int) : Int := if okOrd l then l.length else 0
def chL (l : List Int) : List Int := if okOrd l then setsTo (chF l l.length) 128 else []
theorem chL_len (l : List Int) : (chL l).length < 1000000000 := by
  unfold chL
  split
  · have := setsTo_len (chF l l.length) 128; omega
  · simp

theorem chN_no {l : List Int} (h : okOrd l = false) : chN l = 0 := by simp [chN, h]
theorem chL_no {l : List Int} (h : okOrd l = false) : chL l = [] := by simp [chL, h]
theorem chN_yes {l : List Int} (h : okOrd l = true) : chN l = l.length := by simp [chN, h]
theorem chL_yes {l : List Int} (h : okOrd l = true) : chL l = setsTo (chF l l.length) 128 := by simp [chL, h]

end Go.Proofs.YtblglkgmnaklbaaDoor
