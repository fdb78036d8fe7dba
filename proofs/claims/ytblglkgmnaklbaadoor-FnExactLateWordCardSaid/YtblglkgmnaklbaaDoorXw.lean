/- Contracts: ExchangeWord, the program's and the specification's. -/
import Derived.Test.YtblglkgmnaklbaaDoorWs
import Derived.Test.YtblglkgmnaklbaaDoorCh
namespace Go.Proofs.YtblglkgmnaklbaaDoor
open Go.RowKit
set_option maxRecDepth 100000
attribute [local irreducible] p2 low memB risB

/-- a, and behind it what the first k items of b have more. -/
def exTo (a b : List Int) : Nat → List Int
  | 0 => a
  | k + 1 => if (setTo a a.length).testBit (b[k]?.getD 0).toNat = true then exTo a b k else exTo a b k ++ [b[k]?.getD 0]
theorem exTo_len (a b : List Int) : ∀ k, (exTo a b k).length ≤ a.length + k
  | 0 => by simp [exTo]
  | k + 1 => by
    have := exTo_len a b k
    rw [exTo]
    split
    · omega
    · simp; omega
def exB (n : Int) (l a b : List Int) : Bool := okWd n l a && okWd n l b
def exL (n : Int) (l a b : List Int) : List Int := if exB n l a b then exTo a b b.length else []
theorem wordTo_len {F : Nat → Bool} {n : Nat} {l : List Int} : wordTo F n l l.length = true → ∀ j, j < l.length → 0 ≤ l[j]?.getD 0 ∧ l[j]?.getD 0 < (n : Int) := fun h j hj => by
  have := (wordTo_iff F n l l.length).1 h j hj
  simp only [stepB, Bool.and_eq_true, decide_eq_true_eq] at this
  exact this.1
theorem okWd_in {n : Int} {l m : List Int} (h : okWd n l m = true) : ∀ j, j < m.length → 0 ≤ m[j]?.getD 0 ∧ m[j]?.getD 0 < n := fun j hj => by
  have h1 := okWd_sp h
  rw [okWd_yes h1] at h
  have := wordTo_len h j hj
  have := okSp_n h1
  omega
theorem okWd_set {n : Int} {l m : List Int} (h : okWd n l m = true) : setTo m m.length < 128 := by
  have h1 := okWd_sp h
  rw [okWd_yes h1] at h
  have h2 := setTo_lt m.length h
  have h3 := okSp_n h1
  have := p2_le n.toNat 7 (by omega)
  omega
theorem word_short {F : Nat → Bool} {n : Nat} {l : List Int} (hw : wordTo F n l l.length = true) : l.length ≤ n := by
  have hi := (wordTo_iff F n l l.length).1 hw
  have hin := wordTo_len hw
  have hinj : ∀ i j, i < j → j < l.length → (l[i]?.getD 0).toNat ≠ (l[j]?.getD 0).toNat := by
    intro i j hij hj e
    have h2 := hi j hj
    simp only [stepB, Bool.and_eq_true, decide_eq_true_eq, Bool.not_eq_true'] at h2
    have := (setTo_bit l (l[j]?.getD 0).toNat j).2 ⟨i, hij, e⟩
    rw [h2.2.1] at this; cases this
  have key := List.Nodup.length_le_of_subset (l₁ := (List.range l.length).map fun j => (l[j]?.getD 0).toNat) (l₂ := List.range n) ?_ ?_
  · simpa using key
  · rw [List.nodup_iff_pairwise_ne, List.pairwise_map, List.pairwise_iff_getElem]
    intro i j hi1 hj1 hij
    simp at hi1 hj1 ⊢
    exact hinj i j hij hj1
  · intro x hx
    simp at hx ⊢
    obtain ⟨j, hj, rfl⟩ := hx
    have := hin j hj
    omega
theorem exL_len (n : Int) (l a b : List Int) : (exL n l a b).length < 1000000000 := by
  unfold exL
  split
  · rename_i h
    simp only [exB, Bool.and_eq_true] at h
    have h1 := okWd_sp h.1
    have h2 := h.1
    have h3 := h.2
    rw [okWd_yes h1] at h2 h3
    have h4 := word_short h2
    have h5 := word_short h3
    have h6 := okSp_n h1
    have := exTo_len a b b.length
    omega
  · simp
theorem ex_has {n : Int} {l a b : List Int} (ha : okWd n l a = true) (hb : okWd n l b = true) (k : Nat) (hk : k < b.length) : memB a (b[k]?.getD 0) = (setTo a a.length).testBit (b[k]?.getD 0).toNat := by
  have h1 := okWd_in ha
  have h2 := okWd_in hb k hk
  rw [Bool.eq_iff_iff, mem_iff, setTo_bit]
  constructor
  · rintro ⟨j, hj, e⟩; exact ⟨j, hj, by rw [e]⟩
  · rintro ⟨j, hj, e⟩
    have := h1 j hj
    exact ⟨j, hj, by omega⟩
theorem exB_no1 {n : Int} {l a b : List Int} (h : okWd n l a = false) : exB n l a b = false := by simp [exB, h]
theorem exB_no2 {n : Int} {l a b : List Int} (h : okWd n l b = false) : exB n l a b = false := by simp [exB, h]
theorem exB_yes {n : Int} {l a b : List Int} (h : okWd n l a = true) (h2 : okWd n l b = true) : exB n l a b = true := by simp [exB, h, h2]
theorem exL_no {n : Int} {l a b : List Int} (h : exB n l a b = false) : exL n l a b = [] := by simp [exL, h]
theorem exL_yes {n : Int} {l a b : List Int} (h : exB n l a b = true) : exL n l a b = exTo a b b.length := by simp [exL, h]

end Go.Proofs.YtblglkgmnaklbaaDoor
