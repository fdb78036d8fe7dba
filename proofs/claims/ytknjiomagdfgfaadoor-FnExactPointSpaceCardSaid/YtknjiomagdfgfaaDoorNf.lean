/- Contracts: a net with a set of its points: neighbours that are left, whether what is left is joined (the program's). -/
import Derived.Test.YtknjiomagdfgfaaDoorNc
import Derived.Test.YtknjiomagdfgfaaDoorCnt
import Derived.Test.YtknjiomagdfgfaaDoorBx
namespace Go.Proofs.YtknjiomagdfgfaaDoor
open Go.RowKit
set_option maxRecDepth 100000
theorem rowSet : (Tryd.prog.underlying 64).map TypeDesc.isRow = some false := by kernel_rfl
/-- The points that are reached behind the first j of those that were reached. -/
def RdIn (l : List Int) (s x j y : Nat) : Prop := ∀ q, y.testBit q = true ↔ x.testBit q = true ∨ ∃ m, m < j ∧ (nth l (nth (itemsL x) m) &&& s).testBit q = true
theorem RdIn.start (l : List Int) (s x : Nat) : RdIn l s x 0 x := by
  intro q
  constructor
  · exact .inl
  · rintro (h | ⟨m, hm, _⟩)
    · exact h
    · omega
theorem RdIn.next {l : List Int} {s x j y : Nat} (h : RdIn l s x j y) : RdIn l s x (j + 1) (y ||| (nth l (nth (itemsL x) j) &&& s)) := by
  intro q
  rw [Nat.testBit_or, Bool.or_eq_true, h q]
  constructor
  · rintro ((h | ⟨m, hm, h⟩) | h)
    · exact .inl h
    · exact .inr ⟨m, by omega, h⟩
    · exact .inr ⟨j, by omega, h⟩
  · rintro (h | ⟨m, hm, h⟩)
    · exact .inl (.inl h)
    · rcases Nat.lt_or_ge m j with h' | h'
      · exact .inl (.inr ⟨m, h', h⟩)
      · rw [show m = j by omega] at h; exact .inr h
theorem RdIn.done {l : List Int} {s x y : Nat} (hx : x < 128) (h : RdIn l s x (itemsL x).length y) : y = rd l s x := by
  apply Nat.eq_of_testBit_eq
  intro q
  rw [Bool.eq_iff_iff, h q, rd_bit]
  constructor
  · rintro (h | ⟨m, hm, h⟩)
    · exact .inl h
    · obtain ⟨_, i2, i3⟩ := item_at hx hm
      rw [Nat.testBit_and, Bool.and_eq_true] at h
      exact .inr ⟨_, i2, i3, h.1, h.2⟩
  · rintro (h | ⟨p, hp, h1, h2, h3⟩)
    · exact .inl h
    · obtain ⟨m, hm, e⟩ := (items_mem hx).1 h1
      exact .inr ⟨m, hm, by rw [e, Nat.testBit_and, h2, h3]; rfl⟩
theorem rdTo_next (l : List Int) (s x k : Nat) : rdTo l s x (k + 1) = rd l s (rdTo l s x k) := rfl
theorem sub_lt {a n : Nat} {s : Nat} (hs : s < 2 ^ n) (h : sub a s) {i : Nat} (hi : a.testBit i = true) : i < n := bit_lt hs (h i hi)
theorem jnB_zero (l : List Int) : jnB l 0 = true := rfl
theorem jnB_rounds {l : List Int} {s : Nat} (hs : s < 128) (h0 : s ≠ 0) : jnB l s = (rdTo l s (p2 (tzN s)) (pc s) == s) := by
  unfold jnB
  rw [Bool.eq_iff_iff, Bool.or_eq_true, beq_iff_eq, beq_iff_eq, beq_iff_eq, reach_rounds hs (tzN_bit s hs h0)]
  constructor
  · rintro (h | h)
    · exact absurd h h0
    · exact h
  · exact .inr
attribute [local irreducible] p2 low memB risB
theorem by_tab {T : TypeId} {v u : Value} {w wr : World} (h : Below (w.heap.size + 1) (w.alloc (.cells #[v, u] T)) wr) (hT : tab w) : tab wr := hT.below (by_below h)
end Go.Proofs.YtknjiomagdfgfaaDoor
