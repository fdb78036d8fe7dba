/- Contracts: what is reached in a net within a set, joined sets and trees, the specification's. -/
import Derived.Test.YtknjiomagdfgfaaDoorNc
import Derived.Test.YtknjiomagdfgfaaDoorNf
namespace Go.Proofs.YtknjiomagdfgfaaDoor
open Go.RowKit
set_option maxRecDepth 100000
/-- One walk over all points, k of them done: y is what was reached, last what was before it. -/
def GsIn (l : List Int) (s i last k y : Nat) : Prop := sub last y ∧ y.testBit i = true ∧ (∀ X, Closed l s X → X.testBit i = true → sub y X) ∧ (y = last → ∀ p, p < k → last.testBit p = true → sub (nth l p &&& s) last)
theorem GsIn.skip {l : List Int} {s i last k y : Nat} (h : GsIn l s i last k y) (hb : y.testBit k = false) : GsIn l s i last (k + 1) y := by
  obtain ⟨h1, h2, h3, h4⟩ := h
  refine ⟨h1, h2, h3, fun e p hp hl => ?_⟩
  rcases Nat.lt_or_ge p k with h' | h'
  · exact h4 e p h' hl
  · have : p = k := by omega
    subst this; rw [e, hl] at hb; cases hb
theorem GsIn.take {l : List Int} {s i last k y : Nat} (h : GsIn l s i last k y) (hb : y.testBit k = true) : GsIn l s i last (k + 1) (y ||| (nth l k &&& s)) := by
  obtain ⟨h1, h2, h3, h4⟩ := h
  have hup : sub y (y ||| (nth l k &&& s)) := fun q hq => by rw [Nat.testBit_or, hq]; rfl
  refine ⟨h1.trans hup, hup i h2, fun X hX hi q hq => ?_, fun e p hp hl => ?_⟩
  · rw [Nat.testBit_or, Bool.or_eq_true, Nat.testBit_and, Bool.and_eq_true] at hq
    rcases hq with hq | hq
    · exact h3 X hX hi q hq
    · exact hX k q (h3 X hX hi k hb) hq.1 hq.2
  · have ey : y = last := sub.anti (by rw [e] at hup; exact hup) h1
    rcases Nat.lt_or_ge p k with h' | h'
    · exact h4 ey p h' hl
    · have : p = k := by omega
      subst this
      intro q hq
      rw [← e, Nat.testBit_or, hq]; simp
/-- What the walks over all points have reached. -/
def GsOut (l : List Int) (s i last y : Nat) : Prop := y.testBit i = true ∧ (∀ X, Closed l s X → X.testBit i = true → sub y X) ∧ (last = y → Closed l s y)
theorem GsIn.start {l : List Int} {s i last y : Nat} (h : GsOut l s i last y) : GsIn l s i y 0 y := ⟨fun _ h => h, h.1, h.2.1, fun _ p hp => by omega⟩
theorem GsIn.done {l : List Int} {s i last y : Nat} (hl : ∀ p, p < l.length ∨ nth l p = 0) (h : GsIn l s i last l.length y) : GsOut l s i last y := by
  obtain ⟨h1, h2, h3, h4⟩ := h
  refine ⟨h2, h3, fun e p q hp hpq hq => ?_⟩
  subst e
  rcases hl p with h' | h'
  · exact h4 rfl p h' hp q (by rw [Nat.testBit_and, hpq, hq]; rfl)
  · rw [h'] at hpq; simp at hpq
theorem GsOut.end {l : List Int} {s i y : Nat} (hi : i < 7) (hs : s < 128) (h : GsOut l s i y y) : reachS l s i = y := reach_eq hi hs h.1 (h.2.2 rfl) h.2.1
theorem GsOut.first {l : List Int} {s i : Nat} : GsOut l s i 0 (p2 i) := ⟨by rw [p2_bit]; simp, fun _ _ h => p2_sub h, fun e => by have := p2_pos i; unfold p2 at e; omega⟩
theorem nth_out (l : List Int) (p : Nat) : p < l.length ∨ nth l p = 0 := by
  rcases Nat.lt_or_ge p l.length with h | h
  · exact .inl h
  · exact .inr (by unfold nth; rw [List.getElem?_eq_none h]; rfl)
/-- What was reached grows, or stays. -/
theorem gs_more {l : List Int} {s i last k y : Nat} (hy : y < 128) (hl : last < 128) (h : GsIn l s i last k y) (hne : last ≠ y) : pc last < pc y := pc_subN hl hy h.1 hne
theorem jnB_at {l : List Int} {s k : Nat} (hs : s < 128) (hb : s.testBit k = true) (hk : ∀ j, j < k → s.testBit j = false) : jnB l s = (reachS l s k == s) := by
  have h0 : s ≠ 0 := fun h => by rw [h] at hb; simp at hb
  have e : tzN s = k := by
    have h1 := tzN_least s hs k (bit_lt (n := 7) hs hb) hb
    have h2 := tzN_bit s hs h0
    rcases Nat.lt_or_ge (tzN s) k with h | h
    · rw [hk _ h] at h2; cases h2
    · omega
  unfold jnB
  rw [e, Bool.eq_iff_iff, Bool.or_eq_true, beq_iff_eq]
  constructor
  · rintro (h | h)
    · exact absurd h h0
    · exact h
  · exact .inr
theorem jnB_none {l : List Int} {s n : Nat} (hs : s < 2 ^ n) (hk : ∀ j, j < n → s.testBit j = false) : jnB l s = true := by
  have : s = 0 := by
    apply Nat.eq_of_testBit_eq
    intro i
    rw [Nat.zero_testBit]
    rcases Nat.lt_or_ge i n with h | h
    · exact hk i h
    · exact Nat.testBit_lt_two_pow (Nat.lt_of_lt_of_le hs (p2_le n i h))
  rw [this]; rfl
attribute [local irreducible] p2 low memB risB
end Go.Proofs.YtknjiomagdfgfaaDoor
