/- Contracts: WayBetween, the program's and the specification's. -/
import Derived.Test.YtonimjpfaalniaaDoorNk
import Derived.Test.YtonimjpfaalniaaDoorHi
namespace Go.Proofs.YtonimjpfaalniaaDoor
open Go.RowKit
set_option maxRecDepth 100000
set_option linter.unusedSimpArgs false
def wbB (l : List Int) (a b : Int) : Bool := treB l && (decide (0 ≤ a ∧ a < (l.length : Int)) && decide (0 ≤ b ∧ b < (l.length : Int)))
def wbR (l : List Int) (a b : Int) : Int := if wbB l a b then (wayS l a.toNat b.toNat : Int) else 0
theorem wb_no {l : List Int} {a b : Int} (h : wbB l a b = false) : wbR l a b = 0 ∧ wbB l a b = false := by unfold wbR; rw [h]; exact ⟨rfl, rfl⟩
theorem wb_no1 {l : List Int} {a b : Int} (h : treB l = false) : wbB l a b = false := by unfold wbB; rw [h]; rfl
theorem wb_no2 {l : List Int} {a b : Int} (h : ¬ (0 ≤ a ∧ a < (l.length : Int))) : wbB l a b = false := by unfold wbB; rw [decide_eq_false h]; simp
theorem wb_no3 {l : List Int} {a b : Int} (h : ¬ (0 ≤ b ∧ b < (l.length : Int))) : wbB l a b = false := by unfold wbB; rw [decide_eq_false h]; simp
theorem wb_yes {l : List Int} {a b : Nat} (h : treB l = true) (ha : a < l.length) (hb : b < l.length) : wbR l a b = (wayS l a b : Int) ∧ wbB l a b = true := by
  have : wbB l a b = true := by unfold wbB; rw [h, decide_eq_true (by omega), decide_eq_true (by omega)]; rfl
  unfold wbR; rw [this]; exact ⟨rfl, rfl⟩
/-- The hull of two points of a tree. -/
theorem way_hull {l : List Int} (ht : treB l = true) {a b : Nat} (ha : a < l.length) (hb : b < l.length) :
    hullOf (cutAt (treK l) (low l.length + 1)) l.length (p2 a ||| p2 b) = wayS l a b := by
  have h7 := (treB_n ht).2
  have hN : neB l = true := by unfold treB at ht; rw [Bool.and_eq_true] at ht; exact ht.1
  have hlo := low_lt l.length h7
  have hls := low_succ l.length
  apply Nat.eq_of_testBit_eq
  intro i
  unfold hullOf wayS
  rw [andNot_bit, low_bit, itemsOf_bit]
  by_cases hi : i < l.length
  · rw [decide_eq_true hi, Bool.true_and, Bool.true_and, Bool.eq_iff_iff, Bool.not_eq_true']
    unfold withinOf
    have hob := orTo_bit (pickIn (cutAt (treK l) (low l.length + 1)) (andNot (low l.length) (p2 a ||| p2 b))) i (2 ^ l.length)
    rw [hob, decide_eq_false_iff_not]
    -- what lies within the others
    have hpick : (∃ s, s < 2 ^ l.length ∧ (pickIn (cutAt (treK l) (low l.length + 1)) (andNot (low l.length) (p2 a ||| p2 b)) s).testBit i = true) ↔
        ∃ L, sub L (low l.length) ∧ L.testBit a = true ∧ L.testBit b = true ∧ L.testBit i = false ∧ jnB l L = true := by
      constructor
      · rintro ⟨s, hs, h⟩
        unfold pickIn at h
        split at h
        · rename_i hc
          rw [Bool.and_eq_true, beq_iff_eq, sub_or] at hc
          obtain ⟨hc1, hc2⟩ := hc
          unfold cutAt at hc1
          rw [Bool.and_eq_true] at hc1
          have hno : ∀ j, (p2 a ||| p2 b).testBit j = true → s.testBit j = false := fun j hj => by
            cases e : s.testBit j
            · rfl
            · have := hc2 j e
              rw [andNot_bit, hj] at this
              simp at this
          refine ⟨andNot (low l.length) s, low_sub _ _, ?_, ?_, ?_, hc1.2⟩
          · rw [andNot_bit, low_bit, decide_eq_true ha, hno a (by rw [Nat.testBit_or, p2_bit]; simp)]; rfl
          · rw [andNot_bit, low_bit, decide_eq_true hb, hno b (by rw [Nat.testBit_or, p2_bit, p2_bit]; simp)]; rfl
          · rw [andNot_bit, h]; simp
        · simp at h
      · rintro ⟨L, h1, h2, h3, h4, h5⟩
        have hback : andNot (low l.length) (andNot (low l.length) L) = L := by
          apply Nat.eq_of_testBit_eq
          intro j
          rw [andNot_bit, andNot_bit]
          cases e : L.testBit j
          · cases (low l.length).testBit j <;> rfl
          · rw [h1 j e]; rfl
        have hlt := andNot_lt (low l.length) L l.length (low_pow _)
        refine ⟨andNot (low l.length) L, hlt, ?_⟩
        unfold pickIn
        rw [if_pos]
        · rw [andNot_bit, low_bit, decide_eq_true hi, h4]; rfl
        · rw [Bool.and_eq_true, beq_iff_eq, sub_or]
          constructor
          · unfold cutAt
            rw [Bool.and_eq_true, decide_eq_true_eq]
            refine ⟨by omega, ?_⟩
            show jnB l (andNot (low l.length) (andNot (low l.length) L)) = true
            rw [hback]; exact h5
          · intro j hj
            rw [andNot_bit, Bool.and_eq_true, Bool.not_eq_true'] at hj ⊢
            refine ⟨hj.1, ?_⟩
            rw [Nat.testBit_or, p2_bit, p2_bit]
            by_cases ea : a = j
            · subst ea; rw [h2] at hj; cases hj.2
            · by_cases eb : b = j
              · subst eb; rw [h3] at hj; cases hj.2
              · simp [ea, eb]
    rw [hpick]
    unfold wayK
    by_cases eia : i = a
    · subst eia
      simp only [decide_true, Bool.true_or, iff_true]
      rintro ⟨L, _, h2, _, h4, _⟩
      rw [h2] at h4; cases h4
    · by_cases eib : i = b
      · subst eib
        simp only [decide_true, Bool.or_true, Bool.true_or, iff_true]
        rintro ⟨L, _, _, h3, h4, _⟩
        rw [h3] at h4; cases h4
      · rw [decide_eq_false eia, decide_eq_false eib, Bool.or_false, Bool.false_or, Bool.not_eq_true']
        have hS : andNot (low l.length) (p2 i) < 128 := andNot_lt128 _ _ hlo
        have haS : (andNot (low l.length) (p2 i)).testBit a = true := by rw [andNot_bit, low_bit, p2_bit]; simp [ha, eia]
        have hw := way_iff (b := b) hN hS haS
        rw [← Bool.not_eq_true, hw]
        constructor
        · intro h ⟨L, h1, h2, h3, h4⟩
          refine h ⟨L, fun j hj => low_sub _ _ j (h1 j hj), h2, h3, ?_, h4⟩
          cases e : L.testBit i
          · rfl
          · have := h1 i e
            rw [andNot_bit, p2_bit] at this
            simp at this
        · intro h ⟨L, h1, h2, h3, h4, h5⟩
          refine h ⟨L, fun j hj => ?_, h2, h3, h5⟩
          rw [andNot_bit, p2_bit, h1 j hj]
          by_cases e : i = j
          · subst e; rw [h4] at hj; cases hj
          · simp [e]
  · rw [decide_eq_false hi, Bool.false_and, Bool.false_and]
end Go.Proofs.YtonimjpfaalniaaDoor
