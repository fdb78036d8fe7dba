/- The first set by size and number, found from below and from above, is the same. -/
import Derived.Test.YtfmegbpoohiepaaLe
namespace Go.Proofs.Ytfmegbpoohiepaa
open Go.RowKit
set_option maxRecDepth 100000
attribute [local irreducible] p2 low memB risB

theorem pc_low (n : Nat) (hn : n ≤ 7) (y : Nat) (hy : y < low n) : pc y < pc (low n) := by
  have key : ∀ n, n ≤ 7 → ∀ y, y < 2 ^ n - 1 → pc y < pc (2 ^ n - 1) := by decide +kernel
  have e : low n = 2 ^ n - 1 := by have := low_succ n; omega
  rw [e] at hy ⊢
  exact key n hn y hy

attribute [local irreducible] pc
def lexLe (x y : Nat) : Prop := pc x < pc y ∨ (pc x = pc y ∧ x ≤ y)
def fewTo (l : List Int) (s b : Nat) : Nat → Nat
  | 0 => b
  | m + 1 => if andNot s (nth l (l.length - 1 - m)) == 0 && decide (pc (nth l (l.length - 1 - m)) ≤ pc (fewTo l s b m)) then nth l (l.length - 1 - m) else fewTo l s b m

theorem best_inv (F : Nat → Bool) (s n : Nat) (hn : n ≤ 7) (hF : ∀ x, F x = true → x ≤ low n) : ∀ k,
    (bestTo F s (low n) k = low n ∨ (bestTo F s (low n) k < k ∧ F (bestTo F s (low n) k) = true ∧ andNot s (bestTo F s (low n) k) = 0)) ∧ lexLe (bestTo F s (low n) k) (low n) ∧
    ∀ y, y < k → F y = true → andNot s y = 0 → lexLe (bestTo F s (low n) k) y
  | 0 => ⟨.inl rfl, .inr ⟨rfl, Nat.le_refl _⟩, fun y hy => by omega⟩
  | k + 1 => by
    obtain ⟨h1, h2, h3⟩ := best_inv F s n hn hF k
    unfold bestTo
    generalize bestTo F s (low n) k = q at h1 h2 h3 ⊢
    unfold lexLe at *
    by_cases hc : (F k && andNot s k == 0 && decide (pc k < pc q)) = true
    · rw [if_pos hc]
      simp only [Bool.and_eq_true, beq_iff_eq, decide_eq_true_eq] at hc
      have hkl := hF k hc.1.1
      refine ⟨.inr ⟨by omega, hc.1⟩, by omega, fun y hy hy1 hy2 => ?_⟩
      rcases Nat.lt_or_ge y k with h | h
      · have := h3 y h hy1 hy2; omega
      · have : y = k := by omega
        subst this; omega
    · rw [if_neg hc]
      simp only [Bool.and_eq_true, beq_iff_eq, decide_eq_true_eq, not_and] at hc
      refine ⟨h1.imp_right fun h => ⟨by omega, h.2⟩, h2, fun y hy hy1 hy2 => ?_⟩
      rcases Nat.lt_or_ge y k with h | h
      · exact h3 y h hy1 hy2
      · have : y = k := by omega
        subst this
        have hq := hc ⟨hy1, hy2⟩
        have hyl := hF y hy1
        have hpl := pc_low n hn y
        rcases h1 with h1 | h1
        · subst h1; omega
        · omega

theorem few_inv (l : List Int) (s n : Nat) (hinc : ∀ i j, i < j → j < l.length → nth l i < nth l j) (hle : ∀ j, j < l.length → nth l j ≤ low n) : ∀ m, m ≤ l.length →
    (fewTo l s (low n) m = low n ∨ ∃ j, j < l.length ∧ fewTo l s (low n) m = nth l j ∧ andNot s (nth l j) = 0) ∧ lexLe (fewTo l s (low n) m) (low n) ∧
    ∀ j, l.length - m ≤ j → j < l.length → andNot s (nth l j) = 0 → lexLe (fewTo l s (low n) m) (nth l j)
  | 0, _ => ⟨.inl rfl, .inr ⟨rfl, Nat.le_refl _⟩, fun j h1 h2 => by omega⟩
  | m + 1, hm => by
    obtain ⟨h1, h2, h3⟩ := few_inv l s n hinc hle m (by omega)
    unfold fewTo
    generalize fewTo l s (low n) m = q at h1 h2 h3 ⊢
    have hj0 : l.length - 1 - m < l.length := by omega
    have hll := hle _ hj0
    unfold lexLe at *
    by_cases hc : (andNot s (nth l (l.length - 1 - m)) == 0 && decide (pc (nth l (l.length - 1 - m)) ≤ pc q)) = true
    · rw [if_pos hc]
      simp only [Bool.and_eq_true, beq_iff_eq, decide_eq_true_eq] at hc
      refine ⟨.inr ⟨_, hj0, rfl, hc.1⟩, by omega, fun j hj hj2 hj3 => ?_⟩
      rcases Nat.lt_or_ge (l.length - 1 - m) j with h | h
      · have := h3 j (by omega) hj2 hj3
        have := hinc _ j h hj2
        omega
      · have : j = l.length - 1 - m := by omega
        subst this; omega
    · rw [if_neg hc]
      simp only [Bool.and_eq_true, beq_iff_eq, decide_eq_true_eq, not_and] at hc
      refine ⟨h1, h2, fun j hj hj2 hj3 => ?_⟩
      rcases Nat.lt_or_ge (l.length - 1 - m) j with h | h
      · exact h3 j (by omega) hj2 hj3
      · have : j = l.length - 1 - m := by omega
        subst this
        have := hc hj3
        omega

theorem least_same {n : Int} {l : List Int} (h : okSp n l = true) (s : Nat) : bestTo (marksTo l l.length) s (low n.toNat) 128 = fewTo l s (low n.toNat) l.length := by
  obtain ⟨hn1, hn2⟩ := okSp_n h
  have hn : n.toNat ≤ 7 := by omega
  have hlo := low_lt n.toNat hn
  have hpos := okSp_pos h
  have hle : ∀ j, j < l.length → nth l j ≤ low n.toNat := fun j hj => by have := hpos j hj; unfold nth; omega
  have hin : ∀ i j, i < j → j < l.length → nth l i < nth l j := fun i j hij hj => by
    have h1 := okSp_inc h i j hij hj
    have h2 := hpos i (by omega)
    have h3 := hpos j hj
    unfold nth; omega
  have hF : ∀ x, marksTo l l.length x = true → x ≤ low n.toNat := fun x hx => by
    obtain ⟨j, hj, e⟩ := (marks_iff l x l.length).1 hx
    have := hle j hj
    unfold nth at this; omega
  obtain ⟨a1, a2, a3⟩ := best_inv (marksTo l l.length) s n.toNat hn hF 128
  obtain ⟨b1, b2, b3⟩ := few_inv l s n.toNat hin hle l.length (Nat.le_refl _)
  generalize bestTo (marksTo l l.length) s (low n.toNat) 128 = x at *
  generalize fewTo l s (low n.toNat) l.length = y at *
  have c1 : lexLe x y := by
    rcases b1 with b1 | ⟨j, hj, e, hs⟩
    · rw [b1]; exact a2
    · rw [e]; exact a3 _ (by have := hle j hj; omega) ((marks_iff l _ _).2 ⟨j, hj, rfl⟩) hs
  have c2 : lexLe y x := by
    rcases a1 with a1 | ⟨_, hm, hs⟩
    · rw [a1]; exact b2
    · obtain ⟨j, hj, e⟩ := (marks_iff l x l.length).1 hm
      have e' : nth l j = x := e
      rw [← e']; exact b3 j (by omega) hj (by rw [e']; exact hs)
  unfold lexLe at c1 c2
  omega
end Go.Proofs.Ytfmegbpoohiepaa
