/- Mathematics: the greatest cost of a word, the least one of all words, and that the greedy word has it. No program is named here. -/
import Derived.Test.YtdalbjpjnfjgfaaDoorKa
import Derived.Test.YtdalbjpjnfjgfaaDoorWo
namespace Go.Proofs.YtdalbjpjnfjgfaaDoor
set_option maxRecDepth 100000
def mxi (a b : Int) : Int := if a < b then b else a
def mni (a b : Int) : Int := if b < a then b else a
theorem mxi_le {a b x : Int} : mxi a b ≤ x ↔ a ≤ x ∧ b ≤ x := by unfold mxi; split <;> omega
theorem le_mxi {a b x : Int} : x ≤ mxi a b ↔ x ≤ a ∨ x ≤ b := by unfold mxi; split <;> omega
theorem le_mni {a b x : Int} : x ≤ mni a b ↔ x ≤ a ∧ x ≤ b := by unfold mni; split <;> omega
theorem mni_le {a b x : Int} : mni a b ≤ x ↔ a ≤ x ∨ b ≤ x := by unfold mni; split <;> omega
theorem mxi_l (a b : Int) : a ≤ mxi a b := by unfold mxi; split <;> omega
theorem mxi_r (a b : Int) : b ≤ mxi a b := by unfold mxi; split <;> omega
/-- The greatest cost of the first items of a word, a at least. -/
def mxW (c : Nat → Nat → Int) (a : Int) (w : List Int) : Nat → Int
  | 0 => a
  | k + 1 => mxi (mxW c a w k) (c (setTo w k) (w[k]?.getD 0).toNat)
theorem mxW_next (c : Nat → Nat → Int) (a : Int) (w : List Int) (k : Nat) : mxW c a w (k + 1) = mxi (mxW c a w k) (c (setTo w k) (w[k]?.getD 0).toNat) := rfl
theorem mxW_least {c : Nat → Nat → Int} {a b : Int} {w : List Int} (h : ∀ j, j < w.length → b ≤ c (setTo w j) (w[j]?.getD 0).toNat) (hab : a ≤ b) : ∀ k, 0 < k → k ≤ w.length → mxW c a w k = mxW c b w k
  | 0, h0, _ => by omega
  | k + 1, _, hk => by
    rw [mxW, mxW]
    rcases Nat.eq_zero_or_pos k with h0 | h0
    · subst h0
      have := h 0 (by omega)
      rw [mxW, mxW]
      unfold mxi
      split <;> split <;> omega
    · rw [mxW_least h hab k h0 (by omega)]
theorem mxW_ge {c : Nat → Nat → Int} {a : Int} {w : List Int} : ∀ k j, j < k → c (setTo w j) (w[j]?.getD 0).toNat ≤ mxW c a w k
  | 0, j, h => by omega
  | k + 1, j, h => by
    rw [mxW, le_mxi]
    rcases Nat.lt_or_ge j k with h1 | h1
    · exact .inl (mxW_ge k j h1)
    · rw [show j = k by omega]; exact .inr (Int.le_refl _)
theorem mxW_base {c : Nat → Nat → Int} {a : Int} {w : List Int} : ∀ k, a ≤ mxW c a w k
  | 0 => Int.le_refl _
  | k + 1 => by rw [mxW, le_mxi]; exact .inl (mxW_base k)
theorem mxW_is {c : Nat → Nat → Int} {a : Int} {w : List Int} (h : ∀ j, j < w.length → a ≤ c (setTo w j) (w[j]?.getD 0).toNat) : ∀ k, 0 < k → k ≤ w.length → ∃ j, j < k ∧ c (setTo w j) (w[j]?.getD 0).toNat = mxW c a w k
  | 0, h0, _ => by omega
  | k + 1, _, hk => by
    rw [mxW]
    rcases Nat.eq_zero_or_pos k with h0 | h0
    · subst h0
      refine ⟨0, by omega, ?_⟩
      have := h 0 (by omega)
      rw [mxW]; unfold mxi; split <;> omega
    · obtain ⟨j, hj, e⟩ := mxW_is h k h0 (by omega)
      by_cases hlt : mxW c a w k < c (setTo w k) (w[k]?.getD 0).toNat
      · exact ⟨k, by omega, by unfold mxi; rw [if_pos hlt]⟩
      · exact ⟨j, by omega, by unfold mxi; rw [if_neg hlt, e]⟩
/-- The first item that costs so much. -/
def crK (c : Nat → Nat → Int) (g : Int) (w : List Int) : Nat → Option Nat
  | 0 => none
  | k + 1 => match crK c g w k with
    | some j => some j
    | none => if c (setTo w k) (w[k]?.getD 0).toNat = g then some k else none
theorem crK_none {c : Nat → Nat → Int} {g : Int} {w : List Int} : ∀ k, (∀ j, j < k → c (setTo w j) (w[j]?.getD 0).toNat ≠ g) → crK c g w k = none
  | 0, _ => rfl
  | k + 1, h => by rw [crK, crK_none k (fun j hj => h j (by omega))]; simp [h k (by omega)]
theorem crK_stay {c : Nat → Nat → Int} {g : Int} {w : List Int} {k j : Nat} (h : crK c g w k = some j) : ∀ m, k ≤ m → crK c g w m = some j
  | 0, hm => by have : k = 0 := by omega
                subst this; exact h
  | m + 1, hm => by
    rcases Nat.lt_or_ge m k with h1 | h1
    · rw [show m + 1 = k by omega]; exact h
    · rw [crK, crK_stay h m h1]
theorem crK_some {c : Nat → Nat → Int} {g : Int} {w : List Int} {k : Nat} (h : ∀ j, j < k → c (setTo w j) (w[j]?.getD 0).toNat ≠ g) (hk : c (setTo w k) (w[k]?.getD 0).toNat = g) : crK c g w (k + 1) = some k := by
  rw [crK, crK_none k h]; simp [hk]
/-! ### The least cost behind a set -/
def lcS (F : Nat → Bool) (c : Nat → Nat → Int) (A : Nat → Int) (s : Nat) : Nat → Int
  | 0 => 10000
  | i + 1 => if (!s.testBit i && F (p2s s i)) = true then mni (lcS F c A s i) (mxi (c s i) (A (p2s s i))) else lcS F c A s i
def lcF (F : Nat → Bool) (c : Nat → Nat → Int) (n : Nat) : Nat → Nat → Int
  | 0, _ => -10000
  | f + 1, s => if s = low n then -10000 else lcS F c (lcF F c n f) s n
def lc (F : Nat → Bool) (c : Nat → Nat → Int) (n : Nat) : Nat → Int := lcF F c n 8
theorem lcS_next (F : Nat → Bool) (c : Nat → Nat → Int) (A : Nat → Int) (s i : Nat) : lcS F c A s (i + 1) = if (!s.testBit i && F (p2s s i)) = true then mni (lcS F c A s i) (mxi (c s i) (A (p2s s i))) else lcS F c A s i := rfl
theorem lcS_congr {F : Nat → Bool} {c : Nat → Nat → Int} {A B : Nat → Int} {s : Nat} : ∀ k, (∀ i, i < k → s.testBit i = false → F (p2s s i) = true → A (p2s s i) = B (p2s s i)) → lcS F c A s k = lcS F c B s k
  | 0, _ => rfl
  | k + 1, h => by
    rw [lcS, lcS, lcS_congr k (fun i hi => h i (by omega))]
    split
    · rename_i hc
      simp only [Bool.and_eq_true, Bool.not_eq_true'] at hc
      rw [h k (by omega) hc.1 hc.2]
    · rfl
theorem lcF_more {F : Nat → Bool} {c : Nat → Nat → Int} {n : Nat} (h7 : n ≤ 7) : ∀ f s, s < 128 → 8 ≤ f + pc s → lcF F c n f s = lcF F c n (f + 1) s
  | 0, s, hs, h => by have := pc_le s; omega
  | f + 1, s, hs, h => by
    rw [lcF, lcF]
    split
    · rfl
    · refine lcS_congr n fun i hi hb _ => lcF_more h7 f _ (p2s_lt s i hs (by omega)) ?_
      have := pc_stepK s i hs (by omega) hb
      have e : p2s s i = s ||| p2 i := rfl
      rw [e]; omega
theorem lc_eq (F : Nat → Bool) (c : Nat → Nat → Int) {n : Nat} (h7 : n ≤ 7) (s : Nat) (hs : s < 128) : lc F c n s = if s = low n then -10000 else lcS F c (lc F c n) s n := by
  unfold lc
  rw [lcF_more h7 8 s hs (by omega), lcF]
attribute [local irreducible] p2 low memB risB
theorem lcS_le {F : Nat → Bool} {c : Nat → Nat → Int} {A : Nat → Int} {s : Nat} : ∀ k i, i < k → s.testBit i = false → F (p2s s i) = true → lcS F c A s k ≤ mxi (c s i) (A (p2s s i))
  | 0, i, h, _, _ => by omega
  | k + 1, i, h, hb, hF => by
    rw [lcS]
    rcases Nat.lt_or_ge i k with h1 | h1
    · have := lcS_le (c := c) (A := A) k i h1 hb hF
      split
      · rw [mni_le]; exact .inl this
      · exact this
    · have e : i = k := by omega
      subst e
      rw [hb, hF]
      simp only [Bool.not_false, Bool.and_self, if_true]
      rw [mni_le]; exact .inr (Int.le_refl _)
theorem le_lcS {F : Nat → Bool} {c : Nat → Nat → Int} {A : Nat → Int} {s : Nat} {B : Int} (hB : B ≤ 10000) : ∀ k, (∀ i, i < k → s.testBit i = false → F (p2s s i) = true → B ≤ mxi (c s i) (A (p2s s i))) → B ≤ lcS F c A s k
  | 0, _ => hB
  | k + 1, h => by
    have h1 := le_lcS (c := c) (A := A) hB k (fun i hi => h i (by omega))
    rw [lcS]
    split
    · rename_i hc
      simp only [Bool.and_eq_true, Bool.not_eq_true'] at hc
      rw [le_mni]
      exact ⟨h1, h k (by omega) hc.1 hc.2⟩
    · exact h1
/-- What is within a set at which all that can be learnt costs B at least leads on at a cost of B at least. -/
theorem lc_ge {F : Nat → Bool} {c : Nat → Nat → Int} {n : Nat} (h : Spc F n) (h7 : n ≤ 7) {g : Nat} {B : Int} (hg : F g = true) (hgn : g ≠ low n) (hB : B ≤ 10000)
    (hO : ∀ i, (outerOf F n g).testBit i = true → B ≤ c g i) (hmono : ∀ s t i, i < n → (∀ j, s.testBit j = true → t.testBit j = true) → c t i ≤ c s i) :
    ∀ m s, pc s + m = 8 → F s = true → (∀ j, s.testBit j = true → g.testBit j = true) → B ≤ lc F c n s
  | 0, s, hm, _, _ => by have := pc_le s; omega
  | m + 1, s, hm, hs, hsg => by
    have hp := p2_le n 7 h7
    have hsn := h.lt s hs
    have hgN := h.lt g hg
    rw [lc_eq F c h7 s (by omega)]
    have hne : s ≠ low n := by
      intro e
      apply hgn
      apply Nat.eq_of_testBit_eq
      intro i
      rw [Bool.eq_iff_iff]
      constructor
      · intro hi
        rw [low_bit, decide_eq_true_eq]; exact bit_ltK hgN hi
      · intro hi; rw [← e] at hi; exact hsg i hi
    rw [if_neg hne]
    refine le_lcS hB n fun i hi hb hF => ?_
    rw [le_mxi]
    cases hgi : g.testBit i
    · left
      have hu := h.uni g (p2s s i) hg hF
      have e : g ||| p2s s i = g ||| p2 i := by
        apply Nat.eq_of_testBit_eq
        intro j
        unfold p2s
        rw [Nat.testBit_or, Nat.testBit_or, Nat.testBit_or]
        cases hsj : s.testBit j
        · simp
        · simp [hsg j hsj]
      rw [e] at hu
      have h1 := hO i (outer_mem hi hgi hu)
      have h2 := hmono s g i hi hsg
      omega
    · right
      have hpcs := pc_stepK s i (by omega) (by omega) hb
      refine lc_ge h h7 hg hgn hB hO hmono m (p2s s i) ?_ hF ?_
      · have : p2s s i = s ||| p2 i := rfl
        rw [this]; omega
      · intro j hj
        unfold p2s at hj
        rw [Nat.testBit_or, Bool.or_eq_true] at hj
        rcases hj with hj | hj
        · exact hsg j hj
        · rw [p2_bit, decide_eq_true_eq] at hj
          rw [← hj]; exact hgi
/-- The greedy word costs least. -/
theorem greedy_best {F : Nat → Bool} {c : Nat → Nat → Int} {n : Nat} (h : Spc F n) (h1 : 1 ≤ n) (h7 : n ≤ 7) (hbd : ∀ s i, i < n → -10000 ≤ c s i ∧ c s i ≤ 10000)
    (hmono : ∀ s t i, i < n → (∀ j, s.testBit j = true → t.testBit j = true) → c t i ≤ c s i) :
    lc F c n 0 = mxW c (-10000) (grW c (outerOf F n) n) n := by
  have hcost : ∀ k, k < n → c (setTo (grW c (outerOf F n) n) k) ((grW c (outerOf F n) n)[k]?.getD 0).toNat = c (gs c (outerOf F n) k) (gi c (outerOf F n) k) := by
    intro k hk
    rw [gs_set _ _ n k (by omega), grW_at _ _ n k hk, Int.toNat_natCast]
  have hp := p2_le n 7 h7
  apply Int.le_antisymm
  · have key : ∀ k, k ≤ n → lc F c n 0 ≤ mxi (mxW c (-10000) (grW c (outerOf F n) n) k) (lc F c n (gs c (outerOf F n) k)) := by
      intro k
      induction k with
      | zero => intro _; rw [le_mxi]; exact .inr (Int.le_refl _)
      | succ k ih =>
        intro hk
        have h2 := ih (by omega)
        have hF := (gs_ok c h h7 k (by omega)).1
        have hlt := h.lt _ hF
        obtain ⟨g1, g2, g3⟩ := outer_in (gi_ok c h h7 (show k < n by omega)).1
        have h3 : lc F c n (gs c (outerOf F n) k) ≤ mxi (c (gs c (outerOf F n) k) (gi c (outerOf F n) k)) (lc F c n (gs c (outerOf F n) (k + 1))) := by
          rw [lc_eq F c h7 _ (by omega), if_neg (gs_ne c h h7 (by omega))]
          exact lcS_le n _ g1 g2 g3
        rw [mxW_next, hcost k (by omega)]
        rw [le_mxi] at h2 h3 ⊢
        rcases h2 with h2 | h2
        · left; rw [le_mxi]; exact .inl h2
        · rcases h3 with h3 | h3
          · left; rw [le_mxi]; right; omega
          · right; omega
    have h2 := key n (Nat.le_refl _)
    rw [gs_full c h h7, lc_eq F c h7 _ (low_lt n h7), if_pos rfl, le_mxi] at h2
    rcases h2 with h2 | h2
    · exact h2
    · exact Int.le_trans h2 (mxW_base n)
  · obtain ⟨k, hk, e⟩ := mxW_is (c := c) (a := -10000) (w := grW c (outerOf F n) n) (fun j hj => by rw [grW_len] at hj; rw [hcost j hj]; exact (hbd _ _ (gi_in c h h7 hj).1).1) n h1 (by rw [grW_len]; exact Nat.le_refl _)
    rw [hcost k hk] at e
    have hx := gi_ok c h h7 hk
    have hb := hbd (gs c (outerOf F n) k) (gi c (outerOf F n) k) (gi_in c h h7 hk).1
    rw [← e]
    exact lc_ge h h7 (gs_ok c h h7 k (by omega)).1 (gs_ne c h h7 hk) hb.2 (fun i hi => hx.2.1 i hi) hmono 8 0 (by show pc 0 + 8 = 8; decide) h.zero (fun j hj => by rw [Nat.zero_testBit] at hj; cases hj)
end Go.Proofs.YtdalbjpjnfjgfaaDoor
