/- Mathematics: full words hold each item once; a number moved to the front by exchanges. -/
import Derived.Test.YtagahoaogfogkaaFu
import Derived.Test.YtagahoaogfogkaaSw
import Derived.Test.YtagahoaogfogkaaCnt
namespace Go.Proofs.Ytagahoaogfogkaa
set_option maxRecDepth 100000
theorem pc_orP : ∀ s, s < 128 → ∀ i, i < 7 → s.testBit i = false → pc (s ||| p2 i) = pc s + 1 := by decide +kernel
theorem pc_top : ∀ n, n < 8 → ∀ s, s < 128 → s < 2 ^ n → pc s = n → s = low n := by decide +kernel
attribute [local irreducible] p2 low memB risB
theorem setTo_bitP (l : List Int) (x : Nat) : ∀ k, (setTo l k).testBit x = true ↔ ∃ j, j < k ∧ (l[j]?.getD 0).toNat = x
  | 0 => by simp [setTo]
  | k + 1 => by
    rw [setTo, Nat.testBit_or, Bool.or_eq_true, setTo_bitP l x k, p2_bit, decide_eq_true_eq]
    constructor
    · rintro (⟨j, h1, h2⟩ | h)
      · exact ⟨j, by omega, h2⟩
      · exact ⟨k, by omega, h⟩
    · rintro ⟨j, h1, h2⟩
      rcases Nat.lt_or_ge j k with h | h
      · exact .inl ⟨j, h, h2⟩
      · have : j = k := by omega
        subst this
        exact .inr h2
/-- A list that holds each of the n items once. -/
structure Perm (n : Nat) (l : List Int) : Prop where
  len : l.length = n
  rng : ∀ j, j < n → 0 ≤ l[j]?.getD 0 ∧ l[j]?.getD 0 < (n : Int)
  inj : ∀ i j, i < n → j < n → l[i]?.getD 0 = l[j]?.getD 0 → i = j
  sur : ∀ x : Int, 0 ≤ x → x < (n : Int) → ∃ j, j < n ∧ l[j]?.getD 0 = x
theorem word_pc {F : Nat → Bool} {n : Nat} {l : List Int} (h7 : n ≤ 7) (h : wordTo F n l l.length = true) : ∀ k, k ≤ l.length → pc (setTo l k) = k
  | 0, _ => by rw [setTo]; decide
  | k + 1, hk => by
    have h1 := (wordTo_iff F n l l.length).1 h k (by omega)
    simp only [stepB, Bool.and_eq_true, decide_eq_true_eq, Bool.not_eq_true'] at h1
    have h2 := setTo_lt k (wordTo_at h k (by omega))
    have h3 := p2_le n 7 h7
    rw [setTo, pc_orP _ (by omega) _ (by omega) h1.2.1, word_pc h7 h k (by omega)]
theorem word_perm {F : Nat → Bool} {n : Nat} {l : List Int} (h7 : n ≤ 7) (h : wordTo F n l l.length = true) (hl : l.length = n) : Perm n l := by
  have hr := wordTo_len h
  have hinj : ∀ i j, i < j → j < n → l[i]?.getD 0 ≠ l[j]?.getD 0 := by
    intro i j hij hj e
    have h1 := (wordTo_iff F n l l.length).1 h j (by omega)
    simp only [stepB, Bool.and_eq_true, decide_eq_true_eq, Bool.not_eq_true'] at h1
    have h2 := (setTo_bitP l (l[j]?.getD 0).toNat j).2 ⟨i, hij, by rw [e]⟩
    rw [h2] at h1
    exact Bool.noConfusion h1.2.1
  have hp := p2_le n 7 h7
  have hs := setTo_lt l.length (wordTo_at h l.length (Nat.le_refl _))
  have hlow := pc_top n (by omega) (setTo l l.length) (by omega) hs (by rw [word_pc h7 h _ (Nat.le_refl _), hl])
  refine ⟨hl, fun j hj => hr j (by omega), ?_, ?_⟩
  · intro i j hi hj e
    rcases Nat.lt_trichotomy i j with h1 | h1 | h1
    · exact absurd e (hinj i j h1 hj)
    · exact h1
    · exact absurd e.symm (hinj j i h1 hi)
  · intro x h0 h1
    have hb : (setTo l l.length).testBit x.toNat = true := by rw [hlow, low_bit]; simp; omega
    obtain ⟨j, hj, e⟩ := (setTo_bitP l x.toNat l.length).1 hb
    have := hr j hj
    exact ⟨j, by omega, by omega⟩
theorem swL_at (l : List Int) (k : Nat) (h : k + 1 < l.length) (i : Nat) : (swL l k)[i]?.getD 0 = if i = k then l[k + 1]?.getD 0 else if i = k + 1 then l[k]?.getD 0 else l[i]?.getD 0 := by
  unfold swL
  by_cases h1 : i = k + 1
  · subst h1
    rw [if_neg (by omega), if_pos rfl, List.getElem?_set_self (by simp; omega)]
    rfl
  · rw [List.getElem?_set_ne (by omega)]
    by_cases h2 : i = k
    · subst h2
      rw [if_pos rfl, List.getElem?_set_self (by omega)]
      rfl
    · rw [if_neg h2, if_neg h1, List.getElem?_set_ne (by omega)]
def sg (k i : Nat) : Nat := if i = k then k + 1 else if i = k + 1 then k else i
theorem swL_sg (l : List Int) (k : Nat) (h : k + 1 < l.length) (i : Nat) : (swL l k)[i]?.getD 0 = l[sg k i]?.getD 0 := by
  rw [swL_at l k h]
  unfold sg
  split
  · rfl
  · split <;> rfl
theorem sg_sg (k i : Nat) : sg k (sg k i) = i := by unfold sg; split <;> split <;> (try split) <;> omega
theorem sg_lt (k i n : Nat) (h : k + 1 < n) (hi : i < n) : sg k i < n := by unfold sg; split <;> (try split) <;> omega
theorem swL_perm {n : Nat} {l : List Int} (h : Perm n l) (k : Nat) (hk : k + 1 < n) : Perm n (swL l k) := by
  have hk' : k + 1 < l.length := by rw [h.len]; exact hk
  refine ⟨by rw [swL_len, h.len], fun j hj => ?_, fun i j hi hj e => ?_, fun x h0 h1 => ?_⟩
  · rw [swL_sg l k hk']
    exact h.rng _ (sg_lt k j n hk hj)
  · rw [swL_sg l k hk', swL_sg l k hk'] at e
    have := h.inj _ _ (sg_lt k i n hk hi) (sg_lt k j n hk hj) e
    rw [← sg_sg k i, this, sg_sg]
  · obtain ⟨j, hj, e⟩ := h.sur x h0 h1
    exact ⟨sg k j, sg_lt k j n hk hj, by rw [swL_sg l k hk', sg_sg, e]⟩
/-- d exchanges downwards from p. -/
def bub (l : List Int) (p : Nat) : Nat → List Int
  | 0 => l
  | d + 1 => swL (bub l p d) (p - 1 - d)
def bubP (p : Nat) : Nat → List Int
  | 0 => []
  | d + 1 => bubP p d ++ [((p - 1 - d : Nat) : Int)]
theorem bubP_len (p : Nat) : ∀ d, (bubP p d).length = d
  | 0 => rfl
  | d + 1 => by rw [bubP, List.length_append, bubP_len p d]; rfl
theorem bub_perm {n : Nat} {l : List Int} (h : Perm n l) (p : Nat) (hp : p < n) : ∀ d, d ≤ p → Perm n (bub l p d)
  | 0, _ => h
  | d + 1, hd => swL_perm (bub_perm h p hp d (by omega)) _ (by omega)
theorem bub_at {n : Nat} {l : List Int} (h : Perm n l) (p : Nat) (hp : p < n) : ∀ d, d ≤ p → (bub l p d)[p - d]?.getD 0 = l[p]?.getD 0 ∧ ∀ i, i < p - d → (bub l p d)[i]?.getD 0 = l[i]?.getD 0
  | 0, _ => ⟨rfl, fun _ _ => rfl⟩
  | d + 1, hd => by
    obtain ⟨h1, h2⟩ := bub_at h p hp d (by omega)
    have hl : p - 1 - d + 1 < (bub l p d).length := by rw [(bub_perm h p hp d (by omega)).len]; omega
    have e1 : p - (d + 1) = p - 1 - d := by omega
    have e2 : p - 1 - d + 1 = p - d := by omega
    refine ⟨?_, fun i hi => ?_⟩
    · rw [bub, e1, swL_at _ _ hl, if_pos rfl, e2, h1]
    · rw [bub, swL_at _ _ hl, if_neg (by omega), if_neg (by omega), h2 i (by omega)]
end Go.Proofs.Ytagahoaogfogkaa
