/- Plain mathematics: the program's test for a space (a family of marks) and the specification's (increasing lists) say the same. -/
import Derived.Test.YtblglkgmnaklbaaDoorSpecB
namespace Go.Proofs.YtblglkgmnaklbaaDoor
open Go.RowKit

theorem rising_ris (n : Nat) (l : List Int) : ∀ k, risingTo n l k = risB 0 (low n) l k
  | 0 => rfl
  | k + 1 => by
    rw [risingTo, risB, rising_ris n l k]
    congr 1
    rw [Bool.eq_iff_iff]
    simp only [Bool.and_eq_true, decide_eq_true_eq, Bool.not_eq_true', Bool.and_eq_false_iff, decide_eq_false_iff_not]
    cases k with
    | zero => simp [lastOf]; omega
    | succ k => simp [lastOf]; omega

theorem ris_len (n : Nat) (l : List Int) (h : risB 0 (low n) l l.length = true) : l.length ≤ p2 n := by
  have hge : ∀ j, j < l.length → (j : Int) ≤ l[j]?.getD 0 := by
    intro j
    induction j with
    | zero => intro hj; exact (risB_at 0 (low n) l _ h 0 hj).1.1
    | succ j ih =>
      intro hj
      have h1 := ih (by omega)
      have h2 := (risB_at 0 (low n) l _ h (j + 1) hj).2 (by omega)
      simp only [Nat.add_sub_cancel] at h2
      omega
  rcases Nat.eq_zero_or_pos l.length with h0 | h0
  · omega
  · have h1 := hge (l.length - 1) (by omega)
    have h2 := (risB_at 0 (low n) l _ h (l.length - 1) (by omega)).1.2
    have h3 := p2_pos n
    have h4 : (low n : Int) = (p2 n : Int) - 1 := by unfold low p2; omega
    omega

theorem marks_iff (l : List Int) (x : Nat) : ∀ k, marksTo l k x = true ↔ ∃ j, j < k ∧ (l[j]?.getD 0).toNat = x
  | 0 => by simp [marksTo, noSet]
  | k + 1 => by
    simp only [marksTo, upd]
    constructor
    · intro h
      split at h
      · rename_i e; exact ⟨k, by omega, e.symm⟩
      · obtain ⟨j, hj, e⟩ := (marks_iff l x k).1 h
        exact ⟨j, by omega, e⟩
    · rintro ⟨j, hj, e⟩
      split
      · rfl
      · rename_i hne
        refine (marks_iff l x k).2 ⟨j, ?_, e⟩
        rcases Nat.lt_or_ge j k with h | h
        · exact h
        · have : j = k := by omega
          subst this; exact absurd e.symm hne
theorem mem_iff (l : List Int) (x : Int) : memB l x = true ↔ ∃ j, j < l.length ∧ l[j]?.getD 0 = x := by
  unfold memB; simp only [decide_eq_true_eq]
theorem marks_mem (l : List Int) (hpos : ∀ j, j < l.length → 0 ≤ l[j]?.getD 0) (x : Nat) : marksTo l l.length x = memB l (x : Int) := by
  rw [Bool.eq_iff_iff, marks_iff, mem_iff]
  constructor
  · rintro ⟨j, hj, e⟩; exact ⟨j, hj, by have := hpos j hj; omega⟩
  · rintro ⟨j, hj, e⟩; exact ⟨j, hj, by omega⟩

/-! ### One item less -/
theorem inner_same (F : Nat → Bool) (l : List Int) (n s : Nat) (hn : n ≤ 7) (hs : s < 2 ^ n) (hF : ∀ x, x < 128 → F x = memB l (x : Int)) : innerOf F n s = itemsOf (innerSp l s) 7 := by
  have h7 := p2_le n 7 hn
  apply Nat.eq_of_testBit_eq
  intro i
  unfold innerOf
  rw [itemsOf_bit, itemsOf_bit]
  unfold innerSp
  by_cases hb : s.testBit i = true
  · have hi : i < n := by
      rcases Nat.lt_or_ge i n with h | h
      · exact h
      · rw [Nat.testBit_lt_two_pow (Nat.lt_of_lt_of_le hs (p2_le _ _ h))] at hb; cases hb
    have he : andNot s (p2 i) = s ^^^ p2 i := by
      apply Nat.eq_of_testBit_eq
      intro j
      rw [andNot_bit, Nat.testBit_xor, p2_bit]
      by_cases hj : i = j
      · subst hj; simp [hb]
      · simp [hj]
    have hne : (andNot s (p2 i) != s) = true := by
      rw [bne_iff_ne]
      intro h
      have := congrArg (fun z => z.testBit i) h
      simp [andNot_bit, p2_bit, hb] at this
    rw [hne, he, hF _ (by rw [← he]; exact andNot_lt s (p2 i) 7 (by omega)), hb]
    simp [hi, show i < 7 by omega]
  · have hb' : s.testBit i = false := by simpa using hb
    have he : andNot s (p2 i) = s := by
      apply Nat.eq_of_testBit_eq
      intro j
      rw [andNot_bit, p2_bit]
      by_cases hj : i = j
      · subst hj; simp [hb']
      · simp [hj]
    rw [hb', he]
    simp

/-! ### Unions -/
theorem step_iff (F : Nat → Bool) (s x : Nat) : ∀ k, stepTo F s k x = true ↔ F x = true ∨ ∃ i, i < k ∧ F i = true ∧ i ||| s = x
  | 0 => by simp [stepTo]
  | k + 1 => by
    unfold stepTo
    by_cases hF : F k = true
    · rw [if_pos hF]
      simp only [upd]
      constructor
      · intro h
        split at h
        · rename_i e; exact .inr ⟨k, by omega, hF, e.symm⟩
        · rcases (step_iff F s x k).1 h with h | ⟨i, hi, h1, h2⟩
          · exact .inl h
          · exact .inr ⟨i, by omega, h1, h2⟩
      · intro h
        split
        · rfl
        · rename_i hne
          apply (step_iff F s x k).2
          rcases h with h | ⟨i, hi, h1, h2⟩
          · exact .inl h
          · refine .inr ⟨i, ?_, h1, h2⟩
            rcases Nat.lt_or_ge i k with h3 | h3
            · exact h3
            · have : i = k := by omega
              subst this; exact absurd h2.symm hne
    · rw [if_neg hF]
      rw [step_iff F s x k]
      constructor
      · rintro (h | ⟨i, hi, h1, h2⟩)
        · exact .inl h
        · exact .inr ⟨i, by omega, h1, h2⟩
      · rintro (h | ⟨i, hi, h1, h2⟩)
        · exact .inl h
        · refine .inr ⟨i, ?_, h1, h2⟩
          rcases Nat.lt_or_ge i k with h3 | h3
          · exact h3
          · have : i = k := by omega
            subst this; exact absurd h1 hF
section
variable (l : List Int)
/-- The k-th of the sets. -/
def nth (k : Nat) : Nat := (l[k]?.getD 0).toNat
theorem uni_lt (hl : ∀ j, j < l.length → nth l j < 128) : ∀ k, k ≤ l.length → ∀ x, unionsTo l k x = true → x < 128
  | 0, _, x, h => by
    simp only [unionsTo, upd, noSet] at h
    split at h
    · omega
    · cases h
  | k + 1, hk, x, h => by
    rcases (step_iff _ _ x 128).1 h with h | ⟨i, hi, h1, h2⟩
    · exact uni_lt hl k (by omega) x h
    · rw [← h2]; exact or_lt128 _ _ hi (hl k (by omega))
theorem uni_up (k x : Nat) (h : unionsTo l k x = true) : unionsTo l (k + 1) x = true := (step_iff _ _ x 128).2 (.inl h)
theorem uni_step (hl : ∀ j, j < l.length → nth l j < 128) (k : Nat) (hk : k < l.length) (x : Nat) (h : unionsTo l k x = true) : unionsTo l (k + 1) (x ||| nth l k) = true :=
  (step_iff _ _ _ 128).2 (.inr ⟨x, uni_lt l hl k (by omega) x h, h, rfl⟩)
theorem uni_mono (k m x : Nat) (hkm : k ≤ m) (h : unionsTo l k x = true) : unionsTo l m x = true := by
  induction m with
  | zero => have : k = 0 := by omega
            subst this; exact h
  | succ m ih =>
    rcases Nat.lt_or_ge k (m + 1) with h1 | h1
    · exact uni_up l m x (ih (by omega))
    · have : k = m + 1 := by omega
      subst this; exact h
theorem uni_zero (k : Nat) : unionsTo l k 0 = true := uni_mono l 0 k 0 (Nat.zero_le _) (by simp [unionsTo, upd])
theorem uni_has (hl : ∀ j, j < l.length → nth l j < 128) (k : Nat) (hk : k < l.length) : unionsTo l l.length (nth l k) = true := by
  have := uni_step l hl k hk 0 (uni_zero l k)
  rw [Nat.zero_or] at this
  exact uni_mono l (k + 1) l.length _ (by omega) this
theorem uni_or (hl : ∀ j, j < l.length → nth l j < 128) (k : Nat) : ∀ m, k < m → m ≤ l.length → ∀ x, unionsTo l m x = true → unionsTo l m (x ||| nth l k) = true
  | 0, h, _, _, _ => by omega
  | m + 1, h, hm, x, hx => by
    rcases Nat.lt_or_ge k m with hkm | hkm
    · rcases (step_iff _ _ x 128).1 hx with h1 | ⟨i, hi, h1, h2⟩
      · exact uni_up l m _ (uni_or hl k m hkm (by omega) x h1)
      · have h3 := uni_step l hl m (by omega) _ (uni_or hl k m hkm (by omega) i h1)
        have e : x ||| nth l k = i ||| nth l k ||| nth l m := by
          rw [← h2, Nat.or_assoc, Nat.or_assoc, Nat.or_comm (nth l k)]; rfl
        rw [e]; exact h3
    · have : k = m := by omega
      subst this
      rcases (step_iff _ _ x 128).1 hx with h1 | ⟨i, hi, h1, h2⟩
      · exact uni_step l hl k (by omega) x h1
      · have e : x ||| nth l k = x := by
          rw [← h2]
          show i ||| nth l k ||| nth l k = i ||| nth l k
          rw [Nat.or_assoc, Nat.or_self]
        rw [e]; exact hx
theorem uni_in (F : Nat → Bool) (h0 : F 0 = true) (hF : ∀ j, j < l.length → F (nth l j) = true) (hc : ∀ a b, F a = true → F b = true → F (a ||| b) = true) : ∀ k, k ≤ l.length → ∀ x, unionsTo l k x = true → F x = true
  | 0, _, x, h => by
    simp only [unionsTo, upd, noSet] at h
    split at h
    · rename_i e; rw [e]; exact h0
    · cases h
  | k + 1, hk, x, h => by
    rcases (step_iff _ _ x 128).1 h with h | ⟨i, hi, h1, h2⟩
    · exact uni_in F h0 hF hc k (by omega) x h
    · rw [← h2]; exact hc _ _ (uni_in F h0 hF hc k (by omega) i h1) (hF k (by omega))
end

/-- The sets that are marked, as a list. -/
theorem sets_iff (F : Nat → Bool) (x : Nat) : ∀ k, (∃ j, j < (setsTo F k).length ∧ nth (setsTo F k) j = x) ↔ x < k ∧ F x = true
  | 0 => by simp [setsTo]
  | k + 1 => by
    by_cases hF : F k = true
    · have e : setsTo F (k + 1) = setsTo F k ++ [(k : Int)] := by rw [setsTo, if_pos hF]
      rw [e]
      constructor
      · rintro ⟨j, hj, h⟩
        simp at hj
        rcases Nat.lt_or_ge j (setsTo F k).length with h1 | h1
        · have := (sets_iff F x k).1 ⟨j, h1, by unfold nth at h ⊢; rw [List.getElem?_append_left h1] at h; exact h⟩
          exact ⟨by omega, this.2⟩
        · have : j = (setsTo F k).length := by omega
          subst this
          unfold nth at h
          rw [List.getElem?_append_right (Nat.le_refl _)] at h
          simp at h
          subst h; exact ⟨by omega, hF⟩
      · rintro ⟨h1, h2⟩
        rcases Nat.lt_or_ge x k with h3 | h3
        · obtain ⟨j, hj, h⟩ := (sets_iff F x k).2 ⟨h3, h2⟩
          exact ⟨j, by simp; omega, by unfold nth at h ⊢; rw [List.getElem?_append_left hj]; exact h⟩
        · have : x = k := by omega
          subst this
          refine ⟨(setsTo F x).length, by simp, ?_⟩
          unfold nth
          rw [List.getElem?_append_right (Nat.le_refl _)]
          simp
    · have e : setsTo F (k + 1) = setsTo F k := by rw [setsTo, if_neg hF]
      rw [e, sets_iff F x k]
      constructor
      · rintro ⟨h1, h2⟩; exact ⟨by omega, h2⟩
      · rintro ⟨h1, h2⟩
        refine ⟨?_, h2⟩
        rcases Nat.lt_or_ge x k with h3 | h3
        · exact h3
        · have : x = k := by omega
          subst this; exact absurd h2 hF

theorem closed_iff (F : Nat → Bool) (h0 : F 0 = true) (hF : ∀ x, F x = true → x < 128) : closedB F = true ↔ ∀ a b, F a = true → F b = true → F (a ||| b) = true := by
  have hl : ∀ j, j < (setsTo F 128).length → nth (setsTo F 128) j < 128 := fun j hj => ((sets_iff F _ 128).1 ⟨j, hj, rfl⟩).1
  have hm : ∀ j, j < (setsTo F 128).length → F (nth (setsTo F 128) j) = true := fun j hj => ((sets_iff F _ 128).1 ⟨j, hj, rfl⟩).2
  unfold closedB allEq unionsF
  rw [List.all_eq_true]
  constructor
  · intro h a b ha hb
    have ha' := hF a ha
    have hb' := hF b hb
    obtain ⟨k, hk, e⟩ := (sets_iff F b 128).2 ⟨hb', hb⟩
    have h1 := h a (by simpa using ha')
    have h2 : unionsTo (setsTo F 128) (setsTo F 128).length a = true := by rw [ha] at h1; simpa using h1
    have h3 := uni_or (setsTo F 128) hl k _ hk (Nat.le_refl _) a h2
    rw [e] at h3
    have h4 := h (a ||| b) (by simpa using or_lt128 a b ha' hb')
    rw [h3] at h4
    simpa using h4
  · intro hc x hx
    rw [beq_iff_eq, Bool.eq_iff_iff]
    constructor
    · intro h
      obtain ⟨k, hk, e⟩ := (sets_iff F x 128).2 ⟨hF x h, h⟩
      rw [← e]; exact uni_has _ hl k hk
    · intro h
      exact uni_in _ F h0 hm hc _ (Nat.le_refl _) x h

theorem graded_iff (F : Nat → Bool) (n : Nat) : ∀ k, gradedTo F n k = true ↔ ∀ s, s < k → F s = true → s ≠ 0 → innerOf F n s ≠ 0
  | 0 => by simp [gradedTo]
  | k + 1 => by
    rw [gradedTo, Bool.and_eq_true, graded_iff F n k]
    constructor
    · rintro ⟨h1, h2⟩ s hs hF hne
      rcases Nat.lt_or_ge s k with h3 | h3
      · exact h1 s h3 hF hne
      · have : s = k := by omega
        subst this
        intro h4
        simp [hF, hne, h4] at h2
    · intro h
      refine ⟨fun s hs => h s (by omega), ?_⟩
      cases hF : F k
      · rfl
      · by_cases h0 : k = 0
        · subst h0; rfl
        · have h1 := h k (by omega) hF h0
          simp [h0, h1]
theorem close_iff (l : List Int) (a : Nat) : ∀ k, closeTo l a k = true ↔ ∀ j, j < k → memB l ((a ||| nth l j : Nat) : Int) = true
  | 0 => by simp [closeTo]
  | k + 1 => by
    rw [closeTo, Bool.and_eq_true, close_iff l a k]
    constructor
    · rintro ⟨h1, h2⟩ j hj
      rcases Nat.lt_or_ge j k with h3 | h3
      · exact h1 j h3
      · have : j = k := by omega
        subst this; exact h2
    · intro h
      exact ⟨fun j hj => h j (by omega), h k (by omega)⟩
theorem good_iff (l : List Int) : ∀ k, goodTo l k = true ↔ ∀ i, i < k → (0 < l[i]?.getD 0 → itemsOf (innerSp l (nth l i)) 7 ≠ 0) ∧ ∀ j, j < l.length → memB l ((nth l i ||| nth l j : Nat) : Int) = true
  | 0 => by simp [goodTo]
  | k + 1 => by
    rw [goodTo, Bool.and_eq_true, Bool.and_eq_true, good_iff l k, close_iff]
    constructor
    · rintro ⟨h1, h2, h4⟩ i hi
      rcases Nat.lt_or_ge i k with h3 | h3
      · exact h1 i h3
      · have : i = k := by omega
        subst this
        refine ⟨fun h5 h6 => ?_, h4⟩
        unfold nth at h6
        simp [h5, h6] at h2
    · intro h
      refine ⟨fun i hi => h i (by omega), ?_, (h k (by omega)).2⟩
      have h1 := (h k (by omega)).1
      by_cases h5 : 0 < l[k]?.getD 0
      · have h6 := h1 h5
        unfold nth at h6
        simp [h5, h6]
      · simp [h5]

theorem ok_good (n : Int) (l : List Int) : okSp n l = goodB n l := by
  unfold okSp goodB
  by_cases hn : 1 ≤ n ∧ n ≤ 7
  · obtain ⟨m, rfl⟩ := Int.eq_ofNat_of_zero_le (show 0 ≤ n by omega)
    have hm7 : m ≤ 7 := by omega
    rw [decide_eq_true hn, Int.toNat_natCast, rising_ris]
    cases hr : risB 0 (low m) l l.length
    · simp
    · rw [decide_eq_true (ris_len m l hr)]
      have hat := fun j hj => (risB_at 0 (low m) l _ hr j hj).1
      have hlo := low_lt m hm7
      have hpl : low m + 1 = 2 ^ m := low_succ m
      have hpos : ∀ j, j < l.length → 0 ≤ l[j]?.getD 0 := fun j hj => (hat j hj).1
      have hF : ∀ x : Nat, marksTo l l.length x = memB l (x : Int) := marks_mem l hpos
      have hlt : ∀ x, marksTo l l.length x = true → x ≤ low m := fun x hx => by
        rw [hF, mem_iff] at hx
        obtain ⟨j, hj, e⟩ := hx
        have := hat j hj
        omega
      have hnth : ∀ j, j < l.length → marksTo l l.length (nth l j) = true := fun j hj => by
        rw [hF, mem_iff]
        refine ⟨j, hj, ?_⟩
        have := hpos j hj
        unfold nth; omega
      have hgen : ∀ x, marksTo l l.length x = true → ∃ j, j < l.length ∧ nth l j = x := fun x hx => by
        rw [hF, mem_iff] at hx
        obtain ⟨j, hj, e⟩ := hx
        exact ⟨j, hj, by unfold nth; omega⟩
      unfold spaceB
      rw [hF 0, hF (low m)]
      simp only [Bool.true_and]
      cases h0 : memB l 0
      · simp
      · cases hl : memB l (low m)
        · simp
        · have h0' : marksTo l l.length 0 = true := by rw [hF]; exact h0
          simp only [Bool.true_and]
          rw [Bool.eq_iff_iff, Bool.and_eq_true, graded_iff, closed_iff _ h0' (fun x hx => by have := hlt x hx; omega), good_iff]
          have hin : ∀ s, marksTo l l.length s = true → innerOf (marksTo l l.length) m s = itemsOf (innerSp l s) 7 := fun s hs => inner_same _ l m s hm7 (by have := hlt s hs; omega) (fun x _ => hF x)
          constructor
          · rintro ⟨hg, hc⟩ i hi
            refine ⟨fun hpos' => ?_, fun j hj => ?_⟩
            · rw [← hin _ (hnth i hi)]
              exact hg _ (by have := hlt _ (hnth i hi); omega) (hnth i hi) (by unfold nth; omega)
            · rw [← hF]; exact hc _ _ (hnth i hi) (hnth j hj)
          · intro h
            refine ⟨fun s hs hFs hne => ?_, fun a b ha hb => ?_⟩
            · obtain ⟨j, hj, e⟩ := hgen s hFs
              rw [hin s hFs, ← e]
              refine (h j hj).1 ?_
              unfold nth at e; omega
            · obtain ⟨i, hi, e⟩ := hgen a ha
              obtain ⟨j, hj, e2⟩ := hgen b hb
              rw [hF, ← e, ← e2]
              exact (h i hi).2 j hj
  · simp [hn]
end Go.Proofs.YtblglkgmnaklbaaDoor
