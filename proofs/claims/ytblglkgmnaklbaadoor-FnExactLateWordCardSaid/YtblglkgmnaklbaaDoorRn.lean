/- Plain mathematics: families of what is made of each set; items numbered anew; when a family's list of sets is a space. -/
import Derived.Test.YtblglkgmnaklbaaDoorPs
import Derived.Test.YtblglkgmnaklbaaDoorCnt
namespace Go.Proofs.YtblglkgmnaklbaaDoor
open Go.RowKit
set_option maxRecDepth 100000

/-- What C makes of the sets below k. -/
def imgTo (F : Nat → Bool) (C : Nat → Nat) : Nat → (Nat → Bool)
  | 0 => noSet
  | k + 1 => if F k = true then upd (imgTo F C k) (C k) true else imgTo F C k
theorem img_iff (F : Nat → Bool) (C : Nat → Nat) (x : Nat) : ∀ k, imgTo F C k x = true ↔ ∃ a, a < k ∧ F a = true ∧ C a = x
  | 0 => by simp [imgTo, noSet]
  | k + 1 => by
    rw [imgTo]
    have ih := img_iff F C x k
    by_cases hF : F k = true
    · rw [if_pos hF, upd]
      by_cases hx : x = C k
      · rw [if_pos hx]; exact ⟨fun _ => ⟨k, by omega, hF, hx.symm⟩, fun _ => rfl⟩
      · rw [if_neg hx, ih]
        constructor
        · rintro ⟨a, h1, h2⟩; exact ⟨a, by omega, h2⟩
        · rintro ⟨a, h1, h2, h3⟩
          refine ⟨a, ?_, h2, h3⟩
          rcases Nat.lt_or_ge a k with h | h
          · exact h
          · have : a = k := by omega
            subst this; exact absurd h3.symm hx
    · rw [if_neg hF, ih]
      constructor
      · rintro ⟨a, h1, h2⟩; exact ⟨a, by omega, h2⟩
      · rintro ⟨a, h1, h2, h3⟩
        refine ⟨a, ?_, h2, h3⟩
        rcases Nat.lt_or_ge a k with h | h
        · exact h
        · have : a = k := by omega
          subst this; exact absurd h2 hF
/-- What C makes of those of the first k of a list that K accepts. -/
def lmTo (l : List Int) (K : Nat → Bool) (C : Nat → Nat) : Nat → (Nat → Bool)
  | 0 => noSet
  | k + 1 => if K (nth l k) = true then upd (lmTo l K C k) (C (nth l k)) true else lmTo l K C k
theorem lm_iff (l : List Int) (K : Nat → Bool) (C : Nat → Nat) (x : Nat) : ∀ k, lmTo l K C k x = true ↔ ∃ j, j < k ∧ K (nth l j) = true ∧ C (nth l j) = x
  | 0 => by simp [lmTo, noSet]
  | k + 1 => by
    rw [lmTo]
    have ih := lm_iff l K C x k
    by_cases hF : K (nth l k) = true
    · rw [if_pos hF, upd]
      by_cases hx : x = C (nth l k)
      · rw [if_pos hx]; exact ⟨fun _ => ⟨k, by omega, hF, hx.symm⟩, fun _ => rfl⟩
      · rw [if_neg hx, ih]
        constructor
        · rintro ⟨a, h1, h2⟩; exact ⟨a, by omega, h2⟩
        · rintro ⟨a, h1, h2, h3⟩
          refine ⟨a, ?_, h2, h3⟩
          rcases Nat.lt_or_ge a k with h | h
          · exact h
          · have : a = k := by omega
            subst this; exact absurd h3.symm hx
    · rw [if_neg hF, ih]
      constructor
      · rintro ⟨a, h1, h2⟩; exact ⟨a, by omega, h2⟩
      · rintro ⟨a, h1, h2, h3⟩
        refine ⟨a, ?_, h2, h3⟩
        rcases Nat.lt_or_ge a k with h | h
        · exact h
        · have : a = k := by omega
          subst this; exact absurd h2 hF
theorem okSp_has {n : Int} {l : List Int} (_ : okSp n l = true) (a : Nat) : marksTo l l.length a = true ↔ ∃ j, j < l.length ∧ nth l j = a := marks_iff l a l.length
theorem okSp_lt {n : Int} {l : List Int} (h : okSp n l = true) (a : Nat) (ha : marksTo l l.length a = true) : a < 2 ^ n.toNat := by
  obtain ⟨j, hj, e⟩ := (marks_iff l a l.length).1 ha
  have h1 := okSp_pos h j hj
  have h2 := low_succ n.toNat
  omega
theorem okSp_lt128 {n : Int} {l : List Int} (h : okSp n l = true) (a : Nat) (ha : marksTo l l.length a = true) : a < 128 := by
  have := okSp_lt h a ha
  have := p2_le n.toNat 7 (by have := okSp_n h; omega)
  omega
theorem img_lm {n : Int} {l : List Int} (h : okSp n l = true) (C : Nat → Nat) : imgTo (marksTo l l.length) C 128 = lmTo l (fun _ => true) C l.length := by
  funext x
  rw [Bool.eq_iff_iff, img_iff, lm_iff]
  constructor
  · rintro ⟨a, _, h2, h3⟩
    obtain ⟨j, hj, e⟩ := (okSp_has h a).1 h2
    exact ⟨j, hj, rfl, by rw [e]; exact h3⟩
  · rintro ⟨j, hj, _, h3⟩
    have hm := (okSp_has h (nth l j)).2 ⟨j, hj, rfl⟩
    exact ⟨nth l j, okSp_lt128 h _ hm, hm, h3⟩

/-! ### Lists of sets -/
theorem sets_pair (F : Nat → Bool) : ∀ k, List.Pairwise (· < ·) (setsTo F k)
  | 0 => List.Pairwise.nil
  | k + 1 => by
    rw [setsTo]
    split
    · rw [List.pairwise_append]
      refine ⟨sets_pair F k, by simp, fun a ha b hb => ?_⟩
      simp at hb
      have := setsTo_lt F k a ha
      omega
    · exact sets_pair F k
theorem sets_inc (F : Nat → Bool) (k : Nat) : inc (setsTo F k) := by
  intro i j hij hj
  have h := List.pairwise_iff_getElem.1 (sets_pair F k) i j (by omega) hj hij
  rw [List.getElem?_eq_getElem (show i < (setsTo F k).length by omega), List.getElem?_eq_getElem hj]
  exact h
theorem sets_marks (G : Nat → Bool) (hG : ∀ x, G x = true → x < 128) : marksTo (setsTo G 128) (setsTo G 128).length = G := by
  funext x
  rw [Bool.eq_iff_iff, marks_iff]
  constructor
  · rintro ⟨j, hj, e⟩; exact ((sets_iff G x 128).1 ⟨j, hj, e⟩).2
  · intro h
    obtain ⟨j, hj, e⟩ := (sets_iff G x 128).2 ⟨hG x h, h⟩
    exact ⟨j, hj, e⟩
theorem sets_at (G : Nat → Bool) (j : Nat) (hj : j < (setsTo G 128).length) : G (nth (setsTo G 128) j) = true := ((sets_iff G _ 128).1 ⟨j, hj, rfl⟩).2
theorem sets_rise (G : Nat → Bool) (n : Nat) (hG : ∀ x, G x = true → x < 2 ^ n) : ∀ k, k ≤ (setsTo G 128).length → risingTo n (setsTo G 128) k = true
  | 0, _ => rfl
  | k + 1, h => by
    have h1 := setsTo_range G 128 k (by omega)
    have h2 := hG _ (sets_at G k (by omega))
    have h3 := low_succ n
    unfold nth at h2
    rw [risingTo, sets_rise G n hG k (by omega), Bool.true_and, Bool.and_eq_true, decide_eq_true_eq, decide_eq_true_eq]
    refine ⟨?_, by omega, by omega⟩
    cases k with
    | zero => simp only [lastOf]; omega
    | succ k => exact sets_inc G 128 k (k + 1) (by omega) (by omega)
theorem okSp_sets (n : Nat) (G : Nat → Bool) (h1 : 1 ≤ n) (h7 : n ≤ 7) (hG : ∀ x, G x = true → x < 2 ^ n) : okSp (n : Int) (setsTo G 128) = spaceB G n := by
  have h128 := p2_le n 7 h7
  unfold okSp
  rw [decide_eq_true (show (1 : Int) ≤ (n : Int) ∧ (n : Int) ≤ 7 by omega), Int.toNat_natCast, sets_rise G n hG _ (Nat.le_refl _), sets_marks G (fun x hx => by have := hG x hx; omega)]
  simp

/-! ### A space, told by its marks -/
structure Spc (F : Nat → Bool) (n : Nat) : Prop where
  lt : ∀ x, F x = true → x < 2 ^ n
  zero : F 0 = true
  full : F (low n) = true
  grad : ∀ s, F s = true → s ≠ 0 → ∃ i, i < n ∧ s.testBit i = true ∧ F (andNot s (p2 i)) = true
  uni : ∀ a b, F a = true → F b = true → F (a ||| b) = true
theorem inner_some {F : Nat → Bool} {n s : Nat} : innerOf F n s ≠ 0 ↔ ∃ i, i < n ∧ s.testBit i = true ∧ F (andNot s (p2 i)) = true := by
  have hb := fun i => itemsOf_bit (fun i => andNot s (p2 i) != s && F (andNot s (p2 i))) n i
  have hne : ∀ i, (andNot s (p2 i) != s) = s.testBit i := by
    intro i
    rw [Bool.eq_iff_iff, bne_iff_ne]
    constructor
    · intro h
      cases hs : s.testBit i
      · exfalso; apply h
        apply Nat.eq_of_testBit_eq
        intro j
        rw [andNot_bit, p2_bit]
        by_cases hij : i = j
        · subst hij; rw [hs]; rfl
        · rw [decide_eq_false hij]; simp
      · rfl
    · intro h e
      have := congrArg (fun z => z.testBit i) e
      simp [andNot_bit, p2_bit, h] at this
  constructor
  · intro h
    have : ∃ i, (innerOf F n s).testBit i = true := by
      apply Classical.byContradiction
      intro h2
      apply h
      apply Nat.eq_of_testBit_eq
      intro i
      rw [Nat.zero_testBit]
      cases hb : (innerOf F n s).testBit i
      · rfl
      · exact absurd ⟨i, hb⟩ h2
    obtain ⟨i, hi⟩ := this
    have h3 := hb i
    rw [show itemsOf (fun i => andNot s (p2 i) != s && F (andNot s (p2 i))) n = innerOf F n s from rfl, hi, hne] at h3
    have h4 := h3.symm
    simp only [Bool.and_eq_true, decide_eq_true_eq] at h4
    exact ⟨i, h4.1, h4.2.1, h4.2.2⟩
  · rintro ⟨i, h1, h2, h3⟩ h0
    have h4 := hb i
    rw [show itemsOf (fun i => andNot s (p2 i) != s && F (andNot s (p2 i))) n = innerOf F n s from rfl, h0, Nat.zero_testBit, hne, h2, h3, decide_eq_true h1] at h4
    cases h4
theorem spc_iff {F : Nat → Bool} {n : Nat} (h7 : n ≤ 7) (hF : ∀ x, F x = true → x < 2 ^ n) : spaceB F n = true ↔ Spc F n := by
  have h128 := p2_le n 7 h7
  have h128' : ∀ x, F x = true → x < 128 := fun x hx => by have := hF x hx; omega
  unfold spaceB
  simp only [Bool.and_eq_true]
  constructor
  · rintro ⟨⟨⟨h1, h2⟩, h3⟩, h4⟩
    exact ⟨hF, h1, h2, fun s hs h0 => inner_some.1 ((graded_iff F n 128).1 h3 s (h128' s hs) hs h0), (closed_iff F h1 h128').1 h4⟩
  · intro h
    exact ⟨⟨⟨h.zero, h.full⟩, (graded_iff F n 128).2 fun s _ hs h0 => inner_some.2 (h.grad s hs h0)⟩, (closed_iff F h.zero h128').2 h.uni⟩
theorem okSp_spc {n : Int} {l : List Int} (h : okSp n l = true) : Spc (marksTo l l.length) n.toNat := by
  refine (spc_iff (by have := okSp_n h; omega) (okSp_lt h)).1 ?_
  simp only [okSp, Bool.and_eq_true] at h
  exact h.2

/-! ### Items numbered anew -/
def rnI (kept i : Nat) : Nat := pc (kept &&& low i)
def rn (kept a : Nat) : Nat := orTo (fun i => if (a &&& kept).testBit i then p2 (rnI kept i) else 0) 7
theorem rnI_lt : ∀ kept, kept < 128 → ∀ i, i < 7 → kept.testBit i = true → rnI kept i < pc kept := by decide +kernel
theorem rnI_le (kept i : Nat) : rnI kept i ≤ 7 := pc_le _
theorem rnI_inj : ∀ kept, kept < 128 → ∀ i, i < 7 → ∀ j, j < 7 → (kept.testBit i && (kept.testBit j && (rnI kept i == rnI kept j))) = true → i = j := by decide +kernel
theorem rnI_all : ∀ kept, kept < 128 → ∀ b, b < 7 → b < pc kept → ∃ i, i < 7 ∧ kept.testBit i = true ∧ rnI kept i = b := by decide +kernel
theorem rnI_step : ∀ kept, kept < 128 → ∀ i, i < 7 → rnI kept (i + 1) = rnI kept i + (if kept.testBit i then 1 else 0) := by decide +kernel
theorem rn_bit (kept a b : Nat) : (rn kept a).testBit b = true ↔ ∃ i, i < 7 ∧ a.testBit i = true ∧ kept.testBit i = true ∧ rnI kept i = b := by
  unfold rn
  rw [orTo_bit, decide_eq_true_eq]
  constructor
  · rintro ⟨i, hi, h⟩
    split at h
    · rename_i h2
      rw [Nat.testBit_and, Bool.and_eq_true] at h2
      rw [p2_bit, decide_eq_true_eq] at h
      exact ⟨i, hi, h2.1, h2.2, h⟩
    · simp at h
  · rintro ⟨i, hi, h1, h2, h3⟩
    refine ⟨i, hi, ?_⟩
    rw [if_pos (by rw [Nat.testBit_and, h1, h2]; rfl), p2_bit, h3]; simp
theorem bits_lt {x n : Nat} (h : ∀ b, x.testBit b = true → b < n) : x < 2 ^ n := by
  apply Nat.lt_pow_two_of_testBit
  intro i hi
  cases hb : x.testBit i
  · rfl
  · have := h i hb; omega
theorem rn_lt (kept a : Nat) (hk : kept < 128) : rn kept a < 2 ^ pc kept := bits_lt fun b hb => by
  obtain ⟨i, hi, _, h2, h3⟩ := (rn_bit kept a b).1 hb
  have := rnI_lt kept hk i hi h2
  omega
theorem rn_lt128 (kept a : Nat) (hk : kept < 128) : rn kept a < 128 := by
  have h1 := rn_lt kept a hk
  have h2 := p2_le (pc kept) 7 (pc_le kept)
  omega
theorem rn_or (kept a b : Nat) : rn kept (a ||| b) = rn kept a ||| rn kept b := by
  apply Nat.eq_of_testBit_eq
  intro k
  rw [Bool.eq_iff_iff, Nat.testBit_or, Bool.or_eq_true, rn_bit, rn_bit, rn_bit]
  constructor
  · rintro ⟨i, h1, h2, h3⟩
    rw [Nat.testBit_or, Bool.or_eq_true] at h2
    rcases h2 with h2 | h2
    · exact .inl ⟨i, h1, h2, h3⟩
    · exact .inr ⟨i, h1, h2, h3⟩
  · rintro (⟨i, h1, h2, h3⟩ | ⟨i, h1, h2, h3⟩)
    · exact ⟨i, h1, by rw [Nat.testBit_or, h2]; rfl, h3⟩
    · exact ⟨i, h1, by rw [Nat.testBit_or, h2, Bool.or_true], h3⟩
theorem rn_and (kept a : Nat) : rn kept (a &&& kept) = rn kept a := by
  unfold rn
  rw [Nat.and_assoc, Nat.and_self]
/-- The trace of a space is a space. -/
theorem trace_spc {F : Nat → Bool} {n : Nat} (h : Spc F n) (h7 : n ≤ 7) (kept : Nat) (hk : F kept = true) : Spc (imgTo F (rn kept) 128) (pc kept) := by
  have h128 := p2_le n 7 h7
  have hlt : ∀ a, F a = true → a < 128 := fun a ha => by have := h.lt a ha; omega
  have hin : ∀ a, F a = true → imgTo F (rn kept) 128 (rn kept a) = true := fun a ha => (img_iff F _ _ 128).2 ⟨a, hlt a ha, ha, rfl⟩
  have hk1 := hlt kept hk
  refine ⟨fun x hx => ?_, ?_, ?_, ?_, ?_⟩
  · obtain ⟨a, _, _, e⟩ := (img_iff F _ x 128).1 hx
    rw [← e]; exact rn_lt kept a hk1
  · have h0 : rn kept 0 = 0 := by
      apply Nat.eq_of_testBit_eq
      intro b
      rw [Bool.eq_iff_iff, rn_bit]
      simp
    have := hin 0 h.zero
    rwa [h0] at this
  · have h0 : rn kept kept = low (pc kept) := by
      apply Nat.eq_of_testBit_eq
      intro b
      rw [Bool.eq_iff_iff, rn_bit, low_bit, decide_eq_true_eq]
      constructor
      · rintro ⟨i, hi, _, h2, h3⟩
        have := rnI_lt kept hk1 i hi h2
        omega
      · intro hb
        obtain ⟨i, hi, h2, h3⟩ := rnI_all kept hk1 b (by have := pc_le kept; omega) hb
        exact ⟨i, hi, h2, h2, h3⟩
    have := hin kept hk
    rwa [h0] at this
  · intro s hs h0
    obtain ⟨a, _, ha, e⟩ := (img_iff F _ s 128).1 hs
    clear hs
    subst e
    -- less and less of a
    have key : ∀ m a, a < m → F a = true → rn kept a ≠ 0 → ∃ i, i < pc kept ∧ (rn kept a).testBit i = true ∧ imgTo F (rn kept) 128 (andNot (rn kept a) (p2 i)) = true := by
      intro m
      induction m with
      | zero => intro a ha; omega
      | succ m ih =>
        intro a ham ha h0
        have hne : a ≠ 0 := by
          intro e
          subst e
          apply h0
          apply Nat.eq_of_testBit_eq
          intro b
          rw [Bool.eq_iff_iff, rn_bit]
          simp
        obtain ⟨i, hi, hb, hf⟩ := h.grad a ha hne
        have hlt2 : andNot a (p2 i) < a := by
          apply Nat.lt_of_le_of_ne
          · apply Nat.le_of_not_lt
            intro hgt
            have h3 : a ||| andNot a (p2 i) = a := by
              apply Nat.eq_of_testBit_eq
              intro j
              rw [Nat.testBit_or, andNot_bit]
              cases a.testBit j <;> simp
            have := Nat.right_le_or (n := a) (m := andNot a (p2 i))
            omega
          · intro e
            have := congrArg (fun z => z.testBit i) e
            simp [andNot_bit, p2_bit, hb] at this
        by_cases hki : kept.testBit i = true
        · refine ⟨rnI kept i, rnI_lt kept hk1 i (by omega) hki, (rn_bit kept a _).2 ⟨i, by omega, hb, hki, rfl⟩, ?_⟩
          have e : andNot (rn kept a) (p2 (rnI kept i)) = rn kept (andNot a (p2 i)) := by
            apply Nat.eq_of_testBit_eq
            intro b
            rw [Bool.eq_iff_iff, rn_bit, andNot_bit, Bool.and_eq_true, rn_bit, p2_bit, Bool.not_eq_true', decide_eq_false_iff_not]
            constructor
            · rintro ⟨⟨j, h1, h2, h3, h4⟩, h5⟩
              refine ⟨j, h1, ?_, h3, h4⟩
              rw [andNot_bit, h2, p2_bit]
              have : ¬ i = j := by intro e; subst e; exact h5 h4
              simp [this]
            · rintro ⟨j, h1, h2, h3, h4⟩
              rw [andNot_bit, p2_bit, Bool.and_eq_true, Bool.not_eq_true', decide_eq_false_iff_not] at h2
              refine ⟨⟨j, h1, h2.1, h3, h4⟩, fun e => h2.2 ?_⟩
              exact rnI_inj kept hk1 i (by omega) j h1 (by rw [hki, h3, h4, e]; simp)
          rw [e]
          exact hin _ hf
        · have e : rn kept (andNot a (p2 i)) = rn kept a := by
            apply Nat.eq_of_testBit_eq
            intro b
            rw [Bool.eq_iff_iff, rn_bit, rn_bit]
            constructor
            · rintro ⟨j, h1, h2, h3⟩
              rw [andNot_bit, Bool.and_eq_true] at h2
              exact ⟨j, h1, h2.1, h3⟩
            · rintro ⟨j, h1, h2, h3, h4⟩
              refine ⟨j, h1, ?_, h3, h4⟩
              rw [andNot_bit, h2, p2_bit]
              have : ¬ i = j := by intro e; subst e; exact hki h3
              simp [this]
          have := ih (andNot a (p2 i)) (by omega) hf (by rw [e]; exact h0)
          rwa [e] at this
    exact key (a + 1) a (by omega) ha h0
  · intro x y hx hy
    obtain ⟨a, _, ha, ea⟩ := (img_iff F _ x 128).1 hx
    obtain ⟨b, _, hb, eb⟩ := (img_iff F _ y 128).1 hy
    rw [← ea, ← eb, ← rn_or]
    exact hin _ (h.uni a b ha hb)
/-- What is behind one of the sets, told by those that have all of its items. -/
theorem behind_same {n : Int} {l : List Int} (h : okSp n l = true) (own rest : Nat) (ho : marksTo l l.length own = true) (hr : own &&& rest = 0) :
    imgTo (marksTo l l.length) (rn rest) 128 = lmTo l (fun a => andNot own a == 0) (rn rest) l.length := by
  have hS := okSp_spc h
  funext x
  rw [Bool.eq_iff_iff, img_iff, lm_iff]
  constructor
  · rintro ⟨a, _, h2, h3⟩
    obtain ⟨j, hj, e⟩ := (okSp_has h (a ||| own)).1 (hS.uni a own h2 ho)
    refine ⟨j, hj, ?_, ?_⟩
    · rw [e, beq_iff_eq]
      apply Nat.eq_of_testBit_eq
      intro i
      rw [andNot_bit, Nat.testBit_or, Nat.zero_testBit]
      cases own.testBit i <;> simp
    · rw [e, rn_or, h3]
      have : rn rest own = 0 := by
        rw [← rn_and, hr]
        apply Nat.eq_of_testBit_eq
        intro b
        rw [Bool.eq_iff_iff, rn_bit]
        simp
      rw [this, Nat.or_zero]
  · rintro ⟨j, hj, _, h3⟩
    have hm := (okSp_has h (nth l j)).2 ⟨j, hj, rfl⟩
    exact ⟨nth l j, okSp_lt128 h _ hm, hm, h3⟩
end Go.Proofs.YtblglkgmnaklbaaDoor
