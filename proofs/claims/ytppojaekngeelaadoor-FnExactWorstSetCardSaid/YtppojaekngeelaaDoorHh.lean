/- Plain mathematics: questions about a family of sets: what is open, both parts, runs. -/
import Derived.Test.YtppojaekngeelaaDoorHa
import Derived.Test.YtppojaekngeelaaDoorRn
namespace Go.Proofs.YtppojaekngeelaaDoor
open Go.RowKit
set_option maxRecDepth 100000
/-- What some, but not all of the sets have. -/
def opN (n : Nat) (F : Nat → Bool) : Nat := andNot (low n) (kaL (setsTo F 128) (low n) ||| knL (setsTo F 128) (low n))
theorem opN_lt (n : Nat) (h : n ≤ 7) (F : Nat → Bool) : opN n F < 128 := andNot_lt _ _ 7 (low_lt n h)
theorem ex_sets (F : Nat → Bool) (i : Nat) (b : Bool) : (¬ ∀ j, j < (setsTo F 128).length → (nth (setsTo F 128) j).testBit i = b) ↔ ∃ s, s < 128 ∧ F s = true ∧ s.testBit i = !b := by
  constructor
  · intro h
    rw [Classical.not_forall] at h
    obtain ⟨j, h⟩ := h
    rw [Classical.not_imp] at h
    obtain ⟨hj, h⟩ := h
    obtain ⟨h1, h2⟩ := (sets_iff F (nth (setsTo F 128) j) 128).1 ⟨j, hj, rfl⟩
    refine ⟨_, h1, h2, ?_⟩
    generalize Nat.testBit (nth (setsTo F 128) j) i = c at h ⊢
    cases b <;> cases c <;> simp at h ⊢
  · rintro ⟨s, h1, h2, h3⟩ h
    obtain ⟨j, hj, e⟩ := (sets_iff F s 128).2 ⟨h1, h2⟩
    have h4 := h j hj
    rw [e, h3] at h4
    cases b <;> cases h4
theorem opN_bit (n i : Nat) (F : Nat → Bool) : (opN n F).testBit i = true ↔ i < n ∧ (∃ s, s < 128 ∧ F s = true ∧ s.testBit i = true) ∧ ∃ s, s < 128 ∧ F s = true ∧ s.testBit i = false := by
  have h1 := kaTo_bit (setsTo F 128) (low n) i (setsTo F 128).length
  have h2 := knTo_bit (setsTo F 128) (low n) i (setsTo F 128).length
  have e1 := ex_sets F i true
  have e2 := ex_sets F i false
  unfold opN kaL knL
  rw [andNot_bit, Nat.testBit_or, Bool.and_eq_true, Bool.not_eq_true', Bool.or_eq_false_iff, low_bit, decide_eq_true_eq]
  rw [low_bit, decide_eq_true_eq] at h1 h2
  constructor
  · rintro ⟨hi, hk, hn⟩
    refine ⟨hi, e2.1 fun h => ?_, e1.1 fun h => ?_⟩
    · rw [h2.2 ⟨hi, h⟩] at hn; cases hn
    · rw [h1.2 ⟨hi, h⟩] at hk; cases hk
  · rintro ⟨hi, hk, hn⟩
    refine ⟨hi, ?_, ?_⟩
    · cases e : (kaTo (setsTo F 128) (low n) (setsTo F 128).length).testBit i
      · rfl
      · exact absurd (h1.1 e).2 (e1.2 hn)
    · cases e : (knTo (setsTo F 128) (low n) (setsTo F 128).length).testBit i
      · rfl
      · exact absurd (h2.1 e).2 (e2.2 hk)
theorem opN_zero {n : Nat} {F : Nat → Bool} (_ : n ≤ 7) (hF : ∀ x, F x = true → x ≤ low n) : opN n F = 0 ↔ cntS F ≤ 1 := by
  constructor
  · intro h
    rcases Nat.lt_or_ge 1 (cntS F) with hc | hc
    · exfalso
      have h2 := hc
      unfold cntS at h2
      obtain ⟨a1, a2⟩ := (sets_iff F (nth (setsTo F 128) 0) 128).1 ⟨0, by omega, rfl⟩
      obtain ⟨b1, b2⟩ := (sets_iff F (nth (setsTo F 128) 1) 128).1 ⟨1, by omega, rfl⟩
      have hne : nth (setsTo F 128) 0 ≠ nth (setsTo F 128) 1 := by
        intro e
        have h3 := sets_inc F 128 0 1 (by omega) (by omega)
        have r0 := setsTo_range F 128 0 (by omega)
        have r1 := setsTo_range F 128 1 (by omega)
        unfold nth at e
        omega
      generalize nth (setsTo F 128) 0 = a at a1 a2 hne
      generalize nth (setsTo F 128) 1 = b at b1 b2 hne
      have hx : ∃ i, a.testBit i ≠ b.testBit i := by
        rw [← Classical.not_forall]
        exact fun h => hne (Nat.eq_of_testBit_eq h)
      obtain ⟨i, hi⟩ := hx
      have hp := low_succ n
      have hin : i < n := by
        rcases Nat.lt_or_ge i n with h | h
        · exact h
        · have ha := hF a a2
          have hb := hF b b2
          have hle := Nat.pow_le_pow_right (show 0 < 2 by omega) h
          rw [Nat.testBit_lt_two_pow (show a < 2 ^ i by omega), Nat.testBit_lt_two_pow (show b < 2 ^ i by omega)] at hi
          exact absurd rfl hi
      have hz : (opN n F).testBit i = true := by
        rw [opN_bit]
        cases ha : a.testBit i <;> cases hb : b.testBit i
        · rw [ha, hb] at hi; exact absurd rfl hi
        · exact ⟨hin, ⟨b, b1, b2, hb⟩, a, a1, a2, ha⟩
        · exact ⟨hin, ⟨a, a1, a2, ha⟩, b, b1, b2, hb⟩
        · rw [ha, hb] at hi; exact absurd rfl hi
      rw [h, Nat.zero_testBit] at hz
      cases hz
    · exact hc
  · intro h
    apply Nat.eq_of_testBit_eq
    intro i
    rw [Nat.zero_testBit]
    cases e : (opN n F).testBit i
    · rfl
    · obtain ⟨_, ⟨s, s1, s2, s3⟩, t, t1, t2, t3⟩ := (opN_bit n i F).1 e
      obtain ⟨j, hj, ej⟩ := (sets_iff F s 128).2 ⟨s1, s2⟩
      obtain ⟨k, hk, ek⟩ := (sets_iff F t 128).2 ⟨t1, t2⟩
      unfold cntS at h
      have : j = k := by omega
      subst this
      rw [← ej, ek, t3] at s3
      cases s3
/-! Both parts. -/
theorem leF_with (F : Nat → Bool) (i s : Nat) : leF F (p2 i) 0 s = (F s && s.testBit i) := by
  unfold leF
  congr 1
  rw [Bool.eq_iff_iff, leB_iff]
  constructor
  · intro h; exact (h i).1 (by rw [p2_bit]; simp)
  · intro h j
    refine ⟨fun hj => ?_, fun hj => ?_⟩
    · rw [p2_bit, decide_eq_true_eq] at hj; subst hj; exact h
    · rw [Nat.zero_testBit] at hj; cases hj
theorem leF_out (F : Nat → Bool) (i s : Nat) : leF F 0 (p2 i) s = (F s && !s.testBit i) := by
  unfold leF
  congr 1
  rw [Bool.eq_iff_iff, leB_iff, Bool.not_eq_true']
  constructor
  · intro h; exact (h i).2 (by rw [p2_bit]; simp)
  · intro h j
    refine ⟨fun hj => ?_, fun hj => ?_⟩
    · rw [Nat.zero_testBit] at hj; cases hj
    · rw [p2_bit, decide_eq_true_eq] at hj; subst hj; exact h
theorem leB_both (y z a b s : Nat) : leB (y ||| a) (z ||| b) s = (leB y z s && leB a b s) := by
  rw [Bool.eq_iff_iff, Bool.and_eq_true, leB_iff, leB_iff, leB_iff]
  constructor
  · intro h
    refine ⟨fun i => ⟨fun hy => (h i).1 (by rw [Nat.testBit_or, hy]; rfl), fun hz => (h i).2 (by rw [Nat.testBit_or, hz]; rfl)⟩, fun i => ⟨fun hy => (h i).1 (by rw [Nat.testBit_or, hy]; simp), fun hz => (h i).2 (by rw [Nat.testBit_or, hz]; simp)⟩⟩
  · rintro ⟨h1, h2⟩ i
    refine ⟨fun hy => ?_, fun hz => ?_⟩
    · rw [Nat.testBit_or, Bool.or_eq_true] at hy
      rcases hy with hy | hy
      · exact (h1 i).1 hy
      · exact (h2 i).1 hy
    · rw [Nat.testBit_or, Bool.or_eq_true] at hz
      rcases hz with hz | hz
      · exact (h1 i).2 hz
      · exact (h2 i).2 hz
theorem leF_leF (F : Nat → Bool) (y z a b : Nat) : leF (leF F y z) a b = leF F (y ||| a) (z ||| b) := by
  funext s
  unfold leF
  rw [leB_both, Bool.and_assoc]
/-- The family that is left if an item is known, or known not to be. -/
def ptF (F : Nat → Bool) (i : Nat) (b : Bool) : Nat → Bool := if b then leF F (p2 i) 0 else leF F 0 (p2 i)
theorem ptF_at (F : Nat → Bool) (i : Nat) (b : Bool) (s : Nat) : ptF F i b s = (F s && (s.testBit i == b)) := by
  unfold ptF
  cases b
  · rw [if_neg (by simp), leF_out]; cases s.testBit i <;> rfl
  · rw [if_pos rfl, leF_with]; cases s.testBit i <;> rfl
theorem ptF_in {F : Nat → Bool} {i : Nat} {b : Bool} {s : Nat} (h : ptF F i b s = true) : F s = true := by
  rw [ptF_at, Bool.and_eq_true] at h; exact h.1
theorem low_part {n i : Nat} {b : Bool} {F : Nat → Bool} (hF : ∀ x, F x = true → x ≤ low n) : ∀ x, ptF F i b x = true → x ≤ low n := fun x hx => hF x (ptF_in hx)
theorem parts_len (F : Nat → Bool) (i : Nat) : ∀ k, (setsTo (ptF F i true) k).length + (setsTo (ptF F i false) k).length = (setsTo F k).length
  | 0 => rfl
  | k + 1 => by
    have ih := parts_len F i k
    rw [setsTo, setsTo, setsTo, ptF_at, ptF_at]
    cases h1 : F k <;> cases h2 : k.testBit i <;> simp <;> omega
theorem parts_cnt (F : Nat → Bool) (i : Nat) : cntS (ptF F i true) + cntS (ptF F i false) = cntS F := parts_len F i 128
theorem cnt_pos {F : Nat → Bool} {s : Nat} (hs : s < 128) (h : F s = true) : 0 < cntS F := by
  obtain ⟨j, hj, _⟩ := (sets_iff F s 128).2 ⟨hs, h⟩
  unfold cntS; omega
theorem part_pos {n i : Nat} {F : Nat → Bool} (h : (opN n F).testBit i = true) (b : Bool) : 0 < cntS (ptF F i b) := by
  obtain ⟨_, ⟨s, s1, s2, s3⟩, t, t1, t2, t3⟩ := (opN_bit n i F).1 h
  cases b
  · exact cnt_pos t1 (by rw [ptF_at, t2, t3]; rfl)
  · exact cnt_pos s1 (by rw [ptF_at, s2, s3]; rfl)
theorem part_less {n i : Nat} {F : Nat → Bool} (h : (opN n F).testBit i = true) (b : Bool) : cntS (ptF F i b) < cntS F := by
  have h1 := part_pos h true
  have h2 := part_pos h false
  have := parts_cnt F i
  cases b <;> omega
/-! Runs. -/
/-- What is asked for, if q tells the questions and s is the set that is known. -/
def rnL (n : Nat) (q : (Nat → Bool) → Nat) (s : Nat) : Nat → (Nat → Bool) → List Int
  | 0, _ => []
  | f + 1, F => if opN n F = 0 then [] else (q F : Int) :: rnL n q s f (ptF F (q F) (s.testBit (q F)))
theorem rnL_end {n : Nat} {q : (Nat → Bool) → Nat} {s : Nat} {F : Nat → Bool} (h : opN n F = 0) : ∀ f, rnL n q s f F = []
  | 0 => rfl
  | f + 1 => by rw [rnL, if_pos h]
theorem rnL_len (n : Nat) (q : (Nat → Bool) → Nat) (s : Nat) : ∀ f F, (rnL n q s f F).length ≤ f
  | 0, _ => Nat.le_refl 0
  | f + 1, F => by
    rw [rnL]
    split
    · simp
    · have := rnL_len n q s f (ptF F (q F) (s.testBit (q F)))
      simp; omega
theorem rnL_go {n : Nat} {q : (Nat → Bool) → Nat} {s f : Nat} {F : Nat → Bool} (h : opN n F ≠ 0) (hF : ∀ x, F x = true → x ≤ low n) (hn : n ≤ 7) (hc : cntS F ≤ f) :
    ∃ g, f = g + 1 ∧ rnL n q s f F = (q F : Int) :: rnL n q s g (ptF F (q F) (s.testBit (q F))) := by
  have h1 : ¬ cntS F ≤ 1 := fun h2 => h ((opN_zero hn hF).2 h2)
  obtain ⟨g, rfl⟩ : ∃ g, f = g + 1 := ⟨f - 1, by omega⟩
  exact ⟨g, rfl, by rw [rnL, if_neg h]⟩
/-! Halving. -/
def difN (F : Nat → Bool) (i : Nat) : Int := ((max (cntS (ptF F i true)) (cntS (ptF F i false)) : Nat) : Int) - ((min (cntS (ptF F i true)) (cntS (ptF F i false)) : Nat) : Int)
theorem difN_in (F : Nat → Bool) (i : Nat) : -1000 ≤ difN F i ∧ difN F i ≤ 1000 := by
  have h1 := cntS_le (ptF F i true)
  have h2 := cntS_le (ptF F i false)
  unfold difN
  omega
/-- The specification's number. -/
theorem difN_abs (F : Nat → Bool) (i : Nat) : difN F i = if 2 * (cntS (ptF F i true) : Int) - (cntS F : Int) < 0 then -(2 * (cntS (ptF F i true) : Int) - (cntS F : Int)) else 2 * (cntS (ptF F i true) : Int) - (cntS F : Int) := by
  have h := parts_cnt F i
  unfold difN
  split <;> omega
end Go.Proofs.YtppojaekngeelaaDoor
