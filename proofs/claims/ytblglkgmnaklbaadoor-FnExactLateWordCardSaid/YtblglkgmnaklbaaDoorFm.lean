/- Mathematics: a word led on to a goal. -/
import Derived.Test.YtblglkgmnaklbaaDoorTz
import Derived.Test.YtblglkgmnaklbaaDoorWc
import Derived.Test.YtblglkgmnaklbaaDoorRn
namespace Go.Proofs.YtblglkgmnaklbaaDoor
set_option maxRecDepth 100000
theorem tz_bit : ∀ x, x < 128 → x ≠ 0 → x.testBit (tzN x) = true := by decide +kernel
theorem tz_lt7 : ∀ x, x < 128 → tzN x < 7 := by decide +kernel
theorem tz_least : ∀ x, x < 128 → ∀ i, i < 7 → i < tzN x → x.testBit i = false := by decide +kernel
theorem pc_zero : ∀ x, x < 128 → pc x = 0 → x = 0 := by decide +kernel
theorem pc_drop : ∀ x, x < 128 → ∀ i, i < 7 → x.testBit i = true → pc (andNot x (p2 i)) + 1 = pc x := by decide +kernel
attribute [local irreducible] p2 low memB risB
theorem an0 (a b : Nat) : andNot a b = 0 ↔ ∀ i, a.testBit i = true → b.testBit i = true := by
  constructor
  · intro h i hi
    have := andNot_bit a b i
    rw [h, Nat.zero_testBit, hi] at this
    simpa using this
  · intro h
    apply Nat.eq_of_testBit_eq
    intro i
    rw [andNot_bit, Nat.zero_testBit]
    cases hi : a.testBit i
    · rfl
    · simp [h i hi]
theorem fin_ex {F : Nat → Bool} {n : Nat} (h : Spc F n) (h7 : n ≤ 7) {goal s : Nat} (hs : F s = true) : ∀ t, F t = true → andNot t goal = 0 → andNot t s ≠ 0 → ∃ i, i < n ∧ s.testBit i = false ∧ goal.testBit i = true ∧ F (s ||| p2 i) = true := by
  intro t
  generalize hk : pc t = k
  induction k generalizing t with
  | zero =>
    intro ht _ hn
    exfalso
    apply hn
    have ht128 : t < 128 := by have := h.lt t ht; have := p2_le n 7 h7; omega
    have : t = 0 := pc_zero t ht128 hk
    rw [this, an0]
    intro i hi
    simp at hi
  | succ k ih =>
    intro ht hg hn
    have ht128 : t < 128 := by have := h.lt t ht; have := p2_le n 7 h7; omega
    have h0 : t ≠ 0 := by
      rintro rfl
      apply hn
      rw [an0]
      intro i hi
      simp at hi
    obtain ⟨i, hi, hti, hF⟩ := h.grad t ht h0
    by_cases hc : andNot (andNot t (p2 i)) s = 0
    · have hbit : ∀ j, j ≠ i → t.testBit j = true → s.testBit j = true := fun j hj ht' => (an0 _ _).1 hc j (by rw [andNot_bit, ht', p2_bit]; simp; omega)
      refine ⟨i, hi, ?_, (an0 t goal).1 hg i hti, ?_⟩
      · cases hsi : s.testBit i
        · rfl
        · exfalso
          apply hn
          rw [an0]
          intro j hj
          by_cases hij : j = i
          · rw [hij]; exact hsi
          · exact hbit j hij hj
      · have he : s ||| p2 i = s ||| t := by
          apply Nat.eq_of_testBit_eq
          intro j
          rw [Nat.testBit_or, Nat.testBit_or, p2_bit]
          by_cases hij : i = j
          · subst hij; simp [hti]
          · cases htj : t.testBit j
            · simp [hij]
            · simp [hbit j (Ne.symm hij) htj]
        rw [he]
        exact h.uni s t hs ht
    · refine ih _ ?_ hF ?_ hc
      · have := pc_drop t ht128 i (by omega) hti
        omega
      · rw [an0]
        intro j hj
        rw [andNot_bit] at hj
        exact (an0 t goal).1 hg j (by simp at hj; exact hj.1)
def nxt (F : Nat → Bool) (n goal s : Nat) : Nat := outerOf F n s &&& goal
def finTo (F : Nat → Bool) (n goal : Nat) : Nat → Nat → List Int
  | 0, _ => []
  | k + 1, s => ((tzN (nxt F n goal s) : Nat) : Int) :: finTo F n goal k (s ||| p2 (tzN (nxt F n goal s)))
def finL (F : Nat → Bool) (n goal s : Nat) : List Int := finTo F n goal (pc (andNot goal s)) s
theorem finTo_len (F : Nat → Bool) (n goal : Nat) : ∀ k s, (finTo F n goal k s).length = k
  | 0, _ => rfl
  | k + 1, s => by simp [finTo, finTo_len F n goal k]
theorem finL_len (F : Nat → Bool) (n goal s : Nat) : (finL F n goal s).length ≤ 7 := by
  rw [finL, finTo_len]; exact pc_le _
theorem finL_done (F : Nat → Bool) (n goal : Nat) : finL F n goal goal = [] := by
  have : andNot goal goal = 0 := (an0 _ _).2 fun _ h => h
  rw [finL, this]; rfl
theorem nxt_bit (F : Nat → Bool) (n goal s i : Nat) : (nxt F n goal s).testBit i = ((decide (i < n) && (!s.testBit i && F (s ||| p2 i))) && goal.testBit i) := by
  rw [nxt, Nat.testBit_and, outer_bit]; rfl
theorem nxt_lt (F : Nat → Bool) (n goal s : Nat) (hg : goal < 128) : nxt F n goal s < 128 := Nat.lt_of_le_of_lt Nat.and_le_right hg
/-- One step. -/
theorem fin_next {F : Nat → Bool} {n : Nat} (h : Spc F n) (h7 : n ≤ 7) {goal s : Nat} (hg : F goal = true) (hs : F s = true) (hin : andNot s goal = 0) (hne : s ≠ goal) :
    nxt F n goal s ≠ 0 ∧ tzN (nxt F n goal s) < n ∧ s.testBit (tzN (nxt F n goal s)) = false ∧ goal.testBit (tzN (nxt F n goal s)) = true ∧ F (s ||| p2 (tzN (nxt F n goal s))) = true
    ∧ andNot (s ||| p2 (tzN (nxt F n goal s))) goal = 0 ∧ finL F n goal s = ((tzN (nxt F n goal s) : Nat) : Int) :: finL F n goal (s ||| p2 (tzN (nxt F n goal s)))
    ∧ pc (andNot goal (s ||| p2 (tzN (nxt F n goal s)))) + 1 = pc (andNot goal s) := by
  have hp := p2_le n 7 h7
  have hg128 : goal < 128 := by have := h.lt goal hg; omega
  have hng : andNot goal s ≠ 0 := by
    intro h0
    apply hne
    apply Nat.eq_of_testBit_eq
    intro i
    rw [Bool.eq_iff_iff]
    exact ⟨(an0 _ _).1 hin i, (an0 _ _).1 h0 i⟩
  obtain ⟨j, hj1, hj2, hj3, hj4⟩ := fin_ex h h7 hs goal hg ((an0 _ _).2 fun _ h => h) hng
  have hx0 : nxt F n goal s ≠ 0 := by
    intro h0
    have := nxt_bit F n goal s j
    rw [h0, Nat.zero_testBit, hj2, hj3, hj4, decide_eq_true hj1] at this
    cases this
  have hx := nxt_lt F n goal s hg128
  have hb := tz_bit _ hx hx0
  rw [nxt_bit] at hb
  simp only [Bool.and_eq_true, decide_eq_true_eq, Bool.not_eq_true'] at hb
  have hlt := tz_lt7 _ hx
  generalize hi : tzN (nxt F n goal s) = i at hb hlt ⊢
  obtain ⟨⟨h1, h2, h3⟩, h4⟩ := hb
  have hgs : andNot goal (s ||| p2 i) = andNot (andNot goal s) (p2 i) := by
    apply Nat.eq_of_testBit_eq
    intro b
    rw [andNot_bit, andNot_bit, andNot_bit, Nat.testBit_or]
    cases goal.testBit b <;> cases s.testBit b <;> simp
  have hpc := pc_drop (andNot goal s) (andNot_lt128 _ _ hg128) i hlt (by rw [andNot_bit, h4, h2]; rfl)
  rw [← hgs] at hpc
  refine ⟨hx0, h1, h2, h4, h3, ?_, ?_, hpc⟩
  · rw [an0]
    intro b hb'
    rw [Nat.testBit_or, p2_bit] at hb'
    by_cases hib : i = b
    · rw [← hib]; exact h4
    · simp [hib] at hb'
      exact (an0 _ _).1 hin b hb'
  · rw [finL, ← hpc, finTo, hi, finL]
end Go.Proofs.YtblglkgmnaklbaaDoor
