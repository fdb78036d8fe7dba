/- Mathematics: the specification's way to the order from both ends. No program is named here. -/
import Derived.Test.YtonimjpfaalniaaEb
namespace Go.Proofs.Ytonimjpfaalniaa
open Go.RowKit
set_option maxRecDepth 100000
/-- A function's first m values, as a row. -/
def lsT (m : Nat) (f : Nat → Nat) : List Int := (List.range m).map fun i => (f i : Int)
theorem lsT_len (m : Nat) (f : Nat → Nat) : (lsT m f).length = m := by simp [lsT]
theorem lsT_at {m : Nat} (f : Nat → Nat) {j : Nat} (h : j < m) : (lsT m f)[j]?.getD 0 = (f j : Int) := by simp [lsT, h]
theorem lsT_zero (m : Nat) : List.replicate m 0 = lsT m fun _ => 0 := by
  apply List.ext_getElem
  · simp [lsT]
  · intro i _ _; simp [lsT]
theorem lsT_congr {m : Nat} {f g : Nat → Nat} (h : ∀ i, i < m → f i = g i) : lsT m f = lsT m g := by
  unfold lsT
  refine List.map_congr_left fun i hi => ?_
  rw [h i (List.mem_range.1 hi)]
theorem lsT_set {m : Nat} (f g : Nat → Nat) (j v : Nat) (h : ∀ i, i < m → g i = if i = j then v else f i) : (lsT m f).set j (v : Int) = lsT m g := by
  apply List.ext_getElem
  · simp [lsT]
  · intro i h1 h2
    have hi : i < m := by simpa [lsT] using h2
    rw [List.getElem_set]
    simp only [lsT, List.getElem_map, List.getElem_range]
    rw [h i hi]
    by_cases e : j = i
    · subst e; simp
    · rw [if_neg e, if_neg (fun e2 => e e2.symm)]
/-- What is less, by the first k pairs alone. -/
def liF (L : List (List Int)) : Nat → Nat → Nat
  | 0 => fun _ => 0
  | k + 1 => fun i => if i = pb L k then liF L k i ||| p2 (pa L k) else liF L k i
theorem liF_succ (L : List (List Int)) (k i : Nat) : liF L (k + 1) i = if i = pb L k then liF L k i ||| p2 (pa L k) else liF L k i := rfl
theorem liF_bit (L : List (List Int)) (i x : Nat) : ∀ k, (liF L k i).testBit x = true ↔ ∃ j, j < k ∧ pb L j = i ∧ pa L j = x
  | 0 => by simp [liF]
  | k + 1 => by
    have ih := liF_bit L i x k
    rw [liF_succ]
    by_cases e : i = pb L k
    · rw [if_pos e, Nat.testBit_or, Bool.or_eq_true, ih, p2_bit, decide_eq_true_eq]
      constructor
      · rintro (⟨j, h1, h2, h3⟩ | h)
        · exact ⟨j, by omega, h2, h3⟩
        · exact ⟨k, by omega, e.symm, h⟩
      · rintro ⟨j, h1, h2, h3⟩
        rcases Nat.lt_or_ge j k with h | h
        · exact .inl ⟨j, h, h2, h3⟩
        · have : j = k := by omega
          subst this; exact .inr h3
    · rw [if_neg e, ih]
      constructor
      · rintro ⟨j, h1, h2, h3⟩
        exact ⟨j, by omega, h2, h3⟩
      · rintro ⟨j, h1, h2, h3⟩
        rcases Nat.lt_or_ge j k with h | h
        · exact ⟨j, h, h2, h3⟩
        · have : j = k := by omega
          subst this; exact absurd h2.symm e
theorem liF_lt {m : Nat} {L : List (List Int)} (hA : prA (m : Int) L = true) (i : Nat) : ∀ k, k ≤ L.length → liF L k i < 2 ^ m
  | 0, _ => p2_pos m
  | k + 1, h => by
    have ih := liF_lt hA i k (by omega)
    rw [liF_succ]
    split
    · refine Nat.or_lt_two_pow ih (show 2 ^ pa L k < 2 ^ m from Nat.pow_lt_pow_right (by omega) ?_)
      have := (prA_pairs hA k (by omega)).2.2.1
      simpa using this
    · exact ih
/-- The steps of the closing. -/
def cloN (L : List (List Int)) : Nat → Nat → Nat
  | 0 => liF L L.length
  | k + 1 => cloStep (cloN L k) k
theorem cloN_to {m : Nat} {L : List (List Int)} (hA : prA (m : Int) L = true) : ∀ k, CloTo m L k (cloN L k)
  | 0 => {
    lt := fun i => liF_lt hA i _ (Nat.le_refl _)
    base := fun j hj => (liF_bit L _ _ _).2 ⟨j, hj, rfl, rfl⟩
    trans := fun i m x h => by omega
    least := fun R _ hb i x hx => by
      obtain ⟨j, h1, h2, h3⟩ := (liF_bit L i x _).1 hx
      rw [← h2, ← h3]; exact hb j h1 }
  | k + 1 => (cloN_to hA k).next
theorem cloN_clo {m : Nat} {L : List (List Int)} (hA : prA (m : Int) L = true) : Clo m L (cloN L m) := (cloN_to hA m).done
/-- One step of the closing, for the first a items. -/
def cuF (f : Nat → Nat) (k a : Nat) : Nat → Nat := fun i => if i < a then cloStep f k i else f i
theorem cuF_zero (f : Nat → Nat) (k : Nat) : cuF f k 0 = f := by funext i; simp [cuF]
theorem cuF_done (f : Nat → Nat) (k m : Nat) : lsT m (cuF f k m) = lsT m (cloStep f k) := lsT_congr fun i hi => by simp [cuF, hi]
theorem cuF_self (f : Nat → Nat) (k a : Nat) : cuF f k a k = f k := by
  unfold cuF cloStep
  split
  · split
    · rw [Nat.or_self]
    · rfl
  · rfl
theorem cuF_cur (f : Nat → Nat) (k a : Nat) : cuF f k a a = f a := by simp [cuF]
theorem cuF_yes {f : Nat → Nat} {k a : Nat} (h : (f a).testBit k = true) (i : Nat) : cuF f k (a + 1) i = if i = a then f a ||| f k else cuF f k a i := by
  unfold cuF cloStep
  by_cases e : i = a
  · subst e; simp [h]
  · rw [if_neg e]
    by_cases h2 : i < a
    · rw [if_pos h2, if_pos (show i < a + 1 by omega)]
    · rw [if_neg h2, if_neg (show ¬ i < a + 1 by omega)]
theorem cuF_no {f : Nat → Nat} {k a : Nat} (h : (f a).testBit k = false) : cuF f k (a + 1) = cuF f k a := by
  funext i
  unfold cuF cloStep
  by_cases e : i = a
  · subst e; simp [h]
  · by_cases h2 : i < a
    · rw [if_pos h2, if_pos (show i < a + 1 by omega)]
    · rw [if_neg h2, if_neg (show ¬ i < a + 1 by omega)]
theorem cuF_lt {f : Nat → Nat} {k a n : Nat} (h : ∀ i, f i < 2 ^ n) (i : Nat) : cuF f k a i < 2 ^ n := by
  unfold cuF cloStep
  split
  · split
    · exact Nat.or_lt_two_pow (h i) (h k)
    · exact h i
  · exact h i
theorem es_none {m : Nat} {L : List (List Int)} (h1 : 1 ≤ m) (h7 : m ≤ 7) (hA : prA (m : Int) L = true) : osB (m : Int) L = true ↔ ∀ i, i < m → (cloN L m i).testBit i = false := by
  rw [os_rank h1 h7 hA, ← clo_rank h7 (cloN_clo hA)]
  constructor
  · intro h i _; exact h i
  · intro h i
    cases e : (cloN L m i).testBit i
    · rfl
    · rw [h i (bit_ltE ((cloN_clo hA).lt i) e)] at e; cases e
/-- Whether all of the first n pass. -/
def allN (P : Nat → Bool) : Nat → Bool
  | 0 => true
  | k + 1 => allN P k && P k
theorem allN_iff (P : Nat → Bool) : ∀ n, allN P n = true ↔ ∀ k, k < n → P k = true
  | 0 => by simp [allN]
  | n + 1 => by
    rw [allN, Bool.and_eq_true, allN_iff P n]
    constructor
    · rintro ⟨h1, h2⟩ k hk
      rcases Nat.lt_or_ge k n with h | h
      · exact h1 k h
      · have : k = n := by omega
        subst this; exact h2
    · intro h
      exact ⟨fun k hk => h k (by omega), h n (by omega)⟩
/-- Whether items i, j, k are no reason against leaving R. -/
def okP (f : Nat → Nat) (R i j k : Nat) : Bool := !((((R.testBit i && R.testBit j) && (f k).testBit i) && (f j).testBit k) && !R.testBit k)
def okQ (m : Nat) (f : Nat → Nat) (R i j : Nat) : Bool := allN (okP f R i j) m
def okO (m : Nat) (f : Nat → Nat) (R i : Nat) : Bool := allN (okQ m f R i) m
def fitB (m : Nat) (f : Nat → Nat) (s : Nat) : Bool := allN (okO m f (andNot (low m) s)) m
theorem rem_bit {m s i : Nat} (h : i < m) : (andNot (low m) s).testBit i = !s.testBit i := by
  rw [andNot_bit, low_bit, decide_eq_true h, Bool.true_and]
theorem fitB_iff (m : Nat) (f : Nat → Nat) (s : Nat) : fitB m f s = true ↔ fitP m f s := by
  unfold fitB fitP
  rw [allN_iff]
  constructor
  · intro h i j k hi hj hk e1 e2 e3 e4
    have h1 := h i hi
    unfold okO at h1
    have h2 := (allN_iff _ _).1 h1 j hj
    unfold okQ at h2
    have h3 := (allN_iff _ _).1 h2 k hk
    unfold okP at h3
    rw [rem_bit hi, rem_bit hj, rem_bit hk, e1, e2, e3, e4] at h3
    simpa using h3
  · intro h i hi
    unfold okO
    refine (allN_iff _ _).2 fun j hj => ?_
    unfold okQ
    refine (allN_iff _ _).2 fun k hk => ?_
    unfold okP
    rw [rem_bit hi, rem_bit hj, rem_bit hk]
    cases e1 : s.testBit i
    · cases e2 : s.testBit j
      · cases e3 : (f k).testBit i
        · simp
        · cases e4 : (f j).testBit k
          · simp
          · rw [h i j k hi hj hk e1 e2 e3 e4]; simp
      · simp
    · simp
theorem es_sets {m : Nat} {L : List (List Int)} (h7 : m ≤ 7) (h : osB (m : Int) L = true) : esL (m : Int) L = setsTo (fitB m (cloN L m)) (p2 m) := by
  obtain ⟨_, _, hA, _⟩ := os_in h
  have h2 := es_both h
  have hm := p2_le m 7 h7
  have ea : osL (m : Int) L = setsTo (osF m L) 128 := by rw [(osNL_yes h).2.1]; rfl
  have eb : osL (m : Int) (turnL L) = setsTo (osF m (turnL L)) 128 := by rw [(osNL_yes h2).2.1]; rfl
  rw [esL, if_pos h, show p2 m = 2 ^ m from rfl, ← sets_cut (fitB m (cloN L m)) m hm]
  refine setsTo_congr _ fun s _ => ?_
  rw [Bool.eq_iff_iff, prOut_iff]
  unfold cutAt
  rw [Bool.and_eq_true, decide_eq_true_eq, low_succ, fitB_iff]
  have hF : ∀ K x, osF m K x = true → x < 128 := fun K x hx => by have := (osF_iff.1 hx).1; omega
  constructor
  · rintro ⟨i, hi, j, hj, e⟩
    obtain ⟨_, h3⟩ := (sets_iff (osF m L) (nth (osL (m : Int) L) i) 128).1 (by rw [← ea]; exact ⟨i, hi, rfl⟩)
    obtain ⟨_, h4⟩ := (sets_iff (osF m (turnL L)) (nth (osL (m : Int) (turnL L)) j) 128).1 (by rw [← eb]; exact ⟨j, hj, rfl⟩)
    have hs : s < 2 ^ m := by rw [← e]; exact Nat.or_lt_two_pow (osF_iff.1 h3).1 (osF_iff.1 h4).1
    exact ⟨hs, (fit_iff hA (cloN_clo hA) hs).2 ⟨_, _, h3, h4, e⟩⟩
  · rintro ⟨hs, hf⟩
    obtain ⟨D, U, h3, h4, e⟩ := (fit_iff hA (cloN_clo hA) hs).1 hf
    obtain ⟨i, hi, ei⟩ := (sets_iff (osF m L) D 128).2 ⟨hF _ _ h3, h3⟩
    obtain ⟨j, hj, ej⟩ := (sets_iff (osF m (turnL L)) U 128).2 ⟨hF _ _ h4, h4⟩
    rw [← ea] at hi ei
    rw [← eb] at hj ej
    exact ⟨i, hi, j, hj, by rw [ei, ej, e]⟩
end Go.Proofs.Ytonimjpfaalniaa
