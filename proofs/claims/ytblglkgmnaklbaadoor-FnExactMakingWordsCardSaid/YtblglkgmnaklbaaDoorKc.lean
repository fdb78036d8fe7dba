/- Mathematics: how many words lead from a set to all items if only some of what can be learnt may be. No program is named here. -/
import Derived.Test.YtblglkgmnaklbaaDoorWc
namespace Go.Proofs.YtblglkgmnaklbaaDoor
open Go.RowKit
set_option maxRecDepth 100000
/-- The sum, over the items below k that may be learnt at s, of A behind them. -/
def sumA (F : Nat → Bool) (al : Nat → Nat → Bool) (A : Nat → Nat) (s : Nat) : Nat → Nat
  | 0 => 0
  | i + 1 => sumA F al A s i + if (!s.testBit i && F (p2s s i) && al s i) = true then A (p2s s i) else 0
def cntAF (F : Nat → Bool) (al : Nat → Nat → Bool) (n : Nat) : Nat → Nat → Nat
  | 0, s => if s = low n then 1 else 0
  | f + 1, s => if s = low n then 1 else if F s = true then sumA F al (cntAF F al n f) s n else 0
def cntA (F : Nat → Bool) (al : Nat → Nat → Bool) (n : Nat) : Nat → Nat := cntAF F al n 7
theorem sumA_next (F : Nat → Bool) (al : Nat → Nat → Bool) (A : Nat → Nat) (s i : Nat) : sumA F al A s (i + 1) = sumA F al A s i + if (!s.testBit i && F (p2s s i) && al s i) = true then A (p2s s i) else 0 := rfl
theorem sumA_congr {F : Nat → Bool} {al : Nat → Nat → Bool} {A B : Nat → Nat} {s : Nat} : ∀ k, (∀ i, i < k → s.testBit i = false → F (p2s s i) = true → A (p2s s i) = B (p2s s i)) → sumA F al A s k = sumA F al B s k
  | 0, _ => rfl
  | k + 1, h => by
    rw [sumA, sumA, sumA_congr k (fun i hi => h i (by omega))]
    congr 1
    split
    · rename_i hc
      simp only [Bool.and_eq_true, Bool.not_eq_true'] at hc
      exact h k (by omega) hc.1.1 hc.1.2
    · rfl
theorem sumA_le {F : Nat → Bool} {al : Nat → Nat → Bool} {A : Nat → Nat} {s B : Nat} (h : ∀ x, A x ≤ B) : ∀ k, sumA F al A s k ≤ k * B
  | 0 => by simp [sumA]
  | k + 1 => by
    have h1 := sumA_le (F := F) (al := al) (s := s) h k
    rw [sumA, Nat.add_mul, Nat.one_mul]
    split
    · have := h (p2s s k); omega
    · omega
theorem sumA_all (F : Nat → Bool) (A : Nat → Nat) (s : Nat) : ∀ k, sumA F (fun _ _ => true) A s k = sumN F A s k
  | 0 => rfl
  | k + 1 => by rw [sumA, sumN, sumA_all F A s k, Bool.and_true]
theorem cntAF_all (F : Nat → Bool) (n : Nat) : ∀ f s, cntAF F (fun _ _ => true) n f s = cntF F n f s
  | 0, s => rfl
  | f + 1, s => by
    rw [cntAF, cntF, sumA_all]
    have : cntAF F (fun _ _ => true) n f = cntF F n f := funext (cntAF_all F n f)
    rw [this]
theorem cntA_all (F : Nat → Bool) (n : Nat) : cntA F (fun _ _ => true) n = cnt F n := funext (cntAF_all F n 7)
theorem cntAF_le (F : Nat → Bool) (al : Nat → Nat → Bool) (n : Nat) (h7 : n ≤ 7) : ∀ f s, cntAF F al n f s ≤ 7 ^ f
  | 0, s => by rw [cntAF]; split <;> simp
  | f + 1, s => by
    have h1 : 0 < 7 ^ f := Nat.pow_pos (by omega)
    rw [cntAF, Nat.pow_succ]
    split
    · omega
    · split
      · have h2 := sumA_le (F := F) (al := al) (s := s) (cntAF_le F al n h7 f) n
        have h3 : n * 7 ^ f ≤ 7 * 7 ^ f := Nat.mul_le_mul_right _ h7
        omega
      · omega
theorem cntAF_more (F : Nat → Bool) (al : Nat → Nat → Bool) (n : Nat) (h7 : n ≤ 7) : ∀ f s, s < 128 → 7 ≤ f + pc s → cntAF F al n f s = cntAF F al n (f + 1) s
  | 0, s, hs, h => by
    have e := pc_full s hs (by omega)
    rw [cntAF, cntAF]
    split
    · rfl
    · split
      · have : ∀ k, k ≤ 7 → sumA F al (cntAF F al n 0) s k = 0 := by
          intro k
          induction k with
          | zero => intro _; rfl
          | succ k ih =>
            intro hk
            rw [sumA, ih (by omega), e, bit127 k (by omega)]; simp
        rw [this n h7]
      · rfl
  | f + 1, s, hs, h => by
    rw [cntAF, cntAF]
    split
    · rfl
    · split
      · refine sumA_congr n fun i hi hb _ => cntAF_more F al n h7 f _ (p2s_lt s i hs (by omega)) ?_
        have := pc_or s hs i (by omega) hb
        have e : p2s s i = s ||| 2 ^ i := rfl
        rw [e]; omega
      · rfl
theorem cntA_eq (F : Nat → Bool) (al : Nat → Nat → Bool) (n : Nat) (h7 : n ≤ 7) (s : Nat) (hs : s < 128) : cntA F al n s = if s = low n then 1 else if F s = true then sumA F al (cntA F al n) s n else 0 := by
  unfold cntA
  rw [cntAF_more F al n h7 7 s hs (by omega), cntAF]
theorem cntA_le (F : Nat → Bool) (al : Nat → Nat → Bool) (n : Nat) (h7 : n ≤ 7) (s : Nat) : cntA F al n s ≤ 823543 := cntAF_le F al n h7 7 s
theorem cntA_sum_le (F : Nat → Bool) (al : Nat → Nat → Bool) (n : Nat) (h7 : n ≤ 7) (s : Nat) (k : Nat) (hk : k ≤ 7) : sumA F al (cntA F al n) s k ≤ 5764801 := by
  have h1 := sumA_le (F := F) (al := al) (s := s) (cntA_le F al n h7) k
  have h2 : k * 823543 ≤ 7 * 823543 := Nat.mul_le_mul_right _ hk
  omega
/-- What may be learnt at a set, as a set. -/
def nxA (F : Nat → Bool) (al : Nat → Nat → Bool) (n s : Nat) : Nat := itemsOf (fun i => !s.testBit i && F (p2s s i) && al s i) n
theorem nxA_bit (F : Nat → Bool) (al : Nat → Nat → Bool) (n s i : Nat) : (nxA F al n s).testBit i = (decide (i < n) && (!s.testBit i && F (p2s s i) && al s i)) := by
  unfold nxA; rw [itemsOf_bit]
theorem nxA_lt (F : Nat → Bool) (al : Nat → Nat → Bool) (n s : Nat) (h7 : n ≤ 7) : nxA F al n s < 128 := by
  have := itemsOf_lt (fun i => !s.testBit i && F (p2s s i) && al s i) n
  have h2 := p2_le n 7 h7
  unfold nxA
  omega
theorem nxA_all (F : Nat → Bool) (n s : Nat) : nxA F (fun _ _ => true) n s = outerOf F n s := by
  apply Nat.eq_of_testBit_eq
  intro i
  rw [nxA_bit, outer_bit, Bool.and_true]
theorem sumA_r (F : Nat → Bool) (al : Nat → Nat → Bool) (A : Nat → Nat) (s : Nat) : ∀ k, sumA F al A s k = lsum (fun i => if (!s.testBit i && F (p2s s i) && al s i) = true then A (p2s s i) else 0) (List.range k)
  | 0 => rfl
  | k + 1 => by
    rw [sumA, sumA_r F al A s k, List.range_succ, lsum_app]
    simp [lsum]
theorem sumA_cut (F : Nat → Bool) (al : Nat → Nat → Bool) (A : Nat → Nat) (s n : Nat) (hF : ∀ x, F x = true → x < 2 ^ n) : ∀ k, n ≤ k → sumA F al A s k = sumA F al A s n
  | 0, h => by have : n = 0 := by omega
               subst this; rfl
  | k + 1, h => by
    rcases Nat.lt_or_ge n (k + 1) with h1 | h1
    · rw [sumA, sumA_cut F al A s n hF k (by omega)]
      cases hf : F (p2s s k)
      · simp
      · have h2 := hF _ hf
        have h3 : 2 ^ n ≤ 2 ^ k := p2_le n k (by omega)
        have h4 : (p2s s k).testBit k = true := by unfold p2s; rw [Nat.testBit_or, p2_bit]; simp
        rw [Nat.testBit_lt_two_pow (Nat.lt_of_lt_of_le h2 h3)] at h4
        cases h4
    · have : n = k + 1 := by omega
      subst this; rfl
theorem isum_nxA (F : Nat → Bool) (al : Nat → Nat → Bool) (A : Nat → Nat) (n s : Nat) (h7 : n ≤ 7) (hF : ∀ x, F x = true → x < 2 ^ n) :
    isum (fun i => A (p2s s i)) (itemsL (nxA F al n s)) (itemsL (nxA F al n s)).length = sumA F al A s n := by
  unfold isum
  rw [List.take_length, ← sumA_cut F al A s n hF 7 h7, sumA_r]
  have e : (itemsL (nxA F al n s)).map Int.toNat = itemsN (nxA F al n s) := by
    unfold itemsL
    rw [List.map_map]
    conv => rhs; rw [← List.map_id (itemsN (nxA F al n s))]
    exact List.map_congr_left fun x _ => by simp
  rw [e]
  unfold itemsN
  rw [lsum_filter]
  refine lsum_congr fun i _ => ?_
  rw [nxA_bit]
  by_cases hi : i < n
  · rw [decide_eq_true hi, Bool.true_and]
  · rw [decide_eq_false hi, Bool.false_and]
    cases hf : F (p2s s i)
    · simp
    · have h2 := hF _ hf
      have h3 : 2 ^ n ≤ 2 ^ i := p2_le n i (by omega)
      have h4 : (p2s s i).testBit i = true := by unfold p2s; rw [Nat.testBit_or, p2_bit]; simp
      rw [Nat.testBit_lt_two_pow (Nat.lt_of_lt_of_le h2 h3)] at h4
      cases h4
/-- The counts of the sets from k on. -/
def cKA (F : Nat → Bool) (al : Nat → Nat → Bool) (n k : Nat) : Nat → Nat := fun x => if k ≤ x then cntA F al n x else 0
theorem cKA_zero (F : Nat → Bool) (al : Nat → Nat → Bool) (n : Nat) : cRow (cKA F al n 0) = cRow (cntA F al n) := cRow_congr fun i _ => by simp [cKA]
theorem cKA_start (F : Nat → Bool) (al : Nat → Nat → Bool) (n : Nat) (h7 : n ≤ 7) (hF : ∀ x, F x = true → x < 2 ^ n) : cRow (updN (fun _ => 0) (low n) 1) = cRow (cKA F al n (low n)) := cRow_congr fun i hi => by
  unfold updN cKA
  have hl := low_succ n
  rw [cntA_eq F al n h7 i hi]
  by_cases h1 : i = low n
  · simp [h1]
  · rw [if_neg h1]
    by_cases h2 : low n ≤ i
    · rw [if_pos h2, if_neg h1]
      cases hf : F i
      · simp
      · have := hF i hf; omega
    · rw [if_neg h2]
theorem cKA_skip (F : Nat → Bool) (al : Nat → Nat → Bool) (n k : Nat) (h7 : n ≤ 7) (hk : k < low n) (hF : F k = false) : cRow (cKA F al n (k + 1)) = cRow (cKA F al n k) := cRow_congr fun i hi => by
  unfold cKA
  by_cases h1 : i = k
  · subst h1
    rw [if_neg (by omega), if_pos (Nat.le_refl _), cntA_eq F al n h7 i hi, if_neg (by omega), hF]; rfl
  · by_cases h2 : k ≤ i
    · rw [if_pos h2, if_pos (by omega)]
    · rw [if_neg h2, if_neg (by omega)]
theorem cKA_done (F : Nat → Bool) (al : Nat → Nat → Bool) (n k : Nat) (h7 : n ≤ 7) (hk : k < low n) (hF : F k = true) : cRow (updN (cKA F al n (k + 1)) k (sumA F al (cntA F al n) k n)) = cRow (cKA F al n k) := cRow_congr fun i hi => by
  unfold cKA updN
  by_cases h1 : i = k
  · subst h1
    rw [if_pos rfl, if_pos (Nat.le_refl _), cntA_eq F al n h7 i hi, if_neg (by omega), hF]; rfl
  · rw [if_neg h1]
    show (if k + 1 ≤ i then cntA F al n i else 0) = if k ≤ i then cntA F al n i else 0
    by_cases h2 : k ≤ i
    · rw [if_pos h2, if_pos (by omega)]
    · rw [if_neg h2, if_neg (by omega)]
theorem cKA_upd0 (F : Nat → Bool) (al : Nat → Nat → Bool) (n s : Nat) : cRow (updN (cKA F al n (s + 1)) s 0) = cRow (cKA F al n (s + 1)) := cRow_congr fun i _ => by
  unfold cKA updN
  by_cases h1 : i = s
  · subst h1; rw [if_pos rfl, if_neg (by omega)]
  · rw [if_neg h1]
end Go.Proofs.YtblglkgmnaklbaaDoor
