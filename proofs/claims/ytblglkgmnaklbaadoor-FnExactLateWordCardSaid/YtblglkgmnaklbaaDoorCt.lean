/- Plain mathematics: how many words lead from each of the sets to all items; the program's sum over items and the specification's over sets. -/
import Derived.Test.YtblglkgmnaklbaaDoorRn
namespace Go.Proofs.YtblglkgmnaklbaaDoor
open Go.RowKit
set_option maxRecDepth 100000

theorem inc_eq : ∀ (l m : List Int), List.Pairwise (· < ·) l → List.Pairwise (· < ·) m → (∀ x, x ∈ l ↔ x ∈ m) → l = m
  | [], [], _, _, _ => rfl
  | [], b :: m, _, _, h => by have := (h b).2 (by simp); simp at this
  | a :: l, [], _, _, h => by have := (h a).1 (by simp); simp at this
  | a :: l, b :: m, hl, hm, h => by
    rw [List.pairwise_cons] at hl hm
    have hab : a = b := by
      have h1 := (h a).1 (by simp)
      have h2 := (h b).2 (by simp)
      rw [List.mem_cons] at h1 h2
      rcases h1 with h1 | h1
      · exact h1
      · rcases h2 with h2 | h2
        · exact h2.symm
        · have := hm.1 a h1
          have := hl.1 b h2
          omega
    subst hab
    congr 1
    refine inc_eq l m hl.2 hm.2 fun x => ?_
    constructor
    · intro hx
      have := (h x).1 (by simp [hx])
      rw [List.mem_cons] at this
      rcases this with rfl | h3
      · have := hl.1 x hx; omega
      · exact h3
    · intro hx
      have := (h x).2 (by simp [hx])
      rw [List.mem_cons] at this
      rcases this with rfl | h3
      · have := hm.1 x hx; omega
      · exact h3
theorem mem_nth {l : List Int} {x : Int} : x ∈ l ↔ ∃ j, j < l.length ∧ l[j]?.getD 0 = x := by
  rw [List.mem_iff_getElem]
  constructor
  · rintro ⟨j, hj, e⟩; exact ⟨j, hj, by simp [hj, e]⟩
  · rintro ⟨j, hj, e⟩; exact ⟨j, hj, by simpa [hj] using e⟩
theorem okSp_pair {n : Int} {l : List Int} (h : okSp n l = true) : List.Pairwise (· < ·) l := by
  rw [List.pairwise_iff_getElem]
  intro i j hi hj hij
  have := okSp_inc h i j hij hj
  simpa [hi, hj] using this
theorem okSp_list {n : Int} {l : List Int} (h : okSp n l = true) : l = setsTo (marksTo l l.length) 128 := by
  refine inc_eq _ _ (okSp_pair h) (sets_pair _ 128) fun x => ?_
  rw [mem_nth, mem_nth]
  constructor
  · rintro ⟨j, hj, e⟩
    have hm := (okSp_has h (nth l j)).2 ⟨j, hj, rfl⟩
    obtain ⟨i, hi, e2⟩ := (sets_iff _ (nth l j) 128).2 ⟨okSp_lt128 h _ hm, hm⟩
    refine ⟨i, hi, ?_⟩
    have h1 := setsTo_range (marksTo l l.length) 128 i hi
    have h2 := okSp_pos h j hj
    unfold nth at e2
    omega
  · rintro ⟨i, hi, e⟩
    obtain ⟨j, hj, e2⟩ := (okSp_has h _).1 (sets_at (marksTo l l.length) i hi)
    refine ⟨j, hj, ?_⟩
    have h1 := setsTo_range (marksTo l l.length) 128 i hi
    have h2 := okSp_pos h j hj
    unfold nth at e2
    omega

def p2s (s i : Nat) : Nat := s ||| p2 i
/-- The sum, over the items below k that can be learnt at s, of A behind them. -/
def sumN (F : Nat → Bool) (A : Nat → Nat) (s : Nat) : Nat → Nat
  | 0 => 0
  | i + 1 => sumN F A s i + if (!s.testBit i && F (p2s s i)) = true then A (p2s s i) else 0
def cntF (F : Nat → Bool) (n : Nat) : Nat → Nat → Nat
  | 0, s => if s = low n then 1 else 0
  | f + 1, s => if s = low n then 1 else if F s = true then sumN F (cntF F n f) s n else 0
def cnt (F : Nat → Bool) (n : Nat) : Nat → Nat := cntF F n 7
theorem sumN_congr {F : Nat → Bool} {A B : Nat → Nat} {s : Nat} : ∀ k, (∀ i, i < k → s.testBit i = false → F (p2s s i) = true → A (p2s s i) = B (p2s s i)) → sumN F A s k = sumN F B s k
  | 0, _ => rfl
  | k + 1, h => by
    rw [sumN, sumN, sumN_congr k (fun i hi => h i (by omega))]
    congr 1
    split
    · rename_i hc
      simp only [Bool.and_eq_true, Bool.not_eq_true'] at hc
      exact h k (by omega) hc.1 hc.2
    · rfl
theorem sumN_le {F : Nat → Bool} {A : Nat → Nat} {s B : Nat} (h : ∀ x, A x ≤ B) : ∀ k, sumN F A s k ≤ k * B
  | 0 => by simp [sumN]
  | k + 1 => by
    have h1 := sumN_le (F := F) (s := s) h k
    rw [sumN, Nat.add_mul, Nat.one_mul]
    split
    · have := h (p2s s k); omega
    · omega
theorem sumN_mono {F : Nat → Bool} {A : Nat → Nat} {s : Nat} (i : Nat) : ∀ k, i ≤ k → sumN F A s i ≤ sumN F A s k
  | 0, h => by have : i = 0 := by omega
               subst this; exact Nat.le_refl _
  | k + 1, h => by
    rcases Nat.lt_or_ge i (k + 1) with h1 | h1
    · have := sumN_mono (F := F) (A := A) (s := s) i k (by omega)
      rw [sumN]; omega
    · have : i = k + 1 := by omega
      subst this; exact Nat.le_refl _
theorem cntF_le (F : Nat → Bool) (n : Nat) (h7 : n ≤ 7) : ∀ f s, cntF F n f s ≤ 7 ^ f
  | 0, s => by rw [cntF]; split <;> simp
  | f + 1, s => by
    have h1 : 0 < 7 ^ f := Nat.pow_pos (by omega)
    rw [cntF, Nat.pow_succ]
    split
    · omega
    · split
      · have h2 := sumN_le (F := F) (s := s) (cntF_le F n h7 f) n
        have h3 : n * 7 ^ f ≤ 7 * 7 ^ f := Nat.mul_le_mul_right _ h7
        omega
      · omega
theorem pc_or : ∀ s, s < 128 → ∀ i, i < 7 → s.testBit i = false → pc (s ||| 2 ^ i) = pc s + 1 := by decide +kernel
theorem pc_full : ∀ s, s < 128 → 7 ≤ pc s → s = 127 := by decide +kernel
theorem bit127 : ∀ i, i < 7 → (127 : Nat).testBit i = true := by decide
theorem p2s_lt (s i : Nat) (hs : s < 128) (hi : i < 7) : p2s s i < 128 := or_lt128 _ _ hs (p2_lt128 i hi)
theorem cntF_more (F : Nat → Bool) (n : Nat) (h7 : n ≤ 7) : ∀ f s, s < 128 → 7 ≤ f + pc s → cntF F n f s = cntF F n (f + 1) s
  | 0, s, hs, h => by
    have e := pc_full s hs (by omega)
    rw [cntF, cntF]
    split
    · rfl
    · split
      · have : ∀ k, k ≤ 7 → sumN F (cntF F n 0) s k = 0 := by
          intro k
          induction k with
          | zero => intro _; rfl
          | succ k ih =>
            intro hk
            rw [sumN, ih (by omega), e, bit127 k (by omega)]; simp
        rw [this n h7]
      · rfl
  | f + 1, s, hs, h => by
    rw [cntF, cntF]
    split
    · rfl
    · split
      · refine sumN_congr n fun i hi hb _ => cntF_more F n h7 f _ (p2s_lt s i hs (by omega)) ?_
        have := pc_or s hs i (by omega) hb
        have e : p2s s i = s ||| 2 ^ i := rfl
        rw [e]; omega
      · rfl
/-- What the counts obey. -/
theorem cnt_eq (F : Nat → Bool) (n : Nat) (h7 : n ≤ 7) (s : Nat) (hs : s < 128) : cnt F n s = if s = low n then 1 else if F s = true then sumN F (cnt F n) s n else 0 := by
  unfold cnt
  rw [cntF_more F n h7 7 s hs (by omega), cntF]
theorem cnt_le (F : Nat → Bool) (n : Nat) (h7 : n ≤ 7) (s : Nat) : cnt F n s ≤ 823543 := cntF_le F n h7 7 s
theorem cnt_sum_le (F : Nat → Bool) (n : Nat) (h7 : n ≤ 7) (s : Nat) (k : Nat) (hk : k ≤ 7) : sumN F (cnt F n) s k ≤ 5764801 := by
  have h1 := sumN_le (F := F) (s := s) (cnt_le F n h7) k
  have h2 : k * 823543 ≤ 7 * 823543 := Nat.mul_le_mul_right _ hk
  omega

/-! ### The specification's sum -/
def stepS (s t : Nat) : Bool := andNot s t == 0 && pc (andNot t s) == 1
def sumS (l : List Int) (A : Nat → Nat) (s : Nat) : Nat → Nat
  | 0 => 0
  | j + 1 => sumS l A s j + if stepS s (nth l j) = true then A (nth l j) else 0
def sumX (F : Nat → Bool) (A : Nat → Nat) (s : Nat) : Nat → Nat
  | 0 => 0
  | x + 1 => sumX F A s x + if (F x && stepS s x) = true then A x else 0
theorem sumS_app (l m : List Int) (A : Nat → Nat) (s : Nat) : ∀ j, j ≤ l.length → sumS (l ++ m) A s j = sumS l A s j
  | 0, _ => rfl
  | j + 1, h => by
    rw [sumS, sumS, sumS_app l m A s j (by omega)]
    have : nth (l ++ m) j = nth l j := by unfold nth; rw [List.getElem?_append_left (by omega)]
    rw [this]
theorem sumS_sets (F : Nat → Bool) (A : Nat → Nat) (s : Nat) : ∀ k, sumS (setsTo F k) A s (setsTo F k).length = sumX F A s k
  | 0 => rfl
  | k + 1 => by
    by_cases hF : F k = true
    · have e : setsTo F (k + 1) = setsTo F k ++ [(k : Int)] := by rw [setsTo, if_pos hF]
      have e2 : nth (setsTo F k ++ [(k : Int)]) (setsTo F k).length = k := by
        unfold nth; rw [List.getElem?_append_right (Nat.le_refl _)]; simp
      rw [e, List.length_append, List.length_singleton, sumS, sumS_app _ _ _ _ _ (Nat.le_refl _), sumS_sets F A s k, e2, sumX, hF, Bool.true_and]
    · have e : setsTo F (k + 1) = setsTo F k := by rw [setsTo, if_neg hF]
      rw [e, sumS_sets F A s k, sumX]
      simp [hF]
def lsum (g : Nat → Nat) (l : List Nat) : Nat := l.foldr (fun x r => g x + r) 0
theorem lsum_app (g : Nat → Nat) (l m : List Nat) : lsum g (l ++ m) = lsum g l + lsum g m := by
  unfold lsum
  induction l with
  | nil => simp
  | cons a l ih => simp only [List.cons_append, List.foldr_cons, ih]; omega
theorem lsum_map (g : Nat → Nat) (f : Nat → Nat) (l : List Nat) : lsum g (l.map f) = lsum (fun x => g (f x)) l := by
  unfold lsum
  induction l with
  | nil => rfl
  | cons a l ih => simp only [List.map_cons, List.foldr_cons, ih]
theorem lsum_filter (g : Nat → Nat) (p : Nat → Bool) (l : List Nat) : lsum g (l.filter p) = lsum (fun x => if p x = true then g x else 0) l := by
  unfold lsum
  induction l with
  | nil => rfl
  | cons a l ih =>
    rw [List.filter_cons]
    split
    · rename_i h; simp only [List.foldr_cons, ih, h, if_true]
    · rename_i h; simp only [List.foldr_cons, ih, h]; simp
theorem sumX_l (F : Nat → Bool) (A : Nat → Nat) (s : Nat) : ∀ k, sumX F A s k = lsum (fun x => if F x = true then A x else 0) ((List.range k).filter (stepS s))
  | 0 => rfl
  | k + 1 => by
    rw [sumX, sumX_l F A s k, List.range_succ, List.filter_append, lsum_app]
    congr 1
    cases hs : stepS s k <;> cases hF : F k <;> simp [hs, hF, lsum]
theorem sumN_l (F : Nat → Bool) (A : Nat → Nat) (s : Nat) : ∀ k, sumN F A s k = lsum (fun x => if F x = true then A x else 0) (((List.range k).filter (fun i => !s.testBit i)).map (p2s s))
  | 0 => rfl
  | k + 1 => by
    rw [sumN, sumN_l F A s k, List.range_succ, List.filter_append, List.map_append, lsum_app]
    congr 1
    cases hs : s.testBit k <;> cases hF : F (p2s s k) <;> simp [hs, hF, lsum]
theorem step_list : ∀ s, s < 128 → (List.range 128).filter (stepS s) = ((List.range 7).filter (fun i => !s.testBit i)).map (p2s s) := by decide +kernel
theorem sumN_cut (F : Nat → Bool) (A : Nat → Nat) (s n : Nat) (hF : ∀ x, F x = true → x < 2 ^ n) : ∀ k, n ≤ k → sumN F A s k = sumN F A s n
  | 0, h => by have : n = 0 := by omega
               subst this; rfl
  | k + 1, h => by
    rcases Nat.lt_or_ge n (k + 1) with h1 | h1
    · rw [sumN, sumN_cut F A s n hF k (by omega)]
      cases hf : F (p2s s k)
      · simp
      · have h2 := hF _ hf
        have h3 : 2 ^ n ≤ 2 ^ k := p2_le n k (by omega)
        have h4 : (p2s s k).testBit k = true := by unfold p2s; rw [Nat.testBit_or, p2_bit]; simp
        rw [Nat.testBit_lt_two_pow (Nat.lt_of_lt_of_le h2 h3)] at h4
        cases h4
    · have : n = k + 1 := by omega
      subst this; rfl
/-- The specification's sum over the sets is the program's over the items. -/
theorem sum_same {n : Int} {l : List Int} (h : okSp n l = true) (A : Nat → Nat) (s : Nat) (hs : s < 128) : sumS l A s l.length = sumN (marksTo l l.length) A s n.toNat := by
  have h7 := okSp_n h
  rw [← sumN_cut _ A s n.toNat (okSp_lt h) 7 (by omega), sumN_l, ← step_list s hs, ← sumX_l, ← sumS_sets, ← okSp_list h]
theorem sumS_low {l : List Int} {A : Nat → Nat} {s : Nat} (hl : ∀ j, j < l.length → nth l j ≤ s → stepS s (nth l j) = false) : ∀ k, k ≤ l.length → (∀ j, j < k → nth l j ≤ s) → sumS l A s k = 0
  | 0, _, _ => rfl
  | k + 1, hk, h => by
    rw [sumS, sumS_low hl k (by omega) (fun j hj => h j (by omega)), hl k (by omega) (h k (by omega))]
    simp
theorem stepS_gt : ∀ s, s < 128 → ∀ t, t < 128 → t ≤ s → stepS s t = false := by decide +kernel
theorem sumS_mono {l : List Int} {A : Nat → Nat} {s : Nat} (i : Nat) : ∀ k, i ≤ k → sumS l A s i ≤ sumS l A s k
  | 0, h => by have : i = 0 := by omega
               subst this; exact Nat.le_refl _
  | k + 1, h => by
    rcases Nat.lt_or_ge i (k + 1) with h1 | h1
    · have := sumS_mono (l := l) (A := A) (s := s) i k (by omega)
      rw [sumS]; omega
    · have : i = k + 1 := by omega
      subst this; exact Nat.le_refl _
end Go.Proofs.YtblglkgmnaklbaaDoor
