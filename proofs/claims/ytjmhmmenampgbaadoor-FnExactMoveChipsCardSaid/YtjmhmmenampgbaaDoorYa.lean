/- Mathematics: chips on small nets, what can be moved, what lies there behind a move. -/
import Derived.Test.YtjmhmmenampgbaaDoorTz
namespace Go.Proofs.YtjmhmmenampgbaaDoor
open Go.RowKit
set_option maxRecDepth 100000
set_option linter.unusedSimpArgs false
/-- The lines between two places, and the chips on a place, out of rows of numbers. -/
def lnN (M : List (List Int)) (i j : Nat) : Int := (M[i]?.getD [])[j]?.getD 0
def atN (A : List Int) (i : Nat) : Int := A[i]?.getD 0
/-- The sum of the first k numbers. -/
def smF (f : Nat → Int) : Nat → Int
  | 0 => 0
  | k + 1 => smF f k + f k
structure ChP (M : List (List Int)) (A : List Int) : Prop where
  n1 : 1 ≤ A.length
  n5 : A.length ≤ 5
  ml : M.length = A.length
  a0 : ∀ i, i < A.length → 0 ≤ atN A i ∧ atN A i ≤ 30
  rl : ∀ i, i < A.length → (M[i]?.getD []).length = A.length
  l0 : ∀ i j, i < A.length → j < A.length → 0 ≤ lnN M i j ∧ lnN M i j ≤ 3
  dz : ∀ i, i < A.length → lnN M i i = 0
  sy : ∀ i j, i < A.length → j < A.length → lnN M i j = lnN M j i
  sm : smF (atN A) A.length ≤ 30
noncomputable def cpB (M : List (List Int)) (A : List Int) : Bool := @decide (ChP M A) (Classical.propDecidable _)
theorem cpB_iff {M : List (List Int)} {A : List Int} : cpB M A = true ↔ ChP M A := by unfold cpB; simp
theorem cpB_no {M : List (List Int)} {A : List Int} : cpB M A = false ↔ ¬ ChP M A := by unfold cpB; simp
theorem smF_congr {f g : Nat → Int} : ∀ {k : Nat}, (∀ i, i < k → f i = g i) → smF f k = smF g k
  | 0, _ => rfl
  | k + 1, h => by rw [smF, smF, smF_congr fun i hi => h i (by omega), h k (by omega)]
theorem smF_zeros {f : Nat → Int} {n : Nat} (h : ∀ i, n ≤ i → f i = 0) : ∀ k, n ≤ k → smF f k = smF f n
  | 0, hk => by rw [show n = 0 by omega]
  | k + 1, hk => by
    rcases Nat.lt_or_ge k n with h1 | h1
    · rw [show n = k + 1 by omega]
    · rw [smF, smF_zeros h k h1, h k h1]; omega
theorem smF_lo {f : Nat → Int} {k : Nat} (h : ∀ i, i < k → 0 ≤ f i) : 0 ≤ smF f k := by
  induction k with
  | zero => exact Int.le_refl _
  | succ k ih => rw [smF]; have := ih fun i hi => h i (by omega); have := h k (by omega); omega
theorem smF_hi {f : Nat → Int} {c : Int} {k : Nat} (h : ∀ i, i < k → f i ≤ c) : smF f k ≤ k * c := by
  induction k with
  | zero => simp [smF]
  | succ k ih =>
    rw [smF]; have h1 := ih fun i hi => h i (by omega); have h2 := h k (by omega)
    rw [show ((k + 1 : Nat) : Int) = (k : Int) + 1 by omega, Int.add_mul, Int.one_mul]; omega
theorem smF_mono {f : Nat → Int} {n : Nat} (h : ∀ i, 0 ≤ f i) : ∀ k, n ≤ k → smF f n ≤ smF f k
  | 0, hk => by rw [show n = 0 by omega]; exact Int.le_refl _
  | k + 1, hk => by
    rcases Nat.lt_or_ge k n with h1 | h1
    · rw [show n = k + 1 by omega]; exact Int.le_refl _
    · rw [smF]; have := smF_mono h k h1; have := h k; omega
/-- Lines of n places, zeros behind them. -/
structure LnOk (n : Nat) (L : Nat → Nat → Int) : Prop where
  n5 : n ≤ 5
  lo : ∀ i j, 0 ≤ L i j
  hi : ∀ i j, L i j ≤ 3
  zi : ∀ i j, n ≤ i → L i j = 0
  zj : ∀ i j, n ≤ j → L i j = 0
  dz : ∀ i, L i i = 0
structure AtOk (n : Nat) (a : Nat → Int) (B : Int) : Prop where
  lo : ∀ i, 0 ≤ a i
  hi : ∀ i, a i ≤ B
  z : ∀ i, n ≤ i → a i = 0
theorem AtOk.mono {n : Nat} {a : Nat → Int} {B C : Int} (h : AtOk n a B) (hc : B ≤ C) : AtOk n a C := ⟨h.lo, fun i => by have := h.hi i; omega, h.z⟩
/-- The degree of a place. -/
def dg (L : Nat → Nat → Int) (i : Nat) : Int := smF (L i) 5
theorem dg_n {n : Nat} {L : Nat → Nat → Int} (h : LnOk n L) (i : Nat) : smF (L i) n = dg L i := (smF_zeros (fun j hj => h.zj i j hj) 5 h.n5).symm
theorem dg_lo {n : Nat} {L : Nat → Nat → Int} (h : LnOk n L) (i : Nat) : 0 ≤ dg L i := smF_lo fun j _ => h.lo i j
theorem dg_hi {n : Nat} {L : Nat → Nat → Int} (h : LnOk n L) (i : Nat) : dg L i ≤ 15 := smF_hi (k := 5) (c := 3) fun j _ => h.hi i j
/-- Whether a place can be moved. -/
def canB (L : Nat → Nat → Int) (a : Nat → Int) (i : Nat) : Bool := decide (0 < dg L i) && decide (dg L i ≤ a i)
/-- What lies on the places behind a move, of whose lines the first k are told. -/
def mvF (L : Nat → Nat → Int) (i : Nat) (a : Nat → Int) (j : Nat) : Int := (if j = i then a j - dg L i else a j) + L i j
theorem mvF_ok {n : Nat} {L : Nat → Nat → Int} (h : LnOk n L) {a : Nat → Int} {B : Int} (ha : AtOk n a B) {i : Nat} (hin : i < n) (hc : canB L a i = true) : AtOk n (mvF L i a) (B + 3) := by
  unfold canB at hc
  simp only [Bool.and_eq_true, decide_eq_true_eq] at hc
  refine ⟨fun j => ?_, fun j => ?_, fun j hj => ?_⟩
  · unfold mvF
    have := ha.lo j; have := h.lo i j
    split
    · rename_i e; subst e; omega
    · omega
  · unfold mvF
    have := ha.hi j; have := h.hi i j
    split <;> omega
  · unfold mvF
    rw [if_neg (by omega), ha.z j hj, h.zj i j hj]; rfl
/-- What lies there before the k-th line of a move is looked at: with all lines sent ahead (the program's way), and one by one. -/
def mvP (L : Nat → Nat → Int) (i : Nat) (a : Nat → Int) (k j : Nat) : Int := (if j = i then a j - dg L i else a j) + (if j < k then L i j else 0)
def mvS (L : Nat → Nat → Int) (i : Nat) (a : Nat → Int) (k j : Nat) : Int := (if j = i then a j - smF (L i) k else a j) + (if j < k then L i j else 0)
theorem mvP_end {n : Nat} {L : Nat → Nat → Int} (h : LnOk n L) (i : Nat) (a : Nat → Int) : mvP L i a 5 = mvF L i a := by
  funext j
  unfold mvP mvF
  by_cases hj : j < 5
  · rw [if_pos hj]
  · rw [if_neg hj, h.zj i j (by have := h.n5; omega)]
theorem mvS_end {n : Nat} {L : Nat → Nat → Int} (h : LnOk n L) (i : Nat) (a : Nat → Int) (j : Nat) : mvS L i a n j = mvF L i a j := by
  unfold mvS mvF
  rw [dg_n h]
  by_cases hj : j < n
  · rw [if_pos hj]
  · rw [if_neg hj, h.zj i j (by omega)]
/-- The numbers below n at which K holds, as far as k. -/
def whL (K : Nat → Bool) : Nat → List Int
  | 0 => []
  | k + 1 => whL K k ++ (if K k then [(k : Int)] else [])
theorem whL_eq (K : Nat → Bool) : ∀ k, whL K k = ((List.range k).filter K).map fun i : Nat => (i : Int)
  | 0 => rfl
  | k + 1 => by
    rw [whL, whL_eq K k, List.range_succ, List.filter_append, List.map_append]
    congr 1
    cases h : K k <;> simp [h]
theorem whL_len (K : Nat → Bool) (k : Nat) : (whL K k).length ≤ k := by
  rw [whL_eq, List.length_map]
  exact Nat.le_trans (List.length_filter_le _ _) (by simp)
theorem itemsL_whL (K : Nat → Bool) (n : Nat) (hn : n ≤ 7) : itemsL (itemsOf K n) = whL K n := by
  rw [whL_eq]
  unfold itemsL itemsN
  congr 1
  rw [show List.range 7 = List.range (n + (7 - n)) by congr 1; omega, List.range_add, List.filter_append]
  rw [show (List.filter (fun i => (itemsOf K n).testBit i) (List.map (fun x => n + x) (List.range (7 - n)))) = [] by
    rw [List.filter_eq_nil_iff]
    intro x hx
    rw [List.mem_map] at hx
    obtain ⟨y, _, rfl⟩ := hx
    rw [itemsOf_bit, decide_eq_false (by omega)]; simp]
  rw [List.append_nil]
  apply List.filter_congr
  intro x hx
  rw [List.mem_range] at hx
  rw [itemsOf_bit]; simp [hx]
/-- The places that can be moved. -/
def opM (n : Nat) (L : Nat → Nat → Int) (a : Nat → Int) : Nat := itemsOf (canB L a) n
def opL (n : Nat) (L : Nat → Nat → Int) (a : Nat → Int) : List Int := whL (canB L a) n
theorem opM_lt {n : Nat} (h : n ≤ 5) (L : Nat → Nat → Int) (a : Nat → Int) : opM n L a < 128 := Nat.lt_of_lt_of_le (itemsOf_lt _ _) (show 2 ^ n ≤ 2 ^ 7 from Nat.pow_le_pow_right (by omega) (by omega))
theorem opL_items {n : Nat} (h : n ≤ 5) (L : Nat → Nat → Int) (a : Nat → Int) : itemsL (opM n L a) = opL n L a := itemsL_whL _ _ (by omega)
theorem whL_mem (K : Nat → Bool) (n : Nat) (x : Int) : x ∈ whL K n ↔ ∃ i : Nat, x = (i : Int) ∧ i < n ∧ K i = true := by
  rw [whL_eq, List.mem_map]
  constructor
  · rintro ⟨i, hi, rfl⟩
    rw [List.mem_filter, List.mem_range] at hi
    exact ⟨i, rfl, hi.1, hi.2⟩
  · rintro ⟨i, rfl, h1, h2⟩
    exact ⟨i, by rw [List.mem_filter, List.mem_range]; exact ⟨h1, h2⟩, rfl⟩
theorem opL_mem {n : Nat} {L : Nat → Nat → Int} {a : Nat → Int} {x : Int} : x ∈ opL n L a ↔ ∃ i : Nat, x = (i : Int) ∧ i < n ∧ canB L a i = true := whL_mem _ _ _
theorem opL_cast {n : Nat} {L : Nat → Nat → Int} {a : Nat → Int} {i : Nat} (hi : i < n) : (i : Int) ∈ opL n L a ↔ canB L a i = true := by
  rw [opL_mem]
  constructor
  · rintro ⟨j, e, _, h2⟩
    have : i = j := by omega
    subst this; exact h2
  · intro h
    exact ⟨i, rfl, hi, h⟩
theorem opL_len {n : Nat} (L : Nat → Nat → Int) (a : Nat → Int) : (opL n L a).length ≤ n := whL_len _ _
theorem opM_zero {n : Nat} (h : n ≤ 5) {L : Nat → Nat → Int} {a : Nat → Int} : opM n L a = 0 ↔ opL n L a = [] := by
  rw [← opL_items h]
  constructor
  · intro e; rw [e]; decide +kernel
  · intro e
    have h1 : ∀ y, y < 128 → itemsL y = [] → y = 0 := by decide +kernel
    exact h1 _ (opM_lt h L a) e
/-- The lines and chips that come of rows, none if these are no chips. -/
noncomputable def plN (M : List (List Int)) (A : List Int) : Nat := if cpB M A then A.length else 0
noncomputable def plL (M : List (List Int)) (A : List Int) (i j : Nat) : Int := if cpB M A then (if i < A.length ∧ j < A.length then lnN M i j else 0) else 0
noncomputable def plA (M : List (List Int)) (A : List Int) (i : Nat) : Int := if cpB M A then atN A i else 0
theorem plN_yes {M : List (List Int)} {A : List Int} (h : ChP M A) : plN M A = A.length := by unfold plN; rw [if_pos (cpB_iff.2 h)]
theorem plA_yes {M : List (List Int)} {A : List Int} (h : ChP M A) (i : Nat) : plA M A i = atN A i := by unfold plA; rw [if_pos (cpB_iff.2 h)]
theorem plL_yes {M : List (List Int)} {A : List Int} (h : ChP M A) {i : Nat} (hi : i < A.length) (j : Nat) : plL M A i j = lnN M i j := by
  unfold plL
  rw [if_pos (cpB_iff.2 h)]
  by_cases hj : j < A.length
  · rw [if_pos ⟨hi, hj⟩]
  · rw [if_neg (fun h => hj h.2)]
    unfold lnN
    rw [List.getElem?_eq_none (by rw [h.rl i hi]; omega)]; rfl
theorem plN_no {M : List (List Int)} {A : List Int} (h : cpB M A = false) : plN M A = 0 := by unfold plN; rw [h]; rfl
theorem plL_no {M : List (List Int)} {A : List Int} (h : cpB M A = false) : plL M A = fun _ _ => 0 := by funext i j; unfold plL; rw [h]; rfl
theorem plA_no {M : List (List Int)} {A : List Int} (h : cpB M A = false) : plA M A = fun _ => 0 := by funext i; unfold plA; rw [h]; rfl
theorem plN_5 (M : List (List Int)) (A : List Int) : plN M A ≤ 5 := by
  unfold plN
  split
  · rename_i h; exact (cpB_iff.1 h).n5
  · omega
theorem pl_ln (M : List (List Int)) (A : List Int) : LnOk (plN M A) (plL M A) := by
  cases h : cpB M A
  · rw [plN_no h, plL_no h]
    exact ⟨by omega, fun _ _ => Int.le_refl _, fun _ _ => by omega, fun _ _ _ => rfl, fun _ _ _ => rfl, fun _ => rfl⟩
  · have hp := cpB_iff.1 h
    rw [plN_yes hp]
    have e : ∀ i j, plL M A i j = if i < A.length ∧ j < A.length then lnN M i j else 0 := fun i j => by unfold plL; rw [h]; rfl
    refine ⟨hp.n5, fun i j => ?_, fun i j => ?_, fun i j hi => ?_, fun i j hj => ?_, fun i => ?_⟩
    · rw [e]; split
      · rename_i h1; exact (hp.l0 i j h1.1 h1.2).1
      · omega
    · rw [e]; split
      · rename_i h1; exact (hp.l0 i j h1.1 h1.2).2
      · omega
    · rw [e, if_neg (by omega)]
    · rw [e, if_neg (by omega)]
    · rw [e]; split
      · rename_i h1; exact hp.dz i h1.1
      · rfl
theorem pl_at (M : List (List Int)) (A : List Int) : AtOk (plN M A) (plA M A) 30 := by
  cases h : cpB M A
  · rw [plN_no h, plA_no h]
    exact ⟨fun _ => Int.le_refl _, fun _ => by omega, fun _ _ => rfl⟩
  · have hp := cpB_iff.1 h
    rw [plN_yes hp]
    have z : ∀ i, A.length ≤ i → atN A i = 0 := fun i hi => by unfold atN; rw [List.getElem?_eq_none hi]; rfl
    refine ⟨fun i => ?_, fun i => ?_, fun i hi => ?_⟩ <;> rw [plA_yes hp]
    · by_cases hi : i < A.length
      · exact (hp.a0 i hi).1
      · rw [z i (by omega)]; omega
    · by_cases hi : i < A.length
      · exact (hp.a0 i hi).2
      · rw [z i (by omega)]; omega
    · exact z i hi
/-- The first n numbers, as a list. -/
def toL (n : Nat) (a : Nat → Int) : List Int := (List.range n).map a
theorem toL_len (n : Nat) (a : Nat → Int) : (toL n a).length = n := by simp [toL]
theorem toL_at {n : Nat} (a : Nat → Int) {i : Nat} (h : i < n) : (toL n a)[i]?.getD 0 = a i := by simp [toL, h]
theorem toL_get {n : Nat} (a : Nat → Int) {i : Nat} (h : i < n) : (toL n a)[i]? = some (a i) := by simp [toL, h]
theorem toL_self (A : List Int) : toL A.length (atN A) = A := by
  apply List.ext_getElem?
  intro j
  by_cases h : j < A.length
  · rw [toL_get _ h]; unfold atN; rw [List.getElem?_eq_getElem h]; rfl
  · rw [List.getElem?_eq_none (by rw [toL_len]; omega), List.getElem?_eq_none (by omega)]
theorem toL_congr {n : Nat} {a b : Nat → Int} (h : ∀ i, i < n → a i = b i) : toL n a = toL n b := by
  unfold toL
  apply List.map_congr_left
  intro i hi
  exact h i (List.mem_range.1 hi)
def updF (f : Nat → Int) (i : Nat) (x : Int) (j : Nat) : Int := if j = i then x else f j
theorem toL_set (n : Nat) (f : Nat → Int) (i : Nat) (x : Int) : (toL n f).set i x = toL n (updF f i x) := by
  apply List.ext_getElem?
  intro j
  rw [List.getElem?_set]
  by_cases hj : i = j
  · subst hj
    by_cases h : i < n
    · rw [if_pos rfl, if_pos (by rw [toL_len]; exact h), toL_get _ h]; simp [updF]
    · rw [if_pos rfl, if_neg (by rw [toL_len]; exact h), List.getElem?_eq_none (by rw [toL_len]; omega)]
  · rw [if_neg hj]
    have h2 : ¬ j = i := fun e => hj e.symm
    by_cases h : j < n
    · rw [toL_get _ h, toL_get _ h]; simp [updF, h2]
    · rw [List.getElem?_eq_none (by rw [toL_len]; omega), List.getElem?_eq_none (by rw [toL_len]; omega)]
theorem mvS_next {n : Nat} {L : Nat → Nat → Int} (h : LnOk n L) (i : Nat) (a : Nat → Int) (k : Nat) :
    updF (updF (mvS L i a k) i (mvS L i a k i - L i k)) k (updF (mvS L i a k) i (mvS L i a k i - L i k) k + L i k) = mvS L i a (k + 1) := by
  funext j
  have hd := h.dz i
  have e : smF (L i) (k + 1) = smF (L i) k + L i k := rfl
  unfold updF mvS
  rw [e]
  by_cases h1 : j = k
  · subst h1
    by_cases h2 : j = i
    · subst h2; simp; omega
    · simp [h2]
  · by_cases h2 : j = i
    · subst h2; simp [h1, show j < k + 1 ↔ j < k by omega, hd]; omega
    · simp [h1, h2, show j < k + 1 ↔ j < k by omega]
theorem mvS_bd {n : Nat} {L : Nat → Nat → Int} (h : LnOk n L) {a : Nat → Int} (ha : AtOk n a 500) (i k : Nat) (hk : k ≤ 5) (j : Nat) : -100 ≤ mvS L i a k j ∧ mvS L i a k j ≤ 600 := by
  have h1 := smF_lo (f := L i) (k := k) fun j _ => h.lo i j
  have h2 := smF_hi (f := L i) (c := 3) (k := k) fun j _ => h.hi i j
  have h3 := ha.lo j; have h4 := ha.hi j; have h5 := h.lo i j; have h6 := h.hi i j
  unfold mvS
  split <;> split <;> omega
theorem mvP_next (L : Nat → Nat → Int) (i : Nat) (a : Nat → Int) (k : Nat) : updF (mvP L i a k) k (mvP L i a k k + L i k) = mvP L i a (k + 1) := by
  funext j
  unfold updF mvP
  by_cases h1 : j = k
  · subst h1; simp
  · simp [h1, show j < k + 1 ↔ j < k by omega]
theorem mvP_bd {n : Nat} {L : Nat → Nat → Int} (h : LnOk n L) {a : Nat → Int} (ha : AtOk n a 500) (i k : Nat) (j : Nat) : -100 ≤ mvP L i a k j ∧ mvP L i a k j ≤ 600 := by
  have h1 := dg_lo h i
  have h2 := dg_hi h i
  have h3 := ha.lo j; have h4 := ha.hi j; have h5 := h.lo i j; have h6 := h.hi i j
  unfold mvP
  split <;> split <;> omega
theorem mvP_zero (L : Nat → Nat → Int) (i : Nat) (a : Nat → Int) : updF a i (a i - dg L i) = mvP L i a 0 := by
  funext j
  unfold updF mvP
  by_cases h1 : j = i
  · subst h1; simp
  · simp [h1]
theorem mvS_zero (L : Nat → Nat → Int) (i : Nat) (a : Nat → Int) : mvS L i a 0 = a := by
  funext j
  unfold mvS
  simp [smF]
/-! ### Runs -/
/-- The index of the choice for a step. -/
def pkI (ch : List Int) (k len : Nat) : Nat := if k < ch.length then (ch[k]?.getD 0).toNat % len else 0
def chV (ch : List Int) (k : Nat) (l : List Int) : Int := l[pkI ch k l.length]?.getD 0
theorem pkI_lt {ch : List Int} {k len : Nat} (h : 0 < len) : pkI ch k len < len := by
  unfold pkI
  split
  · exact Nat.mod_lt _ h
  · exact h
theorem chV_mem {ch : List Int} {k : Nat} {l : List Int} (h : l ≠ []) : chV ch k l ∈ l := by
  unfold chV
  have := pkI_lt (ch := ch) (k := k) (List.length_pos_iff.2 h)
  rw [List.getElem?_eq_getElem this]
  exact List.getElem_mem this
/-- The full run by choices: its moves, what lies there behind it, whether it is full. -/
def frF (n : Nat) (L : Nat → Nat → Int) (ch : List Int) : Nat → Nat → (Nat → Int) → List Int × (Nat → Int) × Bool
  | 0, _, a => ([], a, decide (opL n L a = []))
  | f + 1, k, a => if opL n L a = [] then ([], a, true) else
      (chV ch k (opL n L a) :: (frF n L ch f (k + 1) (mvF L (chV ch k (opL n L a)).toNat a)).1, (frF n L ch f (k + 1) (mvF L (chV ch k (opL n L a)).toNat a)).2)
theorem frF_end {n : Nat} {L : Nat → Nat → Int} {ch : List Int} {f k : Nat} {a : Nat → Int} (h : opL n L a = []) : frF n L ch f k a = ([], a, true) := by
  cases f
  · rw [frF, h]; rfl
  · rw [frF, if_pos h]
theorem frF_next {n : Nat} {L : Nat → Nat → Int} {ch : List Int} {f k : Nat} {a : Nat → Int} (h : opL n L a ≠ []) : frF n L ch (f + 1) k a = (chV ch k (opL n L a) :: (frF n L ch f (k + 1) (mvF L (chV ch k (opL n L a)).toNat a)).1, (frF n L ch f (k + 1) (mvF L (chV ch k (opL n L a)).toNat a)).2) := by
  rw [frF, if_neg h]
theorem frF_full {n : Nat} {L : Nat → Nat → Int} {ch : List Int} {k : Nat} {a : Nat → Int} (h : opL n L a ≠ []) : frF n L ch 0 k a = ([], a, false) := by
  rw [frF]; simp [h]
/-- What a move that can be made is. -/
theorem op_move {n : Nat} {L : Nat → Nat → Int} {a : Nat → Int} {x : Int} (h : x ∈ opL n L a) : x = (x.toNat : Int) ∧ x.toNat < n ∧ canB L a x.toNat = true := by
  obtain ⟨i, rfl, h1, h2⟩ := opL_mem.1 h
  rw [Int.toNat_natCast]
  exact ⟨rfl, h1, h2⟩
theorem frF_ok {n : Nat} {L : Nat → Nat → Int} (hL : LnOk n L) {ch : List Int} : ∀ {f k : Nat} {a : Nat → Int} {B : Int}, AtOk n a B → AtOk n (frF n L ch f k a).2.1 (B + 3 * f) ∧ (frF n L ch f k a).1.length ≤ f ∧ ∀ x ∈ (frF n L ch f k a).1, x = (x.toNat : Int) ∧ x.toNat < n
  | 0, k, a, B, h => by rw [frF]; exact ⟨h.mono (by omega), by simp, by simp⟩
  | f + 1, k, a, B, h => by
    by_cases h0 : opL n L a = []
    · rw [frF_end h0]; exact ⟨h.mono (by omega), by simp, by simp⟩
    · rw [frF_next h0]
      have hm := op_move (chV_mem (ch := ch) (k := k) h0)
      have h1 := mvF_ok hL h hm.2.1 hm.2.2
      obtain ⟨i1, i2, i3⟩ := frF_ok hL (ch := ch) (f := f) (k := k + 1) h1
      refine ⟨i1.mono (by omega), by simp; omega, fun x hx => ?_⟩
      rcases List.mem_cons.1 hx with rfl | hx
      · exact ⟨hm.1, hm.2.1⟩
      · exact i3 x hx
/-- Behind the first k moves of a list, if they are a run. -/
def rsF (n : Nat) (L : Nat → Nat → Int) (mv : List Int) (a : Nat → Int) : Nat → Option (Nat → Int)
  | 0 => some a
  | k + 1 => (rsF n L mv a k).bind fun b => if mv[k]?.getD 0 ∈ opL n L b then some (mvF L (mv[k]?.getD 0).toNat b) else none
theorem rsF_yes {n : Nat} {L : Nat → Nat → Int} {mv : List Int} {a b : Nat → Int} {k : Nat} (h : rsF n L mv a k = some b) (hm : mv[k]?.getD 0 ∈ opL n L b) : rsF n L mv a (k + 1) = some (mvF L (mv[k]?.getD 0).toNat b) := by
  rw [rsF, h, Option.bind_some, if_pos hm]
theorem rsF_no {n : Nat} {L : Nat → Nat → Int} {mv : List Int} {a b : Nat → Int} {k : Nat} (h : rsF n L mv a k = some b) (hm : ¬ mv[k]?.getD 0 ∈ opL n L b) : rsF n L mv a (k + 1) = none := by
  rw [rsF, h, Option.bind_some, if_neg hm]
theorem rsF_stay {n : Nat} {L : Nat → Nat → Int} {mv : List Int} {a : Nat → Int} {k : Nat} (h : rsF n L mv a k = none) : ∀ m, k ≤ m → rsF n L mv a m = none
  | 0, hm => by rw [← h, show k = 0 by omega]
  | m + 1, hm => by
    rcases Nat.lt_or_ge m k with h1 | h1
    · rw [← h, show k = m + 1 by omega]
    · rw [rsF, rsF_stay h m h1]; rfl
theorem rsF_ok {n : Nat} {L : Nat → Nat → Int} (hL : LnOk n L) {mv : List Int} {a : Nat → Int} {B : Int} (ha : AtOk n a B) : ∀ {k : Nat} {b : Nat → Int}, rsF n L mv a k = some b → AtOk n b (B + 3 * k)
  | 0, b, h => by rw [rsF] at h; cases h; exact ha.mono (by omega)
  | k + 1, b, h => by
    rw [rsF] at h
    cases h1 : rsF n L mv a k with
    | none => rw [h1] at h; cases h
    | some c =>
      rw [h1, Option.bind_some] at h
      split at h
      · rename_i hm
        cases h
        have := op_move hm
        exact (mvF_ok hL (rsF_ok hL ha h1) this.2.1 this.2.2).mono (by omega)
      · cases h
/-- How often a place is in the first k moves of a run. -/
def ctF (run : List Int) (i : Nat) : Nat → Int
  | 0 => 0
  | k + 1 => ctF run i k + if run[k]?.getD 0 = (i : Int) then 1 else 0
theorem ctF_le (run : List Int) (i : Nat) : ∀ k, 0 ≤ ctF run i k ∧ ctF run i k ≤ k
  | 0 => ⟨Int.le_refl _, Int.le_refl _⟩
  | k + 1 => by have := ctF_le run i k; rw [ctF]; split <;> omega
end Go.Proofs.YtjmhmmenampgbaaDoor
