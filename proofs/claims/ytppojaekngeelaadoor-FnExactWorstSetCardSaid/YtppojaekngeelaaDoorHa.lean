/- Plain mathematics: the sets that answers leave. -/
import Derived.Test.YtppojaekngeelaaDoorPm
import Derived.Test.YtppojaekngeelaaDoorSpc
import Derived.Test.YtppojaekngeelaaDoorFwh
namespace Go.Proofs.YtppojaekngeelaaDoor
open Go.RowKit
set_option maxRecDepth 100000
/-- Whether answers leave a set: it has all items of y and none of z. -/
def leB (y z s : Nat) : Bool := (andNot y s == 0) && (z &&& s == 0)
def leF (F : Nat → Bool) (y z s : Nat) : Bool := F s && leB y z s
theorem leF_in {F : Nat → Bool} {y z s : Nat} (h : leF F y z s = true) : F s = true := by unfold leF at h; rw [Bool.and_eq_true] at h; exact h.1
theorem leF_noSet (y z : Nat) : leF noSet y z = noSet := by funext s; simp [leF, noSet]
theorem leB_iff (y z s : Nat) : leB y z s = true ↔ ∀ i, (y.testBit i = true → s.testBit i = true) ∧ (z.testBit i = true → s.testBit i = false) := by
  unfold leB
  rw [Bool.and_eq_true, beq_iff_eq, beq_iff_eq]
  constructor
  · rintro ⟨h1, h2⟩ i
    refine ⟨fun hy => ?_, fun hz => ?_⟩
    · have h := congrArg (fun x => x.testBit i) h1
      simp only [andNot_bit, Nat.zero_testBit, hy, Bool.true_and, Bool.not_eq_false'] at h
      exact h
    · have h := congrArg (fun x => x.testBit i) h2
      simp only [Nat.testBit_and, Nat.zero_testBit, hz, Bool.true_and] at h
      exact h
  · intro h
    refine ⟨Nat.eq_of_testBit_eq fun i => ?_, Nat.eq_of_testBit_eq fun i => ?_⟩
    · rw [andNot_bit, Nat.zero_testBit]
      cases hy : y.testBit i
      · rfl
      · rw [(h i).1 hy]; rfl
    · rw [Nat.testBit_and, Nat.zero_testBit]
      cases hz : z.testBit i
      · rfl
      · rw [(h i).2 hz]; rfl
/-- Whether numbers are sets without a common item. -/
def ansB (n : Nat) (y z : Int) : Bool := decide (0 ≤ y ∧ y ≤ (low n : Int)) && (decide (0 ≤ z ∧ z ≤ (low n : Int)) && (y.toNat &&& z.toNat == 0))
theorem ansB_no1 {n : Nat} {y z : Int} (h : ¬ (0 ≤ y ∧ y ≤ (low n : Int))) : ansB n y z = false := by unfold ansB; rw [decide_eq_false h]; rfl
theorem ansB_no2 {n : Nat} {y z : Int} (h : ¬ (0 ≤ z ∧ z ≤ (low n : Int))) : ansB n y z = false := by unfold ansB; rw [decide_eq_false h]; simp
theorem ansB_is {n y z : Nat} (hy : y ≤ low n) (hz : z ≤ low n) : ansB n (y : Int) (z : Int) = (y &&& z == 0) := by unfold ansB; rw [decide_eq_true (by omega), decide_eq_true (by omega)]; rfl
theorem ansB_in {n : Nat} {y z : Int} (h : ansB n y z = true) : (0 ≤ y ∧ y ≤ (low n : Int)) ∧ (0 ≤ z ∧ z ≤ (low n : Int)) ∧ y.toNat &&& z.toNat = 0 := by
  unfold ansB at h
  rw [Bool.and_eq_true, Bool.and_eq_true, decide_eq_true_eq, decide_eq_true_eq, beq_iff_eq] at h
  exact h
def cntS (F : Nat → Bool) : Nat := (setsTo F 128).length
theorem cntS_le (F : Nat → Bool) : cntS F ≤ 128 := setsTo_len F 128
def asOk (n : Int) (l : List Int) (y z : Int) : Bool := okSp n l && ansB n.toNat y z
/-- The sets of a list that answers leave. -/
def lfL (l : List Int) (y z : Nat) : List Int := paTo (leB y z) l l.length
def asB (n : Int) (l : List Int) (y z : Int) : Bool := asOk n l y z && decide (0 < (lfL l y.toNat z.toNat).length)
def asL (n : Int) (l : List Int) (y z : Int) : List Int := if asB n l y z then lfL l y.toNat z.toNat else []
theorem asOk_in {n : Int} {l : List Int} {y z : Int} (h : asOk n l y z = true) : okSp n l = true ∧ (0 ≤ y ∧ y ≤ (low n.toNat : Int)) ∧ (0 ≤ z ∧ z ≤ (low n.toNat : Int)) ∧ y.toNat &&& z.toNat = 0 := by
  unfold asOk at h
  rw [Bool.and_eq_true] at h
  exact ⟨h.1, ansB_in h.2⟩
theorem asB_ok {n : Int} {l : List Int} {y z : Int} (h : asB n l y z = true) : asOk n l y z = true := by
  unfold asB at h; rw [Bool.and_eq_true] at h; exact h.1
theorem asB_pos {n : Int} {l : List Int} {y z : Int} (h : asB n l y z = true) : 0 < (lfL l y.toNat z.toNat).length := by
  unfold asB at h; rw [Bool.and_eq_true, decide_eq_true_eq] at h; exact h.2
theorem asB_no {n : Int} {l : List Int} {y z : Int} (h : asOk n l y z = false) : asB n l y z = false := by unfold asB; rw [h]; rfl
theorem asB_is {n : Int} {l : List Int} {y z : Int} (h : asOk n l y z = true) : asB n l y z = decide (0 < (lfL l y.toNat z.toNat).length) := by unfold asB; rw [h]; rfl
theorem asL_no {n : Int} {l : List Int} {y z : Int} (h : asB n l y z = false) : asL n l y z = [] := by unfold asL; rw [h]; rfl
theorem asL_yes {n : Int} {l : List Int} {y z : Int} (h : asB n l y z = true) : asL n l y z = lfL l y.toNat z.toNat := by unfold asL; rw [if_pos h]
theorem lfL_le (l : List Int) (y z : Nat) : (lfL l y z).length ≤ l.length := paTo_len _ _ _
theorem lf_sets {n : Int} {l : List Int} (h : okSp n l = true) (y z : Nat) : lfL l y z = setsTo (leF (marksTo l l.length) y z) 128 := by
  unfold lfL
  rw [paTo_all]
  have e := sets_filter (marksTo l l.length) (leB y z) 128
  rw [← okSp_list h] at e
  exact e
theorem sets_noneH : ∀ k, setsTo noSet k = []
  | 0 => rfl
  | k + 1 => by rw [setsTo, sets_noneH k]; rfl
theorem asL_len (n : Int) (l : List Int) (y z : Int) : (asL n l y z).length < 1000000000 := by
  cases h : asB n l y z
  · rw [asL_no h]; simp
  · rw [asL_yes h]
    have h1 := asOk_in (asB_ok h)
    rw [lf_sets h1.1]
    have := setsTo_len (leF (marksTo l l.length) y.toNat z.toNat) 128
    omega
/-- The family that the program makes of it. -/
def lfN (n : Int) (l : List Int) (y z : Int) : Int := if asB n l y z then n else 0
def lfM (n : Int) (l : List Int) (y z : Int) : Nat → Bool := if asB n l y z then leF (marksTo l l.length) y.toNat z.toNat else noSet
def famL (n : Int) (l : List Int) (y z : Int) : Value := .tuple #[.agg (fam (lfN n l y z) (lfM n l y z)), .bool (asB n l y z)]
theorem lfN_in (n : Int) (l : List Int) (y z : Int) : 0 ≤ lfN n l y z ∧ lfN n l y z ≤ 7 := by
  unfold lfN
  split
  · rename_i h
    have := okSp_n (asOk_in (asB_ok h)).1
    omega
  · omega
theorem lf_list (n : Int) (l : List Int) (y z : Int) : setsTo (lfM n l y z) 128 = asL n l y z := by
  unfold lfM asL
  split
  · rename_i h
    exact (lf_sets (asOk_in (asB_ok h)).1 _ _).symm
  · exact sets_noneH _
theorem marks_low {n : Int} {l : List Int} (h : okSp n l = true) (x : Nat) (hx : marksTo l l.length x = true) : x ≤ low n.toNat := by
  rw [okSp_marks h, mem_iff] at hx
  obtain ⟨j, hj, e⟩ := hx
  have := okSp_pos h j hj
  omega
theorem leF_cut {F : Nat → Bool} {y z m : Nat} (hF : ∀ x, F x = true → x ≤ low m) : cutAt (leF F y z) (low m + 1) = leF F y z := by
  funext s
  unfold cutAt
  cases h : leF F y z s
  · simp
  · have := hF s (leF_in h)
    simp; omega
theorem sp_r128 {n : Int} {l : List Int} (h : okSp n l = true) : ∀ j, j < l.length → 0 ≤ l[j]?.getD 0 ∧ l[j]?.getD 0 < 128 := fun j hj => by
  have h1 := okSp_pos h j hj
  have h2 := okSp_n h
  have := low_lt n.toNat (by omega)
  omega
/-! What all sets have, and what none has. -/
def kaTo (L : List Int) (a : Nat) : Nat → Nat
  | 0 => a
  | k + 1 => kaTo L a k &&& nth L k
def knTo (L : List Int) (a : Nat) : Nat → Nat
  | 0 => a
  | k + 1 => andNot (knTo L a k) (nth L k)
theorem kaTo_lt (L : List Int) (a : Nat) (ha : a < 128) : ∀ k, kaTo L a k < 128
  | 0 => ha
  | k + 1 => Nat.lt_of_le_of_lt Nat.and_le_left (kaTo_lt L a ha k)
theorem knTo_lt (L : List Int) (a : Nat) (ha : a < 128) : ∀ k, knTo L a k < 128
  | 0 => ha
  | k + 1 => andNot_lt _ _ 7 (knTo_lt L a ha k)
theorem kaTo_bit (L : List Int) (a i : Nat) : ∀ k, (kaTo L a k).testBit i = true ↔ a.testBit i = true ∧ ∀ j, j < k → (nth L j).testBit i = true
  | 0 => by simp [kaTo]
  | k + 1 => by
    rw [kaTo, Nat.testBit_and, Bool.and_eq_true, kaTo_bit L a i k]
    constructor
    · rintro ⟨⟨h1, h2⟩, h3⟩
      refine ⟨h1, fun j hj => ?_⟩
      rcases Nat.lt_or_ge j k with h | h
      · exact h2 j h
      · have : j = k := by omega
        subst this; exact h3
    · rintro ⟨h1, h2⟩
      exact ⟨⟨h1, fun j hj => h2 j (by omega)⟩, h2 k (by omega)⟩
theorem knTo_bit (L : List Int) (a i : Nat) : ∀ k, (knTo L a k).testBit i = true ↔ a.testBit i = true ∧ ∀ j, j < k → (nth L j).testBit i = false
  | 0 => by simp [knTo]
  | k + 1 => by
    rw [knTo, andNot_bit, Bool.and_eq_true, Bool.not_eq_true', knTo_bit L a i k]
    constructor
    · rintro ⟨⟨h1, h2⟩, h3⟩
      refine ⟨h1, fun j hj => ?_⟩
      rcases Nat.lt_or_ge j k with h | h
      · exact h2 j h
      · have : j = k := by omega
        subst this; exact h3
    · rintro ⟨h1, h2⟩
      exact ⟨⟨h1, fun j hj => h2 j (by omega)⟩, h2 k (by omega)⟩
def kaL (L : List Int) (a : Nat) : Nat := kaTo L a L.length
def knL (L : List Int) (a : Nat) : Nat := knTo L a L.length
def koR (n : Int) (l : List Int) (y z : Int) : Int := if asB n l y z then (kaL (asL n l y z) (low n.toNat) : Int) else 0
def koS (n : Int) (l : List Int) (y z : Int) : Int := if asB n l y z then (knL (asL n l y z) (low n.toNat) : Int) else 0
theorem ko_prog (n : Int) (l : List Int) (y z : Int) : koR n l y z = (kaL (setsTo (lfM n l y z) 128) (low (lfN n l y z).toNat) : Int) ∧ koS n l y z = (knL (setsTo (lfM n l y z) 128) (low (lfN n l y z).toNat) : Int) := by
  rw [lf_list]
  unfold koR koS lfN
  cases h : asB n l y z
  · rw [asL_no h]; exact ⟨rfl, rfl⟩
  · exact ⟨rfl, rfl⟩
/-! The least number of halvings. -/
def hvN (c : Nat) : Nat := if c ≤ 1 then 0 else if c ≤ 2 then 1 else if c ≤ 4 then 2 else if c ≤ 8 then 3 else if c ≤ 16 then 4 else if c ≤ 32 then 5 else if c ≤ 64 then 6 else 7
theorem hv_le (c : Nat) : hvN c ≤ 7 := by unfold hvN; (repeat' split) <;> omega
theorem hv_lt {c k : Nat} (hc : c ≤ 128) (hk : k ≤ 7) : 2 ^ k < c ↔ k < hvN c := by
  have : k = 0 ∨ k = 1 ∨ k = 2 ∨ k = 3 ∨ k = 4 ∨ k = 5 ∨ k = 6 ∨ k = 7 := by omega
  unfold hvN
  rcases this with rfl | rfl | rfl | rfl | rfl | rfl | rfl | rfl <;> (repeat' split) <;> omega
def hbR (n : Int) (l : List Int) : Int := if okSp n l then (hvN l.length : Int) else 0
end Go.Proofs.YtppojaekngeelaaDoor
