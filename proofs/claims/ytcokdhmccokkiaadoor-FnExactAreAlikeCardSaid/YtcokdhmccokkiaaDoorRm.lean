/- Ranks of words: mathematics; full words; the program's rank. -/
import Derived.Test.YtcokdhmccokkiaaDoorSo
import Derived.Test.YtcokdhmccokkiaaDoorWi2
namespace Go.Proofs.YtcokdhmccokkiaaDoor
open Go.RowKit
set_option maxRecDepth 100000
attribute [local irreducible] p2 low memB risB
theorem lsum_low (c : Nat → Bool) (g : Nat → Nat) (x : Nat) : ∀ k, x ≤ k → lsum (fun i => if (decide (i < x) && c i) = true then g i else 0) (List.range k) = lsum (fun i => if c i = true then g i else 0) (List.range x) := by
  intro k
  induction k with
  | zero => intro hk; have : x = 0 := by omega
            subst this; rfl
  | succ k ih =>
    intro hk
    rcases Nat.lt_or_ge k x with h | h
    · have : x = k + 1 := by omega
      subst this
      exact lsum_congr fun i hi => by rw [decide_eq_true (List.mem_range.1 hi), Bool.true_and]
    · rw [List.range_succ, lsum_app, ih h]
      simp [lsum]
      intro hh
      omega
theorem isum_below (F : Nat → Bool) (A : Nat → Nat) (n s x : Nat) (h7 : n ≤ 7) (hx : x ≤ n) :
    isum (fun i => A (p2s s i)) (itemsL (outerOf F n s &&& low x)) (itemsL (outerOf F n s &&& low x)).length = sumN F A s x := by
  unfold isum
  rw [List.take_length, sumN_r]
  have e : (itemsL (outerOf F n s &&& low x)).map Int.toNat = itemsN (outerOf F n s &&& low x) := by
    unfold itemsL
    rw [List.map_map]
    conv => rhs; rw [← List.map_id (itemsN (outerOf F n s &&& low x))]
    exact List.map_congr_left fun x _ => by simp
  rw [e]
  unfold itemsN
  rw [lsum_filter, ← lsum_low _ _ x 7 (by omega)]
  refine lsum_congr fun i _ => ?_
  rw [Nat.testBit_and, outer_bit, low_bit]
  by_cases hi : i < x
  · rw [decide_eq_true hi, decide_eq_true (show i < n by omega), Bool.true_and, Bool.and_true]
  · rw [decide_eq_false hi, Bool.and_false, Bool.false_and]
def rkTo (F : Nat → Bool) (n : Nat) (m : List Int) : Nat → Nat
  | 0 => 0
  | k + 1 => rkTo F n m k + sumN F (cnt F n) (setTo m k) (m[k]?.getD 0).toNat
theorem rkTo_le (F : Nat → Bool) (n : Nat) (m : List Int) (h7 : n ≤ 7) (hm : ∀ j, j < m.length → 0 ≤ m[j]?.getD 0 ∧ m[j]?.getD 0 < (n : Int)) : ∀ k, k ≤ m.length → rkTo F n m k ≤ k * 5764801
  | 0, _ => by simp [rkTo]
  | k + 1, h => by
    have h1 := rkTo_le F n m h7 hm k (by omega)
    have h2 := hm k (by omega)
    have h3 := cnt_sum_le F n h7 (setTo m k) (m[k]?.getD 0).toNat (by omega)
    rw [rkTo, Nat.add_mul, Nat.one_mul]
    omega
theorem cnt_off {F : Nat → Bool} {n : Nat} (h7 : n ≤ 7) (hl : F (low n) = true) (x : Nat) (hx : x < 128) (hf : F x = false) : cnt F n x = 0 := by
  rw [cnt_eq F n h7 x hx, if_neg (by rintro rfl; rw [hl] at hf; cases hf), hf]
  rfl
def okFu (n : Int) (l m : List Int) : Bool := okWd n l m && decide ((m.length : Int) = n)
theorem okFu_wd {n : Int} {l m : List Int} (h : okFu n l m = true) : okWd n l m = true ∧ (m.length : Int) = n := by
  simp only [okFu, Bool.and_eq_true, decide_eq_true_eq] at h; exact h

end Go.Proofs.YtcokdhmccokkiaaDoor
