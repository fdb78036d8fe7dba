/- Plain facts on sets told as sums of powers of two (natural numbers and their bits). No program is named here. -/
import Derived.WalkKit
import Derived.Below
namespace Go.Proofs.Ytlgcnablhkmdaaa
open Go.RowKit

def andNot (a b : Nat) : Nat := a ^^^ (a &&& b)
theorem andNot_bit (a b i : Nat) : (andNot a b).testBit i = (a.testBit i && !b.testBit i) := by
  simp only [andNot, Nat.testBit_xor, Nat.testBit_and]
  cases a.testBit i <;> cases b.testBit i <;> rfl
theorem andNot_lt (a b n : Nat) (h : a < 2 ^ n) : andNot a b < 2 ^ n := by
  apply Nat.lt_pow_two_of_testBit
  intro i hi
  rw [andNot_bit, Nat.testBit_lt_two_pow (Nat.lt_of_lt_of_le h (Nat.pow_le_pow_right (by omega) hi))]
  rfl

theorem p2_le (i n : Nat) (h : i ≤ n) : 2 ^ i ≤ 2 ^ n := Nat.pow_le_pow_right (by omega) h
theorem p2_lt (i n : Nat) (h : i < n) : 2 ^ i < 2 ^ n := Nat.pow_lt_pow_right (by omega) h
theorem p2_pos (i : Nat) : 0 < 2 ^ i := Nat.two_pow_pos i
theorem p2_cast (i : Nat) : ((2 : Int) ^ i) = ((2 ^ i : Nat) : Int) := by simp

/-- The set of the one item n; the set of the items below n. (Names, so that casts stay where they are.) -/
def p2 (n : Nat) : Nat := 2 ^ n
def low (n : Nat) : Nat := 2 ^ n - 1
theorem p2_lt128 (n : Nat) (h : n < 7) : p2 n < 128 := p2_lt n 7 h
theorem p2_le128 (n : Nat) (h : n ≤ 7) : p2 n ≤ 128 := p2_le n 7 h
theorem low_lt (n : Nat) (h : n ≤ 7) : low n < 128 := by have := p2_le n 7 h; unfold low; omega
theorem low_bit (n i : Nat) : (low n).testBit i = decide (i < n) := by unfold low; rw [Nat.testBit_two_pow_sub_one]
theorem p2_bit (n i : Nat) : (p2 n).testBit i = decide (n = i) := by unfold p2; rw [Nat.testBit_two_pow]
theorem wrap_p2 (n : Nat) (h : n ≤ 7) : wrap64 (2 ^ n) = (p2 n : Int) := by
  have h1 := p2_le128 n h
  have h2 : ((2 : Int) ^ n) = (p2 n : Int) := by simp [p2]
  rw [h2]
  exact IntWalk.wrap64_in _ (by omega)
theorem bit_test (a n : Nat) : (a &&& p2 n != 0) = a.testBit n := by
  unfold p2
  rw [nat_bit n a, Nat.testBit_eq_decide_div_mod_eq]
  have h := p2_pos n
  rcases Nat.mod_two_eq_zero_or_one (a / 2 ^ n) with h1 | h1
  · rw [h1]; simp
  · rw [h1]; simp

/-! ### Go's bit operations on int, where both numbers are small and not negative -/
theorem ofInt_i64 (a : Nat) (ha : a < 9223372036854775808) : (BitVec.ofInt 64 (a : Int)).toNat = a := by
  rw [BitVec.toNat_ofInt]; omega
theorem ofInt_i64v (a : Nat) : BitVec.ofInt 64 (a : Int) = BitVec.ofNat 64 a := by
  apply BitVec.eq_of_toNat_eq; rw [BitVec.toNat_ofInt, BitVec.toNat_ofNat]; omega
theorem i64_of_lt (r : Nat) (h : r < 9223372036854775808) : IntKind.i64.wrap (r : Int) = (r : Int) := IntWalk.i64_in _ (by omega)
theorem i64_or (a b : Nat) (ha : a < 2 ^ 62) (hb : b < 2 ^ 62) : bits .or .i64 (a : Int) (b : Int) = ((a ||| b : Nat) : Int) := by
  have h := Nat.or_lt_two_pow ha hb
  show IntKind.i64.wrap (((BitVec.ofInt 64 (a : Int)) ||| (BitVec.ofInt 64 (b : Int))).toNat : Int) = _
  rw [BitVec.toNat_or, ofInt_i64 a (by omega), ofInt_i64 b (by omega)]
  exact i64_of_lt _ (by omega)
theorem i64_and (a b : Nat) (ha : a < 2 ^ 62) (hb : b < 2 ^ 62) : bits .and .i64 (a : Int) (b : Int) = ((a &&& b : Nat) : Int) := by
  have h := Nat.and_lt_two_pow a hb
  show IntKind.i64.wrap (((BitVec.ofInt 64 (a : Int)) &&& (BitVec.ofInt 64 (b : Int))).toNat : Int) = _
  rw [BitVec.toNat_and, ofInt_i64 a (by omega), ofInt_i64 b (by omega)]
  exact i64_of_lt _ (by omega)
theorem i64_xor (a b : Nat) (ha : a < 2 ^ 62) (hb : b < 2 ^ 62) : bits .xor .i64 (a : Int) (b : Int) = ((a ^^^ b : Nat) : Int) := by
  have h := Nat.xor_lt_two_pow ha hb
  show IntKind.i64.wrap (((BitVec.ofInt 64 (a : Int)) ^^^ (BitVec.ofInt 64 (b : Int))).toNat : Int) = _
  rw [BitVec.toNat_xor, ofInt_i64 a (by omega), ofInt_i64 b (by omega)]
  exact i64_of_lt _ (by omega)
theorem i64_andNot (a b : Nat) (ha : a < 2 ^ 62) : bits .andNot .i64 (a : Int) (b : Int) = ((andNot a b : Nat) : Int) := by
  have h := andNot_lt a b 62 ha
  have e : (BitVec.ofNat 64 a &&& ~~~BitVec.ofNat 64 b).toNat = andNot a b := by
    apply Nat.eq_of_testBit_eq
    intro i
    rw [andNot_bit, BitVec.testBit_toNat, BitVec.getLsbD_and, BitVec.getLsbD_not, BitVec.getLsbD_ofNat, BitVec.getLsbD_ofNat]
    by_cases hi : i < 64
    · simp [hi]
    · have : a.testBit i = false := Nat.testBit_lt_two_pow (Nat.lt_of_lt_of_le ha (p2_le _ _ (by omega)))
      simp [hi, this]
  show IntKind.i64.wrap (((BitVec.ofInt 64 (a : Int)) &&& ~~~(BitVec.ofInt 64 (b : Int))).toNat : Int) = _
  rw [ofInt_i64v, ofInt_i64v, e]
  exact i64_of_lt _ (by omega)

/-! ### Unions of many sets -/
def orTo (G : Nat → Nat) : Nat → Nat
  | 0 => 0
  | k + 1 => orTo G k ||| G k
theorem orTo_lt (G : Nat → Nat) (n : Nat) : ∀ k, (∀ i, i < k → G i < 2 ^ n) → orTo G k < 2 ^ n
  | 0, _ => p2_pos n
  | k + 1, h => Nat.or_lt_two_pow (orTo_lt G n k fun i hi => h i (by omega)) (h k (by omega))
theorem orTo_congr {G H : Nat → Nat} : ∀ k, (∀ i, i < k → G i = H i) → orTo G k = orTo H k
  | 0, _ => rfl
  | k + 1, h => by rw [orTo, orTo, orTo_congr k fun i hi => h i (by omega), h k (by omega)]
theorem orTo_bit (G : Nat → Nat) (b : Nat) : ∀ k, (orTo G k).testBit b = decide (∃ i, i < k ∧ (G i).testBit b = true)
  | 0 => by simp [orTo]
  | k + 1 => by
    rw [orTo, Nat.testBit_or, orTo_bit G b k, Bool.eq_iff_iff]
    simp only [Bool.or_eq_true, decide_eq_true_eq]
    constructor
    · rintro (⟨i, hi, h⟩ | h)
      · exact ⟨i, by omega, h⟩
      · exact ⟨k, by omega, h⟩
    · rintro ⟨i, hi, h⟩
      rcases Nat.lt_or_ge i k with h1 | h1
      · exact .inl ⟨i, h1, h⟩
      · have : i = k := by omega
        subst this; exact .inr h
/-- The items below n that are wanted. -/
def itemsOf (K : Nat → Bool) (n : Nat) : Nat := orTo (fun i => if K i then p2 i else 0) n
theorem itemsOf_bit (K : Nat → Bool) (n b : Nat) : (itemsOf K n).testBit b = (decide (b < n) && K b) := by
  rw [itemsOf, orTo_bit, Bool.eq_iff_iff]
  simp only [Bool.and_eq_true, decide_eq_true_eq]
  constructor
  · rintro ⟨i, hi, h⟩
    split at h
    · rename_i hk
      rw [p2_bit] at h
      have : i = b := by simpa using h
      subst this; exact ⟨hi, hk⟩
    · simp at h
  · rintro ⟨h1, h2⟩
    exact ⟨b, h1, by rw [if_pos h2, p2_bit]; simp⟩
theorem itemsOf_lt (K : Nat → Bool) (n : Nat) : itemsOf K n < 2 ^ n :=
  orTo_lt _ n n fun i hi => by
    split
    · exact p2_lt _ _ hi
    · exact p2_pos n
theorem itemsOf_congr {K L : Nat → Bool} (n : Nat) (h : ∀ i, i < n → K i = L i) : itemsOf K n = itemsOf L n :=
  orTo_congr n fun i hi => by rw [h i hi]

end Go.Proofs.Ytlgcnablhkmdaaa
