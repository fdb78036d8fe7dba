/- Contracts: FinishWord. -/
import Derived.Test.YtcokdhmccokkiaaDoorSo
namespace Go.Proofs.YtcokdhmccokkiaaDoor
open Go.RowKit
set_option maxRecDepth 100000
set_option linter.unusedSimpArgs false
attribute [local irreducible] p2 low memB risB
theorem ent_fullF : enters Tryd.prog 74 := enters_of Tryd.func74 (by kernel_rfl) (by kernel_rfl)
def fwR (n : Int) (l m : List Int) : List Int := if okWd n l m then m ++ finL (marksTo l l.length) n.toNat (low n.toNat) (setTo m m.length) else []
theorem fwR_no {n : Int} {l m : List Int} (h : okWd n l m = false) : fwR n l m = [] := by simp [fwR, h]
theorem fwR_yes {n : Int} {l m : List Int} (h : okWd n l m = true) : fwR n l m = m ++ finL (marksTo l l.length) n.toNat (low n.toNat) (setTo m m.length) := by simp [fwR, h]
theorem okWd_word {n : Int} {l m : List Int} (h : okWd n l m = true) : wordTo (marksTo l l.length) n.toNat m m.length = true := by
  rw [okWd_yes (okWd_sp h)] at h; exact h
theorem okWd_len {n : Int} {l m : List Int} (h : okWd n l m = true) : m.length ≤ 7 := by
  have h1 := word_short (okWd_word h)
  have h2 := okSp_n (okWd_sp h)
  omega
theorem fwR_len (n : Int) (l m : List Int) : (fwR n l m).length < 1000000000 := by
  unfold fwR
  split
  · rename_i h
    have h1 := okWd_len h
    have h2 := finL_len (marksTo l l.length) n.toNat (low n.toNat) (setTo m m.length)
    rw [List.length_append]
    omega
  · simp
theorem setTo_in {F : Nat → Bool} {n : Nat} {m : List Int} (h0 : F 0 = true) : ∀ k, wordTo F n m k = true → F (setTo m k) = true
  | 0, _ => h0
  | k + 1, h => by
    simp only [wordTo, stepB, Bool.and_eq_true] at h
    exact h.2.2.2
theorem okWd_mark {n : Int} {l m : List Int} (h : okWd n l m = true) : marksTo l l.length (setTo m m.length) = true :=
  setTo_in (okSp_spc (okWd_sp h)).zero m.length (okWd_word h)
theorem an0_low {n s : Nat} (h : s < 2 ^ n) : andNot s (low n) = 0 := by
  rw [an0]
  intro i hi
  rw [low_bit]
  by_cases hin : i < n
  · simp [hin]
  · have := Nat.lt_of_lt_of_le h (Nat.pow_le_pow_right (by omega) (show n ≤ i by omega))
    rw [Nat.testBit_lt_two_pow this] at hi
    cases hi

end Go.Proofs.YtcokdhmccokkiaaDoor
