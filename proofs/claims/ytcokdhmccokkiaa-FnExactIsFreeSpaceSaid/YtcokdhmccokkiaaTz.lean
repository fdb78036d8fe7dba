/- Contracts: the least item of a set and the items of a set, where math/bits' table reads as its text lays it. -/
import Derived.Test.YtcokdhmccokkiaaPs
import Derived.Test.YtcokdhmccokkiaaCt
import Derived.Lib.TrailingZeros
namespace Go.Proofs.Ytcokdhmccokkiaa
open Go.RowKit
set_option maxRecDepth 100000

def tzI (x : Nat) : Nat := ((x &&& (18446744073709551616 - x)) * 285870213051353865) % 18446744073709551616 / 288230376151711744
/-- The least item. -/
def tzN (x : Nat) : Nat := ((List.range 7).find? fun i => x.testBit i).getD 0
theorem tzI_lt (x : Nat) : tzI x < 64 := by unfold tzI; omega
theorem tz_key : ∀ x : Nat, x < 128 → IntKind.u64.wrap (bits BinOp.and IntKind.u64 (x : Int) (IntKind.u64.wrap (-(x : Int))) * 285870213051353865) / 288230376151711744 = ((tzI x : Nat) : Int) := by decide +kernel
theorem tz_tab : ∀ x, x < 128 → x ≠ 0 → Lib.deBruijn64tab.getD (tzI x) 0 = tzN x := by decide +kernel
theorem tzN_lt : ∀ x, x < 128 → tzN x < 7 := by decide +kernel
theorem tzN_bit : ∀ x, x < 128 → x ≠ 0 → x.testBit (tzN x) = true := by decide +kernel
theorem tzN_least : ∀ x, x < 128 → ∀ i, i < 7 → x.testBit i = true → tzN x ≤ i := by decide +kernel

/-- The items of a set, increasing. -/
def itemsN (x : Nat) : List Nat := (List.range 7).filter fun i => x.testBit i
def itemsL (x : Nat) : List Int := (itemsN x).map fun i : Nat => (i : Int)
theorem items_zero : itemsN 0 = [] := by decide +kernel
theorem items_next : ∀ x, x < 128 → x ≠ 0 → itemsN x = tzN x :: itemsN (x &&& (x - 1)) := by decide +kernel
theorem items_less : ∀ x, x < 128 → x ≠ 0 → (x &&& (x - 1)) < x := by decide +kernel
theorem items_len : ∀ x, x < 128 → (itemsN x).length ≤ 7 := by decide +kernel
theorem tz_pc : ∀ x, x < 128 → x ≠ 0 → pc (x &&& (x - 1)) + 1 = pc x := by decide +kernel
theorem itemsL_next (x : Nat) (h : x < 128) (h0 : x ≠ 0) : itemsL x = [(tzN x : Int)] ++ itemsL (x &&& (x - 1)) := by
  unfold itemsL
  rw [items_next x h h0]; rfl

end Go.Proofs.Ytcokdhmccokkiaa
