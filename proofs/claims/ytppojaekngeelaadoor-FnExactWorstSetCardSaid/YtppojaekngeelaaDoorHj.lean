/- Contracts: the halving strategy's question. -/
import Derived.Test.YtppojaekngeelaaDoorHg
import Derived.Test.YtppojaekngeelaaDoorMn
import Derived.Lib.MinMax
import Derived.Laws.EntriesVeiled
namespace Go.Proofs.YtppojaekngeelaaDoor
open Go.RowKit
set_option maxRecDepth 100000
set_option linter.unusedSimpArgs false
attribute [local irreducible] p2 low memB risB
theorem ent_countJ : enters Tryd.prog 69 := enters_of Tryd.func69 (by kernel_rfl) (by kernel_rfl)
theorem difN_is (F : Nat → Bool) (i : Nat) : difN F i = max (cntS (ptF F i true) : Int) (cntS (ptF F i false) : Int) - min (cntS (ptF F i true) : Int) (cntS (ptF F i false) : Int) := by
  unfold difN; omega
theorem rowFnJ : (Tryd.prog.underlying 98).map TypeDesc.isRow = some false := by kernel_rfl
/-- The item that halves best. -/
def hfI (m : Nat) (F : Nat → Bool) : Nat := mnI (difN F) (opN m F)
theorem open_lt7 {m i : Nat} {F : Nat → Bool} (h : (opN m F).testBit i = true) (hm7 : m ≤ 7) : i < 7 := by
  have := ((opN_bit m i F).1 h).1; omega
end Go.Proofs.YtppojaekngeelaaDoor
