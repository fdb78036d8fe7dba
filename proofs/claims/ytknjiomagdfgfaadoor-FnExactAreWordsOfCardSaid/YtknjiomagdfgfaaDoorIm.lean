/- Contracts: the family of what a closure makes of each set; items numbered anew; the trace of a family. -/
import Derived.Test.YtknjiomagdfgfaaDoorRn
import Derived.Test.YtknjiomagdfgfaaDoorLib
namespace Go.Proofs.YtknjiomagdfgfaaDoor
open Go.RowKit
set_option maxRecDepth 100000
attribute [local irreducible] p2 low memB risB

theorem ent_belowI : enters Tryd.prog 77 := enters_of Tryd.func77 (by kernel_rfl) (by kernel_rfl)
theorem ent_sizeI : enters Tryd.prog 108 := enters_of Tryd.func108 (by kernel_rfl) (by kernel_rfl)
theorem ent_singleI : enters Tryd.prog 107 := enters_of Tryd.func107 (by kernel_rfl) (by kernel_rfl)
theorem rowItI : (Tryd.prog.underlying 64).map TypeDesc.isRow = some false := by kernel_rfl

end Go.Proofs.YtknjiomagdfgfaaDoor
