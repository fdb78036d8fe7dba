/- Contracts: the family of what a closure makes of each set; items numbered anew; the trace of a family. -/
import Derived.Test.YtblglkgmnaklbaaDoorRn
import Derived.Test.YtblglkgmnaklbaaDoorLib
namespace Go.Proofs.YtblglkgmnaklbaaDoor
open Go.RowKit
set_option maxRecDepth 100000
attribute [local irreducible] p2 low memB risB

theorem ent_belowI : enters Tryd.prog 103 := enters_of Tryd.func103 (by kernel_rfl) (by kernel_rfl)
theorem ent_sizeI : enters Tryd.prog 118 := enters_of Tryd.func118 (by kernel_rfl) (by kernel_rfl)
theorem ent_singleI : enters Tryd.prog 108 := enters_of Tryd.func108 (by kernel_rfl) (by kernel_rfl)
theorem rowItI : (Tryd.prog.underlying 81).map TypeDesc.isRow = some false := by kernel_rfl

end Go.Proofs.YtblglkgmnaklbaaDoor
