/- Contracts: the family of what a closure makes of each set; items numbered anew; the trace of a family. -/
import Derived.Test.YtblglkgmnaklbaaRn
import Derived.Test.YtblglkgmnaklbaaLib
namespace Go.Proofs.Ytblglkgmnaklbaa
open Go.RowKit
set_option maxRecDepth 100000
attribute [local irreducible] p2 low memB risB

theorem ent_belowI : enters Try.prog 66 := enters_of Try.func66 (by kernel_rfl) (by kernel_rfl)
theorem ent_sizeI : enters Try.prog 61 := enters_of Try.func61 (by kernel_rfl) (by kernel_rfl)
theorem ent_singleI : enters Try.prog 71 := enters_of Try.func71 (by kernel_rfl) (by kernel_rfl)
theorem rowItI : (Try.prog.underlying 63).map TypeDesc.isRow = some false := by kernel_rfl

end Go.Proofs.Ytblglkgmnaklbaa
