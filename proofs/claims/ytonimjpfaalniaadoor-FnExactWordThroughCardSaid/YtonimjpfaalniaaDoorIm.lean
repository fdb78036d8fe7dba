/- Contracts: the family of what a closure makes of each set; items numbered anew; the trace of a family. -/
import Derived.Test.YtonimjpfaalniaaDoorRn
import Derived.Test.YtonimjpfaalniaaDoorLib
namespace Go.Proofs.YtonimjpfaalniaaDoor
open Go.RowKit
set_option maxRecDepth 100000
attribute [local irreducible] p2 low memB risB

theorem ent_belowI : enters Tryd.prog 151 := enters_of Tryd.func151 (by kernel_rfl) (by kernel_rfl)
theorem ent_sizeI : enters Tryd.prog 188 := enters_of Tryd.func188 (by kernel_rfl) (by kernel_rfl)
theorem ent_singleI : enters Tryd.prog 114 := enters_of Tryd.func114 (by kernel_rfl) (by kernel_rfl)
theorem rowItI : (Tryd.prog.underlying 95).map TypeDesc.isRow = some false := by kernel_rfl

end Go.Proofs.YtonimjpfaalniaaDoor
