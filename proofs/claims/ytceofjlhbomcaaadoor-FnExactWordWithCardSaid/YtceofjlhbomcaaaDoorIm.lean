/- Contracts: the family of what a closure makes of each set; items numbered anew; the trace of a family. -/
import Derived.Test.YtceofjlhbomcaaaDoorRn
import Derived.Test.YtceofjlhbomcaaaDoorAny
namespace Go.Proofs.YtceofjlhbomcaaaDoor
open Go.RowKit
set_option maxRecDepth 100000
attribute [local irreducible] p2 low memB risB

theorem ent_belowI : enters Tryd.prog 102 := enters_of Tryd.func102 (by kernel_rfl) (by kernel_rfl)
theorem ent_singleI : enters Tryd.prog 119 := enters_of Tryd.func119 (by kernel_rfl) (by kernel_rfl)
theorem rowItI : (Tryd.prog.underlying 75).map TypeDesc.isRow = some false := by kernel_rfl

end Go.Proofs.YtceofjlhbomcaaaDoor
