/- Contracts: the family of what a closure makes of each set; items numbered anew; the trace of a family. -/
import Derived.Test.YtijgngnjhmkhaaaDoorRn
import Derived.Test.YtijgngnjhmkhaaaDoorLib
namespace Go.Proofs.YtijgngnjhmkhaaaDoor
open Go.RowKit
set_option maxRecDepth 100000
attribute [local irreducible] p2 low memB risB

theorem ent_belowI : enters Tryd.prog 93 := enters_of Tryd.func93 (by kernel_rfl) (by kernel_rfl)
theorem ent_singleI : enters Tryd.prog 86 := enters_of Tryd.func86 (by kernel_rfl) (by kernel_rfl)
theorem rowItI : (Tryd.prog.underlying 55).map TypeDesc.isRow = some false := by kernel_rfl

end Go.Proofs.YtijgngnjhmkhaaaDoor
