/- Contracts: the family of what a closure makes of each set; items numbered anew; the trace of a family. -/
import Derived.Test.YtojejhdlfklhkaaRn
import Derived.Test.YtojejhdlfklhkaaLib
namespace Go.Proofs.Ytojejhdlfklhkaa
open Go.RowKit
set_option maxRecDepth 100000
attribute [local irreducible] p2 low memB risB

theorem ent_belowI : enters Try.prog 44 := enters_of Try.func44 (by kernel_rfl) (by kernel_rfl)
theorem ent_singleI : enters Try.prog 49 := enters_of Try.func49 (by kernel_rfl) (by kernel_rfl)
theorem rowItI : (Try.prog.underlying 54).map TypeDesc.isRow = some false := by kernel_rfl

end Go.Proofs.Ytojejhdlfklhkaa
