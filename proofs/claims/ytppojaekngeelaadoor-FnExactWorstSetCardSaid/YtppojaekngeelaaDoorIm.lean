/- Contracts: the family of what a closure makes of each set; items numbered anew; the trace of a family. -/
import Derived.Test.YtppojaekngeelaaDoorRn
import Derived.Test.YtppojaekngeelaaDoorLib
namespace Go.Proofs.YtppojaekngeelaaDoor
open Go.RowKit
set_option maxRecDepth 100000
attribute [local irreducible] p2 low memB risB

theorem ent_belowI : enters Tryd.prog 73 := enters_of Tryd.func73 (by kernel_rfl) (by kernel_rfl)
theorem ent_singleI : enters Tryd.prog 72 := enters_of Tryd.func72 (by kernel_rfl) (by kernel_rfl)
theorem rowItI : (Tryd.prog.underlying 55).map TypeDesc.isRow = some false := by kernel_rfl

end Go.Proofs.YtppojaekngeelaaDoor
