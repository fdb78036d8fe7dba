/- Contracts: the family of what a closure makes of each set; items numbered anew; the trace of a family. -/
import Derived.Test.YtonimjpfaalniaaRn
import Derived.Test.YtonimjpfaalniaaLib
namespace Go.Proofs.Ytonimjpfaalniaa
open Go.RowKit
set_option maxRecDepth 100000
attribute [local irreducible] p2 low memB risB

theorem ent_belowI : enters Try.prog 133 := enters_of Try.func133 (by kernel_rfl) (by kernel_rfl)
theorem ent_sizeI : enters Try.prog 126 := enters_of Try.func126 (by kernel_rfl) (by kernel_rfl)
theorem ent_singleI : enters Try.prog 129 := enters_of Try.func129 (by kernel_rfl) (by kernel_rfl)
theorem rowItI : (Try.prog.underlying 86).map TypeDesc.isRow = some false := by kernel_rfl

end Go.Proofs.Ytonimjpfaalniaa
