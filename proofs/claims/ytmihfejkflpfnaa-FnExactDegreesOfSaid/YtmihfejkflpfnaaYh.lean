/- Contracts: a move, the program's. -/
import Derived.Test.YtmihfejkflpfnaaYg
namespace Go.Proofs.Ytmihfejkflpfnaa
open Go.RowKit
set_option maxRecDepth 100000
set_option linter.unusedSimpArgs false
theorem arr5 : Try.prog.underlying 41 = some (.array 5 3) := by kernel_rfl
theorem row5 : (Try.prog.underlying 41).map TypeDesc.isRow = some true := by kernel_rfl
theorem size5 : (Try.prog.info? 41).map (·.size) = some 5 := by kernel_rfl
theorem rowIntY : (Try.prog.underlying 3).map TypeDesc.isRow = some false := by kernel_rfl
theorem ent_degree : enters Try.prog 24 := enters_of Try.func24 (by kernel_rfl) (by kernel_rfl)
attribute [local irreducible] p2 low memB risB
end Go.Proofs.Ytmihfejkflpfnaa
