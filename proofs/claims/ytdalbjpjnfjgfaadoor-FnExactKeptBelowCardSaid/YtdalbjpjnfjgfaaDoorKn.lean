/- Contracts: the greedy word, the program's. -/
import Derived.Test.YtdalbjpjnfjgfaaDoorKl
import Derived.Test.YtdalbjpjnfjgfaaDoorMn
import Derived.Test.YtdalbjpjnfjgfaaDoorKb
namespace Go.Proofs.YtdalbjpjnfjgfaaDoor
open Go.RowKit
set_option maxRecDepth 100000
set_option linter.unusedSimpArgs false
theorem ent_fullG : enters Tryd.prog 97 := enters_of Tryd.func97 (by kernel_rfl) (by kernel_rfl)
theorem rowRule : (Tryd.prog.underlying 117).map TypeDesc.isRow = some false := by kernel_rfl
attribute [local irreducible] p2 low memB risB itemsL
theorem cell1_at0G {w : World} {b : Nat} {x : Value} {T : TypeId} (h : w.heap[b]? = some (.cells #[x] T)) : w.cell? ⟨b, 0, none⟩ = some x := by rw [hp_cell h]; rfl
/-- The length of a slice. -/
def grLen : Value → Nat
  | .slice _ n _ => n
  | _ => 0
end Go.Proofs.YtdalbjpjnfjgfaaDoor
