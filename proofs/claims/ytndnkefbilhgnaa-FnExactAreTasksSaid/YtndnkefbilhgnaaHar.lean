/- For the laws' walks: two cells of a block, equality of what is the same, lists that come in. -/
import Derived.Test.YtndnkefbilhgnaaOw
namespace Go.Proofs.Ytndnkefbilhgnaa
open Go.RowKit
set_option maxRecDepth 100000
theorem cells_at0 {w : World} {b : Nat} {x y : Value} {T : TypeId} (h : w.heap[b]? = some (.cells #[x, y] T)) : w.cell? ⟨b, 0, none⟩ = some x := by rw [hp_cell h]; rfl
theorem cells_at1 {w : World} {b : Nat} {x y : Value} {T : TypeId} (h : w.heap[b]? = some (.cells #[x, y] T)) : w.cell? ⟨b, 1, none⟩ = some y := by rw [hp_cell h]; rfl
end Go.Proofs.Ytndnkefbilhgnaa
