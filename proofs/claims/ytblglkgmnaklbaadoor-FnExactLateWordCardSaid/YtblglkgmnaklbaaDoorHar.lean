/- For the laws' walks: two cells of a block, equality of what is the same, lists that come in. -/
import Derived.Test.YtblglkgmnaklbaaDoorOw
namespace Go.Proofs.YtblglkgmnaklbaaDoor
open Go.RowKit
set_option maxRecDepth 100000
theorem cells_at0 {w : World} {b : Nat} {x y : Value} {T : TypeId} (h : w.heap[b]? = some (.cells #[x, y] T)) : w.cell? ⟨b, 0, none⟩ = some x := by rw [hp_cell h]; rfl
theorem cells_at1 {w : World} {b : Nat} {x y : Value} {T : TypeId} (h : w.heap[b]? = some (.cells #[x, y] T)) : w.cell? ⟨b, 1, none⟩ = some y := by rw [hp_cell h]; rfl
theorem eqIntS_same_c (va vb : Value) (l : List Int) (w : World) (ha : ints w.heap.size w va l) (hb : ints w.heap.size w vb l) (hla : l.length < 1000000000) :
    Calls Tryd.prog 28 #[va, vb] w fun e w' => e = .returned (.bool true) ∧ Below w.heap.size w w' := by
  have := eqIntS_c va vb l l w ha hb hla
  simpa using this
theorem eqSpace_same_c (n : Int) (va vb : Value) (l : List Int) (w : World) (ha : ints w.heap.size w va l) (hb : ints w.heap.size w vb l) (hla : l.length < 1000000000) :
    Calls Tryd.prog 12 #[.agg #[.int .i64 n, va], .agg #[.int .i64 n, vb]] w fun e w' => e = .returned (.bool true) ∧ Below w.heap.size w w' := by
  have := eqSpace_c n n va vb l l w ha hb hla
  simpa using this
end Go.Proofs.YtblglkgmnaklbaaDoor
