/- Contracts: the neighbours of a point; whether a net is one: the program's and the specification's; IsNet. -/
import Derived.Test.YtknjiomagdfgfaaDoorNa
import Derived.Test.YtknjiomagdfgfaaDoorSpm
import Derived.Test.YtknjiomagdfgfaaDoorTz
namespace Go.Proofs.YtknjiomagdfgfaaDoor
open Go.RowKit
set_option maxRecDepth 100000
theorem low_p2 (n : Nat) : (p2 n : Int) - 1 = (low n : Int) := by have := p2_pos n; unfold p2 low; omega
attribute [local irreducible] p2 low memB risB
/-! A struct of one slice that came in, in its box: block w.heap.size. -/
section
variable {T : TypeId} {v : Value} {w wr : World} (h : Below (w.heap.size + 1) (w.alloc (.cells #[v] T)) wr)
include h
theorem bx_cell : wr.cell? ⟨w.heap.size, 0, none⟩ = some v := by
  rw [h.cell (p := ⟨w.heap.size, 0, none⟩) (by show w.heap.size < _; omega)]; simp
theorem bx_below : Below w.heap.size w wr := ((Below.refl w.heap.size w).alloc (Nat.le_refl _) _).trans (h.mono (by omega))
theorem bx_size : w.heap.size + 1 ≤ wr.heap.size := by have := h.size; simpa using this
theorem bx_ints {u : Value} {l : List Int} (hl : ints w.heap.size w u l) : ints w.heap.size wr u l := hl.below (bx_below h) (Nat.le_refl _)
theorem bx_full {u : Value} {l : List Int} (hl : ints w.heap.size w u l) : ints wr.heap.size wr u l := (bx_ints h hl).mono (by have := bx_size h; omega)
theorem bx_tab (hT : tab w) : tab wr := hT.below (bx_below h)
theorem bx_to {w2 : World} (h2 : Below wr.heap.size wr w2) : Below (w.heap.size + 1) (w.alloc (.cells #[v] T)) w2 := h.trans (h2.mono (bx_size h))
end
theorem bx_start (T : TypeId) (v : Value) (w : World) : Below (w.heap.size + 1) (w.alloc (.cells #[v] T)) (w.alloc (.cells #[v] T)) := Below.refl _ _

end Go.Proofs.YtknjiomagdfgfaaDoor
/- Contracts: whether a net is one, the specification's; IsNet, both. -/
namespace Go.Proofs.YtknjiomagdfgfaaDoor
open Go.RowKit
set_option maxRecDepth 100000
attribute [local irreducible] p2 low memB risB
theorem ent_spItemsN : enters Tryd.prog 79 := enters_of Tryd.func79 (by kernel_rfl) (by kernel_rfl)
theorem ent_l1AllN : enters Tryd.prog 102 := enters_of Tryd.func102 (by kernel_rfl) (by kernel_rfl)
theorem ent_spInN : enters Tryd.prog 55 := enters_of Tryd.func55 (by kernel_rfl) (by kernel_rfl)

end Go.Proofs.YtknjiomagdfgfaaDoor
