/- Contracts: items numbered anew by the specification; a space or nothing; a set put into a space's sets. -/
import Derived.Test.YtblglkgmnaklbaaRn
import Derived.Test.YtblglkgmnaklbaaLib
import Derived.Test.YtblglkgmnaklbaaHar
namespace Go.Proofs.Ytblglkgmnaklbaa
open Go.RowKit
set_option maxRecDepth 100000
attribute [local irreducible] p2 low memB risB

theorem bareN {w : World} {b : Nat} {T : TypeId} {x y : Value} (h : w.heap[b]? = some (.cells #[x, y] T)) (u : Value) : (w.setCell ⟨b, 1, none⟩ u).heap[b]? = some (.cells #[x, u] T) := by
  rw [hp_set _ _ _ _ _ _ h]; rfl
theorem rn_step {kept a i : Nat} (h : kept.testBit i = true) (h2 : a.testBit i = true) : (if (a &&& kept).testBit i then p2 (rnI kept i) else 0) = p2 (rnI kept i) := by
  rw [Nat.testBit_and, h, h2]; rfl
theorem rn_step0 {kept a i : Nat} (h : (a &&& kept).testBit i = false) : (if (a &&& kept).testBit i then p2 (rnI kept i) else 0) = 0 := by
  rw [h]; rfl

end Go.Proofs.Ytblglkgmnaklbaa
