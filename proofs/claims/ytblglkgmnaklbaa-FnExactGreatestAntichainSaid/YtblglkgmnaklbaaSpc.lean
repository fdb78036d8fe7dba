/- Contracts: the space of a family; the space of all sets. -/
import Derived.Test.YtblglkgmnaklbaaFam
import Derived.Test.YtblglkgmnaklbaaOw
namespace Go.Proofs.Ytblglkgmnaklbaa
open Go.RowKit
set_option maxRecDepth 100000
attribute [local irreducible] p2 low memB risB
/-- A store below what a slice owns. -/
theorem own.setLow {I : TypeId} {w : World} {base : Nat} {v : Value} {l : List Int} (h : own I w base v l) (a : Addr) (ha : a.block < base) (u : Value) : own I (w.setCell a u) base v l := by
  obtain ⟨h1, h2⟩ := h
  refine ⟨h1, ?_⟩
  rcases h2 with h2 | ⟨g, cap, cur, e, hg, hh, r⟩
  · exact .inl h2
  · exact .inr ⟨g, cap, cur, e, hg, (hp_setO _ _ _ _ (by omega)).trans hh, r⟩

end Go.Proofs.Ytblglkgmnaklbaa
