/- Contracts: SpaceOfPaths, the specification's. -/
import Derived.Test.YtojejhdlfklhkaaDoorSpm
namespace Go.Proofs.YtojejhdlfklhkaaDoor
open Go.RowKit
set_option maxRecDepth 100000
theorem gdTo_next (l : List Int) (a i : Nat) : gdTo l a (i + 1) = (gdTo l a i || (a.testBit i && (wiTo l (andNot a (p2 i)) l.length == andNot a (p2 i)))) := rfl
theorem wiTo_next (l : List Int) (lim k : Nat) : wiTo l lim (k + 1) = if andNot (nth l k) lim == 0 then wiTo l lim k ||| nth l k else wiTo l lim k := rfl
theorem gdAll_next (l : List Int) (n k : Nat) : gdAll l n (k + 1) = (gdAll l n k && gdTo l (nth l k) n) := rfl
attribute [local irreducible] p2 low memB risB
theorem spNL_no {n : Int} {l : List Int} (h : spB n l = false) : spN n l = 0 ∧ spL n l = [] ∧ spB n l = false := ⟨spN_no h, spL_no h, h⟩
theorem spNL_yes {n : Int} {l : List Int} (h : spB n l = true) : spN n l = n ∧ spL n l = setsTo (unionsF l) 128 ∧ spB n l = true := ⟨spN_yes h, spL_yes h, h⟩
end Go.Proofs.YtojejhdlfklhkaaDoor
