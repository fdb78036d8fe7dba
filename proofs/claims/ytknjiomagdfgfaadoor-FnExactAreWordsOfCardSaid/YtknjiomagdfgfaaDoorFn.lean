/- Contracts: a word led on to a goal, the specification's. -/
import Derived.Test.YtknjiomagdfgfaaDoorFi
import Derived.Test.YtknjiomagdfgfaaDoorOu
import Derived.Test.YtknjiomagdfgfaaDoorPut
namespace Go.Proofs.YtknjiomagdfgfaaDoor
open Go.RowKit
set_option maxRecDepth 100000
attribute [local irreducible] p2 low memB risB
end Go.Proofs.YtknjiomagdfgfaaDoor
