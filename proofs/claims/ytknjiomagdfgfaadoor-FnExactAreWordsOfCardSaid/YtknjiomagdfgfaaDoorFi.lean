/- Contracts: a word led on to a goal, the program's. -/
import Derived.Test.YtknjiomagdfgfaaDoorFm
import Derived.Test.YtknjiomagdfgfaaDoorCf
import Derived.Test.YtknjiomagdfgfaaDoorXw
namespace Go.Proofs.YtknjiomagdfgfaaDoor
open Go.RowKit
set_option maxRecDepth 100000
attribute [local irreducible] p2 low memB risB
end Go.Proofs.YtknjiomagdfgfaaDoor
