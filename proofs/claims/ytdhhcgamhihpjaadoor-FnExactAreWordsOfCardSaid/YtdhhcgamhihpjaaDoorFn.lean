/- Contracts: a word led on to a goal, the specification's. -/
import Derived.Test.YtdhhcgamhihpjaaDoorFi
import Derived.Test.YtdhhcgamhihpjaaDoorOu
import Derived.Test.YtdhhcgamhihpjaaDoorPut
namespace Go.Proofs.YtdhhcgamhihpjaaDoor
open Go.RowKit
set_option maxRecDepth 100000
attribute [local irreducible] p2 low memB risB
end Go.Proofs.YtdhhcgamhihpjaaDoor
