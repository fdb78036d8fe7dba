/- Contracts: a word led on to a goal, the program's. -/
import Derived.Test.YtdhhcgamhihpjaaDoorFm
import Derived.Test.YtdhhcgamhihpjaaDoorCf
import Derived.Test.YtdhhcgamhihpjaaDoorXw
namespace Go.Proofs.YtdhhcgamhihpjaaDoor
open Go.RowKit
set_option maxRecDepth 100000
attribute [local irreducible] p2 low memB risB
end Go.Proofs.YtdhhcgamhihpjaaDoor
