/- Contracts: a word led on to a goal, the program's. -/
import Derived.Test.YtcokdhmccokkiaaDoorFm
import Derived.Test.YtcokdhmccokkiaaDoorCf
import Derived.Test.YtcokdhmccokkiaaDoorXw
namespace Go.Proofs.YtcokdhmccokkiaaDoor
open Go.RowKit
set_option maxRecDepth 100000
attribute [local irreducible] p2 low memB risB
end Go.Proofs.YtcokdhmccokkiaaDoor
