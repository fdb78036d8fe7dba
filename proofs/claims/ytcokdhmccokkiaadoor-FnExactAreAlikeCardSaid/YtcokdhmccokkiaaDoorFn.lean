/- Contracts: a word led on to a goal, the specification's. -/
import Derived.Test.YtcokdhmccokkiaaDoorFi
import Derived.Test.YtcokdhmccokkiaaDoorOu
import Derived.Test.YtcokdhmccokkiaaDoorPut
namespace Go.Proofs.YtcokdhmccokkiaaDoor
open Go.RowKit
set_option maxRecDepth 100000
attribute [local irreducible] p2 low memB risB
end Go.Proofs.YtcokdhmccokkiaaDoor
