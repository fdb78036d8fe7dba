/- Contracts: a word led on to a goal, the specification's. -/
import Derived.Test.YtcokdhmccokkiaaFi
import Derived.Test.YtcokdhmccokkiaaOu
import Derived.Test.YtcokdhmccokkiaaPut
namespace Go.Proofs.Ytcokdhmccokkiaa
open Go.RowKit
set_option maxRecDepth 100000
attribute [local irreducible] p2 low memB risB
end Go.Proofs.Ytcokdhmccokkiaa
