/- Contracts: a word led on to a goal, the program's. -/
import Derived.Test.YtcokdhmccokkiaaFm
import Derived.Test.YtcokdhmccokkiaaCf
import Derived.Test.YtcokdhmccokkiaaXw
namespace Go.Proofs.Ytcokdhmccokkiaa
open Go.RowKit
set_option maxRecDepth 100000
attribute [local irreducible] p2 low memB risB
end Go.Proofs.Ytcokdhmccokkiaa
