/- Contracts: the counts of words of a family. -/
import Derived.Test.YtcokdhmccokkiaaKc
namespace Go.Proofs.Ytcokdhmccokkiaa
open Go.RowKit
set_option maxRecDepth 100000
attribute [local irreducible] p2 low memB risB cntA

end Go.Proofs.Ytcokdhmccokkiaa
