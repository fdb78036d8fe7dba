/- Contracts of the specification's functions, III: the two loops of the test for a space. -/
import Derived.Test.YtjmhmmenampgbaaDoorSpecB
namespace Go.Proofs.YtjmhmmenampgbaaDoor
open Go.RowKit
set_option maxRecDepth 100000
attribute [local irreducible] p2 low memB risB

end Go.Proofs.YtjmhmmenampgbaaDoor
