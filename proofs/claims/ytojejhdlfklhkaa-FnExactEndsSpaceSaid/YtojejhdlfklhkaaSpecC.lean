/- Contracts of the specification's functions, III: the two loops of the test for a space. -/
import Derived.Test.YtojejhdlfklhkaaSpecB
namespace Go.Proofs.Ytojejhdlfklhkaa
open Go.RowKit
set_option maxRecDepth 100000
attribute [local irreducible] p2 low memB risB

end Go.Proofs.Ytojejhdlfklhkaa
