/- Contracts of the specification's functions, III: the two loops of the test for a space. -/
import Derived.Test.YtndnkefbilhgnaaSpecB
namespace Go.Proofs.Ytndnkefbilhgnaa
open Go.RowKit
set_option maxRecDepth 100000
attribute [local irreducible] p2 low memB risB

end Go.Proofs.Ytndnkefbilhgnaa
