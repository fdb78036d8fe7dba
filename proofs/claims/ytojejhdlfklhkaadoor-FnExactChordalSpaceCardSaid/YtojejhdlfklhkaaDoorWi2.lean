/- Contracts: the counts of words of a family. -/
import Derived.Test.YtojejhdlfklhkaaDoorWc
namespace Go.Proofs.YtojejhdlfklhkaaDoor
open Go.RowKit
set_option maxRecDepth 100000
attribute [local irreducible] p2 low memB risB cnt

end Go.Proofs.YtojejhdlfklhkaaDoor
