/- Contract: bits.OnesCount of a number below 128. -/
import Derived.Test.YtojejhdlfklhkaaCnt
namespace Go.Proofs.Ytojejhdlfklhkaa
open Go.RowKit
set_option maxRecDepth 100000
attribute [local irreducible] p2 low

end Go.Proofs.Ytojejhdlfklhkaa
