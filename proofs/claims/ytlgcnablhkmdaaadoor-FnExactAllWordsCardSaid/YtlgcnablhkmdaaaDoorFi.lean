/- Contracts: a word led on to a goal, the program's. -/
import Derived.Test.YtlgcnablhkmdaaaDoorFm
import Derived.Test.YtlgcnablhkmdaaaDoorCf
import Derived.Test.YtlgcnablhkmdaaaDoorXw
namespace Go.Proofs.YtlgcnablhkmdaaaDoor
open Go.RowKit
set_option maxRecDepth 100000
attribute [local irreducible] p2 low memB risB
end Go.Proofs.YtlgcnablhkmdaaaDoor
