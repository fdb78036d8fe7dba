/- Contracts: a word led on to a goal, the specification's. -/
import Derived.Test.YtlgcnablhkmdaaaDoorFi
import Derived.Test.YtlgcnablhkmdaaaDoorOu
import Derived.Test.YtlgcnablhkmdaaaDoorPut
namespace Go.Proofs.YtlgcnablhkmdaaaDoor
open Go.RowKit
set_option maxRecDepth 100000
attribute [local irreducible] p2 low memB risB
end Go.Proofs.YtlgcnablhkmdaaaDoor
