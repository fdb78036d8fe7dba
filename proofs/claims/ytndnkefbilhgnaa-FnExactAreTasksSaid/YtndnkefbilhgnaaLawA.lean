/- Contracts of the laws' own small functions: copies, sizes and comparisons. -/
import Derived.Test.YtndnkefbilhgnaaSpecC
import Derived.Test.YtndnkefbilhgnaaMk
namespace Go.Proofs.Ytndnkefbilhgnaa
open Go.RowKit
set_option maxRecDepth 100000

def szOf (left : Int) (n : Nat) : Int := if left < (n : Int) then -1 else left - n
end Go.Proofs.Ytndnkefbilhgnaa
