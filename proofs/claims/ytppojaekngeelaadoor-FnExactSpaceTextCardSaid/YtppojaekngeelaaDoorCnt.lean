/- Contracts: the number of a set's items, the program's and the specification's. -/
import Derived.Test.YtppojaekngeelaaDoorImp
namespace Go.Proofs.YtppojaekngeelaaDoor
open Go.RowKit
set_option maxRecDepth 100000
attribute [local irreducible] p2 low

/-- The number of ones of a number below 128. -/
def pc (x : Nat) : Nat := x % 2 + x / 2 % 2 + x / 4 % 2 + x / 8 % 2 + x / 16 % 2 + x / 32 % 2 + x / 64 % 2
theorem pc_step (x : Nat) (h : x < 128) : pc x = x % 2 + pc (x / 2) := by unfold pc; omega
theorem pc_le (x : Nat) : pc x ≤ 7 := by unfold pc; omega

end Go.Proofs.YtppojaekngeelaaDoor
/- Contract: bits.OnesCount of a number below 128. -/
namespace Go.Proofs.YtppojaekngeelaaDoor
open Go.RowKit
set_option maxRecDepth 100000
attribute [local irreducible] p2 low

end Go.Proofs.YtppojaekngeelaaDoor
