/- Contracts: what is left, the program's and the specification's: SetsLeft, CountLeft, KnownOf. -/
import Derived.Test.YtppojaekngeelaaDoorHb
import Derived.Test.YtppojaekngeelaaDoorHc
namespace Go.Proofs.YtppojaekngeelaaDoor
open Go.RowKit
set_option maxRecDepth 100000
set_option linter.unusedSimpArgs false
attribute [local irreducible] p2 low memB risB
theorem famL_no {n : Int} {l : List Int} {y z : Int} (h : asB n l y z = false) : famL n l y z = .tuple #[.agg (fam 0 noSet), .bool false] := by unfold famL lfN lfM; rw [h]; rfl
theorem famL_yes {n : Int} {l : List Int} {y z : Int} (h : asB n l y z = true) : famL n l y z = .tuple #[.agg (fam n (leF (marksTo l l.length) y.toNat z.toNat)), .bool true] := by unfold famL lfN lfM; rw [h]; rfl
end Go.Proofs.YtppojaekngeelaaDoor
