/- Contracts: the space of an order, where the pairs are told by what the tests answer; the space of all sets. -/
import Derived.Test.YtblglkgmnaklbaaFwh
import Derived.Test.YtblglkgmnaklbaaHar
namespace Go.Proofs.Ytblglkgmnaklbaa
open Go.RowKit
set_option maxRecDepth 100000
attribute [local irreducible] p2 low memB risB

def ordOk (n : Int) (A : Bool) (K : Nat → Bool) : Bool := decide (1 ≤ n ∧ n ≤ 7) && (A && spaceB (cutAt K (low n.toNat + 1)) n.toNat)
def ordN (n : Int) (A : Bool) (K : Nat → Bool) : Int := if ordOk n A K then n else 0
def ordL (n : Int) (A : Bool) (K : Nat → Bool) : List Int := if ordOk n A K then setsTo (cutAt K (low n.toNat + 1)) 128 else []
theorem ordN_no {n : Int} {A : Bool} {K : Nat → Bool} (h : ordOk n A K = false) : ordN n A K = 0 := by simp [ordN, h]
theorem ordL_no {n : Int} {A : Bool} {K : Nat → Bool} (h : ordOk n A K = false) : ordL n A K = [] := by simp [ordL, h]
theorem ordN_yes {n : Int} {A : Bool} {K : Nat → Bool} (h : ordOk n A K = true) : ordN n A K = n := by simp [ordN, h]
theorem ordL_yes {n : Int} {A : Bool} {K : Nat → Bool} (h : ordOk n A K = true) : ordL n A K = setsTo (cutAt K (low n.toNat + 1)) 128 := by simp [ordL, h]

end Go.Proofs.Ytblglkgmnaklbaa
