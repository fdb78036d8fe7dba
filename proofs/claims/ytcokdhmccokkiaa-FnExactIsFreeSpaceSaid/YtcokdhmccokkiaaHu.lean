/- Contracts: convex sets and hulls, the program's and the specification's. -/
import Derived.Test.YtcokdhmccokkiaaWi
namespace Go.Proofs.Ytcokdhmccokkiaa
open Go.RowKit
set_option maxRecDepth 100000
attribute [local irreducible] p2 low memB risB

def convR (n : Int) (l : List Int) (x : Int) : Bool := okSet n l x && memB l ((andNot (low n.toNat) x.toNat : Nat) : Int)
theorem convR_no {n : Int} {l : List Int} {x : Int} (h : okSet n l x = false) : convR n l x = false := by simp [convR, h]
theorem convR_yes {n : Int} {l : List Int} {x : Int} (h : okSet n l x = true) : convR n l x = memB l ((andNot (low n.toNat) x.toNat : Nat) : Int) := by simp [convR, h]

/-! ### Hulls -/
def hullR (n : Int) (l : List Int) (x : Int) : Int := if okSet n l x then ((andNot (low n.toNat) (wiTo l (andNot (low n.toNat) x.toNat) l.length) : Nat) : Int) else 0
theorem hullR_no {n : Int} {l : List Int} {x : Int} (h : okSet n l x = false) : hullR n l x = 0 := by simp [hullR, h]
theorem hullR_yes {n : Int} {l : List Int} {x : Int} (h : okSet n l x = true) : hullR n l x = ((andNot (low n.toNat) (wiTo l (andNot (low n.toNat) x.toNat) l.length) : Nat) : Int) := by simp [hullR, h]

end Go.Proofs.Ytcokdhmccokkiaa
