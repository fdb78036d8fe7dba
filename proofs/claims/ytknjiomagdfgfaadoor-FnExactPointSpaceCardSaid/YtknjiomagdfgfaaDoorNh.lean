/- Contracts: trees: the lines of a net, whether it is a tree, both; IsTree. -/
import Derived.Test.YtknjiomagdfgfaaDoorNg
import Derived.Test.YtknjiomagdfgfaaDoorTw
import Derived.Test.YtknjiomagdfgfaaDoorNe
namespace Go.Proofs.YtknjiomagdfgfaaDoor
open Go.RowKit
set_option maxRecDepth 100000
set_option linter.unusedSimpArgs false
theorem ends_next (l : List Int) (k : Nat) : endsTo l (k + 1) = endsTo l k + pc (nth l k) := rfl
theorem ent_belowN : enters Tryd.prog 77 := enters_of Tryd.func77 (by kernel_rfl) (by kernel_rfl)
theorem low_pow (n : Nat) : low n < 2 ^ n := by have := p2_pos n; unfold low; omega
theorem tr_half {l : List Int} (h : neB l = true) (h1 : 1 ≤ l.length) : (endsTo l l.length == 2 * (l.length - 1)) = (((endsTo l l.length / 2 : Nat) : Int) == (l.length : Int) - 1) := by
  have := ends_even h
  rw [Bool.eq_iff_iff, beq_iff_eq, beq_iff_eq]
  omega
theorem trB_no {l : List Int} (h : jnB l (low l.length) = false) : trB l = false := by unfold trB; rw [h]; rfl
theorem trB_yes {l : List Int} (h : jnB l (low l.length) = true) : trB l = (endsTo l l.length == 2 * (l.length - 1)) := by unfold trB; rw [h]; rfl
theorem treB_yes {l : List Int} (h : neB l = true) : treB l = trB l := by unfold treB; rw [h]; rfl
theorem treB_no {l : List Int} (h : neB l = false) : treB l = false := by unfold treB; rw [h]; rfl
attribute [local irreducible] p2 low memB risB
end Go.Proofs.YtknjiomagdfgfaaDoor
/- Contracts: whether a net is a tree, the specification's; IsTree, both. -/
namespace Go.Proofs.YtknjiomagdfgfaaDoor
open Go.RowKit
set_option maxRecDepth 100000
set_option linter.unusedSimpArgs false
def istR (l : List Int) : Bool := neB l && trB l
theorem istR_no {l : List Int} (h : neB l = false) : istR l = false := by simp [istR, h]
theorem istR_yes {l : List Int} (h : neB l = true) : istR l = trB l := by simp [istR, h]
theorem istR_tre (l : List Int) : istR l = treB l := rfl
theorem two_ends {l : List Int} (h1 : 1 ≤ l.length) : (endsTo l l.length == 2 * (l.length - 1)) = ((endsTo l l.length : Int) == 2 * ((l.length : Int) - 1)) := by
  rw [Bool.eq_iff_iff, beq_iff_eq, beq_iff_eq]
  omega
attribute [local irreducible] p2 low memB risB
end Go.Proofs.YtknjiomagdfgfaaDoor
