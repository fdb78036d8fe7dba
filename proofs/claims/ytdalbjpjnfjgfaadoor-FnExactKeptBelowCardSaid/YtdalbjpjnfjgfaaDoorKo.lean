/- Contracts: the greedy word, the specification's. -/
import Derived.Test.YtdalbjpjnfjgfaaDoorKl
import Derived.Test.YtdalbjpjnfjgfaaDoorKb
namespace Go.Proofs.YtdalbjpjnfjgfaaDoor
open Go.RowKit
set_option maxRecDepth 100000
set_option linter.unusedSimpArgs false
attribute [local irreducible] p2 low memB risB
theorem spIn_natK (s k : Nat) (hs : s < 128) (hk : k < 7) (w1 : World) : Calls Tryd.prog 118 #[.int .i64 (s : Int), .int .i64 (k : Int)] w1 fun e w' => e = .returned (.bool (s.testBit k)) ∧ w1 = w' := by
  have := spIn_c (s : Int) (k : Int) w1 (by omega) (by omega) (by omega) (by omega)
  rw [Int.toNat_natCast, Int.toNat_natCast] at this
  exact this
theorem mnTo_lt (c : Nat → Int) (O k : Nat) : mnTo c O k = -1 ∨ ∃ b : Nat, mnTo c O k = (b : Int) ∧ b < k := by
  rcases mnTo_is c O k with ⟨h, _⟩ | ⟨i, h, hi, _⟩
  · exact .inl h
  · exact .inr ⟨i, h, hi⟩
/-- The length of a slice. -/
def grLen2 : Value → Nat
  | .slice _ n _ => n
  | _ => 0
end Go.Proofs.YtdalbjpjnfjgfaaDoor
