/- Contracts: SortWord, FinishWord. -/
import Derived.Test.YtcokdhmccokkiaaDoorFn
import Derived.Test.YtcokdhmccokkiaaDoorRs
namespace Go.Proofs.YtcokdhmccokkiaaDoor
open Go.RowKit
set_option maxRecDepth 100000
attribute [local irreducible] p2 low memB risB
def soR (n : Int) (l : List Int) (x : Int) : List Int := if okOne n l x then finL (marksTo l l.length) n.toNat x.toNat 0 else []
theorem soR_no {n : Int} {l : List Int} {x : Int} (h : okOne n l x = false) : soR n l x = [] := by simp [soR, h]
theorem soR_yes {n : Int} {l : List Int} {x : Int} (h : okOne n l x = true) : soR n l x = finL (marksTo l l.length) n.toNat x.toNat 0 := by simp [soR, h]
theorem soR_len (n : Int) (l : List Int) (x : Int) : (soR n l x).length < 1000000000 := by
  unfold soR
  split
  · have := finL_len (marksTo l l.length) n.toNat x.toNat 0; omega
  · simp
theorem an0_zero (b : Nat) : andNot 0 b = 0 := (an0 0 b).2 fun i hi => by simp at hi
theorem ints_nil0 (B : Nat) (w : World) : ints B w (.slice none 0 0) [] := .inl ⟨rfl, none, 0, rfl⟩

end Go.Proofs.YtcokdhmccokkiaaDoor
