/- Contracts: the inner fringe and the greatest set within, the program's and the specification's. -/
import Derived.Test.YtblglkgmnaklbaaDoorFam
namespace Go.Proofs.YtblglkgmnaklbaaDoor
open Go.RowKit
set_option maxRecDepth 100000
attribute [local irreducible] p2 low memB risB

def famN3 (n : Int) (l : List Int) (x : Int) : Int := if okOne n l x then n else 0
def famM3 (n : Int) (l : List Int) (x : Int) : Nat → Bool := if okOne n l x then marksTo l l.length else noSet
def famS3 (n : Int) (l : List Int) (x : Int) : Int := if okOne n l x then x else 0
def famVal3 (n : Int) (l : List Int) (x : Int) : Value := .tuple #[.agg (fam (famN3 n l x) (famM3 n l x)), .int .i64 (famS3 n l x), .bool (okOne n l x)]
theorem famVal3_no (n : Int) (l : List Int) (x : Int) (h : okOne n l x = false) : famVal3 n l x = .tuple #[.agg (fam 0 noSet), .int .i64 0, .bool false] := by
  simp [famVal3, famN3, famM3, famS3, h]
theorem famVal3_yes (n : Int) (l : List Int) (x : Int) (h : okOne n l x = true) : famVal3 n l x = .tuple #[.agg (fam n (marksTo l l.length)), .int .i64 x, .bool true] := by
  simp [famVal3, famN3, famM3, famS3, h]

/-! ### The inner fringe -/
def innerR (n : Int) (l : List Int) (x : Int) : Int := if okOne n l x then (itemsOf (innerSp l x.toNat) 7 : Int) else 0
theorem innerR_no {n : Int} {l : List Int} {x : Int} (h : okOne n l x = false) : innerR n l x = 0 := by simp [innerR, h]
theorem innerR_yes {n : Int} {l : List Int} {x : Int} (h : okOne n l x = true) : innerR n l x = (itemsOf (innerSp l x.toNat) 7 : Int) := by simp [innerR, h]
theorem okOne_sp {n : Int} {l : List Int} {x : Int} (h : okOne n l x = true) : okSp n l = true := by
  simp only [okOne, Bool.and_eq_true] at h; exact h.1

end Go.Proofs.YtblglkgmnaklbaaDoor
