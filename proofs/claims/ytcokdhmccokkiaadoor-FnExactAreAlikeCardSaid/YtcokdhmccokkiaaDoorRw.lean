/- Contracts: RankWord. -/
import Derived.Test.YtcokdhmccokkiaaDoorRm
import Derived.Test.YtcokdhmccokkiaaDoorFw
namespace Go.Proofs.YtcokdhmccokkiaaDoor
open Go.RowKit
set_option maxRecDepth 100000
set_option linter.unusedSimpArgs false
attribute [local irreducible] p2 low memB risB
def rkR (n : Int) (l m : List Int) : Int := if okFu n l m then (rkTo (marksTo l l.length) n.toNat m m.length : Int) else 0
theorem rkR_no {n : Int} {l m : List Int} (h : okFu n l m = false) : rkR n l m = 0 := by simp [rkR, h]
theorem rkR_yes {n : Int} {l m : List Int} (h : okFu n l m = true) : rkR n l m = (rkTo (marksTo l l.length) n.toNat m m.length : Int) := by simp [rkR, h]
theorem okFu_no1 {n : Int} {l m : List Int} (h : okSp n l = false) : okFu n l m = false := by simp [okFu, okWd_no h]
theorem okFu_no2 {n : Int} {l m : List Int} (h : ¬ (m.length : Int) = n) : okFu n l m = false := by simp [okFu, h]
theorem okFu_eq {n : Int} {l m : List Int} (h : (m.length : Int) = n) : okFu n l m = okWd n l m := by simp [okFu, h]

end Go.Proofs.YtcokdhmccokkiaaDoor
