/- Contracts: AllWords: the specification's way. -/
import Derived.Test.YtcokdhmccokkiaaDoorAw
import Derived.Test.YtcokdhmccokkiaaDoorAx
import Derived.Test.YtcokdhmccokkiaaDoorRh
namespace Go.Proofs.YtcokdhmccokkiaaDoor
open Go.RowKit
set_option maxRecDepth 100000
set_option linter.unusedSimpArgs false
theorem awR_small (n : Int) (l : List Int) : small2 (awR n l) := by
  cases h : okAw n l
  · rw [awR_no h]; exact small2_nil
  · rw [awR_yes h]
    simp only [okAw, Bool.and_eq_true, decide_eq_true_eq] at h
    have hn := okSp_n h.1
    have hsp := okSp_spc h.1
    refine small2_of _ 7 (fun r hr => by rw [aw_row _ _ r hr]; omega) ?_ ?_
    all_goals
      rw [aw_rank (by omega) hsp.lt n.toNat 0 hsp.zero (by rw [show pc 0 = 0 by decide]; omega), List.length_map, List.length_range]
      omega
theorem ent_l1OwnA : enters Tryd.prog 51 := enters_of Tryd.func51 (by kernel_rfl) (by kernel_rfl)
theorem p2_geA (N x : Nat) (h : N ≤ x) : 2 ^ N ≤ p2 x := p2_le N x h
theorem p2s_ge (s x : Nat) : p2 x ≤ p2s s x := Nat.right_le_or
attribute [local irreducible] p2 low memB risB
theorem map_cons_app (word : List Int) (x : Int) (A : List (List Int)) : (A.map fun m => x :: m).map (word ++ ·) = A.map ((word ++ [x]) ++ ·) := by
  rw [List.map_map]
  refine List.map_congr_left fun r _ => ?_
  simp
end Go.Proofs.YtcokdhmccokkiaaDoor
