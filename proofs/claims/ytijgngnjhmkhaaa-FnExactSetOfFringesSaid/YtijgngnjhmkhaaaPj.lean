/- Contracts: PathsOf, PathsWithin, LongestPath, CanLearn: the specification's and the program's. -/
import Derived.Test.YtijgngnjhmkhaaaPi
namespace Go.Proofs.Ytijgngnjhmkhaaa
open Go.RowKit
set_option maxRecDepth 100000
theorem ent_fullP : enters Try.prog 73 := enters_of Try.func73 (by kernel_rfl) (by kernel_rfl)
/-- The most items of the first k of a list's sets. -/
def mostTo (l : List Int) : Nat → Nat
  | 0 => 0
  | k + 1 => max (mostTo l k) (pc (nth l k))
theorem mostTo_le (l : List Int) : ∀ k, mostTo l k ≤ 7
  | 0 => by simp [mostTo]
  | k + 1 => by have := mostTo_le l k; have := pc_le (nth l k); rw [mostTo]; omega
def lpR (n : Int) (l : List Int) : Int := (mostTo (poL n l) (poL n l).length : Int)
def clB (n : Int) (l : List Int) (x i : Int) : Bool := okOne n l x && (decide (0 ≤ i ∧ i < n) && !x.toNat.testBit i.toNat)
def clR (n : Int) (l : List Int) (x i : Int) : Bool := clB n l x i && memB l ((x.toNat ||| p2 i.toNat : Nat) : Int)
theorem setsTo_one (P : Nat → Bool) (h : P 0 = false) : setsTo P 1 = [] := by simp [setsTo, h]
theorem poL_no2 {n : Int} {l : List Int} (h : okSp n l = false) : poL n l = setsTo (fun x => pathF noSet (0 : Int).toNat x && (andNot x (low (0 : Int).toNat) == 0)) (2 ^ (0 : Int).toNat) := by
  rw [poL_no h]
  exact (setsTo_one _ (by simp [pathF, noSet])).symm
theorem poL_yes2 {n : Int} {l : List Int} (h : okSp n l = true) : poL n l = setsTo (fun x => pathF (marksTo l l.length) n.toNat x && (andNot x (low n.toNat) == 0)) (2 ^ n.toNat) := by
  rw [poL_yes h, where_all h]
theorem poL_at (n : Int) (l : List Int) (j : Nat) (hj : j < (poL n l).length) : (poL n l)[j]?.getD 0 = (nth (poL n l) j : Int) ∧ nth (poL n l) j < 128 := by
  cases h : okSp n l
  · rw [poL_no h] at hj; simp at hj
  · rw [poL_yes h] at hj ⊢
    have := paTo_nth (pathSp l) l (okSp_r128 h) j hj
    exact ⟨this.1, this.2.1⟩
attribute [local irreducible] p2 low memB risB

end Go.Proofs.Ytijgngnjhmkhaaa
