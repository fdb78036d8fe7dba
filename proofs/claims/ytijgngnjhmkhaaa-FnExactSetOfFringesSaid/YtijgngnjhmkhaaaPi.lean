/- Contracts: IsPath, PathsOf, PathsWithin, LongestPath, CanLearn: the specification's and the program's. -/
import Derived.Test.YtijgngnjhmkhaaaPt
import Derived.Test.YtijgngnjhmkhaaaPp
namespace Go.Proofs.Ytijgngnjhmkhaaa
open Go.RowKit
set_option maxRecDepth 100000
def ipR (n : Int) (l : List Int) (x : Int) : Bool := okSet n l x && pathSp l x.toNat
theorem okSp_len {n : Int} {l : List Int} (h : okSp n l = true) : l.length ≤ 128 := by
  have h1 := ris_len n.toNat l (okSp_range h)
  have h2 := okSp_n h
  have := p2_le n.toNat 7 (by omega)
  unfold p2 at h1
  omega
theorem okSp_r128 {n : Int} {l : List Int} (h : okSp n l = true) : ∀ j, j < l.length → 0 ≤ l[j]?.getD 0 ∧ l[j]?.getD 0 < 128 := fun j hj => by
  have h1 := okSp_pos h j hj
  have h2 := okSp_n h
  have := low_lt n.toNat (by omega)
  omega
def poL (n : Int) (l : List Int) : List Int := if okSp n l then paTo (pathSp l) l l.length else []
def pwL (n : Int) (l : List Int) (x : Int) : List Int := if okOne n l x then paTo (fun s => pathSp l s && (andNot s x.toNat == 0)) l l.length else []
theorem poL_no {n : Int} {l : List Int} (h : okSp n l = false) : poL n l = [] := by simp [poL, h]
theorem poL_yes {n : Int} {l : List Int} (h : okSp n l = true) : poL n l = paTo (pathSp l) l l.length := by simp [poL, h]
theorem pwL_no {n : Int} {l : List Int} {x : Int} (h : okOne n l x = false) : pwL n l x = [] := by simp [pwL, h]
theorem pwL_yes {n : Int} {l : List Int} {x : Int} (h : okOne n l x = true) : pwL n l x = paTo (fun s => pathSp l s && (andNot s x.toNat == 0)) l l.length := by simp [pwL, h]
theorem poL_len (n : Int) (l : List Int) : (poL n l).length < 1000000000 := by
  unfold poL
  split
  · rename_i h
    have h1 := paTo_len (pathSp l) l l.length
    have h2 := okSp_len h
    omega
  · simp
theorem pwL_len (n : Int) (l : List Int) (x : Int) : (pwL n l x).length < 1000000000 := by
  unfold pwL
  split
  · rename_i h
    have h1 := paTo_len (fun s => pathSp l s && (andNot s x.toNat == 0)) l l.length
    have h2 := okSp_len (okOne_sp h)
    omega
  · simp
theorem path_none (s : Nat) : pathF noSet 0 s = false := by simp [pathF, noSet]
theorem an0_lowP {n s : Nat} (h : s < 2 ^ n) : andNot s (low n) = 0 := by
  apply Nat.eq_of_testBit_eq
  intro i
  rw [andNot_bit, low_bit, Nat.zero_testBit]
  by_cases hin : i < n
  · simp [hin]
  · have := Nat.lt_of_lt_of_le h (Nat.pow_le_pow_right (by omega) (show n ≤ i by omega))
    rw [Nat.testBit_lt_two_pow this]; rfl
/-- What the program finds among the sets of a space. -/
theorem where_same {n : Int} {l : List Int} (h : okSp n l = true) (K : Nat → Bool) : setsTo (fun x => pathF (marksTo l l.length) n.toNat x && K x) (2 ^ n.toNat) = paTo (fun s => pathSp l s && K s) l l.length := by
  refine (paTo_sp h _ _ (fun x hx _ => ?_) (fun x hx => ?_)).symm
  · rw [path_same h x hx]
  · simp only [pathF, Bool.and_eq_true] at hx
    exact hx.1.1
theorem where_all {n : Int} {l : List Int} (h : okSp n l = true) : setsTo (fun x => pathF (marksTo l l.length) n.toNat x && (andNot x (low n.toNat) == 0)) (2 ^ n.toNat) = paTo (pathSp l) l l.length := by
  have h1 : setsTo (fun x => pathF (marksTo l l.length) n.toNat x && (andNot x (low n.toNat) == 0)) (2 ^ n.toNat) = setsTo (fun x => pathF (marksTo l l.length) n.toNat x && true) (2 ^ n.toNat) := by
    refine setsTo_congr _ fun x hx => ?_
    have : andNot x (low n.toNat) = 0 := an0_lowP hx
    rw [this]; rfl
  rw [h1, where_same h (fun _ => true)]
  congr 1
  funext s
  simp
attribute [local irreducible] p2 low memB risB

/-! ### The closure of pathsWithin -/
/-! ### IsPath -/
end Go.Proofs.Ytijgngnjhmkhaaa
