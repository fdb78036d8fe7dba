/- Contracts: renamed items, the specification's and the program's. -/
import Derived.Test.YtdhhcgamhihpjaaDoorRs
import Derived.Test.YtdhhcgamhihpjaaDoorCh
namespace Go.Proofs.YtdhhcgamhihpjaaDoor
open Go.RowKit
set_option maxRecDepth 100000

def rnmG (nm : List Int) (a i : Nat) : Nat := if a.testBit i = true then p2 (nm[i]?.getD 0).toNat else 0
def rnm (nm : List Int) (n a : Nat) : Nat := orTo (rnmG nm a) n
def rmB (n : Int) (l nm : List Int) : Bool := okSp n l && (decide ((nm.length : Int) = n) && wordTo anySet n.toNat nm nm.length)
def rmF (n : Int) (l nm : List Int) : Nat → Bool := lmTo l (fun _ => true) (rnm nm n.toNat) l.length
def rmN (n : Int) (l nm : List Int) : Int := if rmB n l nm then n else 0
def rmL (n : Int) (l nm : List Int) : List Int := if rmB n l nm then setsTo (rmF n l nm) 128 else []
theorem rmB_no1 {n : Int} {l nm : List Int} (h : okSp n l = false) : rmB n l nm = false := by simp [rmB, h]
theorem rmB_no2 {n : Int} {l nm : List Int} (h : ¬ (nm.length : Int) = n) : rmB n l nm = false := by simp [rmB, h]
theorem rmB_no3 {n : Int} {l nm : List Int} (h : wordTo anySet n.toNat nm nm.length = false) : rmB n l nm = false := by simp [rmB, h]
theorem rmB_yes {n : Int} {l nm : List Int} (h : okSp n l = true) (h2 : (nm.length : Int) = n) (h3 : wordTo anySet n.toNat nm nm.length = true) : rmB n l nm = true := by simp [rmB, h, h2, h3]
theorem rmN_no {n : Int} {l nm : List Int} (h : rmB n l nm = false) : rmN n l nm = 0 := by simp [rmN, h]
theorem rmN_yes {n : Int} {l nm : List Int} (h : rmB n l nm = true) : rmN n l nm = n := by simp [rmN, h]
theorem rmL_no {n : Int} {l nm : List Int} (h : rmB n l nm = false) : rmL n l nm = [] := by simp [rmL, h]
theorem rmL_yes {n : Int} {l nm : List Int} (h : rmB n l nm = true) : rmL n l nm = setsTo (rmF n l nm) 128 := by simp [rmL, h]
theorem rmL_len (n : Int) (l nm : List Int) : (rmL n l nm).length < 1000000000 := by
  unfold rmL
  split
  · have := setsTo_len (rmF n l nm) 128; omega
  · simp
theorem rnm_in {n : Nat} {nm : List Int} (h : wordTo anySet n nm nm.length = true) (i : Nat) (hi : i < nm.length) : 0 ≤ nm[i]?.getD 0 ∧ nm[i]?.getD 0 < (n : Int) := by
  have := (wordTo_iff anySet n nm nm.length).1 h i hi
  simp only [stepB, Bool.and_eq_true, decide_eq_true_eq] at this
  exact this.1
theorem rnmG_lt {n : Nat} {nm : List Int} (h7 : n ≤ 7) (hl : nm.length = n) (h : wordTo anySet n nm nm.length = true) (a i : Nat) (hi : i < n) : rnmG nm a i < 128 := by
  unfold rnmG
  split
  · have := rnm_in h i (by omega)
    exact p2_lt128 _ (by omega)
  · omega
theorem rnm_lt {n : Nat} {nm : List Int} (h7 : n ≤ 7) (hl : nm.length = n) (h : wordTo anySet n nm nm.length = true) (a k : Nat) (hk : k ≤ n) : orTo (rnmG nm a) k < 128 :=
  orTo_lt (rnmG nm a) 7 k fun i hi => rnmG_lt h7 hl h a i (by omega)
attribute [local irreducible] p2 low memB risB

theorem ord_len {n : Int} {l nm : List Int} (h : okSp n l = true) (h2 : (nm.length : Int) = n) : okOrd nm = wordTo anySet n.toNat nm nm.length := by
  have hn := okSp_n h
  have e : n.toNat = nm.length := by omega
  rw [okOrd, decide_eq_true (by omega), Bool.true_and, e]

end Go.Proofs.YtdhhcgamhihpjaaDoor
