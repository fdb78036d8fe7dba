/- Contracts: IsWord and SetOfWord, the program's and the specification's. -/
import Derived.Test.YtblglkgmnaklbaaDoorWo
namespace Go.Proofs.YtblglkgmnaklbaaDoor
open Go.RowKit
set_option maxRecDepth 100000
attribute [local irreducible] p2 low memB risB

/-- Whether n and l are a space and m a word of it. -/
def okWd (n : Int) (l m : List Int) : Bool := okSp n l && wordB (marksTo l l.length) n.toNat m
def wdS (n : Int) (l m : List Int) : Int := if okWd n l m then (setTo m m.length : Int) else 0
theorem wd_spec {n : Int} {l : List Int} (h : okSp n l = true) (m : List Int) : wordB (fun x => memB l (x : Int)) n.toNat m = wordB (marksTo l l.length) n.toNat m := by
  obtain ⟨h1, h2⟩ := okSp_n h
  exact wordTo_congr (by omega) (fun x _ => (okSp_marks h x).symm) m.length
theorem wd_specS {n : Int} {l : List Int} (h : okSp n l = true) (m : List Int) : (wordS (fun x => memB l (x : Int)) n.toNat m : Int) = wdS n l m := by
  unfold wordS wdS okWd
  rw [wd_spec h, h, Bool.true_and]
  split <;> rfl
theorem wd_implS {n : Int} {l : List Int} (h : okSp n l = true) (m : List Int) : (wordS (marksTo l l.length) n.toNat m : Int) = wdS n l m := by
  unfold wordS wdS okWd
  rw [h, Bool.true_and]
  split <;> rfl
theorem okWd_sp {n : Int} {l m : List Int} (h : okWd n l m = true) : okSp n l = true := by
  simp only [okWd, Bool.and_eq_true] at h; exact h.1
theorem okWd_no {n : Int} {l m : List Int} (h : okSp n l = false) : okWd n l m = false := by simp [okWd, h]
theorem okWd_yes {n : Int} {l m : List Int} (h : okSp n l = true) : okWd n l m = wordB (marksTo l l.length) n.toNat m := by simp [okWd, h]
theorem wdS_no {n : Int} {l m : List Int} (h : okWd n l m = false) : wdS n l m = 0 := by simp [wdS, h]
theorem wdS_yes {n : Int} {l m : List Int} (h : okWd n l m = true) : wdS n l m = (setTo m m.length : Int) := by simp [wdS, h]

/-- The family of a space with a word of it, or the empty one. -/
def famN4 (n : Int) (l m : List Int) : Int := if okWd n l m then n else 0
def famM4 (n : Int) (l m : List Int) : Nat → Bool := if okWd n l m then marksTo l l.length else noSet
def famVal4 (n : Int) (l m : List Int) : Value := .tuple #[.agg (fam (famN4 n l m) (famM4 n l m)), .int .i64 (wdS n l m), .bool (okWd n l m)]
theorem famVal4_no (n : Int) (l m : List Int) (h : okWd n l m = false) : famVal4 n l m = .tuple #[.agg (fam 0 noSet), .int .i64 0, .bool false] := by
  simp [famVal4, famN4, famM4, h, wdS_no h]
theorem famVal4_yes (n : Int) (l m : List Int) (h : okWd n l m = true) : famVal4 n l m = .tuple #[.agg (fam n (marksTo l l.length)), .int .i64 (setTo m m.length : Int), .bool true] := by
  simp [famVal4, famN4, famM4, h, wdS_yes h]

/-- Whether a list may be asked about, and whether it is a word then. -/
def okW7 (n : Int) (l m : List Int) : Bool := okSp n l && decide (m.length ≤ 7)
def isW7 (n : Int) (l m : List Int) : Bool := okW7 n l m && wordB (marksTo l l.length) n.toNat m
theorem okW7_no {n : Int} {l m : List Int} (h : okSp n l = false) : okW7 n l m = false := by simp [okW7, h]
theorem okW7_long {n : Int} {l m : List Int} (h : ¬ m.length ≤ 7) : okW7 n l m = false := by simp [okW7, h]
theorem okW7_yes {n : Int} {l m : List Int} (h : okSp n l = true) (h2 : m.length ≤ 7) : okW7 n l m = true := by simp [okW7, h, h2]
theorem isW7_no {n : Int} {l m : List Int} (h : okW7 n l m = false) : isW7 n l m = false := by simp [isW7, h]
theorem isW7_yes {n : Int} {l m : List Int} (h : okW7 n l m = true) : isW7 n l m = wordB (marksTo l l.length) n.toNat m := by simp [isW7, h]

end Go.Proofs.YtblglkgmnaklbaaDoor
