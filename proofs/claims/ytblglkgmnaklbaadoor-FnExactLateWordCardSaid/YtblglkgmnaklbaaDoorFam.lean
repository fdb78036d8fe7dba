/- Contracts: a space's family with a set of its items, or with one of its Sets; the specification's tests for both. -/
import Derived.Test.YtblglkgmnaklbaaDoorIs
import Derived.Test.YtblglkgmnaklbaaDoorSame
namespace Go.Proofs.YtblglkgmnaklbaaDoor
open Go.RowKit
set_option maxRecDepth 100000
attribute [local irreducible] p2 low memB risB

def okSet (n : Int) (l : List Int) (x : Int) : Bool := okSp n l && decide (0 ≤ x ∧ x ≤ (low n.toNat : Int))
def famN2 (n : Int) (l : List Int) (x : Int) : Int := if okSet n l x then n else 0
def famM2 (n : Int) (l : List Int) (x : Int) : Nat → Bool := if okSet n l x then marksTo l l.length else noSet
def famS2 (n : Int) (l : List Int) (x : Int) : Int := if okSet n l x then x else 0
def famVal2 (n : Int) (l : List Int) (x : Int) : Value := .tuple #[.agg (fam (famN2 n l x) (famM2 n l x)), .int .i64 (famS2 n l x), .bool (okSet n l x)]
theorem famVal2_no (n : Int) (l : List Int) (x : Int) (h : okSet n l x = false) : famVal2 n l x = .tuple #[.agg (fam 0 noSet), .int .i64 0, .bool false] := by
  simp [famVal2, famN2, famM2, famS2, h]
theorem famVal2_yes (n : Int) (l : List Int) (x : Int) (h : okSet n l x = true) : famVal2 n l x = .tuple #[.agg (fam n (marksTo l l.length)), .int .i64 x, .bool true] := by
  simp [famVal2, famN2, famM2, famS2, h]
theorem okSp_n {n : Int} {l : List Int} (h : okSp n l = true) : 1 ≤ n ∧ n ≤ 7 := by
  simp only [okSp, Bool.and_eq_true, decide_eq_true_eq] at h
  exact h.1.1

def okOne (n : Int) (l : List Int) (x : Int) : Bool := okSp n l && memB l x
theorem okSp_range {n : Int} {l : List Int} (h : okSp n l = true) : risB 0 (low n.toNat) l l.length = true := by
  simp only [okSp, Bool.and_eq_true] at h
  rw [← rising_ris]; exact h.1.2
theorem okSp_inc {n : Int} {l : List Int} (h : okSp n l = true) : inc l := risB_inc _ _ _ (okSp_range h)
theorem okSp_pos {n : Int} {l : List Int} (h : okSp n l = true) : ∀ j, j < l.length → 0 ≤ l[j]?.getD 0 ∧ l[j]?.getD 0 ≤ (low n.toNat : Int) := fun j hj => (risB_at _ _ l _ (okSp_range h) j hj).1
theorem okSp_marks {n : Int} {l : List Int} (h : okSp n l = true) (x : Nat) : marksTo l l.length x = memB l (x : Int) := marks_mem l (fun j hj => (okSp_pos h j hj).1) x
theorem okOne_set {n : Int} {l : List Int} {x : Int} (h : okOne n l x = true) : okSet n l x = true := by
  simp only [okOne, Bool.and_eq_true] at h
  obtain ⟨h1, h2⟩ := h
  obtain ⟨j, hj, e⟩ := (mem_iff l x).1 h2
  have := okSp_pos h1 j hj
  simp only [okSet, h1, Bool.true_and, decide_eq_true_eq]
  omega
theorem okSet_sp {n : Int} {l : List Int} {x : Int} (h : okSet n l x = true) : okSp n l = true := by
  simp only [okSet, Bool.and_eq_true] at h; exact h.1
theorem okSet_in {n : Int} {l : List Int} {x : Int} (h : okSet n l x = true) : 0 ≤ x ∧ x ≤ (low n.toNat : Int) := by
  simp only [okSet, Bool.and_eq_true, decide_eq_true_eq] at h; exact h.2

end Go.Proofs.YtblglkgmnaklbaaDoor
