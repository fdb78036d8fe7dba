/- Contracts of the program's functions, VII: whether a family is a space; the family of a space that comes in. -/
import Derived.Test.YtlgcnablhkmdaaaImpF
namespace Go.Proofs.Ytlgcnablhkmdaaa
open Go.RowKit
set_option maxRecDepth 100000

def spaceB (F : Nat → Bool) (n : Nat) : Bool := F 0 && F (low n) && gradedTo F n 128 && closedB F

def lastOf (l : List Int) : Nat → Int
  | 0 => -1
  | k + 1 => l[k]?.getD 0
def risingTo (n : Nat) (l : List Int) : Nat → Bool
  | 0 => true
  | k + 1 => risingTo n l k && (decide (lastOf l k < l[k]?.getD 0) && decide (0 ≤ l[k]?.getD 0 ∧ l[k]?.getD 0 ≤ (low n : Int)))
def marksTo (l : List Int) : Nat → (Nat → Bool)
  | 0 => noSet
  | k + 1 => upd (marksTo l k) (l[k]?.getD 0).toNat true
/-- Whether n and l are a space; its family, or the empty one. -/
def okSp (n : Int) (l : List Int) : Bool := decide (1 ≤ n ∧ n ≤ 7) && risingTo n.toNat l l.length && spaceB (marksTo l l.length) n.toNat
def famN (n : Int) (l : List Int) : Int := if okSp n l then n else 0
def famM (n : Int) (l : List Int) : Nat → Bool := if okSp n l then marksTo l l.length else noSet
def famVal (n : Int) (l : List Int) : Value := .tuple #[.agg (fam (famN n l) (famM n l)), .bool (okSp n l)]
theorem famVal_no (n : Int) (l : List Int) (h : okSp n l = false) : famVal n l = .tuple #[.agg (fam 0 noSet), .bool false] := by
  simp [famVal, famN, famM, h]
theorem famVal_yes (n : Int) (l : List Int) (h : okSp n l = true) : famVal n l = .tuple #[.agg (fam n (marksTo l l.length)), .bool true] := by
  simp [famVal, famN, famM, h]
theorem risingTo_false (n : Nat) (l : List Int) (k : Nat) (h : risingTo n l k = false) : ∀ m, k ≤ m → risingTo n l m = false := by
  intro m hm
  induction m with
  | zero => have : k = 0 := by omega
            subst this; exact h
  | succ m ih =>
    rcases Nat.lt_or_ge k (m + 1) with h1 | h1
    · rw [risingTo, ih (by omega)]; rfl
    · have : k = m + 1 := by omega
      subst this; exact h

end Go.Proofs.Ytlgcnablhkmdaaa
