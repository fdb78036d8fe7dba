/- Contracts of the small functions of the program: single items, sets of items, unions over closures. -/
import Derived.Test.YtmihfejkflpfnaaProg
import Derived.Test.YtmihfejkflpfnaaLib
namespace Go.Proofs.Ytmihfejkflpfnaa
open Go.RowKit

theorem ret_i {k : IntKind} {a b : Int} (h : a = b) : Ending.returned (.int k a) = .returned (.int k b) := by rw [h]
theorem ret_b {a b : Bool} (h : a = b) : Ending.returned (.bool a) = .returned (.bool b) := by rw [h]

end Go.Proofs.Ytmihfejkflpfnaa
/- Contracts of the program's functions, II: unions over closures; what a family of sets is asked. -/
namespace Go.Proofs.Ytmihfejkflpfnaa
open Go.RowKit

theorem sizeB : (Try.prog.info? 4).map (·.size) = some 1 := by kernel_rfl
theorem rowB : (Try.prog.underlying 4).map TypeDesc.isRow = some false := by kernel_rfl

theorem sum_step {G : Nat → Nat} {n j : Nat} (hg : ∀ i, i < n → G i < 128) (hj : j < n) : Value.int .i64 (bits .or .i64 (orTo G j : Int) (G j : Int)) = .int .i64 (orTo G (j + 1) : Int) := by
  have h1 : orTo G j < 2 ^ 7 := orTo_lt G 7 j fun i hi => hg i (by omega)
  have h2 := hg j hj
  rw [i64_or _ _ (by omega) (by omega)]; rfl

end Go.Proofs.Ytmihfejkflpfnaa
/- Contracts of the program's functions, III: fringes, and what is within a set. -/
namespace Go.Proofs.Ytmihfejkflpfnaa
open Go.RowKit
set_option maxRecDepth 100000

def innerOf (F : Nat → Bool) (n s : Nat) : Nat := itemsOf (fun i => andNot s (p2 i) != s && F (andNot s (p2 i))) n
def outerOf (F : Nat → Bool) (n s : Nat) : Nat := itemsOf (fun i => (s ||| p2 i) != s && F (s ||| p2 i)) n
theorem andNot_lt128 (s t : Nat) (h : s < 128) : andNot s t < 128 := andNot_lt s t 7 h
theorem or_lt128 (s t : Nat) (h : s < 128) (h2 : t < 128) : s ||| t < 128 := Nat.or_lt_two_pow (n := 7) h h2

def pickIn (F : Nat → Bool) (lim s : Nat) : Nat := if F s && andNot s lim == 0 then s else 0
def withinOf (F : Nat → Bool) (n lim : Nat) : Nat := orTo (pickIn F lim) (2 ^ n)
theorem low_succ (n : Nat) : low n + 1 = 2 ^ n := by have := p2_pos n; unfold low; omega
theorem withinOf_lt (F : Nat → Bool) (n lim : Nat) : withinOf F n lim < 2 ^ n := orTo_lt _ n _ fun i hi => by
  unfold pickIn
  split
  · exact hi
  · exact p2_pos n

end Go.Proofs.Ytmihfejkflpfnaa
/- Contracts of the program's functions, IV: what makes a family of sets a space. -/
namespace Go.Proofs.Ytmihfejkflpfnaa
open Go.RowKit
set_option maxRecDepth 100000

theorem sliceT : Try.prog.underlying 23 = some (.slice 3) := by kernel_rfl
theorem intI : (Try.prog.info? 3).map (fun i => (i.zero, i.size, i.bytes)) = some (some (.int .i64 0), 1, 8) := by kernel_rfl
theorem intS : (Try.prog.info? 3).map (·.size) = some 1 := by kernel_rfl

def gradedTo (F : Nat → Bool) (n : Nat) : Nat → Bool
  | 0 => true
  | k + 1 => gradedTo F n k && !(F k && k != 0 && innerOf F n k == 0)
theorem gradedTo_false (F : Nat → Bool) (n k : Nat) (h : gradedTo F n k = false) : ∀ m, k ≤ m → gradedTo F n m = false := by
  intro m hm
  induction m with
  | zero => have : k = 0 := by omega
            subst this; exact h
  | succ m ih =>
    rcases Nat.lt_or_ge k (m + 1) with h1 | h1
    · rw [gradedTo, ih (by omega)]; rfl
    · have : k = m + 1 := by omega
      subst this; exact h

def setsTo (F : Nat → Bool) : Nat → List Int
  | 0 => []
  | k + 1 => if F k then setsTo F k ++ [(k : Int)] else setsTo F k
theorem setsTo_len (F : Nat → Bool) : ∀ k, (setsTo F k).length ≤ k
  | 0 => Nat.le_refl 0
  | k + 1 => by
    have := setsTo_len F k
    unfold setsTo
    split
    · simp; omega
    · omega

end Go.Proofs.Ytmihfejkflpfnaa
/- Contracts of the program's functions, V: unions of sets, and a space's family. -/
namespace Go.Proofs.Ytmihfejkflpfnaa
open Go.RowKit
set_option maxRecDepth 100000

theorem famAt.rowO {T : TypeId} {w : World} {b : Nat} {n : Int} {F : Nat → Bool} (h : famAt T w b n F) (g : Nat) (hg : b ≠ g) (c : Array Value) : famAt T (w.setRow g c) b n F := (hp_rowO w g b c hg).trans h
/-- A round over all old sets: each one's union with s is marked. -/
def stepTo (F : Nat → Bool) (s : Nat) : Nat → (Nat → Bool)
  | 0 => F
  | k + 1 => if F k then upd (stepTo F s k) (k ||| s) true else stepTo F s k
def unionsTo (l : List Int) : Nat → (Nat → Bool)
  | 0 => upd noSet 0 true
  | k + 1 => stepTo (unionsTo l k) (l[k]?.getD 0).toNat 128
def unionsF (l : List Int) : Nat → Bool := unionsTo l l.length

end Go.Proofs.Ytmihfejkflpfnaa
/- Contracts of the program's functions, VI: a family that is closed under unions; the family of a space. -/
namespace Go.Proofs.Ytmihfejkflpfnaa
open Go.RowKit
set_option maxRecDepth 100000

theorem undI : Try.prog.underlying 3 = some (.int .i64) := by kernel_rfl
theorem undB : Try.prog.underlying 4 = some .bool := by kernel_rfl
theorem cellsB : Try.prog.cellsOf 4 = 1 := by kernel_rfl
theorem infoB : (Try.prog.info? 4).isSome = true := by kernel_rfl
theorem rowI : (Try.prog.underlying 3).map TypeDesc.isRow = some false := by kernel_rfl
theorem setsTo_range (F : Nat → Bool) : ∀ k, ∀ j, j < (setsTo F k).length → 0 ≤ (setsTo F k)[j]?.getD 0 ∧ (setsTo F k)[j]?.getD 0 < (k : Int)
  | 0, j, h => by simp [setsTo] at h
  | k + 1, j, h => by
    unfold setsTo at h ⊢
    split
    · rename_i hF
      rw [if_pos hF] at h
      rw [List.length_append] at h
      simp at h
      by_cases h2 : j < (setsTo F k).length
      · rw [List.getElem?_append_left h2]
        have := setsTo_range F k j h2
        omega
      · rw [List.getElem?_append_right (by omega), show j - (setsTo F k).length = 0 by omega]
        simp; omega
    · rename_i hF
      rw [if_neg hF] at h
      have := setsTo_range F k j h
      omega

def closedB (F : Nat → Bool) : Bool := allEq F (unionsF (setsTo F 128))

end Go.Proofs.Ytmihfejkflpfnaa
/- Contracts of the program's functions, VII: whether a family is a space; the family of a space that comes in. -/
namespace Go.Proofs.Ytmihfejkflpfnaa
open Go.RowKit
set_option maxRecDepth 100000

def spaceB (F : Nat → Bool) (n : Nat) : Bool := F 0 && F (low n) && gradedTo F n 128 && closedB F

def lastOf (l : List Int) : Nat → Int
  | 0 => -1
  | k + 1 => l[k]?.getD 0
def risingTo (n : Nat) (l : List Int) : Nat → Bool
  | 0 => true
  | k + 1 => risingTo n l k && (decide (lastOf l k < l[k]?.getD 0) && decide (0 ≤ l[k]?.getD 0 ∧ l[k]?.getD 0 ≤ (low n : Int)))
def marksTo (l : List Int) : Nat → (Nat → Bool)
  | 0 => noSet
  | k + 1 => upd (marksTo l k) (l[k]?.getD 0).toNat true
/-- Whether n and l are a space; its family, or the empty one. -/
def okSp (n : Int) (l : List Int) : Bool := decide (1 ≤ n ∧ n ≤ 7) && risingTo n.toNat l l.length && spaceB (marksTo l l.length) n.toNat
def famN (n : Int) (l : List Int) : Int := if okSp n l then n else 0
def famM (n : Int) (l : List Int) : Nat → Bool := if okSp n l then marksTo l l.length else noSet
def famVal (n : Int) (l : List Int) : Value := .tuple #[.agg (fam (famN n l) (famM n l)), .bool (okSp n l)]
theorem famVal_no (n : Int) (l : List Int) (h : okSp n l = false) : famVal n l = .tuple #[.agg (fam 0 noSet), .bool false] := by
  simp [famVal, famN, famM, h]
theorem famVal_yes (n : Int) (l : List Int) (h : okSp n l = true) : famVal n l = .tuple #[.agg (fam n (marksTo l l.length)), .bool true] := by
  simp [famVal, famN, famM, h]
theorem risingTo_false (n : Nat) (l : List Int) (k : Nat) (h : risingTo n l k = false) : ∀ m, k ≤ m → risingTo n l m = false := by
  intro m hm
  induction m with
  | zero => have : k = 0 := by omega
            subst this; exact h
  | succ m ih =>
    rcases Nat.lt_or_ge k (m + 1) with h1 | h1
    · rw [risingTo, ih (by omega)]; rfl
    · have : k = m + 1 := by omega
      subst this; exact h

end Go.Proofs.Ytmihfejkflpfnaa
/- Contracts of the specification's functions, I: numbers in a range, increasing lists, one set among them. -/
namespace Go.Proofs.Ytmihfejkflpfnaa
open Go.RowKit
set_option maxRecDepth 100000

theorem l1In_c (n lo hi : Int) (w : World) : Calls Try.prog 26 #[.int .i64 n, .int .i64 lo, .int .i64 hi] w fun e w' => e = .returned (.bool (decide (lo ≤ n ∧ n ≤ hi))) ∧ w = w' := by
  by_cases h : lo ≤ n <;> by_cases h2 : n ≤ hi
  all_goals
    go_enter Try.func26, Try.ntmps26
    go_wp2
    go_ret
    exact ⟨ret_b (by simp [h, h2]), rfl⟩

/-- Strictly increasing. -/
def inc (l : List Int) : Prop := ∀ i j, i < j → j < l.length → l[i]?.getD 0 < l[j]?.getD 0
def memB (l : List Int) (x : Int) : Bool := decide (∃ j, j < l.length ∧ l[j]?.getD 0 = x)

def innerSp (l : List Int) (s : Nat) (i : Nat) : Bool := s.testBit i && memB l ((s ^^^ p2 i : Nat) : Int)

def risB (lo hi : Int) (l : List Int) : Nat → Bool
  | 0 => true
  | k + 1 => risB lo hi l k && (decide (lo ≤ l[k]?.getD 0 ∧ l[k]?.getD 0 ≤ hi) && !(decide (0 < k) && decide (l[k]?.getD 0 ≤ l[k - 1]?.getD 0)))
theorem risB_false (lo hi : Int) (l : List Int) (k : Nat) (h : risB lo hi l k = false) : ∀ m, k ≤ m → risB lo hi l m = false := by
  intro m hm
  induction m with
  | zero => have : k = 0 := by omega
            subst this; exact h
  | succ m ih =>
    rcases Nat.lt_or_ge k (m + 1) with h1 | h1
    · rw [risB, ih (by omega)]; rfl
    · have : k = m + 1 := by omega
      subst this; exact h

end Go.Proofs.Ytmihfejkflpfnaa
