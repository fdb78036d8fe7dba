/- Contracts of the small functions of the program: single items, sets of items, unions over closures. -/
import Derived.Test.YtjmhmmenampgbaaDoorProg
import Derived.Test.YtjmhmmenampgbaaDoorLib
namespace Go.Proofs.YtjmhmmenampgbaaDoor
open Go.RowKit

theorem ret_i {k : IntKind} {a b : Int} (h : a = b) : Ending.returned (.int k a) = .returned (.int k b) := by rw [h]
theorem ret_b {a b : Bool} (h : a = b) : Ending.returned (.bool a) = .returned (.bool b) := by rw [h]

theorem single_c (a : Int) (w : World) (h : 0 ≤ a) (h2 : a ≤ 7) : Calls Tryd.prog 79 #[.int .i64 a] w fun e w' => e = .returned (.int .i64 (p2 a.toNat : Int)) ∧ w = w' := by
  go_enter Tryd.func79, Tryd.ntmps79
  go_wp2
  go_ret
  exact ⟨ret_i (wrap_p2 _ (by omega)), rfl⟩

end Go.Proofs.YtjmhmmenampgbaaDoor
/- Contracts of the program's functions, II: unions over closures; what a family of sets is asked. -/
namespace Go.Proofs.YtjmhmmenampgbaaDoor
open Go.RowKit

theorem sizeB : (Tryd.prog.info? 4).map (·.size) = some 1 := by kernel_rfl
theorem rowB : (Tryd.prog.underlying 4).map TypeDesc.isRow = some false := by kernel_rfl

theorem sum_step {G : Nat → Nat} {n j : Nat} (hg : ∀ i, i < n → G i < 128) (hj : j < n) : Value.int .i64 (bits .or .i64 (orTo G j : Int) (G j : Int)) = .int .i64 (orTo G (j + 1) : Int) := by
  have h1 : orTo G j < 2 ^ 7 := orTo_lt G 7 j fun i hi => hg i (by omega)
  have h2 := hg j hj
  rw [i64_or _ _ (by omega) (by omega)]; rfl

set_option maxRecDepth 100000 in
set_option maxHeartbeats 400000 in
theorem sumOf_c (n : Int) (k : Nat) (caps : Array Value) (w : World) (G : Nat → Nat) (h0 : 0 ≤ n) (h2 : n ≤ 128) (hk : enters Tryd.prog k)
    (hg : ∀ i, i < n.toNat → G i < 128)
    (hcl : ∀ (i : Int) (w1 : World), 0 ≤ i → i < n → Below w.heap.size w w1 → Calls Tryd.prog k (#[.int .i64 i] ++ caps) w1 fun e w2 => e = .returned (.int .i64 (G i.toNat : Int)) ∧ Below w1.heap.size w1 w2) :
    Calls Tryd.prog 77 #[.int .i64 n, .func (.func k) #[] caps] w fun e w' => e = .returned (.int .i64 (orTo G n.toNat : Int)) ∧ Below w.heap.size w w' := by
  have hg := hide hg
  have hk1 : ∀ (args : Array Value) (w : World), Sem.run Tryd.prog (callFunc k args) w = .ok (.enter k args) w := hk
  go_enter Tryd.func77, Tryd.ntmps77
  go_wp2_with fail
  go_loopw [5, 8] (fun s i wr => ∃ j : Nat, j ≤ n.toNat ∧ i = .int .i64 j ∧ s = .int .i64 (orTo G j : Int) ∧ Below w.heap.size w wr) (fun _ i _ => n.toNat - (intOf i).toNat)
  case atStart => exact ⟨0, by omega, rfl, rfl, Below.refl _ _⟩
  case round =>
    obtain ⟨j, hj, rfl, rfl, hb⟩ := hrel
    by_cases hlt : (j : Int) < n
    · go_wp2_with fail
      refine (hcl _ _ (by omega) hlt hb).mono ?_
      rintro e w1 ⟨rfl, hb1⟩
      rw [Int.toNat_natCast]
      go_wp2
      go_roundw
      case rel => exact ⟨j + 1, by omega, by go_num, sum_step hg.out (by omega), hb.trans (hb1.mono hb.size)⟩
      case measure => simp [intOf]; omega
    · go_wp2
      go_ret
      exact ⟨ret_i (by rw [show n.toNat = j by omega]), hb⟩
end Go.Proofs.YtjmhmmenampgbaaDoor
/- Contracts of the program's functions, III: fringes, and what is within a set. -/
namespace Go.Proofs.YtjmhmmenampgbaaDoor
open Go.RowKit
set_option maxRecDepth 100000

theorem ent_itemsWhere1 : enters Tryd.prog 78 := enters_of Tryd.func78 (by kernel_rfl) (by kernel_rfl)
/-- The closure of itemsWhere: the item if it is wanted. -/
theorem itemsWhere1_c (i : Int) (g : Nat) (k : Nat) (caps : Array Value) (w : World) (b : Bool) (hk : enters Tryd.prog k) (h0 : 0 ≤ i) (h2 : i ≤ 7)
    (hc : w.cell? ⟨g, 0, none⟩ = some (.func (.func k) #[] caps))
    (hcl : Calls Tryd.prog k (#[.int .i64 i] ++ caps) w fun e w2 => e = .returned (.bool b) ∧ Below w.heap.size w w2) :
    Calls Tryd.prog 78 #[.int .i64 i, .pointer (some ⟨g, 0, none⟩)] w fun e w' => e = .returned (.int .i64 ((if b then p2 i.toNat else 0 : Nat) : Int)) ∧ Below w.heap.size w w' := by
  have hk1 : ∀ (args : Array Value) (w : World), Sem.run Tryd.prog (callFunc k args) w = .ok (.enter k args) w := hk
  go_enter Tryd.func78, Tryd.ntmps78
  go_wp2_with fail
  refine hcl.mono ?_
  rintro e w1 ⟨rfl, hb⟩
  cases b
  · go_wp2
    go_ret
    exact ⟨rfl, hb⟩
  · go_wp2_with (go_at_call 79; refine (single_c _ _ (by omega) (by omega)).mono ?_; rintro e w' ⟨rfl, rfl⟩)
    go_ret
    exact ⟨rfl, hb⟩

theorem itemsWhere_c (n : Int) (k : Nat) (caps : Array Value) (w : World) (K : Nat → Bool) (hk : enters Tryd.prog k) (h0 : 0 ≤ n) (h2 : n ≤ 7)
    (hcl : ∀ (i : Int) (w1 : World), 0 ≤ i → i < n → Below w.heap.size w w1 → Calls Tryd.prog k (#[.int .i64 i] ++ caps) w1 fun e w2 => e = .returned (.bool (K i.toNat)) ∧ Below w1.heap.size w1 w2) :
    Calls Tryd.prog 68 #[.int .i64 n, .func (.func k) #[] caps] w fun e w' => e = .returned (.int .i64 (itemsOf K n.toNat : Int)) ∧ Below w.heap.size w w' := by
  have hb0 : Below w.heap.size w (w.alloc (.cells #[.func (.func k) #[] caps] 84)) := (Below.refl _ _).alloc (Nat.le_refl _) _
  go_enter Tryd.func68, Tryd.ntmps68
  go_wp2_with fail
  refine (sumOf_c n 78 #[.pointer (some ⟨w.heap.size, 0, none⟩)] _ (fun i => if K i then p2 i else 0) h0 (by omega) ent_itemsWhere1 ?h1 ?h2).mono ?_
  case h1 => intro i hi; show (if K i then p2 i else 0) < 128; split; exact p2_lt128 _ (by omega); omega
  case h2 =>
    intro i w1 hi0 hi hb
    refine itemsWhere1_c i w.heap.size k caps w1 (K i.toNat) hk hi0 (by omega) ?_ (hcl i w1 hi0 hi (hb0.trans (hb.mono (by simp))))
    rw [hb.cell (by simp)]
    simp
  rintro e w' ⟨rfl, hb⟩
  go_wp2
  go_ret
  exact ⟨rfl, hb0.trans (hb.mono (by simp))⟩
def innerOf (F : Nat → Bool) (n s : Nat) : Nat := itemsOf (fun i => andNot s (p2 i) != s && F (andNot s (p2 i))) n
def outerOf (F : Nat → Bool) (n s : Nat) : Nat := itemsOf (fun i => (s ||| p2 i) != s && F (s ||| p2 i)) n
theorem andNot_lt128 (s t : Nat) (h : s < 128) : andNot s t < 128 := andNot_lt s t 7 h
theorem or_lt128 (s t : Nat) (h : s < 128) (h2 : t < 128) : s ||| t < 128 := Nat.or_lt_two_pow (n := 7) h h2

def pickIn (F : Nat → Bool) (lim s : Nat) : Nat := if F s && andNot s lim == 0 then s else 0
def withinOf (F : Nat → Bool) (n lim : Nat) : Nat := orTo (pickIn F lim) (2 ^ n)
theorem low_succ (n : Nat) : low n + 1 = 2 ^ n := by have := p2_pos n; unfold low; omega
theorem withinOf_lt (F : Nat → Bool) (n lim : Nat) : withinOf F n lim < 2 ^ n := orTo_lt _ n _ fun i hi => by
  unfold pickIn
  split
  · exact hi
  · exact p2_pos n

end Go.Proofs.YtjmhmmenampgbaaDoor
/- Contracts of the program's functions, IV: what makes a family of sets a space. -/
namespace Go.Proofs.YtjmhmmenampgbaaDoor
open Go.RowKit
set_option maxRecDepth 100000

theorem sliceT : Tryd.prog.underlying 23 = some (.slice 3) := by kernel_rfl
theorem intI : (Tryd.prog.info? 3).map (fun i => (i.zero, i.size, i.bytes)) = some (some (.int .i64 0), 1, 8) := by kernel_rfl
theorem intS : (Tryd.prog.info? 3).map (·.size) = some 1 := by kernel_rfl

def gradedTo (F : Nat → Bool) (n : Nat) : Nat → Bool
  | 0 => true
  | k + 1 => gradedTo F n k && !(F k && k != 0 && innerOf F n k == 0)
theorem gradedTo_false (F : Nat → Bool) (n k : Nat) (h : gradedTo F n k = false) : ∀ m, k ≤ m → gradedTo F n m = false := by
  intro m hm
  induction m with
  | zero => have : k = 0 := by omega
            subst this; exact h
  | succ m ih =>
    rcases Nat.lt_or_ge k (m + 1) with h1 | h1
    · rw [gradedTo, ih (by omega)]; rfl
    · have : k = m + 1 := by omega
      subst this; exact h

def setsTo (F : Nat → Bool) : Nat → List Int
  | 0 => []
  | k + 1 => if F k then setsTo F k ++ [(k : Int)] else setsTo F k
theorem setsTo_len (F : Nat → Bool) : ∀ k, (setsTo F k).length ≤ k
  | 0 => Nat.le_refl 0
  | k + 1 => by
    have := setsTo_len F k
    unfold setsTo
    split
    · simp; omega
    · omega

end Go.Proofs.YtjmhmmenampgbaaDoor
/- Contracts of the program's functions, V: unions of sets, and a space's family. -/
namespace Go.Proofs.YtjmhmmenampgbaaDoor
open Go.RowKit
set_option maxRecDepth 100000

theorem famAt.rowO {T : TypeId} {w : World} {b : Nat} {n : Int} {F : Nat → Bool} (h : famAt T w b n F) (g : Nat) (hg : b ≠ g) (c : Array Value) : famAt T (w.setRow g c) b n F := (hp_rowO w g b c hg).trans h
/-- A round over all old sets: each one's union with s is marked. -/
def stepTo (F : Nat → Bool) (s : Nat) : Nat → (Nat → Bool)
  | 0 => F
  | k + 1 => if F k then upd (stepTo F s k) (k ||| s) true else stepTo F s k
def unionsTo (l : List Int) : Nat → (Nat → Bool)
  | 0 => upd noSet 0 true
  | k + 1 => stepTo (unionsTo l k) (l[k]?.getD 0).toNat 128
def unionsF (l : List Int) : Nat → Bool := unionsTo l l.length

end Go.Proofs.YtjmhmmenampgbaaDoor
/- Contracts of the program's functions, VI: a family that is closed under unions; the family of a space. -/
namespace Go.Proofs.YtjmhmmenampgbaaDoor
open Go.RowKit
set_option maxRecDepth 100000

theorem undI : Tryd.prog.underlying 3 = some (.int .i64) := by kernel_rfl
theorem undB : Tryd.prog.underlying 4 = some .bool := by kernel_rfl
theorem cellsB : Tryd.prog.cellsOf 4 = 1 := by kernel_rfl
theorem infoB : (Tryd.prog.info? 4).isSome = true := by kernel_rfl
theorem rowI : (Tryd.prog.underlying 3).map TypeDesc.isRow = some false := by kernel_rfl
theorem setsTo_range (F : Nat → Bool) : ∀ k, ∀ j, j < (setsTo F k).length → 0 ≤ (setsTo F k)[j]?.getD 0 ∧ (setsTo F k)[j]?.getD 0 < (k : Int)
  | 0, j, h => by simp [setsTo] at h
  | k + 1, j, h => by
    unfold setsTo at h ⊢
    split
    · rename_i hF
      rw [if_pos hF] at h
      rw [List.length_append] at h
      simp at h
      by_cases h2 : j < (setsTo F k).length
      · rw [List.getElem?_append_left h2]
        have := setsTo_range F k j h2
        omega
      · rw [List.getElem?_append_right (by omega), show j - (setsTo F k).length = 0 by omega]
        simp; omega
    · rename_i hF
      rw [if_neg hF] at h
      have := setsTo_range F k j h
      omega

def closedB (F : Nat → Bool) : Bool := allEq F (unionsF (setsTo F 128))

end Go.Proofs.YtjmhmmenampgbaaDoor
/- Contracts of the program's functions, VII: whether a family is a space; the family of a space that comes in. -/
namespace Go.Proofs.YtjmhmmenampgbaaDoor
open Go.RowKit
set_option maxRecDepth 100000

def spaceB (F : Nat → Bool) (n : Nat) : Bool := F 0 && F (low n) && gradedTo F n 128 && closedB F

def lastOf (l : List Int) : Nat → Int
  | 0 => -1
  | k + 1 => l[k]?.getD 0
def risingTo (n : Nat) (l : List Int) : Nat → Bool
  | 0 => true
  | k + 1 => risingTo n l k && (decide (lastOf l k < l[k]?.getD 0) && decide (0 ≤ l[k]?.getD 0 ∧ l[k]?.getD 0 ≤ (low n : Int)))
def marksTo (l : List Int) : Nat → (Nat → Bool)
  | 0 => noSet
  | k + 1 => upd (marksTo l k) (l[k]?.getD 0).toNat true
/-- Whether n and l are a space; its family, or the empty one. -/
def okSp (n : Int) (l : List Int) : Bool := decide (1 ≤ n ∧ n ≤ 7) && risingTo n.toNat l l.length && spaceB (marksTo l l.length) n.toNat
def famN (n : Int) (l : List Int) : Int := if okSp n l then n else 0
def famM (n : Int) (l : List Int) : Nat → Bool := if okSp n l then marksTo l l.length else noSet
def famVal (n : Int) (l : List Int) : Value := .tuple #[.agg (fam (famN n l) (famM n l)), .bool (okSp n l)]
theorem famVal_no (n : Int) (l : List Int) (h : okSp n l = false) : famVal n l = .tuple #[.agg (fam 0 noSet), .bool false] := by
  simp [famVal, famN, famM, h]
theorem famVal_yes (n : Int) (l : List Int) (h : okSp n l = true) : famVal n l = .tuple #[.agg (fam n (marksTo l l.length)), .bool true] := by
  simp [famVal, famN, famM, h]
theorem risingTo_false (n : Nat) (l : List Int) (k : Nat) (h : risingTo n l k = false) : ∀ m, k ≤ m → risingTo n l m = false := by
  intro m hm
  induction m with
  | zero => have : k = 0 := by omega
            subst this; exact h
  | succ m ih =>
    rcases Nat.lt_or_ge k (m + 1) with h1 | h1
    · rw [risingTo, ih (by omega)]; rfl
    · have : k = m + 1 := by omega
      subst this; exact h

end Go.Proofs.YtjmhmmenampgbaaDoor
/- Contracts of the specification's functions, I: numbers in a range, increasing lists, one set among them. -/
namespace Go.Proofs.YtjmhmmenampgbaaDoor
open Go.RowKit
set_option maxRecDepth 100000

theorem l1In_c (n lo hi : Int) (w : World) : Calls Tryd.prog 49 #[.int .i64 n, .int .i64 lo, .int .i64 hi] w fun e w' => e = .returned (.bool (decide (lo ≤ n ∧ n ≤ hi))) ∧ w = w' := by
  by_cases h : lo ≤ n <;> by_cases h2 : n ≤ hi
  all_goals
    go_enter Tryd.func49, Tryd.ntmps49
    go_wp2
    go_ret
    exact ⟨ret_b (by simp [h, h2]), rfl⟩

/-- Strictly increasing. -/
def inc (l : List Int) : Prop := ∀ i j, i < j → j < l.length → l[i]?.getD 0 < l[j]?.getD 0
def memB (l : List Int) (x : Int) : Bool := decide (∃ j, j < l.length ∧ l[j]?.getD 0 = x)

def innerSp (l : List Int) (s : Nat) (i : Nat) : Bool := s.testBit i && memB l ((s ^^^ p2 i : Nat) : Int)

def risB (lo hi : Int) (l : List Int) : Nat → Bool
  | 0 => true
  | k + 1 => risB lo hi l k && (decide (lo ≤ l[k]?.getD 0 ∧ l[k]?.getD 0 ≤ hi) && !(decide (0 < k) && decide (l[k]?.getD 0 ≤ l[k - 1]?.getD 0)))
theorem risB_false (lo hi : Int) (l : List Int) (k : Nat) (h : risB lo hi l k = false) : ∀ m, k ≤ m → risB lo hi l m = false := by
  intro m hm
  induction m with
  | zero => have : k = 0 := by omega
            subst this; exact h
  | succ m ih =>
    rcases Nat.lt_or_ge k (m + 1) with h1 | h1
    · rw [risB, ih (by omega)]; rfl
    · have : k = m + 1 := by omega
      subst this; exact h

end Go.Proofs.YtjmhmmenampgbaaDoor
