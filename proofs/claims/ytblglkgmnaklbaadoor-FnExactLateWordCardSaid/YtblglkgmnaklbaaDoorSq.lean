/- Contracts: the least space with given sets, the specification's and the program's. -/
import Derived.Test.YtblglkgmnaklbaaDoorUn
import Derived.Test.YtblglkgmnaklbaaDoorNm
namespace Go.Proofs.YtblglkgmnaklbaaDoor
open Go.RowKit
set_option maxRecDepth 100000

/-- U, and a's unions with the first k of a list. -/
def inU (U : Nat → Bool) (a : Nat) (C : List Int) : Nat → (Nat → Bool)
  | 0 => U
  | k + 1 => upd (inU U a C k) (a ||| nth C k) true
theorem inU_iff (U : Nat → Bool) (a : Nat) (C : List Int) (y : Nat) : ∀ k, inU U a C k y = true ↔ U y = true ∨ ∃ j, j < k ∧ a ||| nth C j = y
  | 0 => by simp [inU]
  | k + 1 => by
    rw [inU, upd]
    by_cases hx : y = a ||| nth C k
    · rw [if_pos hx]; exact ⟨fun _ => .inr ⟨k, by omega, hx.symm⟩, fun _ => rfl⟩
    · rw [if_neg hx, inU_iff U a C y k]
      constructor
      · rintro (h | ⟨j, h1, h2⟩)
        · exact .inl h
        · exact .inr ⟨j, by omega, h2⟩
      · rintro (h | ⟨j, h1, h2⟩)
        · exact .inl h
        · refine .inr ⟨j, ?_, h2⟩
          rcases Nat.lt_or_ge j k with h | h
          · exact h
          · have : j = k := by omega
            subst this; exact absurd h2.symm hx
theorem inU_step (U : Nat → Bool) (a : Nat) : inU U a (setsTo U 128) (setsTo U 128).length = stepTo U a 128 := by
  funext y
  rw [Bool.eq_iff_iff, inU_iff, step_iff]
  constructor
  · rintro (h | ⟨j, hj, e⟩)
    · exact .inl h
    · exact .inr ⟨nth (setsTo U 128) j, ((sets_iff U _ 128).1 ⟨j, hj, rfl⟩).1, sets_at U j hj, by rw [Nat.or_comm]; exact e⟩
  · rintro (h | ⟨i, hi, h1, e⟩)
    · exact .inl h
    · obtain ⟨j, hj, e2⟩ := (sets_iff U i 128).2 ⟨hi, h1⟩
      exact .inr ⟨j, hj, by rw [e2, Nat.or_comm]; exact e⟩
theorem sets_nth (U : Nat → Bool) (j : Nat) (hj : j < (setsTo U 128).length) : (setsTo U 128)[j]?.getD 0 = (nth (setsTo U 128) j : Int) ∧ nth (setsTo U 128) j < 128 := by
  have := setsTo_range U 128 j hj
  unfold nth; omega
def sqA (n : Int) (l : List Int) : Bool := decide (1 ≤ n ∧ n ≤ 7) && (decide (l.length ≤ 40) && allTo 0 (low n.toNat) l l.length)
def sqG (n : Int) (l : List Int) : Bool := gradedTo (givTo l l.length) n.toNat 128
def sqF (n : Int) (l : List Int) : Bool := withinOf (givTo l l.length) n.toNat (low n.toNat) == low n.toNat
def sqB (n : Int) (l : List Int) : Bool := sqA n l && (sqG n l && sqF n l)
def sqN (n : Int) (l : List Int) : Int := if sqB n l then n else 0
def sqL (n : Int) (l : List Int) : List Int := if sqB n l then setsTo (unionsF l) 128 else []
theorem sqB_no1 {n : Int} {l : List Int} (h : sqA n l = false) : sqB n l = false := by simp [sqB, h]
theorem sqB_no2 {n : Int} {l : List Int} (h : sqG n l = false) : sqB n l = false := by simp [sqB, h]
theorem sqB_no3 {n : Int} {l : List Int} (h : sqF n l = false) : sqB n l = false := by simp [sqB, h]
theorem sqB_yes {n : Int} {l : List Int} (h : sqA n l = true) (h2 : sqG n l = true) (h3 : sqF n l = true) : sqB n l = true := by simp [sqB, h, h2, h3]
theorem sqN_no {n : Int} {l : List Int} (h : sqB n l = false) : sqN n l = 0 := by simp [sqN, h]
theorem sqN_yes {n : Int} {l : List Int} (h : sqB n l = true) : sqN n l = n := by simp [sqN, h]
theorem sqL_no {n : Int} {l : List Int} (h : sqB n l = false) : sqL n l = [] := by simp [sqL, h]
theorem sqL_yes {n : Int} {l : List Int} (h : sqB n l = true) : sqL n l = setsTo (unionsF l) 128 := by simp [sqL, h]
theorem sqL_len (n : Int) (l : List Int) : (sqL n l).length < 1000000000 := by
  unfold sqL
  split
  · have := setsTo_len (unionsF l) 128; omega
  · simp
theorem sqA_in {n : Int} {l : List Int} (h : sqA n l = true) : (1 ≤ n ∧ n ≤ 7) ∧ l.length ≤ 40 ∧ ∀ j, j < l.length → 0 ≤ l[j]?.getD 0 ∧ l[j]?.getD 0 ≤ (low n.toNat : Int) := by
  simp only [sqA, Bool.and_eq_true, decide_eq_true_eq] at h
  exact ⟨h.1, h.2.1, (allTo_iff _ _ l _).1 h.2.2⟩
theorem sqA_lt {n : Int} {l : List Int} (h : sqA n l = true) (j : Nat) (hj : j < l.length) : nth l j < 2 ^ n.toNat ∧ l[j]?.getD 0 = (nth l j : Int) := by
  have h1 := (sqA_in h).2.2 j hj
  have h2 := low_succ n.toNat
  unfold nth; omega
theorem giv_lt {n : Int} {l : List Int} (h : sqA n l = true) (x : Nat) (hx : givTo l l.length x = true) : x < 2 ^ n.toNat := by
  rcases (giv_iff l x _).1 hx with h1 | ⟨j, hj, e⟩
  · have := p2_pos n.toNat; omega
  · rw [← e]; exact (sqA_lt h j hj).1
theorem giv_lt128 {n : Int} {l : List Int} (h : sqA n l = true) (x : Nat) (hx : givTo l l.length x = true) : x < 128 := by
  have h1 := giv_lt h x hx
  have h2 := p2_le n.toNat 7 (by have := (sqA_in h).1; omega)
  omega
/-- The specification's last test. -/
theorem sq_good {n : Int} {l : List Int} (h : sqA n l = true) (h2 : sqG n l = true) : goodB n (setsTo (unionsF l) 128) = sqF n l := by
  obtain ⟨m, rfl⟩ := Int.eq_ofNat_of_zero_le (show 0 ≤ n by have := (sqA_in h).1; omega)
  have hn := (sqA_in h).1
  have hU : ∀ x, unionsF l x = true → x < 2 ^ m := by
    intro x hx
    have := uni_in l (fun x => decide (x < 2 ^ m)) (decide_eq_true (p2_pos m)) (fun j hj => by have := (sqA_lt h j hj).1; rw [Int.toNat_natCast] at this; simpa using this) (fun a b ha hb => by
      rw [decide_eq_true_eq] at ha hb ⊢; exact Nat.or_lt_two_pow ha hb) l.length (Nat.le_refl _) x hx
    simpa using this
  rw [← ok_good, okSp_sets m (unionsF l) (by omega) (by omega) hU]
  unfold sqG at h2
  rw [Int.toNat_natCast] at h2
  rw [given_space m l (by omega) (fun j hj => by have := (sqA_lt h j hj).1; rwa [Int.toNat_natCast] at this) h2]
  unfold sqF
  rw [Int.toNat_natCast]
/-- The specification's test of each given set. -/
theorem sq_inner {n : Int} {l : List Int} (h : sqA n l = true) (x : Nat) (hx : givTo l l.length x = true) : innerOf (givTo l l.length) n.toNat x = itemsOf (innerSp (setsTo (givTo l l.length) 128) x) 7 := by
  refine inner_same _ _ n.toNat x (by have := (sqA_in h).1; omega) (giv_lt h x hx) fun y hy => ?_
  have hp : ∀ j, j < (setsTo (givTo l l.length) 128).length → 0 ≤ (setsTo (givTo l l.length) 128)[j]?.getD 0 := fun j hj => (setsTo_range _ 128 j hj).1
  rw [← marks_mem _ hp, sets_marks _ (giv_lt128 h)]
theorem sq_bad {n : Int} {l : List Int} (h : sqA n l = true) (j : Nat) (hj : j < (setsTo (givTo l l.length) 128).length) (h0 : nth (setsTo (givTo l l.length) 128) j ≠ 0) (hz : itemsOf (innerSp (setsTo (givTo l l.length) 128) (nth (setsTo (givTo l l.length) 128) j)) 7 = 0) : sqG n l = false := by
  have hg := sets_at (givTo l l.length) j hj
  rw [← sq_inner h _ hg] at hz
  cases hq : sqG n l
  · rfl
  · exact absurd hz ((graded_iff _ _ 128).1 hq _ (giv_lt128 h _ hg) hg h0)
theorem sq_fine {n : Int} {l : List Int} (h : sqA n l = true) (hz : ∀ j, j < (setsTo (givTo l l.length) 128).length → nth (setsTo (givTo l l.length) 128) j ≠ 0 → itemsOf (innerSp (setsTo (givTo l l.length) 128) (nth (setsTo (givTo l l.length) 128) j)) 7 ≠ 0) : sqG n l = true := by
  refine (graded_iff _ _ 128).2 fun s hs hg h0 => ?_
  obtain ⟨j, hj, e⟩ := (sets_iff (givTo l l.length) s 128).2 ⟨hs, hg⟩
  rw [sq_inner h s hg, ← e]
  exact hz j hj (by rw [e]; exact h0)
attribute [local irreducible] p2 low memB risB

theorem zero_slotsQ {w : World} {b : Nat} {T : TypeId} (h : w.heap[b]? = some (.cells #[.int .i64 0, .slice none 0 0] T)) : w.cell? ⟨b, 0, none⟩ = some (.int .i64 0) ∧ w.cell? ⟨b, 1, none⟩ = some (.slice none 0 0) ∧ w.frozen? ⟨b, 0, none⟩ = false ∧ w.frozen? ⟨b, 1, none⟩ = false :=
  ⟨cells_at0 h, cells_at1 h, hp_free h 0, hp_free h 1⟩
theorem giv_zero (l : List Int) : givTo l 0 = upd noSet 0 true := rfl

theorem ent_gradedQ : enters Tryd.prog 97 := enters_of Tryd.func97 (by kernel_rfl) (by kernel_rfl)
theorem ent_fullQ : enters Tryd.prog 74 := enters_of Tryd.func74 (by kernel_rfl) (by kernel_rfl)
theorem q_belowQ {P : Program} {ops : Array Oper} {rest : List Oper} {o : Oper} {a : Act} {Q : Act → Prop} {w : World} (hw : Region.wanted o (yielded ops a.tmps) = true) (k : FuncId) (hk : enters P k) (xs : Array Operand) (ts : Array TypeId)
    (ho : o.op = .call { callee := .value (.func k), args := xs, argTypes := ts }) (args : Array Value) (hal : xs.toList.map a.eval = args.toList) (v : Value)
    (hc : ∀ w', Below w.heap.size w w' → Calls P k args w' fun e w'' => e = .returned v ∧ Below w'.heap.size w' w'')
    (h : wpQuiet P ops (fun w' => Below w.heap.size w w') Q rest (a.put o.dst v)) : wpQuiet P ops (fun w' => Below w.heap.size w w') Q (o :: rest) a :=
  q_call hw k hk xs ts ho args (Array.toList_inj.1 (by simpa using hal)) v hc h

end Go.Proofs.YtblglkgmnaklbaaDoor
