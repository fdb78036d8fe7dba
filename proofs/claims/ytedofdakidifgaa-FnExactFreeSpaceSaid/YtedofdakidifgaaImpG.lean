/- Contracts of the program's functions, VII: whether a family is a space; the family of a space that comes in. -/
import Derived.Test.YtedofdakidifgaaImpF
namespace Go.Proofs.Ytedofdakidifgaa
open Go.RowKit
set_option maxRecDepth 100000

def spaceB (F : Nat → Bool) (n : Nat) : Bool := F 0 && F (low n) && gradedTo F n 128 && closedB F

set_option maxHeartbeats 1000000 in
theorem isSpace_c (n : Int) (F : Nat → Bool) (w : World) (h0 : 0 ≤ n) (h2 : n ≤ 7) :
    Calls Try.prog 20 #[.agg (fam n F)] w fun e w' => e = .returned (.bool (spaceB F n.toNat)) ∧ Below w.heap.size w w' := by
  have hb0 : Below w.heap.size w (w.alloc (.cells (fam n F) 39)) := (Below.refl _ _).alloc (Nat.le_refl _) _
  have hf0 := famAt.new 39 w n F
  have hlo := low_lt n.toNat (by omega)
  have g0 : (fam n F)[1]? = some (.bool (F 0)) := fam_get n F 0 (by omega)
  have HB := hide hb0
  clear hb0
  cases h3 : F 0
  · rw [h3] at g0
    have H3 := hide h3
    clear h3
    go_enter Try.func20, Try.ntmps20
    go_wp2
    go_ret
    exact ⟨ret_b (by simp [spaceB, H3.out]), HB.out⟩
  · rw [h3] at g0
    have H3 := hide h3
    clear h3
    cases h4 : F (low n.toNat)
    all_goals
      have H4 := hide h4
      clear h4
      cases h5 : gradedTo F n.toNat 128
      all_goals
        have H5 := hide h5
        clear h5
        go_enter Try.func20, Try.ntmps20
        go_wp2_with (first
          | (refine wpList_load_fam rowT sizeT rfl (.tmp _) rfl _ rfl n F (by assumption) ?_)
          | (go_at_call 18; refine (full_c _ _ _ (by omega) (by omega)).mono ?_; rintro e w1 ⟨rfl, hb1⟩; have hf1 := hf0.below hb1 (by simp); have hc1 := hf1.get (low n.toNat) hlo; rw [H4.out] at hc1; have HB1 := hide (HB.out.trans (hb1.mono (by simp))); clear hb1)
          | (go_at_call 25; refine (isGraded_c _ _ _ (by omega) (by omega)).mono ?_; rw [H5.out]; rintro e w2 ⟨rfl, hb2⟩; have hf2 := hf1.below hb2 hf1.lt; have HB2 := hide (HB1.out.trans (hb2.mono (by have := HB1.out.size; omega))); clear hb2)
          | (go_at_call 26; refine (isClosed_c _ _ _).mono ?_; rintro e w3 ⟨rfl, hb3⟩; have HB3 := hide (HB2.out.trans (hb3.mono (by have := HB2.out.size; omega))); clear hb3))
        go_ret
        first
          | exact ⟨ret_b (by simp [spaceB, H3.out, H4.out, H5.out]), HB3.out⟩
          | exact ⟨ret_b (by simp [spaceB, H3.out, H4.out, H5.out]), HB2.out⟩
          | exact ⟨ret_b (by simp [spaceB, H3.out, H4.out, H5.out]), HB1.out⟩

def lastOf (l : List Int) : Nat → Int
  | 0 => -1
  | k + 1 => l[k]?.getD 0
def risingTo (n : Nat) (l : List Int) : Nat → Bool
  | 0 => true
  | k + 1 => risingTo n l k && (decide (lastOf l k < l[k]?.getD 0) && decide (0 ≤ l[k]?.getD 0 ∧ l[k]?.getD 0 ≤ (low n : Int)))
def marksTo (l : List Int) : Nat → (Nat → Bool)
  | 0 => noSet
  | k + 1 => upd (marksTo l k) (l[k]?.getD 0).toNat true
/-- Whether n and l are a space; its family, or the empty one. -/
def okSp (n : Int) (l : List Int) : Bool := decide (1 ≤ n ∧ n ≤ 7) && risingTo n.toNat l l.length && spaceB (marksTo l l.length) n.toNat
def famN (n : Int) (l : List Int) : Int := if okSp n l then n else 0
def famM (n : Int) (l : List Int) : Nat → Bool := if okSp n l then marksTo l l.length else noSet
def famVal (n : Int) (l : List Int) : Value := .tuple #[.agg (fam (famN n l) (famM n l)), .bool (okSp n l)]
theorem famVal_no (n : Int) (l : List Int) (h : okSp n l = false) : famVal n l = .tuple #[.agg (fam 0 noSet), .bool false] := by
  simp [famVal, famN, famM, h]
theorem famVal_yes (n : Int) (l : List Int) (h : okSp n l = true) : famVal n l = .tuple #[.agg (fam n (marksTo l l.length)), .bool true] := by
  simp [famVal, famN, famM, h]
theorem risingTo_false (n : Nat) (l : List Int) (k : Nat) (h : risingTo n l k = false) : ∀ m, k ≤ m → risingTo n l m = false := by
  intro m hm
  induction m with
  | zero => have : k = 0 := by omega
            subst this; exact h
  | succ m ih =>
    rcases Nat.lt_or_ge k (m + 1) with h1 | h1
    · rw [risingTo, ih (by omega)]; rfl
    · have : k = m + 1 := by omega
      subst this; exact h

end Go.Proofs.Ytedofdakidifgaa
