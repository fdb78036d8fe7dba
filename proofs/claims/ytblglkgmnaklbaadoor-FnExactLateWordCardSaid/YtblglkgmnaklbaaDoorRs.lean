/- Contracts: what one of the sets has in common with all, the specification's and the program's. -/
import Derived.Test.YtblglkgmnaklbaaDoorIm
import Derived.Test.YtblglkgmnaklbaaDoorNm
import Derived.Test.YtblglkgmnaklbaaDoorFr
namespace Go.Proofs.YtblglkgmnaklbaaDoor
open Go.RowKit
set_option maxRecDepth 100000

def rsB (n : Int) (l : List Int) (x : Int) : Bool := okOne n l x && !(x == 0)
def rsF (l : List Int) (x : Int) : Nat → Bool := lmTo l (fun _ => true) (rn x.toNat) l.length
def rsN (n : Int) (l : List Int) (x : Int) : Int := if rsB n l x then pc x.toNat else 0
def rsL (n : Int) (l : List Int) (x : Int) : List Int := if rsB n l x then setsTo (rsF l x) 128 else []
theorem rsB_no1 {n : Int} {l : List Int} {x : Int} (h : okOne n l x = false) : rsB n l x = false := by simp [rsB, h]
theorem rsB_no2 {n : Int} {l : List Int} : rsB n l 0 = false := by simp [rsB]
theorem rsB_yes {n : Int} {l : List Int} {x : Int} (h : okOne n l x = true) (h0 : x ≠ 0) : rsB n l x = true := by simp [rsB, h, h0]
theorem rsN_no {n : Int} {l : List Int} {x : Int} (h : rsB n l x = false) : rsN n l x = 0 := by simp [rsN, h]
theorem rsN_yes {n : Int} {l : List Int} {x : Int} (h : rsB n l x = true) : rsN n l x = pc x.toNat := by simp [rsN, h]
theorem rsL_no {n : Int} {l : List Int} {x : Int} (h : rsB n l x = false) : rsL n l x = [] := by simp [rsL, h]
theorem rsL_yes {n : Int} {l : List Int} {x : Int} (h : rsB n l x = true) : rsL n l x = setsTo (rsF l x) 128 := by simp [rsL, h]
theorem rsL_len (n : Int) (l : List Int) (x : Int) : (rsL n l x).length < 1000000000 := by
  unfold rsL
  split
  · have := setsTo_len (rsF l x) 128; omega
  · simp
theorem okOne_lt {n : Int} {l : List Int} {x : Int} (h : okOne n l x = true) : 0 ≤ x ∧ x < 128 := by
  have h1 := okSet_in (okOne_set h)
  have h2 := low_lt n.toNat (by have := okSp_n (okOne_sp h); omega)
  omega
theorem okOne_mark {n : Int} {l : List Int} {x : Int} (h : okOne n l x = true) : marksTo l l.length x.toNat = true := by
  have h1 := okOne_lt h
  rw [okSp_marks (okOne_sp h), show ((x.toNat : Nat) : Int) = x by omega]
  simp only [okOne, Bool.and_eq_true] at h
  exact h.2
theorem pc_pos : ∀ x, x < 128 → x ≠ 0 → 1 ≤ pc x := by decide +kernel
/-- The specification's last test of its answer. -/
theorem rs_good {n : Int} {l : List Int} {x : Int} (h : okOne n l x = true) (h0 : x ≠ 0) : goodB ((pc x.toNat : Nat) : Int) (setsTo (rsF l x) 128) = true := by
  have hx := okOne_lt h
  have hS := okSp_spc (okOne_sp h)
  have h7 := okSp_n (okOne_sp h)
  have hT := trace_spc hS (by omega) x.toNat (okOne_mark h)
  rw [img_lm (okOne_sp h)] at hT
  have hp := pc_le x.toNat
  rw [← ok_good, okSp_sets (pc x.toNat) (rsF l x) (pc_pos x.toNat (by omega) (by omega)) hp hT.lt]
  exact (spc_iff hp hT.lt).2 hT
attribute [local irreducible] p2 low memB risB

theorem nth_cast {n : Int} {l : List Int} (h : okSp n l = true) (k : Nat) (hk : k < l.length) : l[k]?.getD 0 = (nth l k : Int) := by
  have := okSp_pos h k hk
  unfold nth; omega

theorem zero_slots {w : World} {b : Nat} {T : TypeId} (h : w.heap[b]? = some (.cells #[.int .i64 0, .slice none 0 0] T)) : w.cell? ⟨b, 0, none⟩ = some (.int .i64 0) ∧ w.cell? ⟨b, 1, none⟩ = some (.slice none 0 0) ∧ w.frozen? ⟨b, 0, none⟩ = false ∧ w.frozen? ⟨b, 1, none⟩ = false :=
  ⟨cells_at0 h, cells_at1 h, hp_free h 0, hp_free h 1⟩

end Go.Proofs.YtblglkgmnaklbaaDoor
