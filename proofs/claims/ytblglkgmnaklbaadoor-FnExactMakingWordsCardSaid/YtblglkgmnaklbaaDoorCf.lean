/- Contracts: CountFrom, CountWords. -/
import Derived.Test.YtblglkgmnaklbaaDoorWw
import Derived.Test.YtblglkgmnaklbaaDoorFr
namespace Go.Proofs.YtblglkgmnaklbaaDoor
open Go.RowKit
set_option maxRecDepth 100000

def cfR (n : Int) (l : List Int) (x : Int) : Int := if okOne n l x then (cnt (marksTo l l.length) n.toNat x.toNat : Int) else 0
theorem cfR_no {n : Int} {l : List Int} {x : Int} (h : okOne n l x = false) : cfR n l x = 0 := by simp [cfR, h]
theorem cfR_yes {n : Int} {l : List Int} {x : Int} (h : okOne n l x = true) : cfR n l x = (cnt (marksTo l l.length) n.toNat x.toNat : Int) := by simp [cfR, h]
theorem okOne_zero {n : Int} {l : List Int} (h : okSp n l = true) : okOne n l 0 = true := by
  have h1 := (okSp_spc h).zero
  rw [okSp_marks h] at h1
  simp only [okOne, h, Bool.true_and]
  exact h1
theorem okOne_no0 {n : Int} {l : List Int} {x : Int} (h : okSp n l = false) : okOne n l x = false := by simp [okOne, h]
theorem cnt_none {n : Int} {l : List Int} (h : okSp n l = true) (x : Nat) (hx : x < 128) (hn : ∀ j, j < l.length → nth l j ≠ x) : cnt (marksTo l l.length) n.toNat x = 0 := by
  have hm : marksTo l l.length x = false := by
    cases hb : marksTo l l.length x
    · rfl
    · obtain ⟨j, hj, e⟩ := (okSp_has h x).1 hb
      exact absurd e (hn j hj)
  rw [cnt_eq _ _ (by have := okSp_n h; omega) x hx, if_neg, hm]
  · rfl
  · intro e
    have h2 := (okSp_spc h).full
    rw [← e, hm] at h2
    cases h2
theorem okOne_ltC {n : Int} {l : List Int} {x : Int} (h : okOne n l x = true) : 0 ≤ x ∧ x < 128 := by
  have h1 := okSet_in (okOne_set h)
  have h2 := low_lt n.toNat (by have := okSp_n (okOne_sp h); omega)
  omega
attribute [local irreducible] p2 low memB risB cnt

def cwR (n : Int) (l : List Int) : Int := if okSp n l then (cnt (marksTo l l.length) n.toNat 0 : Int) else 0
theorem cwR_eq (n : Int) (l : List Int) : cfR n l 0 = cwR n l ∧ okOne n l 0 = okSp n l := by
  cases h : okSp n l
  · rw [cfR_no (okOne_no0 h), okOne_no0 h]
    simp [cwR, h]
  · rw [cfR_yes (okOne_zero h), okOne_zero h]
    simp [cwR, h]

end Go.Proofs.YtblglkgmnaklbaaDoor
