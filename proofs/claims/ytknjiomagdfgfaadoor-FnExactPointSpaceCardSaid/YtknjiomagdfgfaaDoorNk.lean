/- Contracts: TreeSpace, the program's and the specification's. -/
import Derived.Test.YtknjiomagdfgfaaDoorNj
namespace Go.Proofs.YtknjiomagdfgfaaDoor
open Go.RowKit
set_option maxRecDepth 100000
set_option linter.unusedSimpArgs false
theorem low_succP (m : Nat) : low m + 1 = p2 m := low_succ m
theorem sets_cutN (K : Nat → Bool) (m : Nat) (hm : p2 m ≤ 128) : setsTo (cutAt K (low m + 1)) 128 = setsTo K (p2 m) := by
  have hl : low m + 1 = p2 m := low_succ m
  have h1 : ∀ k, p2 m ≤ k → setsTo (cutAt K (low m + 1)) k = setsTo (cutAt K (low m + 1)) (p2 m) := by
    intro k
    induction k with
    | zero => intro h; have := p2_pos m; unfold p2 at h; omega
    | succ k ih =>
      intro h
      rcases Nat.lt_or_ge k (p2 m) with h1 | h1
      · have : k + 1 = p2 m := by omega
        rw [this]
      · rw [setsTo, ih h1]
        have : cutAt K (low m + 1) k = false := by unfold cutAt; simp; omega
        rw [this]; rfl
  rw [h1 128 hm]
  refine setsTo_congr _ fun x hx => ?_
  unfold cutAt
  rw [decide_eq_true (by omega), Bool.true_and]
def tsL (l : List Int) : List Int := if treB l then setsTo (treK l) (p2 l.length) else []
theorem ts_no {l : List Int} (h : treB l = false) : tfN l = 0 ∧ tsL l = [] ∧ treB l = false := by unfold tfN tsL; rw [h]; exact ⟨rfl, rfl, rfl⟩
theorem ts_yes {l : List Int} (h : treB l = true) : tfN l = l.length ∧ tsL l = setsTo (treK l) (p2 l.length) ∧ treB l = true := by unfold tfN tsL; rw [h]; exact ⟨rfl, rfl, rfl⟩
theorem treB_n {l : List Int} (h : treB l = true) : 1 ≤ l.length ∧ l.length ≤ 7 := by
  unfold treB at h
  rw [Bool.and_eq_true] at h
  exact (neA_in (neB_A h.1)).1
theorem treB_A {l : List Int} (h : treB l = true) : neA l = true := by
  unfold treB at h
  rw [Bool.and_eq_true] at h
  exact neB_A h.1
theorem ts_sets (l : List Int) : setsTo (tfF l) 128 = tsL l := by
  unfold tfF tsL
  split
  · rename_i h
    exact sets_cutN (treK l) l.length (p2_le128 _ (treB_n h).2)
  · exact sets_none.symm
theorem tsL_len (l : List Int) : (tsL l).length < 1000000000 := by
  rw [← ts_sets]
  have := setsTo_len (tfF l) 128
  omega
theorem zero_slotsN {w : World} {b : Nat} {T : TypeId} (h : w.heap[b]? = some (.cells #[.int .i64 0, .slice none 0 0] T)) : w.cell? ⟨b, 0, none⟩ = some (.int .i64 0) ∧ w.cell? ⟨b, 1, none⟩ = some (.slice none 0 0) ∧ w.frozen? ⟨b, 0, none⟩ = false ∧ w.frozen? ⟨b, 1, none⟩ = false :=
  ⟨cells_at0 h, cells_at1 h, hp_free h 0, hp_free h 1⟩
theorem bareS {w : World} {b : Nat} {T : TypeId} {x y : Value} (h : w.heap[b]? = some (.cells #[x, y] T)) (u : Value) : (w.setCell ⟨b, 1, none⟩ u).heap[b]? = some (.cells #[x, u] T) := by
  rw [hp_set w b 1 _ T u h]; rfl
attribute [local irreducible] p2 low memB risB
end Go.Proofs.YtknjiomagdfgfaaDoor
