/- Contracts: GreedyWord, BestCost, CriticalItem. -/
import Derived.Test.YtdalbjpjnfjgfaaDoorKn
import Derived.Test.YtdalbjpjnfjgfaaDoorKo
import Derived.Test.YtdalbjpjnfjgfaaDoorKm
namespace Go.Proofs.YtdalbjpjnfjgfaaDoor
open Go.RowKit
set_option maxRecDepth 100000
set_option linter.unusedSimpArgs false
def gwL (n : Int) (l : List Int) (T : List Tsk) : List Int := if gvB n l T then grW (coT T) (outerOf (marksTo l l.length) n.toNat) n.toNat else []
def bcR (n : Int) (l : List Int) (T : List Tsk) : Int := if gvB n l T then mxW (coT T) (-10000) (gwL n l T) (gwL n l T).length else 0
theorem gw_no {n : Int} {l : List Int} {T : List Tsk} (h : gvB n l T = false) : gwL n l T = [] ∧ bcR n l T = 0 := by unfold bcR gwL; rw [h]; exact ⟨rfl, rfl⟩
theorem gw_yes {n : Int} {l : List Int} {T : List Tsk} (h : gvB n l T = true) : gwL n l T = grW (coT T) (outerOf (marksTo l l.length) n.toNat) n.toNat ∧ bcR n l T = mxW (coT T) (-10000) (gwL n l T) (gwL n l T).length := by
  unfold bcR
  rw [h]
  refine ⟨?_, rfl⟩
  unfold gwL
  rw [h]; rfl
theorem gwL_len (n : Int) (l : List Int) (T : List Tsk) : (gwL n l T).length < 1000000000 := by
  unfold gwL
  split
  · rename_i h
    rw [grW_len]
    have := okSp_n (gv_in h).1
    omega
  · simp
theorem gw_wOk {n : Int} {l : List Int} {T : List Tsk} (h : gvB n l T = true) : (gwL n l T).length = n.toNat ∧ wOk n.toNat (gwL n l T) := by
  have h7 : n.toNat ≤ 7 := by have := okSp_n (gv_in h).1; omega
  have hsp := okSp_spc (gv_in h).1
  rw [(gw_yes h).1]
  refine ⟨grW_len _ _ _, fun k hk => ?_⟩
  rw [grW_len] at hk
  rw [grW_at _ _ _ k hk]
  have := (gi_in (coT T) hsp h7 hk).1
  omega
theorem co_all {T : List Tsk} {n : Int} (h : taB T n = true) : ∀ s i, i < n.toNat → -10000 ≤ coT T s i ∧ coT T s i ≤ 10000 := fun s i hi => by
  have := co_bd h s (i := i) (by have := (taB_is h).2.1; omega)
  omega
attribute [local irreducible] p2 low memB risB grW outerOf
end Go.Proofs.YtdalbjpjnfjgfaaDoor
