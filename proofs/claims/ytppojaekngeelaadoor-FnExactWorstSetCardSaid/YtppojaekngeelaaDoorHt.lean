/- Contracts: HalfQuestion, the program's and the specification's. -/
import Derived.Test.YtppojaekngeelaaDoorHj
import Derived.Test.YtppojaekngeelaaDoorHr
import Derived.Test.YtppojaekngeelaaDoorBx
namespace Go.Proofs.YtppojaekngeelaaDoor
open Go.RowKit
set_option maxRecDepth 100000
set_option linter.unusedSimpArgs false
def hqF (l : List Int) (y z : Int) : Nat → Bool := leF (marksTo l l.length) y.toNat z.toNat
/-- Whether more than one set is left. -/
def hqB (n : Int) (l : List Int) (y z : Int) : Bool := asB n l y z && decide (opN n.toNat (hqF l y z) ≠ 0)
def hqN (n : Int) (l : List Int) (y z : Int) : Int := if hqB n l y z then n else 0
def hqM (n : Int) (l : List Int) (y z : Int) : Nat → Bool := if hqB n l y z then hqF l y z else noSet
def hqR (n : Int) (l : List Int) (y z : Int) : Int := if hqB n l y z then (hfI n.toNat (hqF l y z) : Int) else 0
theorem hqB_no {n : Int} {l : List Int} {y z : Int} (h : asB n l y z = false) : hqB n l y z = false := by unfold hqB; rw [h]; rfl
theorem hqB_is {n : Int} {l : List Int} {y z : Int} (h : asB n l y z = true) : hqB n l y z = decide (opN n.toNat (hqF l y z) ≠ 0) := by unfold hqB; rw [h]; rfl
theorem hq_no {n : Int} {l : List Int} {y z : Int} (h : hqB n l y z = false) : hqN n l y z = 0 ∧ hqM n l y z = noSet ∧ hqR n l y z = 0 := by unfold hqN hqM hqR; rw [h]; exact ⟨rfl, rfl, rfl⟩
theorem hq_yes {n : Int} {l : List Int} {y z : Int} (h : hqB n l y z = true) : hqN n l y z = n ∧ hqM n l y z = hqF l y z ∧ hqR n l y z = (hfI n.toNat (hqF l y z) : Int) := by unfold hqN hqM hqR; rw [h]; exact ⟨rfl, rfl, rfl⟩
theorem famL_hq {n : Int} {l : List Int} {y z : Int} (h : asB n l y z = true) : famL n l y z = .tuple #[.agg (fam n (hqF l y z)), .bool true] := by unfold famL lfN lfM hqF; rw [h]; rfl
theorem famL_hno {n : Int} {l : List Int} {y z : Int} (h : asB n l y z = false) : famL n l y z = .tuple #[.agg (fam 0 noSet), .bool false] := by unfold famL lfN lfM; rw [h]; rfl
attribute [local irreducible] p2 low memB risB famAt own
theorem results_csT {P : Program} {T : TypeId} {cs : Array Value} (hT : (P.underlying T).map TypeDesc.isRow = some true) (hS : (P.info? T).map (·.size) = some cs.size) {fn : Func} {p : Tmp} (h : fn.results = #[.cell p T]) (tmps : Array Value) (w : World) (g : Nat)
    (hp : tmps.getD p undef = .pointer (some ⟨g, 0, none⟩)) (hg : w.heap[g]? = some (.cells cs T)) : (results fn tmps).run P w = .ok (.agg cs) w := by
  obtain ⟨d, hu, hd⟩ := rowTy_of hT
  exact results_cell_row h tmps w g T cs (0, 0) d hp hg hu (by cases d <;> first | rfl | (cases hd)) hS
theorem rowSt : (Tryd.prog.underlying 60).map TypeDesc.isRow = some true := by kernel_rfl
theorem sizeSt : (Tryd.prog.info? 60).map (·.size) = some 1 := by kernel_rfl
end Go.Proofs.YtppojaekngeelaaDoor
