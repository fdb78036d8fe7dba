/- A drawn region in which a specification is called with two spaces: laws on its steps. -/
import Derived.Test.YtblglkgmnaklbaaHar
import Derived.Test.YtblglkgmnaklbaaOw
namespace Go.Proofs.Ytblglkgmnaklbaa
open Go.RowKit
section
variable {P : Program} {ops : Array Oper} {Q : Exit → Act → World → Prop} {md : Region.Mode} {S : World → Prop} {fuel : Nat} {listed : Array Bool} {a : Act} {w : World}
theorem wpOp_call {i : Nat} {o : Oper} {K : Act → World → Prop} (hi : ops[i]? = some o) (hw : Region.wanted o (yielded ops a.tmps) = true) (k : FuncId) (hk : enters P k) (xs : Array Operand) (ts : Array TypeId)
    (ho : o.op = .call { callee := .value (.func k), args := xs, argTypes := ts }) (args : Array Value) (hal : xs.toList.map a.eval = args.toList) {R : Ending → World → Prop} (hc : Calls P k args w R)
    (h : ∀ e w', R e w' → ∃ v, e = .returned v ∧ K (a.put o.dst v) w') : wpOp P ops Q i K a w := by
  have ha : xs.map a.eval = args := Array.toList_inj.1 (by simpa using hal)
  unfold wpOp
  simp only [hi, hw, if_true]
  refine .inl ?_
  obtain ⟨dst, op, ty, pos, after, guard⟩ := o
  simp only at ho
  subst ho
  unfold Oper.wp
  rw [execOp_call_go, ha]
  simp only [Array.append_empty, Array.empty_append]
  rw [hk]
  refine hc.mono ?_
  intro e w' hR
  obtain ⟨v, rfl, hK⟩ := h e w' hR
  exact hK
theorem wpOp_val {i : Nat} {o : Oper} {K : Act → World → Prop} (hi : ops[i]? = some o) (hw : Region.wanted o (yielded ops a.tmps) = true) (v : Value) (w' : World) (hrun : (execOp a.eval o).run P w = .ok (.value v) w') (h : K (a.put o.dst v) w') : wpOp P ops Q i K a w := by
  unfold wpOp
  simp only [hi, hw, if_true]
  refine .inl ?_
  unfold Oper.wp
  rw [hrun]
  exact h
theorem anyH_store_row {T T2 : TypeId} (old cs : Array Value) (hSz : (P.info? T).map (·.size) = some cs.size) {i : Nat} {o : Oper} (hr : Region.ready md ops listed = [i]) (hi : ops[i]? = some o) (hw : Region.wanted o (yielded ops a.tmps) = true) (x y : Operand) (ho : o.op = .store T x y)
    (g : Nat) (hx : a.eval x = .pointer (some ⟨g, 0, none⟩)) (hy : a.eval y = .agg cs) (hg : w.heap[g]? = some (.cells old T2)) (hold : old.size = cs.size) (h1 : cs.all (·.oneCell') = true) (hS : S (w.setRow g cs))
    (h : wpAnyH P md ops Q S fuel (listed.setIfInBounds i true) (a.put o.dst undef) (w.setRow g cs)) : wpAnyH P md ops Q S (fuel + 1) listed a w := by
  refine wpAnyH_all hr (by simp) fun j hj => ?_
  have hj' : j = i := by simpa using hj
  subst hj'
  unfold wpOp
  simp only [hi, hw, if_true]
  exact .inl (wp_store_row T x y ho g cs hx hy T2 old hg hSz hold h1 ⟨hS, h⟩)
theorem run_alloc_zero {T : TypeId} {cs : Array Value} (hz : ((P.info? T).bind (·.zero)).map Value.cells = some cs) (w : World) : (Instr.alloc T true (.tuple #[])).run P w = .ok (.pointer (some ⟨w.heap.size, 0, none⟩)) (w.alloc (.cells cs T)) := by
  cases hq : P.info? T with
  | none => simp [hq] at hz
  | some i =>
    cases hv : i.zero with
    | none => simp [hq, hv] at hz
    | some v =>
      have hc : v.cells = cs := by simpa [hq, hv] using hz
      have hzv : (zeroValue T).run P w = .ok v w := by simp [zeroValue, typeInfo, hq, hv]
      unfold Instr.alloc
      simp only [Sem.run_bind, hzv, Result.andThen_ok]
      simp [newVar, newRow, hc]
/-- Whatever the order was: the rest is shown once. -/
theorem region_join {id : Nat} {b : Bool} {A : Nat → Nat → Nat → Value → Act} (F : Nat → Nat → Nat → Value → World → Prop)
    (h1 : (∀ g1 g2 B v W, F g1 g2 B v W → Q .normal (A g1 g2 B v) W) → (Code.region id ops b).wp P Q a w)
    (h2 : ∀ g1 g2 B v W, F g1 g2 B v W → Q .normal (A g1 g2 B v) W) : (Code.region id ops b).wp P Q a w := h1 h2
theorem own.rowO {I : TypeId} {w : World} {base : Nat} {v : Value} {l : List Int} (h : own I w base v l) (b : Nat) (hb : ∀ g, v.ownBlock = some g → g ≠ b) (c : Array Value) : own I (w.setRow b c) base v l := by
  obtain ⟨h1, h2⟩ := h
  refine ⟨h1, ?_⟩
  rcases h2 with h2 | ⟨g, cap, cur, e, hg, hh, r⟩
  · exact .inl h2
  · exact .inr ⟨g, cap, cur, e, hg, (hp_rowO w b g c (hb g (by subst e; rfl))).trans hh, r⟩
end
end Go.Proofs.Ytblglkgmnaklbaa
