/- Rows of cells that are read, written and made; a drawn region with a read and a call in either order. No program is named here. -/
import Derived.Test.YtjmhmmenampgbaaDoorAx
import Derived.Test.YtjmhmmenampgbaaDoorWc
import Derived.Deep.MidRow
namespace Go.Proofs.YtjmhmmenampgbaaDoor
open Go.RowKit
set_option maxRecDepth 100000
set_option linter.unusedSimpArgs false
section
variable {P : Program} {T : TypeId} {cs : Array Value}
theorem wpList_load_csY (hT : (P.underlying T).map TypeDesc.isRow = some true) (hS : (P.info? T).map (·.size) = some cs.size)
    {ops : Array Oper} {rest : List Oper} {o : Oper} {a : Act} {w : World} {Q : Exit → Act → World → Prop} (hw : Region.wanted o (yielded ops a.tmps) = true) (x : Operand) (ho : o.op = .load T x)
    (g : Nat) (hx : a.eval x = .pointer (some ⟨g, 0, none⟩)) (hg : w.heap[g]? = some (.cells cs T))
    (h : wpList P ops Q rest (a.put o.dst (.agg cs)) w) : wpList P ops Q (o :: rest) a w := by
  obtain ⟨d, hu, hd⟩ := rowTy_of hT
  exact wpList_of_wp hw fun _ hK => wp_load_row T x ho g hx T cs (0, 0) d hg hu (by cases d <;> first | rfl | (cases hd)) hS (hK _ _ h)
theorem wpList_store_csY (hS : (P.info? T).map (·.size) = some cs.size)
    {ops : Array Oper} {rest : List Oper} {o : Oper} {a : Act} {w : World} {Q : Exit → Act → World → Prop} (hw : Region.wanted o (yielded ops a.tmps) = true) (x y : Operand) (ho : o.op = .store T x y)
    (g : Nat) (hx : a.eval x = .pointer (some ⟨g, 0, none⟩)) (hy : a.eval y = .agg cs) (old : Array Value) (hg : w.heap[g]? = some (.cells old T)) (hold : old.size = cs.size) (h1 : cs.all (·.oneCell') = true)
    (h : wpList P ops Q rest (a.put o.dst undef) (w.setRow g cs)) : wpList P ops Q (o :: rest) a w :=
  wpList_of_wp hw fun _ hK => wp_store_row T x y ho g cs hx hy T old hg hS hold h1 (hK _ _ h)
theorem results_csY (hT : (P.underlying T).map TypeDesc.isRow = some true) (hS : (P.info? T).map (·.size) = some cs.size) {fn : Func} {p : Tmp} (h : fn.results = #[.cell p T]) (tmps : Array Value) (w : World) (g : Nat)
    (hp : tmps.getD p undef = .pointer (some ⟨g, 0, none⟩)) (hg : w.heap[g]? = some (.cells cs T)) : (results fn tmps).run P w = .ok (.agg cs) w := by
  obtain ⟨d, hu, hd⟩ := rowTy_of hT
  exact results_cell_row h tmps w g T cs (0, 0) d hp hg hu (by cases d <;> first | rfl | (cases hd)) hS
/-- Two results, the first one a row of cells. -/
theorem results_cs2Y (hT : (P.underlying T).map TypeDesc.isRow = some true) (hS : (P.info? T).map (·.size) = some cs.size) {fn : Func} {p q : Tmp} (h : fn.results = #[.cell p T, .tmp q]) (tmps : Array Value) (w : World) (g : Nat)
    (hp : tmps.getD p undef = .pointer (some ⟨g, 0, none⟩)) (hg : w.heap[g]? = some (.cells cs T)) : (results fn tmps).run P w = .ok (.tuple #[.agg cs, tmps.getD q undef]) w := by
  obtain ⟨d, hu, hd⟩ := rowTy_of hT
  have hp' : tmps[p]?.getD undef = .pointer (some ⟨g, 0, none⟩) := by simpa using hp
  have hl := run_loadVar_row (P := P) w g T T cs (0, 0) d hg hu (by cases d <;> first | rfl | (cases hd)) hS
  simp [results, h, hp', asAddr, hl]
/-- Two results, the second one a row of cells. -/
theorem results_2csY (hT : (P.underlying T).map TypeDesc.isRow = some true) (hS : (P.info? T).map (·.size) = some cs.size) {fn : Func} {p q : Tmp} (h : fn.results = #[.tmp q, .cell p T]) (tmps : Array Value) (w : World) (g : Nat)
    (hp : tmps.getD p undef = .pointer (some ⟨g, 0, none⟩)) (hg : w.heap[g]? = some (.cells cs T)) : (results fn tmps).run P w = .ok (.tuple #[tmps.getD q undef, .agg cs]) w := by
  obtain ⟨d, hu, hd⟩ := rowTy_of hT
  have hp' : tmps[p]?.getD undef = .pointer (some ⟨g, 0, none⟩) := by simpa using hp
  have hl := run_loadVar_row (P := P) w g T T cs (0, 0) d hg hu (by cases d <;> first | rfl | (cases hd)) hS
  simp [results, h, hp', asAddr, hl]
theorem wpList_alloc_csY (hz : ((P.info? T).bind (·.zero)).map Value.cells = some cs) {ops : Array Oper} {rest : List Oper} {o : Oper} {a : Act} {w : World} {Q : Exit → Act → World → Prop}
    (hw : Region.wanted o (yielded ops a.tmps) = true) (ho : o.op = .alloc T) (m : Nat) (hm : w.heap.size = m)
    (h : wpList P ops Q rest (a.put o.dst (.pointer (some ⟨m, 0, none⟩))) (w.alloc (.cells cs T))) : wpList P ops Q (o :: rest) a w := by
  subst hm
  refine wpList_of_wp hw fun K hK => ?_
  have hrun : (Instr.alloc T true (.tuple #[])).run P w = .ok (.pointer (some ⟨w.heap.size, 0, none⟩)) (w.alloc (.cells cs T)) := by
    cases hq : P.info? T with
    | none => simp [hq] at hz
    | some i =>
      cases hv : i.zero with
      | none => simp [hq, hv] at hz
      | some v =>
        have hc : v.cells = cs := by simpa [hq, hv] using hz
        have hzv : (zeroValue T).run P w = .ok v w := by simp [zeroValue, typeInfo, hq, hv]
        unfold Instr.alloc
        simp only [Sem.run_bind, hzv, Result.andThen_ok]
        simp [newVar, newRow, hc]
  unfold Oper.wp execOp
  simp only [ho, Sem.run_bind, hrun, Sem.run_pure, Result.andThen_ok]
  exact hK _ _ h
/-- Numbers in a row of a block are read as a value. -/
theorem wpList_load_subY {A : TypeId} (hT : (P.underlying A).map TypeDesc.isRow = some true) {ops : Array Oper} {rest : List Oper} {o : Oper} {a : Act} {w : World} {Q : Exit → Act → World → Prop} (hw : Region.wanted o (yielded ops a.tmps) = true) (x : Operand) (ho : o.op = .load A x)
    (g off : Nat) (hx : a.eval x = .pointer (some ⟨g, off, none⟩)) (m : List Int) (hS : (P.info? A).map (·.size) = some m.length) (hg : ∀ j, j < m.length → w.cell? ⟨g, off + j, none⟩ = some (.int .i64 (m[j]?.getD 0)))
    (h : wpList P ops Q rest (a.put o.dst (.agg (rowV m))) w) : wpList P ops Q (o :: rest) a w := by
  obtain ⟨d, hu, hd⟩ := rowTy_of hT
  refine wpList_of_wp hw fun _ hK => wp_load_mid A x ho g off hx (m.map (Value.int .i64)) d (fun j y hy => ?_) hu hd (by rw [hS]; simp) (hK _ _ h)
  rw [List.getElem?_map] at hy
  cases hm : m[j]? with
  | none => rw [hm] at hy; cases hy
  | some z =>
    rw [hm] at hy
    have hj : j < m.length := (List.getElem?_eq_some_iff.1 hm).1
    have h1 := hg j hj
    rw [hm] at h1
    cases hy
    exact h1
/-- A number of an array that is a value. -/
theorem wpList_indexY {A B : TypeId} {N : Nat} (hA : P.underlying A = some (.array N B)) (hB : (P.info? B).map (·.size) = some 1) (hr : (P.underlying B).map TypeDesc.isRow = some false)
    {ops : Array Oper} {rest : List Oper} {o : Oper} {a : Act} {w : World} {Q : Exit → Act → World → Prop} (hw : Region.wanted o (yielded ops a.tmps) = true) (x y : Operand) (ho : o.op = .index A x y)
    (m : List Int) (hm : m.length = N) (hx : a.eval x = .agg (rowV m)) (i : Nat) (hy : a.eval y = .int .i64 (i : Int)) (hi : i < N)
    (h : wpList P ops Q rest (a.put o.dst (.int .i64 (m[i]?.getD 0))) w) : wpList P ops Q (o :: rest) a w := by
  have hB' : (sizeOf B).run P w = .ok 1 w := by
    cases hq : P.info? B with
    | none => simp [hq] at hB
    | some j =>
      have : j.size = 1 := by simpa [hq] using hB
      simp [sizeOf, typeInfo, hq, this]
  have hg : (rowV m)[i]? = some (.int .i64 (m[i]?.getD 0)) := by
    unfold rowV
    have hi2 : i < m.length := by omega
    simp [hi2]
  have hag : (isAgg B).run P w = .ok false w := by
    unfold isAgg
    cases hq : P.underlying B with
    | none => simp [hq] at hr
    | some d =>
      rw [Sem.run_bind, run_underlying hq w]
      cases d <;> simp_all [TypeDesc.isRow]
  have hrun : (Instr.index A (.agg (rowV m)) (.int .i64 (i : Int))).run P w = .ok (.int .i64 (m[i]?.getD 0)) w := by
    unfold Instr.index part
    have h1 : (0 : Int) ≤ (i : Int) ∧ (i : Int) < (N : Int) := by omega
    simp only [asIntOf, Sem.run_bind, Sem.run_pure, Result.andThen_ok, run_underlying hA w, if_pos h1, hB', hag, Int.toNat_natCast, Nat.mul_one, hg]
    simp
  refine wpList_of_wp hw fun K hK => ?_
  unfold Oper.wp execOp
  simp only [ho, hx, hy, Sem.run_bind, Sem.run_pure, hrun, Result.andThen_ok]
  exact hK _ _ h
theorem yields_load_csY {ops : Array Oper} {S : World → Prop} {a : Act} (hT : (P.underlying T).map TypeDesc.isRow = some true) (hS : (P.info? T).map (·.size) = some cs.size) {o : Oper} (hw : Region.wanted o (yielded ops a.tmps) = true) (x : Operand) (ho : o.op = .load T x)
    (g : Nat) (hx : a.eval x = .pointer (some ⟨g, 0, none⟩)) (hg : ∀ w, S w → w.heap[g]? = some (.cells cs T)) : YieldsIf P ops S o (.agg cs) a := by
  obtain ⟨d, hu, hd⟩ := rowTy_of hT
  refine .inl ⟨hw, fun w hC => ?_⟩
  unfold execOp
  simp only [ho, hx, Instr.loadAt, Instr.sureAddr, Sem.run_bind, Sem.run_pure, Result.andThen_ok, run_loadVar_row w g T T cs (0, 0) d (hg w hC) hu (by cases d <;> first | rfl | (cases hd)) hS]
end
section
variable {P : Program} {ops : Array Oper} {Q : Exit → Act → World → Prop} {md : Region.Mode} {S : World → Prop} {fuel : Nat} {listed : Array Bool} {a : Act} {w : World}
/-- A read (i) and a call (j), in either order. -/
theorem anyH_read_call {i j : Nat} {oi oj : Oper} (hr : Region.ready md ops listed = [i, j]) (hri : Region.ready md ops (listed.setIfInBounds i true) = [j]) (hrj : Region.ready md ops (listed.setIfInBounds j true) = [i])
    (hi : ops[i]? = some oi) (hj : ops[j]? = some oj) (hij : i ≠ j) (v : Value) (hcomm : ∀ u, (a.put oj.dst u).put oi.dst v = (a.put oi.dst v).put oj.dst u)
    (hwi : Region.wanted oi (yielded ops a.tmps) = true) (hwi2 : ∀ u, Region.wanted oi (yielded ops (a.put oj.dst u).tmps) = true)
    (hwj : Region.wanted oj (yielded ops a.tmps) = true) (hwj2 : Region.wanted oj (yielded ops (a.put oi.dst v).tmps) = true)
    (hrun : (execOp a.eval oi).run P w = .ok (.value v) w) (hrun2 : ∀ u w', Below w.heap.size w w' → (execOp (a.put oj.dst u).eval oi).run P w' = .ok (.value v) w')
    (k : FuncId) (hk : enters P k) (xs : Array Operand) (ts : Array TypeId) (ho : oj.op = .call { callee := .value (.func k), args := xs, argTypes := ts }) (args : Array Value)
    (hal : xs.toList.map a.eval = args.toList) (hal2 : xs.toList.map (a.put oi.dst v).eval = args.toList) {R : Value → World → Prop}
    (hc : Calls P k args w fun e w' => ∃ u, e = .returned u ∧ R u w' ∧ Below w.heap.size w w') (hS : ∀ w', Below w.heap.size w w' → S w')
    (h : ∀ u w', R u w' → Below w.heap.size w w' → wpAnyH P md ops Q S fuel ((listed.setIfInBounds i true).setIfInBounds j true) ((a.put oi.dst v).put oj.dst u) w') : wpAnyH P md ops Q S (fuel + 1 + 1) listed a w := by
  refine wpAnyH_all hr (by simp) fun x hx => ?_
  rcases (show x = i ∨ x = j by simpa using hx) with rfl | rfl
  · refine wpOp_op hi hwi v w hrun ⟨hS w (Below.refl _ _), ?_⟩
    refine anyH_call hri hj hwj2 k hk xs ts ho args hal2 hc ?_
    rintro e w' ⟨u, rfl, h1, h2⟩
    exact ⟨u, rfl, hS w' h2, h u w' h1 h2⟩
  · refine wpOp_call hj hwj k hk xs ts ho args hal hc ?_
    rintro e w' ⟨u, rfl, h1, h2⟩
    refine ⟨u, rfl, hS w' h2, ?_⟩
    refine anyH_op hrj hi (hwi2 u) v w' (hrun2 u w' h2) (hS w' h2) ?_
    rw [hcomm, Array.setIfInBounds_comm _ _ (Ne.symm hij)]
    exact h u w' h1 h2
end
/-- What lies from base on is as it was. -/
theorem own.same {I : TypeId} {w w' : World} {base : Nat} {v : Value} {l : List Int} (h : own I w base v l) (hw : ∀ k, base ≤ k → w'.heap[k]? = w.heap[k]?) : own I w' base v l := by
  obtain ⟨h1, h2⟩ := h
  refine ⟨h1, ?_⟩
  rcases h2 with h2 | ⟨g, cap, cur, e, hg, hh, r⟩
  · exact .inl h2
  · exact .inr ⟨g, cap, cur, e, hg, (hw g hg).trans hh, r⟩
theorem own2.same {T I : TypeId} {w w' : World} {base : Nat} {v : Value} {L : List (List Int)} (h : own2 T I w base v L) (hw : ∀ k, base ≤ k → w'.heap[k]? = w.heap[k]?) : own2 T I w' base v L := by
  obtain ⟨us, h1, ⟨h2, h2'⟩, h3, h4⟩ := h
  refine ⟨us, h1, ⟨h2, ?_⟩, fun j hj => ⟨(h3 j hj).1.same hw, (h3 j hj).2⟩, h4⟩
  rcases h2' with h7 | ⟨g, cap, cur, e, hg, hh, r⟩
  · exact .inl h7
  · exact .inr ⟨g, cap, cur, e, hg, (hw g hg).trans hh, r⟩
end Go.Proofs.YtjmhmmenampgbaaDoor
