/- Two laws that the program's families want: '==' on two families; a drawn region walked by hand, loads first. No program is named here. -/
import Derived.Test.YtlgcnablhkmdaaaLib
import Derived.ChangeKeysEq
import Derived.Laws.StructEq
import Derived.OrdersHeld
namespace Go.Proofs.Ytlgcnablhkmdaaa
open Go.RowKit
section
variable {P : Program}

theorem run_isAgg {ty : TypeId} {b : Bool} (h : (P.underlying ty).map TypeDesc.isRow = some b) (w : World) : (isAgg ty).run P w = .ok b w := by
  unfold isAgg
  cases hq : P.underlying ty with
  | none => simp [hq] at h
  | some d =>
    rw [Sem.run_bind, run_underlying hq w]
    have h' : d.isRow = b := by simpa [hq] using h
    cases d <;> simp_all [TypeDesc.isRow]
theorem run_sizeOf' {ty : TypeId} {n : Nat} (h : (P.info? ty).map (·.size) = some n) (w : World) : (sizeOf ty).run P w = .ok n w := by
  cases hq : P.info? ty with
  | none => simp [hq] at h
  | some j =>
    have : j.size = n := by simpa [hq] using h
    simp [sizeOf, typeInfo, hq, this]
theorem run_part_cell {ty : TypeId} (h : (P.underlying ty).map TypeDesc.isRow = some false) (w : World) (cs : Array Value) (i : Nat) (v : Value) (hv : cs[i]? = some v) : (part ty cs i).run P w = .ok v w := by
  unfold part
  simp only [Sem.run_bind, run_isAgg h, Result.andThen_ok, hv]
  simp

def allEq (F G : Nat → Bool) : Bool := (List.range 128).all fun i => F i == G i
theorem run_eqItems_marks {B : TypeId} (hu : P.underlying B = some .bool) (d : Nat) (F G : Nat → Bool) (w : World) : ∀ is : List Nat, (∀ i ∈ is, i < 128) →
    (Op.eqItems (d + 1) B 1 (famRow F).toArray (famRow G).toArray is).run P w = .ok (is.all fun i => F i == G i) w
  | [], _ => by simp [Op.eqItems]
  | i :: is, h => by
    have hr : (P.underlying B).map TypeDesc.isRow = some false := by rw [hu]; rfl
    have h1 : (famRow F).toArray[i * 1]? = some (.bool (F i)) := by simpa using famRow_get F i (h i (by simp))
    have h2 : (famRow G).toArray[i * 1]? = some (.bool (G i)) := by simpa using famRow_get G i (h i (by simp))
    simp only [Op.eqItems, Sem.run_bind, run_part_cell hr w _ _ _ h1, run_part_cell hr w _ _ _ h2, Result.andThen_ok, run_equalIn_bool' w d B _ _ hu]
    cases hb : (F i == G i)
    · simp [hb]
    · have := run_eqItems_marks hu d F G w is fun j hj => h j (by simp [hj])
      simp [hb, this]
theorem run_eql_fam {T A B I : TypeId} (hT : P.underlying T = some (.struct (P.fieldsOf T))) (hst : P.stoodInHeld T = false)
    (hF : (P.fieldsOf T).toList.map (fun f => (f.name == "_", f.type, f.offset)) = [(false, I, 0), (false, A, 1)]) (hI : P.underlying I = some (.int .i64)) (hA : P.underlying A = some (.array 128 B)) (hB : P.underlying B = some .bool)
    (hcB : P.cellsOf B = 1) (hBi : (P.info? B).isSome = true) (hS : (P.info? A).map (·.size) = some 128) (w : World) (n m : Int) (F G : Nat → Bool) :
    (binOp .eql T (.agg (fam n F)) (.agg (fam m G))).run P w = .ok (.bool (n == m && allEq F G)) w := by
  rw [run_eql_struct, run_equalIn_struct w 9999 T _ _ hT hst]
  generalize (P.fieldsOf T).toList = fs at hF
  match fs, hF with
  | [], hF => simp at hF
  | [_], hF => simp at hF
  | _ :: _ :: _ :: _, hF => simp at hF
  | [f0, f1], hF =>
    simp only [List.map_cons, List.map_nil, List.cons.injEq, Prod.mk.injEq, and_true] at hF
    obtain ⟨⟨a0, a1, a2⟩, b0, b1, b2⟩ := hF
    have a0' : f0.name ≠ "_" := by simpa using a0
    have b0' : f1.name ≠ "_" := by simpa using b0
    have hIr : (P.underlying I).map TypeDesc.isRow = some false := by rw [hI]; rfl
    have hAr : (P.underlying A).map TypeDesc.isRow = some true := by rw [hA]; rfl
    obtain ⟨bi, hbi⟩ := Option.isSome_iff_exists.1 hBi
    have hp : ∀ k F, (part A (fam k F) 1).run P w = .ok (.agg (famRow F).toArray) w := fun k F => by
      unfold part
      have e : (fam k F).extract 1 (1 + 128) = (famRow F).toArray := by rw [← fam_extract k F]
      simp only [Sem.run_bind, run_isAgg hAr, Result.andThen_ok, if_true]
      simp only [run_sizeOf' hS, Result.andThen_ok, e]
      simp
    have hm := run_eqItems_marks (P := P) hB 9997 F G w (List.range 128) (by simp)
    simp only [Op.eqFields, a0', b0', ne_eq, not_false_eq_true, if_true, a1, a2, b1, b2, Sem.run_bind, run_part_cell hIr w _ _ _ (fam_get0 n F), run_part_cell hIr w _ _ _ (fam_get0 m G), Result.andThen_ok,
      run_equalIn_int w 9998 I .i64 .i64 n m hI]
    have ha : (Op.equalIn 9999 A (.agg (famRow F).toArray) (.agg (famRow G).toArray)).run P w = .ok (allEq F G) w := (run_equalIn_array w 9998 (famRow F).toArray (famRow G).toArray hA hbi).trans (by rw [hcB]; exact hm)
    cases hb : (n == m)
    · simp
    · cases hq : allEq F G <;> simp [hp, ha, hq]

theorem run_op_eql {T : TypeId} (hg : P.eqGuardType P.depth T = false) {o : Oper} (x y : Operand) (ho : o.op = .binOp .eql T x y T) {a : Act} {xs ys : Array Value} (hx : a.eval x = .agg xs) (hy : a.eval y = .agg ys) {w : World} {b : Bool}
    (h : (binOp .eql T (.agg xs) (.agg ys)).run P w = .ok (.bool b) w) : (execOp a.eval o).run P w = .ok (.value (.bool b)) w := by
  unfold execOp
  simp only [ho, hx, hy, Sem.run_bind, run_eqGuard_agg w .eql T x y xs ys hg, Result.andThen_ok, h, Sem.run_pure]

/-! ### A drawn region by hand: S holds in every world of it -/
variable {ops : Array Oper} {Q : Exit → Act → World → Prop} {md : Region.Mode} {S : World → Prop} {fuel : Nat} {listed : Array Bool} {a : Act} {w : World}
theorem yields_load_fam {T : TypeId} (hT : (P.underlying T).map TypeDesc.isRow = some true) (hS : (P.info? T).map (·.size) = some 129) {o : Oper} (hw : Region.wanted o (yielded ops a.tmps) = true) (x : Operand) (ho : o.op = .load T x)
    (g : Nat) (hx : a.eval x = .pointer (some ⟨g, 0, none⟩)) (n : Int) (F : Nat → Bool) (hg : ∀ w, S w → famAt T w g n F) : YieldsIf P ops S o (.agg (fam n F)) a := by
  obtain ⟨d, hu, hd⟩ := rowTy_of hT
  refine .inl ⟨hw, fun w hC => ?_⟩
  unfold execOp
  simp only [ho, hx, Instr.loadAt, Instr.sureAddr, Sem.run_bind, Sem.run_pure, Result.andThen_ok, run_loadVar_row w g T T (fam n F) (0, 0) d (hg w hC) hu (by cases d <;> first | rfl | (cases hd)) (by rw [hS, fam_size])]
theorem yields_load_cell {ty : TypeId} (hT : (P.underlying ty).map TypeDesc.isRow = some false) {o : Oper} (hw : Region.wanted o (yielded ops a.tmps) = true) (x : Operand) (ho : o.op = .load ty x)
    (ad : Addr) (hx : a.eval x = .pointer (some ad)) (v : Value) (hg : ∀ w, S w → w.cell? ad = some v) : YieldsIf P ops S o v a := by
  refine .inl ⟨hw, fun w hC => ?_⟩
  unfold execOp
  have hl : (load ad).run P w = .ok v w := by simp [run_load, hg w hC]
  simp only [ho, hx, Instr.loadAt, Instr.sureAddr, Sem.run_bind, Sem.run_pure, Result.andThen_ok, loadVar, run_isAgg hT, hl, Bool.false_eq_true, if_false]
theorem anyH_call {i : Nat} {o : Oper} (hr : Region.ready md ops listed = [i]) (hi : ops[i]? = some o) (hw : Region.wanted o (yielded ops a.tmps) = true) (k : FuncId) (hk : enters P k) (xs : Array Operand) (ts : Array TypeId)
    (ho : o.op = .call { callee := .value (.func k), args := xs, argTypes := ts }) (args : Array Value) (hal : xs.toList.map a.eval = args.toList) {R : Ending → World → Prop} (hc : Calls P k args w R)
    (h : ∀ e w', R e w' → ∃ v, e = .returned v ∧ S w' ∧ wpAnyH P md ops Q S fuel (listed.setIfInBounds i true) (a.put o.dst v) w') : wpAnyH P md ops Q S (fuel + 1) listed a w := by
  have ha : xs.map a.eval = args := Array.toList_inj.1 (by simpa using hal)
  refine wpAnyH_all hr (by simp) fun j hj => ?_
  have hj' : j = i := by simpa using hj
  subst hj'
  unfold wpOp
  simp only [hi, hw, if_true]
  refine .inl ?_
  obtain ⟨dst, op, ty, pos, after, guard⟩ := o
  simp only at ho
  subst ho
  unfold Oper.wp
  rw [execOp_call_go, ha]
  simp only [Array.append_empty, Array.empty_append]
  rw [hk]
  refine hc.mono fun e w' hR => ?_
  obtain ⟨v, rfl, h1, h2⟩ := h e w' hR
  exact ⟨h1, h2⟩
theorem anyH_op {i : Nat} {o : Oper} (hr : Region.ready md ops listed = [i]) (hi : ops[i]? = some o) (hw : Region.wanted o (yielded ops a.tmps) = true) (v : Value) (w' : World)
    (hrun : (execOp a.eval o).run P w = .ok (.value v) w') (hS : S w') (h : wpAnyH P md ops Q S fuel (listed.setIfInBounds i true) (a.put o.dst v) w') : wpAnyH P md ops Q S (fuel + 1) listed a w := by
  refine wpAnyH_all hr (by simp) fun j hj => ?_
  have hj' : j = i := by simpa using hj
  subst hj'
  unfold wpOp
  simp only [hi, hw, if_true]
  refine .inl ?_
  unfold Oper.wp
  rw [hrun]
  exact ⟨hS, h⟩
theorem anyH_skip {i : Nat} {o : Oper} (hr : Region.ready md ops listed = [i]) (hi : ops[i]? = some o) (hw : Region.wanted o (yielded ops a.tmps) = true) (w' : World)
    (hrun : (execOp a.eval o).run P w = .ok .skip w') (hS : S w') (h : wpAnyH P md ops Q S fuel (listed.setIfInBounds i true) (a.put o.dst undef) w') : wpAnyH P md ops Q S (fuel + 1) listed a w := by
  refine wpAnyH_all hr (by simp) fun j hj => ?_
  have hj' : j = i := by simpa using hj
  subst hj'
  unfold wpOp
  simp only [hi, hw, if_true]
  refine .inl ?_
  unfold Oper.wp
  rw [hrun]
  exact ⟨hS, h⟩
end
end Go.Proofs.Ytlgcnablhkmdaaa
