/- A drawn region by hand: two operations may come up, one that only reads and a call that leaves the world alone: whichever comes first. No program is named here. -/
import Derived.Test.YtlgcnablhkmdaaaEq
namespace Go.Proofs.Ytlgcnablhkmdaaa
open Go.RowKit
section
variable {P : Program} {ops : Array Oper} {Q : Exit → Act → World → Prop} {md : Region.Mode} {S : World → Prop} {fuel : Nat} {listed : Array Bool} {a : Act} {w : World}
theorem anyH_op_call {i j : Nat} {oi oj : Oper} (hr : Region.ready md ops listed = [i, j]) (hri : Region.ready md ops (listed.setIfInBounds i true) = [j]) (hrj : Region.ready md ops (listed.setIfInBounds j true) = [i])
    (hi : ops[i]? = some oi) (hj : ops[j]? = some oj) (hij : i ≠ j) (v u : Value) (hcomm : (a.put oj.dst u).put oi.dst v = (a.put oi.dst v).put oj.dst u)
    (hwi : Region.wanted oi (yielded ops a.tmps) = true) (hwi2 : Region.wanted oi (yielded ops (a.put oj.dst u).tmps) = true)
    (hwj : Region.wanted oj (yielded ops a.tmps) = true) (hwj2 : Region.wanted oj (yielded ops (a.put oi.dst v).tmps) = true)
    (hrun : (execOp a.eval oi).run P w = .ok (.value v) w) (hrun2 : (execOp (a.put oj.dst u).eval oi).run P w = .ok (.value v) w)
    (k : FuncId) (hk : enters P k) (xs : Array Operand) (ts : Array TypeId) (ho : oj.op = .call { callee := .value (.func k), args := xs, argTypes := ts }) (args : Array Value)
    (hal : xs.toList.map a.eval = args.toList) (hal2 : xs.toList.map (a.put oi.dst v).eval = args.toList) (hc : Calls P k args w fun e w' => e = .returned u ∧ w = w') (hS : S w)
    (h : wpAnyH P md ops Q S fuel ((listed.setIfInBounds i true).setIfInBounds j true) ((a.put oi.dst v).put oj.dst u) w) : wpAnyH P md ops Q S (fuel + 1 + 1) listed a w := by
  refine wpAnyH_all hr (by simp) fun x hx => ?_
  rcases (show x = i ∨ x = j by simpa using hx) with rfl | rfl
  · unfold wpOp
    simp only [hi, hwi, if_true]
    refine .inl ?_
    unfold Oper.wp
    rw [hrun]
    refine ⟨hS, ?_⟩
    refine anyH_call hri hj hwj2 k hk xs ts ho args hal2 hc ?_
    rintro e w' ⟨rfl, rfl⟩
    exact ⟨u, rfl, hS, h⟩
  · unfold wpOp
    simp only [hj, hwj, if_true]
    refine .inl ?_
    have ha : xs.map a.eval = args := Array.toList_inj.1 (by simpa using hal)
    obtain ⟨dst, op, ty, pos, after, guard⟩ := oj
    simp only at ho
    subst ho
    unfold Oper.wp
    rw [execOp_call_go, ha]
    simp only [Array.append_empty, Array.empty_append]
    rw [hk]
    refine hc.mono ?_
    rintro e w' ⟨rfl, rfl⟩
    refine ⟨hS, ?_⟩
    refine anyH_op hrj hi hwi2 v w hrun2 hS ?_
    rw [hcomm, Array.setIfInBounds_comm _ _ (Ne.symm hij)]
    exact h
theorem wpOp_op {i : Nat} {o : Oper} {K : Act → World → Prop} (hi : ops[i]? = some o) (hw : Region.wanted o (yielded ops a.tmps) = true) (v : Value) (w' : World) (hrun : (execOp a.eval o).run P w = .ok (.value v) w') (h : K (a.put o.dst v) w') : wpOp P ops Q i K a w := by
  unfold wpOp
  simp only [hi, hw, if_true]
  refine .inl ?_
  unfold Oper.wp
  rw [hrun]
  exact h
theorem wpOp_pure {j : Nat} {oj : Oper} {K : Act → World → Prop} (hj : ops[j]? = some oj) (hwj : Region.wanted oj (yielded ops a.tmps) = true) (u : Value) (kf : FuncId) (hk : enters P kf) (xs : Array Operand) (ts : Array TypeId)
    (ho : oj.op = .call { callee := .value (.func kf), args := xs, argTypes := ts }) (args : Array Value) (hal : xs.toList.map a.eval = args.toList) (hc : Calls P kf args w fun e w' => e = .returned u ∧ w = w') (h : K (a.put oj.dst u) w) : wpOp P ops Q j K a w := by
  unfold wpOp
  simp only [hj, hwj, if_true]
  refine .inl ?_
  have ha : xs.map a.eval = args := Array.toList_inj.1 (by simpa using hal)
  obtain ⟨dst, op, ty, pos, after, guard⟩ := oj
  simp only at ho
  subst ho
  unfold Oper.wp
  rw [execOp_call_go, ha]
  simp only [Array.append_empty, Array.empty_append]
  rw [hk]
  refine hc.mono ?_
  rintro e w' ⟨rfl, rfl⟩
  exact h
/-- A load (i), a call that leaves the world alone (j), an address that hangs on it (k), a load there (l): in whatever order. -/
theorem anyH_load_call_load {i j k l : Nat} {oi oj ok ol : Oper} (hr : Region.ready md ops listed = [i, j]) (hri : Region.ready md ops (listed.setIfInBounds i true) = [j]) (hrij : Region.ready md ops ((listed.setIfInBounds i true).setIfInBounds j true) = [k])
    (hrijk : Region.ready md ops (((listed.setIfInBounds i true).setIfInBounds j true).setIfInBounds k true) = [l])
    (hrjk : Region.ready md ops ((listed.setIfInBounds j true).setIfInBounds k true) = [i, l])
    (hrjki : Region.ready md ops (((listed.setIfInBounds j true).setIfInBounds k true).setIfInBounds i true) = [l])
    (hrjkl : Region.ready md ops (((listed.setIfInBounds j true).setIfInBounds k true).setIfInBounds l true) = [i])
    (hi : ops[i]? = some oi) (hj : ops[j]? = some oj) (hk0 : ops[k]? = some ok) (hl0 : ops[l]? = some ol) (v u z y : Value)
    (hl1 : (((listed.setIfInBounds j true).setIfInBounds k true).setIfInBounds i true).setIfInBounds l true = (((listed.setIfInBounds i true).setIfInBounds j true).setIfInBounds k true).setIfInBounds l true)
    (hl2 : (((listed.setIfInBounds j true).setIfInBounds k true).setIfInBounds l true).setIfInBounds i true = (((listed.setIfInBounds i true).setIfInBounds j true).setIfInBounds k true).setIfInBounds l true)
    (hc1 : (((a.put oj.dst u).put ok.dst z).put oi.dst v).put ol.dst y = (((a.put oi.dst v).put oj.dst u).put ok.dst z).put ol.dst y)
    (hc2 : (((a.put oj.dst u).put ok.dst z).put ol.dst y).put oi.dst v = (((a.put oi.dst v).put oj.dst u).put ok.dst z).put ol.dst y)
    (hs : Region.noSelect ops = true) (hf : Region.free md ops (listed.setIfInBounds j true) k = true) (hrc : (Region.ready md ops (listed.setIfInBounds j true)).contains k = true)
    (hQ : ∀ c a w, Q (.panic c) (a.put ok.dst z) w → Q (.panic c) a w) (hy : YieldsIf P ops S ok z (a.put oj.dst u))
    (hwk : Region.wanted ok (yielded ops ((a.put oi.dst v).put oj.dst u).tmps) = true) (hrunk : (execOp ((a.put oi.dst v).put oj.dst u).eval ok).run P w = .ok (.value z) w)
    (hwi : Region.wanted oi (yielded ops a.tmps) = true) (hwi2 : Region.wanted oi (yielded ops ((a.put oj.dst u).put ok.dst z).tmps) = true) (hwi3 : Region.wanted oi (yielded ops (((a.put oj.dst u).put ok.dst z).put ol.dst y).tmps) = true)
    (hwj : Region.wanted oj (yielded ops a.tmps) = true) (hwj2 : Region.wanted oj (yielded ops (a.put oi.dst v).tmps) = true)
    (hwl : Region.wanted ol (yielded ops (((a.put oi.dst v).put oj.dst u).put ok.dst z).tmps) = true) (hwl2 : Region.wanted ol (yielded ops ((a.put oj.dst u).put ok.dst z).tmps) = true) (hwl3 : Region.wanted ol (yielded ops (((a.put oj.dst u).put ok.dst z).put oi.dst v).tmps) = true)
    (hrun : (execOp a.eval oi).run P w = .ok (.value v) w) (hrun2 : (execOp ((a.put oj.dst u).put ok.dst z).eval oi).run P w = .ok (.value v) w) (hrun3 : (execOp (((a.put oj.dst u).put ok.dst z).put ol.dst y).eval oi).run P w = .ok (.value v) w)
    (hrunl : (execOp (((a.put oi.dst v).put oj.dst u).put ok.dst z).eval ol).run P w = .ok (.value y) w) (hrunl2 : (execOp ((a.put oj.dst u).put ok.dst z).eval ol).run P w = .ok (.value y) w) (hrunl3 : (execOp (((a.put oj.dst u).put ok.dst z).put oi.dst v).eval ol).run P w = .ok (.value y) w)
    (kf : FuncId) (hk : enters P kf) (xs : Array Operand) (ts : Array TypeId) (ho : oj.op = .call { callee := .value (.func kf), args := xs, argTypes := ts }) (args : Array Value)
    (hal : xs.toList.map a.eval = args.toList) (hal2 : xs.toList.map (a.put oi.dst v).eval = args.toList) (hc : Calls P kf args w fun e w' => e = .returned u ∧ w = w') (hS : S w)
    (h : wpAnyH P md ops Q S fuel ((((listed.setIfInBounds i true).setIfInBounds j true).setIfInBounds k true).setIfInBounds l true) ((((a.put oi.dst v).put oj.dst u).put ok.dst z).put ol.dst y) w) : wpAnyH P md ops Q S (fuel + 1 + 1 + 1 + 1) listed a w := by
  refine wpAnyH_all hr (by simp) fun x hx => ?_
  rcases (show x = i ∨ x = j by simpa using hx) with rfl | rfl
  · refine wpOp_op hi hwi v w hrun ⟨hS, ?_⟩
    refine anyH_call hri hj hwj2 kf hk xs ts ho args hal2 hc ?_
    rintro e w' ⟨rfl, rfl⟩
    exact ⟨u, rfl, hS, anyH_op hrij hk0 hwk z w hrunk hS (anyH_op hrijk hl0 hwl y w hrunl hS h)⟩
  · refine wpOp_pure hj hwj u kf hk xs ts ho args hal hc ⟨hS, ?_⟩
    refine wpAnyH_take hk0 hs hf hrc hQ hy hS ?_
    refine wpAnyH_all hrjk (by simp) fun x hx => ?_
    rcases (show x = i ∨ x = l by simpa using hx) with rfl | rfl
    · refine wpOp_op hi hwi2 v w hrun2 ⟨hS, ?_⟩
      refine anyH_op hrjki hl0 hwl3 y w hrunl3 hS ?_
      rw [hc1, hl1]; exact h
    · refine wpOp_op hl0 hwl2 y w hrunl2 ⟨hS, ?_⟩
      refine anyH_op hrjkl hi hwi3 v w hrun3 hS ?_
      rw [hc2, hl2]; exact h
theorem anyH_store_fam {T : TypeId} (hSz : (P.info? T).map (·.size) = some 129) {i : Nat} {o : Oper} (hr : Region.ready md ops listed = [i]) (hi : ops[i]? = some o) (hw : Region.wanted o (yielded ops a.tmps) = true) (x y : Operand) (ho : o.op = .store T x y)
    (g : Nat) (m : Int) (G : Nat → Bool) (hx : a.eval x = .pointer (some ⟨g, 0, none⟩)) (hy : a.eval y = .agg (fam m G)) (n : Int) (F : Nat → Bool) (hg : famAt T w g n F) (hS : S (w.setRow g (fam m G)))
    (h : wpAnyH P md ops Q S fuel (listed.setIfInBounds i true) (a.put o.dst undef) (w.setRow g (fam m G))) : wpAnyH P md ops Q S (fuel + 1) listed a w := by
  refine wpAnyH_all hr (by simp) fun j hj => ?_
  have hj' : j = i := by simpa using hj
  subst hj'
  unfold wpOp
  simp only [hi, hw, if_true]
  exact .inl (wp_store_row T x y ho g (fam m G) hx hy T (fam n F) hg (by rw [hSz, fam_size]) (by rw [fam_size, fam_size]) (fam_one m G) ⟨hS, h⟩)
end
end Go.Proofs.Ytlgcnablhkmdaaa
