/- A drawn region by hand: two operations may come up, one that only reads and a call that leaves the world alone: whichever comes first. No program is named here. -/
import Derived.Test.YtceofjlhbomcaaaEq
namespace Go.Proofs.Ytceofjlhbomcaaa
open Go.RowKit
section
variable {P : Program} {ops : Array Oper} {Q : Exit → Act → World → Prop} {md : Region.Mode} {S : World → Prop} {fuel : Nat} {listed : Array Bool} {a : Act} {w : World}
theorem anyH_op_call {i j : Nat} {oi oj : Oper} (hr : Region.ready md ops listed = [i, j]) (hri : Region.ready md ops (listed.setIfInBounds i true) = [j]) (hrj : Region.ready md ops (listed.setIfInBounds j true) = [i])
    (hi : ops[i]? = some oi) (hj : ops[j]? = some oj) (hij : i ≠ j) (v u : Value) (hcomm : (a.put oj.dst u).put oi.dst v = (a.put oi.dst v).put oj.dst u)
    (hwi : Region.wanted oi (yielded ops a.tmps) = true) (hwi2 : Region.wanted oi (yielded ops (a.put oj.dst u).tmps) = true)
    (hwj : Region.wanted oj (yielded ops a.tmps) = true) (hwj2 : Region.wanted oj (yielded ops (a.put oi.dst v).tmps) = true)
    (hrun : (execOp a.eval oi).run P w = .ok (.value v) w) (hrun2 : (execOp (a.put oj.dst u).eval oi).run P w = .ok (.value v) w)
    (k : FuncId) (hk : enters P k) (xs : Array Operand) (ts : Array TypeId) (ho : oj.op = .call { callee := .value (.func k), args := xs, argTypes := ts }) (args : Array Value)
    (hal : xs.toList.map a.eval = args.toList) (hal2 : xs.toList.map (a.put oi.dst v).eval = args.toList) (hc : Calls P k args w fun e w' => e = .returned u ∧ w = w') (hS : S w)
    (h : wpAnyH P md ops Q S fuel ((listed.setIfInBounds i true).setIfInBounds j true) ((a.put oi.dst v).put oj.dst u) w) : wpAnyH P md ops Q S (fuel + 1 + 1) listed a w := by
  refine wpAnyH_all hr (by simp) fun x hx => ?_
  rcases (show x = i ∨ x = j by simpa using hx) with rfl | rfl
  · unfold wpOp
    simp only [hi, hwi, if_true]
    refine .inl ?_
    unfold Oper.wp
    rw [hrun]
    refine ⟨hS, ?_⟩
    refine anyH_call hri hj hwj2 k hk xs ts ho args hal2 hc ?_
    rintro e w' ⟨rfl, rfl⟩
    exact ⟨u, rfl, hS, h⟩
  · unfold wpOp
    simp only [hj, hwj, if_true]
    refine .inl ?_
    have ha : xs.map a.eval = args := Array.toList_inj.1 (by simpa using hal)
    obtain ⟨dst, op, ty, pos, after, guard⟩ := oj
    simp only at ho
    subst ho
    unfold Oper.wp
    rw [execOp_call_go, ha]
    simp only [Array.append_empty, Array.empty_append]
    rw [hk]
    refine hc.mono ?_
    rintro e w' ⟨rfl, rfl⟩
    refine ⟨hS, ?_⟩
    refine anyH_op hrj hi hwi2 v w hrun2 hS ?_
    rw [hcomm, Array.setIfInBounds_comm _ _ (Ne.symm hij)]
    exact h
theorem anyH_store_fam {T : TypeId} (hSz : (P.info? T).map (·.size) = some 129) {i : Nat} {o : Oper} (hr : Region.ready md ops listed = [i]) (hi : ops[i]? = some o) (hw : Region.wanted o (yielded ops a.tmps) = true) (x y : Operand) (ho : o.op = .store T x y)
    (g : Nat) (m : Int) (G : Nat → Bool) (hx : a.eval x = .pointer (some ⟨g, 0, none⟩)) (hy : a.eval y = .agg (fam m G)) (n : Int) (F : Nat → Bool) (hg : famAt T w g n F) (hS : S (w.setRow g (fam m G)))
    (h : wpAnyH P md ops Q S fuel (listed.setIfInBounds i true) (a.put o.dst undef) (w.setRow g (fam m G))) : wpAnyH P md ops Q S (fuel + 1) listed a w := by
  refine wpAnyH_all hr (by simp) fun j hj => ?_
  have hj' : j = i := by simpa using hj
  subst hj'
  unfold wpOp
  simp only [hi, hw, if_true]
  exact .inl (wp_store_row T x y ho g (fam m G) hx hy T (fam n F) hg (by rw [hSz, fam_size]) (by rw [fam_size, fam_size]) (fam_one m G) ⟨hS, h⟩)
end
end Go.Proofs.Ytceofjlhbomcaaa
