/- Steps of a drawn region that only reads, walked once in the order of the text: a cell, a length, an element. No program is named here. -/
import Derived.Test.YtlgcnablhkmdaaaSl
import Derived.Test.YtlgcnablhkmdaaaEq
namespace Go.Proofs.Ytlgcnablhkmdaaa
open Go.RowKit
section
variable {P : Program} {ops : Array Oper} {rest : List Oper} {o : Oper} {a : Act} {C : World → Prop} {Q : Act → Prop}
theorem q_load_cell {ty : TypeId} (hT : (P.underlying ty).map TypeDesc.isRow = some false) (hw : Region.wanted o (yielded ops a.tmps) = true) (x : Operand) (ho : o.op = .load ty x)
    (ad : Addr) (hx : a.eval x = .pointer (some ad)) (v : Value) (hg : ∀ w, C w → w.cell? ad = some v)
    (h : wpQuiet P ops C Q rest (a.put o.dst v)) : wpQuiet P ops C Q (o :: rest) a := by
  refine BigFrame.wpQuiet_want hw fun K hK => ⟨_, fun w hC => ?_, hK _ h⟩
  have hl : (load ad).run P w = .ok v w := by simp [run_load, hg w hC]
  unfold Oper.quietAt execOp
  simp only [ho, hx, Instr.loadAt, Instr.sureAddr, Sem.run_bind, Sem.run_pure, Result.andThen_ok, loadVar, run_isAgg hT, hl, Bool.false_eq_true, if_false]
  exact ⟨rfl, rfl⟩
theorem q_len {t I : TypeId} (ht : P.underlying t = some (.slice I)) (hw : Region.wanted o (yielded ops a.tmps) = true)
    (x : Operand) (ho : o.op = .call { callee := .builtin .len, args := #[x], argTypes := #[t] }) (v : Value) (hx : a.eval x = v) (n : Nat) (hv : ∃ b c, v = .slice b n c)
    (h : wpQuiet P ops C Q rest (a.put o.dst (.int .i64 (n : Int)))) : wpQuiet P ops C Q (o :: rest) a := by
  obtain ⟨b, c, rfl⟩ := hv
  have he : P.underlying t = some (.slice (P.elem t)) := by
    rw [ht]; simp [Program.elem, ht]
  refine BigFrame.wpQuiet_want hw fun K hK => ⟨_, fun w hC => ?_, hK _ h⟩
  have hr : (Builtin.len_ #[t] o.type #[.slice b n c]).run P w = .ok (.int .i64 (n : Int)) w := by
    rw [run_len_slice (h := he)]
    simp [goInt]
  unfold Oper.quietAt execOp
  simp only [ho, resolve, invoke, Sem.run_bind, Sem.run_pure, Result.andThen_ok, List.map_toArray, List.map_cons, List.map_nil, hx, BigFrame.builtin_len, hr]
  exact ⟨rfl, rfl⟩
theorem q_at {t I : TypeId} (ht : P.underlying t = some (.slice I)) (hI : (P.info? I).map (·.size) = some 1) (hw : Region.wanted o (yielded ops a.tmps) = true)
    (x y : Operand) (ho : o.op = .indexAddr t x y) (v : Value) (hx : a.eval x = v) (i : Int) (hy : a.eval y = .int .i64 i) (k : Nat) (hik : i = (k : Int)) (B : Nat) (l : List Int) (w0 : World) (hl : ints B w0 v l) (hk : k < l.length)
    (h : ∀ ad : Addr, w0.cell? ad = some (.int .i64 (l[k]?.getD 0)) → ad.block < B → wpQuiet P ops C Q rest (a.put o.dst (.pointer (some ad)))) : wpQuiet P ops C Q (o :: rest) a := by
  subst hik
  rcases hl with ⟨rfl, _⟩ | ⟨b, of, c, rfl, h2, h3, h4⟩
  · simp at hk
  have he : P.underlying t = some (.slice (P.elem t)) := by
    rw [ht]; simp [Program.elem, ht]
  have hE : P.elem t = I := by simp [Program.elem, ht]
  refine BigFrame.wpQuiet_want hw fun K hK => ⟨_, fun w hC => ?_, hK _ (h ⟨b, of + k, none⟩ (h4 k hk) h2)⟩
  have hr : (Instr.indexAt t (.slice (some ⟨b, of, none⟩) l.length c) (.int .i64 (k : Int))).run P w = .ok (.pointer (some ⟨b, of + k, none⟩)) w := by
    rw [run_indexAt_slice (h := he), if_pos (by omega), hE, run_sizeOf' hI]
    simp [Addr.add]
  unfold Oper.quietAt execOp
  simp only [ho, hx, hy, Sem.run_bind, Sem.run_pure, hr, Result.andThen_ok]
  exact ⟨rfl, rfl⟩
/-- A call that leaves the world as it is. -/
theorem q_pure {w : World} (hw : Region.wanted o (yielded ops a.tmps) = true) (k : FuncId) (hk : enters P k) (xs : Array Operand) (ts : Array TypeId)
    (ho : o.op = .call { callee := .value (.func k), args := xs, argTypes := ts }) (args : Array Value) (hal : xs.toList.map a.eval = args.toList) (v : Value)
    (hc : ∀ w', Below w.heap.size w w' → Calls P k args w' fun e w'' => e = .returned v ∧ w' = w'')
    (h : wpQuiet P ops (fun w' => Below w.heap.size w w') Q rest (a.put o.dst v)) : wpQuiet P ops (fun w' => Below w.heap.size w w') Q (o :: rest) a :=
  q_call hw k hk xs ts ho args (Array.toList_inj.1 (by simpa using hal)) v (fun w' hb => (hc w' hb).mono fun e w'' ⟨he, e2⟩ => ⟨he, by subst e2; exact Below.refl _ _⟩) h
end
end Go.Proofs.Ytlgcnablhkmdaaa
