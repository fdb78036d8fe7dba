/- A struct of two cells in its box; structs read whole in a drawn region that only reads. No program is named here. -/
import Derived.Test.YtblglkgmnaklbaaDoorLib
namespace Go.Proofs.YtblglkgmnaklbaaDoor
open Go.RowKit
/-! A struct of a slice and a number that came in, in its box: block w.heap.size. -/
section
variable {T : TypeId} {v u : Value} {w wr : World} (h : Below (w.heap.size + 1) (w.alloc (.cells #[v, u] T)) wr)
include h
theorem by_cell0 : wr.cell? ⟨w.heap.size, 0, none⟩ = some v := by
  rw [h.cell (p := ⟨w.heap.size, 0, none⟩) (by show w.heap.size < _; omega)]; simp
theorem by_cell1 : wr.cell? ⟨w.heap.size, 1, none⟩ = some u := by
  rw [h.cell (p := ⟨w.heap.size, 1, none⟩) (by show w.heap.size < _; omega)]; simp
theorem by_below : Below w.heap.size w wr := ((Below.refl w.heap.size w).alloc (Nat.le_refl _) _).trans (h.mono (by omega))
theorem by_size : w.heap.size + 1 ≤ wr.heap.size := by have := h.size; simpa using this
theorem by_ints {x : Value} {l : List Int} (hl : ints w.heap.size w x l) : ints w.heap.size wr x l := hl.below (by_below h) (Nat.le_refl _)
theorem by_full {x : Value} {l : List Int} (hl : ints w.heap.size w x l) : ints wr.heap.size wr x l := (by_ints h hl).mono (by have := by_size h; omega)
theorem by_to {w2 : World} (h2 : Below wr.heap.size wr w2) : Below (w.heap.size + 1) (w.alloc (.cells #[v, u] T)) w2 := h.trans (h2.mono (by_size h))
end
theorem by_start (T : TypeId) (v u : Value) (w : World) : Below (w.heap.size + 1) (w.alloc (.cells #[v, u] T)) (w.alloc (.cells #[v, u] T)) := Below.refl _ _
section
variable {P : Program} {ops : Array Oper} {rest : List Oper} {o : Oper} {a : Act} {C : World → Prop} {Q : Act → Prop}
/-- A struct of one cell is read, in a drawn region that only reads. -/
theorem q_load_one {ty : TypeId} (hT : (P.underlying ty).map TypeDesc.isRow = some true) (hZ : (P.info? ty).map (·.size) = some 1) (hw : Region.wanted o (yielded ops a.tmps) = true) (x : Operand) (ho : o.op = .load ty x)
    (g off : Nat) (hx : a.eval x = .pointer (some ⟨g, off, none⟩)) (v : Value) (hg : ∀ w, C w → w.cell? ⟨g, off, none⟩ = some v)
    (h : wpQuiet P ops C Q rest (a.put o.dst (.agg #[v]))) : wpQuiet P ops C Q (o :: rest) a := by
  obtain ⟨d, hu, hd⟩ := rowTy_of hT
  refine BigFrame.wpQuiet_want hw fun K hK => ⟨_, fun w hC => ?_, hK _ h⟩
  have hr := run_loadVar_mid (P := P) w g off ty [v] d (fun j y hy => by
    match j, hy with
    | 0, hy => simp at hy; subst hy; exact hg w hC
    | j + 1, hy => simp at hy) hu hd (by rw [hZ]; rfl)
  unfold Oper.quietAt execOp
  simp only [ho, hx, Instr.loadAt, Instr.sureAddr, Sem.run_bind, Sem.run_pure, Result.andThen_ok, hr]
  exact ⟨rfl, rfl⟩
/-- The same, of two cells. -/
theorem q_load_two {ty : TypeId} (hT : (P.underlying ty).map TypeDesc.isRow = some true) (hZ : (P.info? ty).map (·.size) = some 2) (hw : Region.wanted o (yielded ops a.tmps) = true) (x : Operand) (ho : o.op = .load ty x)
    (g off : Nat) (hx : a.eval x = .pointer (some ⟨g, off, none⟩)) (v u : Value) (hg : ∀ w, C w → w.cell? ⟨g, off, none⟩ = some v) (hg2 : ∀ w, C w → w.cell? ⟨g, off + 1, none⟩ = some u)
    (h : wpQuiet P ops C Q rest (a.put o.dst (.agg #[v, u]))) : wpQuiet P ops C Q (o :: rest) a := by
  obtain ⟨d, hu, hd⟩ := rowTy_of hT
  refine BigFrame.wpQuiet_want hw fun K hK => ⟨_, fun w hC => ?_, hK _ h⟩
  have hr := run_loadVar_mid (P := P) w g off ty [v, u] d (fun j y hy => by
    match j, hy with
    | 0, hy => simp at hy; subst hy; exact hg w hC
    | 1, hy => simp at hy; subst hy; exact hg2 w hC
    | j + 2, hy => simp at hy) hu hd (by rw [hZ]; rfl)
  unfold Oper.quietAt execOp
  simp only [ho, hx, Instr.loadAt, Instr.sureAddr, Sem.run_bind, Sem.run_pure, Result.andThen_ok, hr]
  exact ⟨rfl, rfl⟩
theorem q_belowN {w : World} (hw : Region.wanted o (yielded ops a.tmps) = true) (k : FuncId) (hk : enters P k) (xs : Array Operand) (ts : Array TypeId)
    (ho : o.op = .call { callee := .value (.func k), args := xs, argTypes := ts }) (args : Array Value) (hal : xs.toList.map a.eval = args.toList) (v : Value)
    (hc : ∀ w', Below w.heap.size w w' → Calls P k args w' fun e w'' => e = .returned v ∧ Below w'.heap.size w' w'')
    (h : wpQuiet P ops (fun w' => Below w.heap.size w w') Q rest (a.put o.dst v)) : wpQuiet P ops (fun w' => Below w.heap.size w w') Q (o :: rest) a :=
  q_call hw k hk xs ts ho args (Array.toList_inj.1 (by simpa using hal)) v hc h
end

end Go.Proofs.YtblglkgmnaklbaaDoor
