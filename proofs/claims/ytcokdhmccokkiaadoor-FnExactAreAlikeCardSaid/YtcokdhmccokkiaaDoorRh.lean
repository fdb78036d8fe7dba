/- Contracts of the laws' functions for slices of slices: comparison, marks, whether they are held. -/
import Derived.Test.YtcokdhmccokkiaaDoorRo
import Derived.Test.YtcokdhmccokkiaaDoorHar
namespace Go.Proofs.YtcokdhmccokkiaaDoor
open Go.RowKit
set_option maxRecDepth 100000
section
variable {P : Program} {ops : Array Oper} {rest : List Oper} {o : Oper} {a : Act} {C : World → Prop} {Q : Act → Prop}
theorem q_at2 {t I : TypeId} (ht : P.underlying t = some (.slice I)) (hI : (P.info? I).map (·.size) = some 1) (hw : Region.wanted o (yielded ops a.tmps) = true)
    (x y : Operand) (ho : o.op = .indexAddr t x y) (v : Value) (hx : a.eval x = v) (i : Int) (hy : a.eval y = .int .i64 i) (k : Nat) (hik : i = (k : Int)) (B : Nat) (L : List (List Int)) (w0 : World) (hl : rows B w0 v L) (hk : k < L.length)
    (h : ∀ (ad : Addr) (u : Value), w0.cell? ad = some u → ad.block < B → ints B w0 u (L[k]?.getD []) → wpQuiet P ops C Q rest (a.put o.dst (.pointer (some ad)))) : wpQuiet P ops C Q (o :: rest) a := by
  subst hik
  rcases hl with ⟨rfl, _⟩ | ⟨b, of, c, rfl, h2, h3, h4⟩
  · simp at hk
  have he : P.underlying t = some (.slice (P.elem t)) := by
    rw [ht]; simp [Program.elem, ht]
  have hE : P.elem t = I := by simp [Program.elem, ht]
  obtain ⟨u, hu, hi⟩ := h4 k hk
  refine BigFrame.wpQuiet_want hw fun K hK => ⟨_, fun w hC => ?_, hK _ (h ⟨b, of + k, none⟩ u hu h2 hi)⟩
  have hr : (Instr.indexAt t (.slice (some ⟨b, of, none⟩) L.length c) (.int .i64 (k : Int))).run P w = .ok (.pointer (some ⟨b, of + k, none⟩)) w := by
    rw [run_indexAt_slice (h := he), if_pos (by omega), hE, run_sizeOf' hI]
    simp [Addr.add]
  unfold Oper.quietAt execOp
  simp only [ho, hx, hy, Sem.run_bind, Sem.run_pure, hr, Result.andThen_ok]
  exact ⟨rfl, rfl⟩
end
theorem q_callB {P : Program} {ops : Array Oper} {rest : List Oper} {o : Oper} {a : Act} {w : World} {Q : Act → Prop} (hw : Region.wanted o (yielded ops a.tmps) = true) (k : FuncId) (hk : enters P k) (xs : Array Operand) (ts : Array TypeId)
    (ho : o.op = .call { callee := .value (.func k), args := xs, argTypes := ts }) (args : Array Value) (hal : xs.toList.map a.eval = args.toList) (v : Value)
    (hc : ∀ w', Below w.heap.size w w' → Calls P k args w' fun e w'' => e = .returned v ∧ Below w'.heap.size w' w'')
    (h : wpQuiet P ops (fun w' => Below w.heap.size w w') Q rest (a.put o.dst v)) : wpQuiet P ops (fun w' => Below w.heap.size w w') Q (o :: rest) a :=
  q_call hw k hk xs ts ho args (Array.toList_inj.1 (by simpa using hal)) v hc h
theorem sliceT2 : Tryd.prog.underlying 64 = some (.slice 25) := by kernel_rfl
theorem rowI2 : (Tryd.prog.info? 25).map (fun i => (i.zero, i.size, i.bytes)) = some (some (.slice none 0 0), 1, 24) := by kernel_rfl
theorem rowS2 : (Tryd.prog.info? 25).map (·.size) = some 1 := by kernel_rfl
theorem ent_eqIntS : enters Tryd.prog 24 := enters_of Tryd.func24 (by kernel_rfl) (by kernel_rfl)
def small2 (L : List (List Int)) : Prop := L.length < 2000000 ∧ tot L < 2000000
theorem small2.row {L : List (List Int)} (h : small2 L) (k : Nat) (hk : k < L.length) : (L[k]?.getD []).length < 2000000 := by
  have := row_le L k hk
  have := h.2
  omega
theorem small2_nil : small2 [] := ⟨by simp, by simp [tot, totTo]⟩
theorem totTo_le (L : List (List Int)) (c : Nat) (h : ∀ r ∈ L, r.length ≤ c) : ∀ k, k ≤ L.length → totTo L k ≤ k * c
  | 0, _ => by simp [totTo]
  | k + 1, hk => by
    have h1 := totTo_le L c h k (by omega)
    have h2 := h (L[k]) (List.getElem_mem (by omega))
    rw [totTo, Nat.add_mul, Nat.one_mul, List.getElem?_eq_getElem (by omega), Option.getD_some]
    omega
theorem small2_of (L : List (List Int)) (c : Nat) (h : ∀ r ∈ L, r.length ≤ c) (hl : L.length < 1000000) (hc : L.length * c < 1000000) : small2 L :=
  ⟨by omega, by have := totTo_le L c h L.length (Nat.le_refl _); unfold tot; omega⟩
end Go.Proofs.YtcokdhmccokkiaaDoor
