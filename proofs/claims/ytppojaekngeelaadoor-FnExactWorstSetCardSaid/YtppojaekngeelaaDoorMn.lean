/- Contracts: the least of a set's items for a cost (slices.MinFunc); a function value called in a quiet region. -/
import Derived.Test.YtppojaekngeelaaDoorKa
import Derived.Test.YtppojaekngeelaaDoorHar
namespace Go.Proofs.YtppojaekngeelaaDoor
open Go.RowKit
set_option maxRecDepth 100000
set_option linter.unusedSimpArgs false
/-- The items of a set, as numbers in order. -/
theorem items_seq {O : Nat} (hO : O < 128) : (∀ j, j < (itemsL O).length → (itemsL O)[j]?.getD 0 = (nth (itemsL O) j : Int) ∧ nth (itemsL O) j < 7 ∧ O.testBit (nth (itemsL O) j) = true) ∧
    (∀ i j, i < j → j < (itemsL O).length → nth (itemsL O) i < nth (itemsL O) j) ∧ ∀ b, O.testBit b = true → ∃ j, j < (itemsL O).length ∧ nth (itemsL O) j = b := by
  have hl : (itemsL O).length = (itemsN O).length := by simp [itemsL]
  have e : ∀ j, j < (itemsL O).length → (itemsL O)[j]?.getD 0 = ((itemsN O)[j]?.getD 0 : Nat) ∧ nth (itemsL O) j = (itemsN O)[j]?.getD 0 := by
    intro j hj
    unfold nth itemsL
    rw [List.getElem?_map, List.getElem?_eq_getElem (by omega)]
    simp
  have hp : List.Pairwise (· < ·) (itemsN O) := List.Pairwise.filter _ List.pairwise_lt_range
  have hm : ∀ j, (h : j < (itemsN O).length) → (itemsN O)[j] < 7 ∧ O.testBit (itemsN O)[j] = true := by
    intro j h
    have := List.getElem_mem h
    unfold itemsN at this
    rw [List.mem_filter, List.mem_range] at this
    exact this
  refine ⟨fun j hj => ?_, fun i j hij hj => ?_, fun b hb => ?_⟩
  · rw [(e j hj).1, (e j hj).2]
    refine ⟨rfl, ?_⟩
    rw [List.getElem?_eq_getElem (by omega)]
    exact hm j (by omega)
  · rw [(e i (by omega)).2, (e j hj).2, List.getElem?_eq_getElem (by omega), List.getElem?_eq_getElem (by omega)]
    exact List.pairwise_iff_getElem.1 hp i j (by omega) (by omega) hij
  · have h7 : b < 7 := bit_ltK (n := 7) hO hb
    have hmem : b ∈ itemsN O := by
      unfold itemsN
      rw [List.mem_filter]
      exact ⟨List.mem_range.2 h7, hb⟩
    obtain ⟨j, hj, hjb⟩ := List.mem_iff_getElem.1 hmem
    refine ⟨j, by omega, ?_⟩
    rw [(e j (by omega)).2, List.getElem?_eq_getElem hj]
    exact hjb
attribute [local irreducible] p2 low memB risB itemsL
/-- Of the first i items, this one is the least one of least cost. -/
def LeastOf (f : Nat → Int) (x : Nat → Nat) (i b : Nat) : Prop := ∀ j, j < i → f b ≤ f (x j) ∧ (f (x j) = f b → b ≤ x j)
/-- A function value is called, in a drawn region that only reads. -/
theorem q_callF {P : Program} {ops : Array Oper} {rest : List Oper} {o : Oper} {a : Act} {w : World} {Q : Act → Prop} (hw : Region.wanted o (yielded ops a.tmps) = true) (k : FuncId) (caps : Array Value) (hk : enters P k) (x : Operand) (xs : Array Operand) (ts : Array TypeId)
    (ho : o.op = .call { callee := .value x, args := xs, argTypes := ts }) (hx : a.eval x = .func (.func k) #[] caps) (args : Array Value) (hal : xs.toList.map a.eval = args.toList) (v : Value)
    (hc : ∀ w', Below w.heap.size w w' → Calls P k (args ++ caps) w' fun e w'' => e = .returned v ∧ Below w'.heap.size w' w'')
    (h : wpQuiet P ops (fun w' => Below w.heap.size w w') Q rest (a.put o.dst v)) : wpQuiet P ops (fun w' => Below w.heap.size w w') Q (o :: rest) a := by
  have ha : xs.map a.eval = args := Array.toList_inj.1 (by simpa using hal)
  refine BigFrame.wpQuiet_want hw fun K hK => ⟨v, fun w' hC => ?_, hK _ h⟩
  have he : execOp a.eval o = callFunc k (args ++ caps) := by
    unfold execOp
    simp only [ho, resolve, hx, ha, Deferred.ofValue, pure_bind, invoke, Array.empty_append]
  unfold Oper.quietAt
  rw [he, hk]
  exact ⟨rfl, (hc w' hC).mono fun e w'' ⟨he, hb⟩ => ⟨he, hC.trans (hb.mono hC.size)⟩⟩
end Go.Proofs.YtppojaekngeelaaDoor
