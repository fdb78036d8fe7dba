/- For the laws' walks: nets, as structs of one slice: copies, sizes, comparisons, marks. -/
import Derived.Test.YtknjiomagdfgfaaDoorHar
import Derived.ProofKit
import Derived.OpenShut
import Derived.Lib.SmallJoins
namespace Go.Proofs.YtknjiomagdfgfaaDoor
open Go.ChangeShapes Go.WideShapes Go.RowKit Go.Deep Go.WideElems Go.Maps Go.Joins
set_option maxRecDepth 100000
theorem cell1_at0 {w : World} {b : Nat} {x : Value} {T : TypeId} (h : w.heap[b]? = some (.cells #[x] T)) : w.cell? ⟨b, 0, none⟩ = some x := by rw [hp_cell h]; rfl
theorem yields_load_one {ops : Array Oper} {S : World → Prop} {a : Act} {ty : TypeId} (hT : (Tryd.prog.underlying ty).map TypeDesc.isRow = some true) (hZ : (Tryd.prog.info? ty).map (·.size) = some 1) {o : Oper} (hw : Region.wanted o (yielded ops a.tmps) = true) (x : Operand) (ho : o.op = .load ty x)
    (g : Nat) (hx : a.eval x = .pointer (some ⟨g, 0, none⟩)) (u : Value) (h0 : ∀ w, S w → w.cell? ⟨g, 0, none⟩ = some u) : YieldsIf Tryd.prog ops S o (.agg #[u]) a := by
  obtain ⟨d, hu, hd⟩ := rowTy_of hT
  exact yieldsIf_load_mid hw ty x ho g 0 hx [u] d (fun w hS j y hy => by
    match j, hy with
    | 0, hy => simp at hy; subst hy; exact h0 w hS
    | j + 1, hy => simp at hy) hu hd (by rw [hZ]; rfl)

/-- A struct of one field of one cell, by value, opened. -/
theorem open_agg1 {H : Type} {enc : TypeId × Value → H} {P : Program} {w : World} {base : Nat} {spare : Nat → Bool} {held : Bool} {r : Reach} {b0 : Nat} {t : TypeId} {f0 : Field} {v : Value} {d : DataW H} {p : List MemPlace} (hs : P.underlying t = some (.struct #[f0])) (hone : oneCellFields P #[f0] = true) (hC : P.cellsOf t = 1)
    (hv : Value.okWide P w r b0 t v) (h : DataW.Trod enc P w base spare held t v d p) :
    ∃ (v0 : Value) (y0 : DataW H × List MemPlace) (n : Nat), v = .agg #[v0] ∧ d = .agg [y0.1] ∧ p = y0.2 ∧ DataW.trod enc P w base spare held n f0.type [v0] = some y0 := by
  obtain ⟨cs, rfl, hsz⟩ := okWide_struct hs hv
  obtain ⟨c0, rfl⟩ : ∃ c0, cs = #[c0] := by
    obtain ⟨l⟩ := cs
    match l, hsz.trans hC with
    | [c0], _ => exact ⟨c0, rfl⟩
  obtain ⟨fuel, hf⟩ := h
  obtain ⟨xs, n, _, hx, _, hlen, hff⟩ := DataW.trod_struct hs hf
  match xs, hlen with
  | [y0], _ =>
    obtain ⟨o0, k0⟩ := hone_of hone 0 f0 rfl
    have h0 := hff 0 f0 rfl
    simp only [Prod.mk.injEq] at hx
    refine ⟨c0, y0, n, rfl, by simpa using hx.1, by simpa using hx.2, ?_⟩
    simpa [Value.cells, o0, k0] using h0

end Go.Proofs.YtknjiomagdfgfaaDoor
