/- IsSpace: the program's function, the specification's, and the law that holds one against the other. -/
import Derived.Test.YtblglkgmnaklbaaDoorLawA
namespace Go.Proofs.YtblglkgmnaklbaaDoor
open Go.RowKit
set_option maxRecDepth 100000

theorem rowSp : (Tryd.prog.underlying 29).map TypeDesc.isRow = some true := by kernel_rfl
theorem rowSl : (Tryd.prog.underlying 24).map TypeDesc.isRow = some true := by kernel_rfl
theorem sizeSp : (Tryd.prog.info? 29).map (·.size) = some 2 := by kernel_rfl
theorem sizeSl : (Tryd.prog.info? 24).map (·.size) = some 2 := by kernel_rfl
theorem ent_toSpace : enters Tryd.prog 9 := enters_of Tryd.func9 (by kernel_rfl) (by kernel_rfl)
theorem ent_eqSpace : enters Tryd.prog 12 := enters_of Tryd.func12 (by kernel_rfl) (by kernel_rfl)

theorem yields_load_two {ops : Array Oper} {S : World → Prop} {a : Act} {ty : TypeId} (hT : (Tryd.prog.underlying ty).map TypeDesc.isRow = some true) (hZ : (Tryd.prog.info? ty).map (·.size) = some 2) {o : Oper} (hw : Region.wanted o (yielded ops a.tmps) = true) (x : Operand) (ho : o.op = .load ty x)
    (g : Nat) (hx : a.eval x = .pointer (some ⟨g, 0, none⟩)) (u v : Value) (h0 : ∀ w, S w → w.cell? ⟨g, 0, none⟩ = some u) (h1 : ∀ w, S w → w.cell? ⟨g, 1, none⟩ = some v) : YieldsIf Tryd.prog ops S o (.agg #[u, v]) a := by
  obtain ⟨d, hu, hd⟩ := rowTy_of hT
  exact yieldsIf_load_mid hw ty x ho g 0 hx [u, v] d (fun w hS j y hy => by
    match j, hy with
    | 0, hy => simp at hy; subst hy; exact h0 w hS
    | 1, hy => simp at hy; subst hy; exact h1 w hS
    | j + 2, hy => simp at hy) hu hd (by rw [hZ]; rfl)

end Go.Proofs.YtblglkgmnaklbaaDoor
