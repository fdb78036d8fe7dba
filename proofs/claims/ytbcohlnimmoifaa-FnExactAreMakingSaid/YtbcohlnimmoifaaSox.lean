/- Contracts: SpaceOfWords, the specification's. -/
import Derived.Test.YtbcohlnimmoifaaSow
import Derived.Test.YtbcohlnimmoifaaLib
namespace Go.Proofs.Ytbcohlnimmoifaa
open Go.RowKit
set_option maxRecDepth 100000
section
variable {P : Program}
theorem exec_at0 {t I : TypeId} (ht : P.underlying t = some (.slice I)) {o : Oper} {a : Act} (x y : Operand) (ho : o.op = .indexAddr t x y)
    (b of c n : Nat) (hx : a.eval x = .slice (some ⟨b, of, none⟩) n c) (hy : a.eval y = .int .i64 0) (hn : 0 < n) (hI : (P.info? I).map (·.size) = some 1) (w : World) : (execOp a.eval o).run P w = .ok (.value (.pointer (some ⟨b, of, none⟩))) w := by
  have he : P.underlying t = some (.slice (P.elem t)) := by
    rw [ht]; simp [Program.elem, ht]
  have hE : P.elem t = I := by simp [Program.elem, ht]
  have hs : (sizeOf I).run P w = .ok 1 w := by
    cases hq : P.info? I with
    | none => simp [hq] at hI
    | some j =>
      have : j.size = 1 := by simpa [hq] using hI
      simp [sizeOf, typeInfo, hq, this]
  have hr : (Instr.indexAt t (.slice (some ⟨b, of, none⟩) n c) (.int .i64 0)).run P w = .ok (.pointer (some ⟨b, of, none⟩)) w := by
    rw [run_indexAt_slice (h := he), if_pos (by omega), hE, hs]
    simp [Addr.add]
  unfold execOp
  simp only [ho, hx, hy, Sem.run_bind, Sem.run_pure, hr, Result.andThen_ok]
theorem exec_len0 {t I : TypeId} (ht : P.underlying t = some (.slice I)) {o : Oper} {a : Act} (x : Operand) (ho : o.op = .call { callee := .builtin .len, args := #[x], argTypes := #[t] })
    (p : Option Addr) (n c : Nat) (hx : a.eval x = .slice p n c) (w : World) : (execOp a.eval o).run P w = .ok (.value (.int .i64 (n : Int))) w := by
  have he : P.underlying t = some (.slice (P.elem t)) := by
    rw [ht]; simp [Program.elem, ht]
  have hr : (Builtin.len_ #[t] o.type #[.slice p n c]).run P w = .ok (.int .i64 (n : Int)) w := by
    rw [run_len_slice (h := he)]
    simp [goInt]
  unfold execOp
  simp only [ho, resolve, invoke, Sem.run_bind, Sem.run_pure, Result.andThen_ok, List.map_toArray, List.map_cons, List.map_nil, hx, BigFrame.builtin_len, hr]
end
theorem ent_spUnionsW : enters Try.prog 31 := enters_of Try.func31 (by kernel_rfl) (by kernel_rfl)
theorem rowSS : (Try.prog.underlying 22).map TypeDesc.isRow = some false := by kernel_rfl
theorem swM_rg (L : List (List Int)) (k : Nat) : ∀ j, j < (setsTo (swM L k) 128).length → nth (setsTo (swM L k) 128) j < 128 ∧ (setsTo (swM L k) 128)[j]?.getD 0 = (nth (setsTo (swM L k) 128) j : Int) := fun j hj => by
  have := setsTo_range (swM L k) 128 j hj
  unfold nth; omega
attribute [local irreducible] p2 low memB risB
end Go.Proofs.Ytbcohlnimmoifaa
