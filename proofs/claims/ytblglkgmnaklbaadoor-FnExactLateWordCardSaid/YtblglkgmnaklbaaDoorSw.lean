/- Contracts: a word with two items exchanged, the program's and the specification's. -/
import Derived.Test.YtblglkgmnaklbaaDoorXw
import Derived.Test.YtblglkgmnaklbaaDoorHar
namespace Go.Proofs.YtblglkgmnaklbaaDoor
open Go.RowKit
set_option maxRecDepth 100000
attribute [local irreducible] p2 low memB risB
section
variable {P : Program} {ops : Array Oper} {Q : Exit → Act → World → Prop} {md : Region.Mode} {S : World → Prop} {a : Act} {w : World}
theorem wpOp_value {i : Nat} {o : Oper} (hi : ops[i]? = some o) (hw : Region.wanted o (yielded ops a.tmps) = true) (v : Value) (w' : World)
    (hrun : (execOp a.eval o).run P w = .ok (.value v) w') {K : Act → World → Prop} (h : K (a.put o.dst v) w') : wpOp P ops Q i K a w := by
  unfold wpOp
  simp only [hi, hw, if_true]
  refine .inl ?_
  unfold Oper.wp
  rw [hrun]
  exact h
/-- The address of an element of a slice that is known. -/
theorem yields_at {t I : TypeId} (ht : P.underlying t = some (.slice I)) (hI : (P.info? I).map (·.size) = some 1) {o : Oper} (hw : Region.wanted o (yielded ops a.tmps) = true) (x y : Operand) (ho : o.op = .indexAddr t x y)
    (g len c : Nat) (hx : a.eval x = .slice (some ⟨g, 0, none⟩) len c) (i : Int) (hy : a.eval y = .int .i64 i) (k : Nat) (hik : i = (k : Int)) (hk : k < len) : YieldsIf P ops S o (.pointer (some ⟨g, k, none⟩)) a := by
  refine .inl ⟨hw, fun w _ => ?_⟩
  subst hik
  have he : P.underlying t = some (.slice (P.elem t)) := by
    rw [ht]; simp [Program.elem, ht]
  have hE : P.elem t = I := by simp [Program.elem, ht]
  have hr : (Instr.indexAt t (.slice (some ⟨g, 0, none⟩) len c) (.int .i64 (k : Int))).run P w = .ok (.pointer (some ⟨g, k, none⟩)) w := by
    rw [run_indexAt_slice (h := he), if_pos (by omega), hE, run_sizeOf' hI]
    simp [Addr.add]
    intro h0; omega
  unfold execOp
  simp only [ho, hx, hy, Sem.run_bind, Sem.run_pure, hr, Result.andThen_ok]
end

def swL (l : List Int) (k : Nat) : List Int := (l.set k (l[k + 1]?.getD 0)).set (k + 1) (l[k]?.getD 0)
theorem swL_len (l : List Int) (k : Nat) : (swL l k).length = l.length := by simp [swL]

def swIn (m : List Int) (k : Int) : Bool := decide (0 ≤ k ∧ k ≤ (m.length : Int) - 2)
def swB (n : Int) (l m : List Int) (k : Int) : Bool := okWd n l m && (swIn m k && wordB (marksTo l l.length) n.toNat (swL m k.toNat))
def swR (n : Int) (l m : List Int) (k : Int) : List Int := if swB n l m k then swL m k.toNat else []
theorem swB_no1 {n : Int} {l m : List Int} {k : Int} (h : okWd n l m = false) : swB n l m k = false := by simp [swB, h]
theorem swB_no2 {n : Int} {l m : List Int} {k : Int} (h : swIn m k = false) : swB n l m k = false := by simp [swB, h]
theorem swB_eq {n : Int} {l m : List Int} {k : Int} (h : okWd n l m = true) (h2 : swIn m k = true) : swB n l m k = wordB (marksTo l l.length) n.toNat (swL m k.toNat) := by simp [swB, h, h2]
theorem swR_no {n : Int} {l m : List Int} {k : Int} (h : swB n l m k = false) : swR n l m k = [] := by simp [swR, h]
theorem swR_yes {n : Int} {l m : List Int} {k : Int} (h : swB n l m k = true) : swR n l m k = swL m k.toNat := by simp [swR, h]
theorem swR_len (n : Int) (l m : List Int) (k : Int) : (swR n l m k).length < 1000000000 := by
  cases h : okWd n l m
  · rw [swR_no (swB_no1 h)]; simp
  · unfold swR
    split
    · have h2 := okWd_sp h
      rw [okWd_yes h2] at h
      have h4 := word_short h
      have h6 := okSp_n h2
      rw [swL_len]
      omega
    · simp

end Go.Proofs.YtblglkgmnaklbaaDoor
