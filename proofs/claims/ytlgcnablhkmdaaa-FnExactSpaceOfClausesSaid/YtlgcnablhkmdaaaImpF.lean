/- Contracts of the program's functions, VI: a family that is closed under unions; the family of a space. -/
import Derived.Test.YtlgcnablhkmdaaaImpE
import Derived.Test.YtlgcnablhkmdaaaEq
namespace Go.Proofs.Ytlgcnablhkmdaaa
open Go.RowKit
set_option maxRecDepth 100000

theorem structT : Try.prog.underlying 46 = some (.struct (Try.prog.fieldsOf 46)) := by kernel_rfl
theorem stoodT : Try.prog.stoodInHeld 46 = false := by kernel_rfl
theorem fieldsT : (Try.prog.fieldsOf 46).toList.map (fun f => (f.name == "_", f.type, f.offset)) = [(false, 3, 0), (false, 44, 1)] := by kernel_rfl
theorem undI : Try.prog.underlying 3 = some (.int .i64) := by kernel_rfl
theorem undB : Try.prog.underlying 4 = some .bool := by kernel_rfl
theorem cellsB : Try.prog.cellsOf 4 = 1 := by kernel_rfl
theorem infoB : (Try.prog.info? 4).isSome = true := by kernel_rfl
theorem rowI : (Try.prog.underlying 3).map TypeDesc.isRow = some false := by kernel_rfl
theorem guardT : Try.prog.eqGuardType Try.prog.depth 46 = false := by kernel_rfl
theorem ent_sets : enters Try.prog 38 := enters_of Try.func38 (by kernel_rfl) (by kernel_rfl)
theorem eqlT (w : World) (n m : Int) (F G : Nat → Bool) : (binOp .eql 46 (.agg (fam n F)) (.agg (fam m G))).run Try.prog w = .ok (.bool (n == m && allEq F G)) w :=
  run_eql_fam structT stoodT fieldsT undI arrA undB cellsB infoB sizeA w n m F G

theorem setsTo_range (F : Nat → Bool) : ∀ k, ∀ j, j < (setsTo F k).length → 0 ≤ (setsTo F k)[j]?.getD 0 ∧ (setsTo F k)[j]?.getD 0 < (k : Int)
  | 0, j, h => by simp [setsTo] at h
  | k + 1, j, h => by
    unfold setsTo at h ⊢
    split
    · rename_i hF
      rw [if_pos hF] at h
      rw [List.length_append] at h
      simp at h
      by_cases h2 : j < (setsTo F k).length
      · rw [List.getElem?_append_left h2]
        have := setsTo_range F k j h2
        omega
      · rw [List.getElem?_append_right (by omega), show j - (setsTo F k).length = 0 by omega]
        simp; omega
    · rename_i hF
      rw [if_neg hF] at h
      have := setsTo_range F k j h
      omega

def closedB (F : Nat → Bool) : Bool := allEq F (unionsF (setsTo F 128))

end Go.Proofs.Ytlgcnablhkmdaaa
