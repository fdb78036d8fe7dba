/- Contracts: LongestPath, CanLearn: the specification's and the program's. -/
import Derived.Test.YtijgngnjhmkhaaaPj
namespace Go.Proofs.Ytijgngnjhmkhaaa
open Go.RowKit
set_option maxRecDepth 100000
theorem clB_no1 {n : Int} {l : List Int} {x i : Int} (h : okOne n l x = false) : clB n l x i = false := by simp [clB, h]
theorem clR_no {n : Int} {l : List Int} {x i : Int} (h : clB n l x i = false) : clR n l x i = false := by simp [clR, h]
theorem lpR_no {n : Int} {l : List Int} (h : okSp n l = false) : lpR n l = 0 := by simp [lpR, poL_no h, mostTo]
theorem or_bitP (s i : Nat) (h : s.testBit i = false) : (s ||| p2 i) ≠ s := by
  intro e
  have := congrArg (fun z => z.testBit i) e
  simp [p2_bit, h] at this
theorem outer_has (F : Nat → Bool) (n s i : Nat) (hi : i < n) (h : s.testBit i = false) : (outerOf F n s).testBit i = F (s ||| p2 i) := by
  unfold outerOf
  rw [itemsOf_bit]
  have := or_bitP s i h
  simp [hi, this]
/-- A slice's length, at an operation. -/
theorem run_op_len3 {P : Program} {t I : TypeId} (ht : P.underlying t = some (.slice I)) {o : Oper} (x : Operand) (ho : o.op = .call { callee := .builtin .len, args := #[x], argTypes := #[t] }) {a : Act} (b : Option Addr) (n c : Nat) (hx : a.eval x = .slice b n c) {w : World} :
    (execOp a.eval o).run P w = .ok (.value (.int .i64 (n : Int))) w := by
  have he : P.underlying t = some (.slice (P.elem t)) := by
    rw [ht]; simp [Program.elem, ht]
  have hr : (Builtin.len_ #[t] o.type #[.slice b n c]).run P w = .ok (.int .i64 (n : Int)) w := by
    rw [run_len_slice (h := he)]
    simp [goInt]
  unfold execOp
  simp only [ho, resolve, invoke, Sem.run_bind, Sem.run_pure, Result.andThen_ok, List.map_toArray, List.map_cons, List.map_nil, hx, BigFrame.builtin_len, hr]
attribute [local irreducible] p2 low memB risB
set_option maxHeartbeats 1000000 in
theorem l1Most_c (a b : Nat) (w : World) : Calls Try.prog 65 #[.int .i64 (a : Int), .int .i64 (b : Int)] w fun e w' => e = .returned (.int .i64 ((max a b : Nat) : Int)) ∧ w = w' := by
  by_cases h : (a : Int) < (b : Int)
  · by_cases h2 : (b : Int) < (a : Int)
    · omega
    · go_enter Try.func65, Try.ntmps65
      go_wp2
      go_ret
      exact ⟨ret_i (by omega), rfl⟩
  · by_cases h2 : (b : Int) < (a : Int)
    · go_enter Try.func65, Try.ntmps65
      go_wp2
      go_ret
      exact ⟨ret_i (by omega), rfl⟩
    · have : a = b := by omega
      subst this
      go_enter Try.func65, Try.ntmps65
      go_wp2
      go_ret
      exact ⟨ret_i (by omega), rfl⟩

end Go.Proofs.Ytijgngnjhmkhaaa
