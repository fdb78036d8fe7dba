/- Contracts: hulls, the program's. -/
import Derived.Test.YtcokdhmccokkiaaHu
namespace Go.Proofs.Ytcokdhmccokkiaa
open Go.RowKit
set_option maxRecDepth 100000
attribute [local irreducible] p2 low memB risB
theorem ent_full : enters Try.prog 67 := enters_of Try.func67 (by kernel_rfl) (by kernel_rfl)
theorem ent_greatestWithin : enters Try.prog 112 := enters_of Try.func112 (by kernel_rfl) (by kernel_rfl)
theorem q_below {P : Program} {ops : Array Oper} {rest : List Oper} {o : Oper} {a : Act} {Q : Act → Prop} {w : World} (hw : Region.wanted o (yielded ops a.tmps) = true) (k : FuncId) (hk : enters P k) (xs : Array Operand) (ts : Array TypeId)
    (ho : o.op = .call { callee := .value (.func k), args := xs, argTypes := ts }) (args : Array Value) (hal : xs.toList.map a.eval = args.toList) (v : Value)
    (hc : ∀ w', Below w.heap.size w w' → Calls P k args w' fun e w'' => e = .returned v ∧ Below w'.heap.size w' w'')
    (h : wpQuiet P ops (fun w' => Below w.heap.size w w') Q rest (a.put o.dst v)) : wpQuiet P ops (fun w' => Below w.heap.size w w') Q (o :: rest) a :=
  q_call hw k hk xs ts ho args (Array.toList_inj.1 (by simpa using hal)) v hc h

def hullOf (F : Nat → Bool) (n s : Nat) : Nat := andNot (low n) (withinOf F n (andNot (low n) s))

set_option maxHeartbeats 600000 in
theorem hull_c (m : Nat) (F : Nat → Bool) (s : Nat) (w : World) (hm7 : m ≤ 7) :
    Calls Try.prog 109 #[.agg (fam (m : Int) F), .int .i64 (s : Int)] w fun e w' => e = .returned (.int .i64 (hullOf F m s : Int)) ∧ Below w.heap.size w w' := by
  have hlo := low_lt m hm7
  have han := i64_andNot (low m) s (by omega)
  have han2 := i64_andNot (low m) (withinOf F m (andNot (low m) s)) (by omega)
  have hf : ∀ w', Below (w.alloc (.cells (fam (m : Int) F) 58)).heap.size (w.alloc (.cells (fam (m : Int) F) 58)) w' → famAt 58 w' w.heap.size (m : Int) F := fun w' h => (famAt.new _ _ _ _).below h (by simp)
  have HF := hide hf
  clear hf
  go_enter Try.func109, Try.ntmps109
  go_wp2_with fail
  refine wp_region_old (by kernel_rfl) (by kernel_rfl) ?_
  refine q_load_fam rowT sizeT rfl (.tmp _) rfl _ rfl (m : Int) F HF.out ?_
  simp only [Act.put, List.setIfInBounds_toArray, List.set_cons_zero, List.set_cons_succ]
  refine q_below rfl 67 ent_full _ _ rfl #[.agg (fam (m : Int) F)] rfl (.int .i64 (low m : Int)) (fun w' _ => by have := full_c (m : Int) F w' (by omega) (by omega); rw [Int.toNat_natCast] at this; exact this) ?_
  simp only [Act.put, List.setIfInBounds_toArray, List.set_cons_zero, List.set_cons_succ]
  refine q_load_fam rowT sizeT rfl (.tmp _) rfl _ rfl (m : Int) F HF.out ?_
  simp only [Act.put, List.setIfInBounds_toArray, List.set_cons_zero, List.set_cons_succ]
  refine q_load_fam rowT sizeT rfl (.tmp _) rfl _ rfl (m : Int) F HF.out ?_
  simp only [Act.put, List.setIfInBounds_toArray, List.set_cons_zero, List.set_cons_succ]
  refine q_below rfl 67 ent_full _ _ rfl #[.agg (fam (m : Int) F)] rfl (.int .i64 (low m : Int)) (fun w' _ => by have := full_c (m : Int) F w' (by omega) (by omega); rw [Int.toNat_natCast] at this; exact this) ?_
  simp only [Act.put, List.setIfInBounds_toArray, List.set_cons_zero, List.set_cons_succ]
  go_big_quiet_step ((first | exact fun _ => rfl | exact fun _ => ⟨rfl, rfl⟩))
  go_big_quiet_step ((first | exact fun _ => rfl | exact fun _ => ⟨rfl, rfl⟩))
  refine q_below rfl 112 ent_greatestWithin _ _ rfl #[.agg (fam (m : Int) F), .int .i64 ((andNot (low m) s : Nat) : Int)] rfl (.int .i64 (withinOf F m (andNot (low m) s) : Int)) (fun w' _ => by have := greatestWithin_c (m : Int) F ((andNot (low m) s : Nat) : Int) w' (by omega) (by omega) (by omega); rw [Int.toNat_natCast, Int.toNat_natCast] at this; exact this) ?_
  simp only [Act.put, List.setIfInBounds_toArray, List.set_cons_zero, List.set_cons_succ]
  go_big_quiet_step ((first | exact fun _ => rfl | exact fun _ => ⟨rfl, rfl⟩))
  go_big_quiet_step ((first | exact fun _ => rfl | exact fun _ => ⟨rfl, rfl⟩))
  refine wpQuiet_nil ?_
  intro w2 hb2
  go_wp2
  go_ret
  exact ⟨rfl, ((Below.refl _ _).alloc (Nat.le_refl _) _).trans (hb2.mono (by simp))⟩

end Go.Proofs.Ytcokdhmccokkiaa
