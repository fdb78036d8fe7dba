/- Contracts of the program's functions, VI: a family that is closed under unions; the family of a space. -/
import Derived.Test.YtagahoaogfogkaaImpE
import Derived.Test.YtagahoaogfogkaaEq
namespace Go.Proofs.Ytagahoaogfogkaa
open Go.RowKit
set_option maxRecDepth 100000

theorem structT : Try.prog.underlying 64 = some (.struct (Try.prog.fieldsOf 64)) := by kernel_rfl
theorem stoodT : Try.prog.stoodInHeld 64 = false := by kernel_rfl
theorem fieldsT : (Try.prog.fieldsOf 64).toList.map (fun f => (f.name == "_", f.type, f.offset)) = [(false, 3, 0), (false, 62, 1)] := by kernel_rfl
theorem undI : Try.prog.underlying 3 = some (.int .i64) := by kernel_rfl
theorem undB : Try.prog.underlying 4 = some .bool := by kernel_rfl
theorem cellsB : Try.prog.cellsOf 4 = 1 := by kernel_rfl
theorem infoB : (Try.prog.info? 4).isSome = true := by kernel_rfl
theorem rowI : (Try.prog.underlying 3).map TypeDesc.isRow = some false := by kernel_rfl
theorem guardT : Try.prog.eqGuardType Try.prog.depth 64 = false := by kernel_rfl
theorem ent_sets : enters Try.prog 94 := enters_of Try.func94 (by kernel_rfl) (by kernel_rfl)
theorem ent_unionsOf : enters Try.prog 69 := enters_of Try.func69 (by kernel_rfl) (by kernel_rfl)
theorem eqlT (w : World) (n m : Int) (F G : Nat → Bool) : (binOp .eql 64 (.agg (fam n F)) (.agg (fam m G))).run Try.prog w = .ok (.bool (n == m && allEq F G)) w :=
  run_eql_fam structT stoodT fieldsT undI arrA undB cellsB infoB sizeA w n m F G

theorem setsTo_range (F : Nat → Bool) : ∀ k, ∀ j, j < (setsTo F k).length → 0 ≤ (setsTo F k)[j]?.getD 0 ∧ (setsTo F k)[j]?.getD 0 < (k : Int)
  | 0, j, h => by simp [setsTo] at h
  | k + 1, j, h => by
    unfold setsTo at h ⊢
    split
    · rename_i hF
      rw [if_pos hF] at h
      rw [List.length_append] at h
      simp at h
      by_cases h2 : j < (setsTo F k).length
      · rw [List.getElem?_append_left h2]
        have := setsTo_range F k j h2
        omega
      · rw [List.getElem?_append_right (by omega), show j - (setsTo F k).length = 0 by omega]
        simp; omega
    · rename_i hF
      rw [if_neg hF] at h
      have := setsTo_range F k j h
      omega

def closedB (F : Nat → Bool) : Bool := allEq F (unionsF (setsTo F 128))

set_option maxHeartbeats 800000 in
theorem isClosed_c (n : Int) (F : Nat → Bool) (w : World) :
    Calls Try.prog 93 #[.agg (fam n F)] w fun e w' => e = .returned (.bool (closedB F)) ∧ Below w.heap.size w w' := by
  have hb0 : Below w.heap.size w (w.alloc (.cells (fam n F) 64)) := (Below.refl _ _).alloc (Nat.le_refl _) _
  have hf0 : ∀ w', Below (w.heap.size + 1) (w.alloc (.cells (fam n F) 64)) w' → famAt 64 w' w.heap.size n F := fun w' h => (famAt.new _ _ _ _).below h (by omega)
  go_enter Try.func93, Try.ntmps93
  go_wp2
  refine wp_region_held (S := Below (w.heap.size + 1) (w.alloc (.cells (fam n F) 64))) (by kernel_rfl) ?_
  have hS : Below (w.heap.size + 1) (w.alloc (.cells (fam n F) 64)) { (w.alloc (.cells (fam n F) 64)) with drawn := (w.alloc (.cells (fam n F) 64)).drawn + 1 } := (Below.refl _ _).drew
  refine wpAnyH_take (i := 0) rfl (by kernel_rfl) (by kernel_rfl) (by kernel_rfl) (fun _ _ _ h => h) (yields_load_fam rowT sizeT rfl (.tmp _) rfl _ rfl n F hf0) hS ?_
  refine wpAnyH_take (i := 3) rfl (by kernel_rfl) (by kernel_rfl) (by kernel_rfl) (fun _ _ _ h => h) (yields_load_fam rowT sizeT rfl (.tmp _) rfl _ rfl n F hf0) hS ?_
  refine wpAnyH_take (i := 1) (v := .pointer (some ⟨w.heap.size, 0, none⟩)) rfl (by kernel_rfl) (by kernel_rfl) (by kernel_rfl) (fun _ _ _ h => h) (.inl ⟨rfl, fun w' _ => by go_simp⟩) hS ?_
  refine wpAnyH_take (i := 2) rfl (by kernel_rfl) (by kernel_rfl) (by kernel_rfl) (fun _ _ _ h => h) (yields_load_cell rowI rfl (.tmp _) rfl ⟨w.heap.size, 0, none⟩ rfl (.int .i64 n) (fun w' h => (hf0 w' h).get0)) hS ?_
  refine anyH_call (i := 4) (by kernel_rfl) rfl rfl 94 ent_sets _ _ rfl #[.agg (fam n F)] rfl (sets_c n F _) ?_
  rintro e w1 ⟨v, rfl, hown, hb1⟩
  have hS1 := hS.trans (hb1.mono (by simp))
  refine ⟨v, rfl, hS1, ?_⟩
  refine anyH_call (i := 5) (by kernel_rfl) rfl rfl 69 ent_unionsOf _ _ rfl #[.int .i64 n, v] rfl (unionsOf_c n v _ w1 hown.ints (fun j hj => setsTo_range F 128 j hj) (by have := setsTo_len F 128; omega)) ?_
  rintro e w2 ⟨rfl, hb2⟩
  have hsz := hb1.size
  simp at hsz
  have hS2 := hS1.trans (hb2.mono (by omega))
  refine ⟨_, rfl, hS2, ?_⟩
  refine anyH_op (i := 6) (by kernel_rfl) rfl rfl (.bool (closedB F)) w2 ?hq hS2 ?_
  case hq =>
    refine run_op_eql guardT (.tmp _) (.tmp _) rfl rfl rfl ((eqlT w2 n n F _).trans ?_)
    simp [closedB]
  refine anyH_op (i := 7) (by kernel_rfl) rfl rfl (.bool (closedB F)) w2 ?hq2 hS2 ?_
  case hq2 => rfl
  refine wpAnyH_done (by kernel_rfl) ?_ _
  show Exit.then _ _ Exit.normal { tmps := #[.agg (fam n F), .pointer (some ⟨w.heap.size, 0, none⟩), .bool (closedB F), .agg (fam n F), .pointer (some ⟨w.heap.size, 0, none⟩), .int .i64 n, .agg (fam n F), v, .agg (fam n (unionsF (setsTo F 128))), .bool (closedB F)], defers := [] } w2
  go_wp2
  go_ret
  exact ⟨rfl, hb0.trans (hS2.mono (by omega))⟩
end Go.Proofs.Ytagahoaogfogkaa
