/- Contracts: slices.Equal. -/
import Derived.Test.YtbcohlnimmoifaaFam
namespace Go.Proofs.Ytbcohlnimmoifaa
open Go.RowKit
set_option maxRecDepth 100000
theorem list_eq_of {A B : List Int} (hl : A.length = B.length) (h : ∀ k, k < A.length → A[k]?.getD 0 = B[k]?.getD 0) : A = B := by
  apply List.ext_getElem hl
  intro i h1 h2
  have := h i h1
  rwa [List.getElem?_eq_getElem h1, List.getElem?_eq_getElem h2, Option.getD_some, Option.getD_some] at this
theorem q_valE {P : Program} {ops : Array Oper} {rest : List Oper} {o : Oper} {a : Act} {C : World → Prop} {Q : Act → Prop} (hw : Region.wanted o (yielded ops a.tmps) = true) (v : Value)
    (hrun : ∀ w', (execOp a.eval o).run P w' = .ok (.value v) w') (h : wpQuiet P ops C Q rest (a.put o.dst v)) : wpQuiet P ops C Q (o :: rest) a := by
  refine BigFrame.wpQuiet_want hw fun K hK => ⟨v, fun w' _ => ?_, hK _ h⟩
  unfold Oper.quietAt
  rw [hrun w']
  exact ⟨rfl, rfl⟩
set_option linter.unusedSimpArgs false
attribute [local irreducible] p2 low memB risB famAt own
set_option maxHeartbeats 2000000 in
theorem equalS_c (u v : Value) (A B : List Int) (w : World) (hA : ints w.heap.size w u A) (hB : ints w.heap.size w v B) (hAl : A.length < 1000000000) (_ : B.length < 1000000000) :
    Calls Try.prog 21 #[u, v] w fun e w' => e = .returned (.bool (decide (A = B))) ∧ Below w.heap.size w w' := by
  have HA := hide hA
  have HB := hide hB
  clear hA hB
  by_cases hl : A.length = B.length
  · have hlb : ((A.length : Int) != (B.length : Int)) = false := by simp [hl]
    have hl2 : (A.length : Int) = (B.length : Int) := by omega
    have HL := hide hl
    clear hl
    go_enter Try.func21, Try.ntmps21
    go_wp2_with (first
      | (refine wpList_len sliceT rfl (.tmp 6) rfl u rfl w.heap.size A HA.out ?_)
      | (refine wpList_len sliceT rfl (.tmp 8) rfl v rfl w.heap.size B HB.out ?_)
      | (refine wpList_len sliceT rfl (.tmp 11) rfl u rfl w.heap.size A HA.out ?_))
    clear hlb hl2
    go_loopw [13] (fun i wr => ∃ k : Nat, k ≤ A.length ∧ i = .int .i64 (k : Int) ∧ Hid (∀ j, j < k → A[j]?.getD 0 = B[j]?.getD 0) ∧ Hid (Below w.heap.size w wr)) (fun i _ => A.length - (intOf i).toNat)
    case atStart => exact ⟨0, Nat.zero_le _, rfl, fun j hj => absurd hj (by omega), Below.refl _ _⟩
    case round =>
      obtain ⟨k, hk, rfl, HE, HW⟩ := hrel
      by_cases hlt : k < A.length
      · have hlt2 : k < B.length := by rw [← HL.out]; exact hlt
        have HAW := hide (HA.out.below HW.out (Nat.le_refl _))
        have HBW := hide (HB.out.below HW.out (Nat.le_refl _))
        have hsz := HW.out.size
        by_cases he : A[k]?.getD 0 = B[k]?.getD 0
        · have HEQ := hide he
          have hne : (A[k]?.getD 0 != B[k]?.getD 0) = false := by simp [he]
          clear he
          generalize hxx : A[k]?.getD 0 = x at *
          generalize hyy : B[k]?.getD 0 = y at *
          have HXX := hide hxx
          have HYY := hide hyy
          clear hxx hyy
          go_wp2_with fail
          refine wp_region_old (by kernel_rfl) (by kernel_rfl) ?_
          go_big_quiet_step ((first | exact fun _ => rfl | exact fun _ => ⟨rfl, rfl⟩))
          go_big_quiet_step ((first | exact fun _ => rfl | exact fun _ => ⟨rfl, rfl⟩))
          refine q_at sliceT intS rfl (.tmp _) (.tmp _) rfl _ rfl _ rfl k rfl w.heap.size A wr HAW.out hlt ?_
          intro ad1 hcell1 hblk1
          rw [HXX.out] at hcell1
          simp only [Act.put, List.setIfInBounds_toArray, List.set_cons_zero, List.set_cons_succ]
          refine q_load_cell rowI rfl (.tmp _) rfl ad1 rfl (.int .i64 x) (fun w' h => (h.cell (p := ad1) (by omega)).trans hcell1) ?_
          simp only [Act.put, List.setIfInBounds_toArray, List.set_cons_zero, List.set_cons_succ]
          go_big_quiet_step ((first | exact fun _ => rfl | exact fun _ => ⟨rfl, rfl⟩))
          go_big_quiet_step ((first | exact fun _ => rfl | exact fun _ => ⟨rfl, rfl⟩))
          refine q_at sliceT intS rfl (.tmp _) (.tmp _) rfl _ rfl _ rfl k rfl w.heap.size B wr HBW.out hlt2 ?_
          intro ad2 hcell2 hblk2
          rw [HYY.out] at hcell2
          simp only [Act.put, List.setIfInBounds_toArray, List.set_cons_zero, List.set_cons_succ]
          refine q_load_cell rowI rfl (.tmp _) rfl ad2 rfl (.int .i64 y) (fun w' h => (h.cell (p := ad2) (by omega)).trans hcell2) ?_
          simp only [Act.put, List.setIfInBounds_toArray, List.set_cons_zero, List.set_cons_succ]
          refine q_valE rfl (.bool (x != y)) (fun w' => by simp [execOp, go_sem, bne]) ?_
          simp only [Act.put, List.setIfInBounds_toArray, List.set_cons_zero, List.set_cons_succ]
          rw [hne]
          refine wpQuiet_nil ?_
          intro w3 hb3
          clear hcell1 hcell2 hblk1 hblk2
          have HW3 := hide (HW.out.trans (hb3.mono hsz))
          clear hb3
          go_wp2
          go_roundw
          case rel => exact ⟨k + 1, by omega, by go_num, hide (fun j hj => by rcases Nat.lt_or_ge j k with h | h; exact HE.out j h; rw [show j = k by omega, HXX.out, HYY.out, HEQ.out]), HW3⟩
          case measure => (simp [intOf] <;> omega)
        · have HNE := hide (show decide (A = B) = false from decide_eq_false fun h => he (by rw [h]))
          have hne : (A[k]?.getD 0 != B[k]?.getD 0) = true := by simp [he]
          clear he
          generalize hxx : A[k]?.getD 0 = x at *
          generalize hyy : B[k]?.getD 0 = y at *
          have HXX := hide hxx
          have HYY := hide hyy
          clear hxx hyy
          go_wp2_with fail
          refine wp_region_old (by kernel_rfl) (by kernel_rfl) ?_
          go_big_quiet_step ((first | exact fun _ => rfl | exact fun _ => ⟨rfl, rfl⟩))
          go_big_quiet_step ((first | exact fun _ => rfl | exact fun _ => ⟨rfl, rfl⟩))
          refine q_at sliceT intS rfl (.tmp _) (.tmp _) rfl _ rfl _ rfl k rfl w.heap.size A wr HAW.out hlt ?_
          intro ad1 hcell1 hblk1
          rw [HXX.out] at hcell1
          simp only [Act.put, List.setIfInBounds_toArray, List.set_cons_zero, List.set_cons_succ]
          refine q_load_cell rowI rfl (.tmp _) rfl ad1 rfl (.int .i64 x) (fun w' h => (h.cell (p := ad1) (by omega)).trans hcell1) ?_
          simp only [Act.put, List.setIfInBounds_toArray, List.set_cons_zero, List.set_cons_succ]
          go_big_quiet_step ((first | exact fun _ => rfl | exact fun _ => ⟨rfl, rfl⟩))
          go_big_quiet_step ((first | exact fun _ => rfl | exact fun _ => ⟨rfl, rfl⟩))
          refine q_at sliceT intS rfl (.tmp _) (.tmp _) rfl _ rfl _ rfl k rfl w.heap.size B wr HBW.out hlt2 ?_
          intro ad2 hcell2 hblk2
          rw [HYY.out] at hcell2
          simp only [Act.put, List.setIfInBounds_toArray, List.set_cons_zero, List.set_cons_succ]
          refine q_load_cell rowI rfl (.tmp _) rfl ad2 rfl (.int .i64 y) (fun w' h => (h.cell (p := ad2) (by omega)).trans hcell2) ?_
          simp only [Act.put, List.setIfInBounds_toArray, List.set_cons_zero, List.set_cons_succ]
          refine q_valE rfl (.bool (x != y)) (fun w' => by simp [execOp, go_sem, bne]) ?_
          simp only [Act.put, List.setIfInBounds_toArray, List.set_cons_zero, List.set_cons_succ]
          rw [hne]
          refine wpQuiet_nil ?_
          intro w3 hb3
          clear hcell1 hcell2 hblk1 hblk2
          have HW3 := hide (HW.out.trans (hb3.mono hsz))
          clear hb3
          go_wp2
          go_ret
          exact ⟨ret_b (by rw [HNE.out]), HW3.out⟩
      · have HEQ := hide (show decide (A = B) = true from decide_eq_true (list_eq_of HL.out fun j hj => HE.out j (by omega)))
        have hlt' : ¬ ((k : Int) < (B.length : Int)) := by have := HL.out; omega
        go_wp2
        go_ret
        exact ⟨ret_b (by rw [HEQ.out]), HW.out⟩
  · have HNE := hide (show decide (A = B) = false from decide_eq_false fun h => hl (by rw [h]))
    have hlb : ((A.length : Int) != (B.length : Int)) = true := by simp; omega
    have hl2 : ¬ (A.length : Int) = (B.length : Int) := by omega
    clear hl
    go_enter Try.func21, Try.ntmps21
    go_wp2_with (first
      | (refine wpList_len sliceT rfl (.tmp 6) rfl u rfl w.heap.size A HA.out ?_)
      | (refine wpList_len sliceT rfl (.tmp 8) rfl v rfl w.heap.size B HB.out ?_))
    go_ret
    exact ⟨ret_b (by rw [HNE.out]), Below.refl _ _⟩
end Go.Proofs.Ytbcohlnimmoifaa
