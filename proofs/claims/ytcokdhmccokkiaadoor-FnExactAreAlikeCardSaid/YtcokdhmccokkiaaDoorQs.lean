/- Contract: whether two lists are the same, the specification's. -/
import Derived.Test.YtcokdhmccokkiaaDoorRh
namespace Go.Proofs.YtcokdhmccokkiaaDoor
open Go.RowKit
set_option maxRecDepth 100000
set_option maxHeartbeats 400000 in
theorem l1Same_c (va vb : Value) (la lb : List Int) (w : World) (ha : ints w.heap.size w va la) (hb : ints w.heap.size w vb lb) (hla : la.length < 1000000000) :
    Calls Tryd.prog 29 #[va, vb] w fun e w' => e = .returned (.bool (decide (la = lb))) ∧ Below w.heap.size w w' := by
  have HA := hide ha
  have HB := hide hb
  clear ha hb
  by_cases hll : la.length = lb.length
  · have hd : ((la.length : Int) != (lb.length : Int)) = false := by rw [hll]; simp
    have hd' : (la.length != lb.length) = false := by rw [hll]; simp
    have HLL := hide hll
    clear hll
    go_enter Tryd.func29, Tryd.ntmps29
    go_wp2_with (first
      | (refine wpList_len sliceT rfl (.tmp 6) rfl va rfl w.heap.size la HA.out ?_)
      | (refine wpList_len sliceT rfl (.tmp 8) rfl vb rfl w.heap.size lb HB.out ?_)
      | (refine wpList_len sliceT rfl (.tmp 11) rfl va rfl w.heap.size la HA.out ?_))
    go_loopw [13] (fun i wr => ∃ k : Nat, k ≤ la.length ∧ i = .int .i64 k ∧ Below w.heap.size w wr ∧ Hid (∀ j, j < k → la[j]?.getD 0 = lb[j]?.getD 0)) (fun i _ => la.length - (intOf i).toNat)
    case atStart => exact ⟨0, Nat.zero_le _, rfl, Below.refl _ _, fun j hj => by omega⟩
    case round =>
      obtain ⟨k, hk, rfl, hbw, HJ⟩ := hrel
      have HAW := hide (HA.out.below hbw (Nat.le_refl _))
      have HBW := hide (HB.out.below hbw (Nat.le_refl _))
      have HW := hide hbw
      have hsz := hbw.size
      clear hbw
      by_cases hlt : k < la.length
      · have hltb : k < lb.length := by rw [← HLL.out]; exact hlt
        generalize hx : la[k]?.getD 0 = x
        generalize hy : lb[k]?.getD 0 = y
        have HX := hide hx
        have HY := hide hy
        clear hx hy
        cases hxy : (x != y)
        all_goals
          have HXY := hide hxy
          go_wp2_with fail
          refine wp_region_old (by kernel_rfl) (by kernel_rfl) ?_
          go_big_quiet_step ((first | exact fun _ => rfl | exact fun _ => ⟨rfl, rfl⟩))
          go_big_quiet_step ((first | exact fun _ => rfl | exact fun _ => ⟨rfl, rfl⟩))
          refine q_at sliceT intS rfl (.tmp _) (.tmp _) rfl va rfl _ rfl k rfl w.heap.size la wr HAW.out hlt ?_
          intro ad hcell hblk
          rw [HX.out] at hcell
          simp only [Act.put, List.setIfInBounds_toArray, List.set_cons_zero, List.set_cons_succ]
          refine q_load_cell rowI rfl (.tmp _) rfl ad rfl (.int .i64 x) (fun w' h => (h.cell (by omega)).trans hcell) ?_
          simp only [Act.put, List.setIfInBounds_toArray, List.set_cons_zero, List.set_cons_succ]
          go_big_quiet_step ((first | exact fun _ => rfl | exact fun _ => ⟨rfl, rfl⟩))
          go_big_quiet_step ((first | exact fun _ => rfl | exact fun _ => ⟨rfl, rfl⟩))
          refine q_at sliceT intS rfl (.tmp _) (.tmp _) rfl vb rfl _ rfl k rfl w.heap.size lb wr HBW.out hltb ?_
          intro ad2 hcell2 hblk2
          rw [HY.out] at hcell2
          simp only [Act.put, List.setIfInBounds_toArray, List.set_cons_zero, List.set_cons_succ]
          refine q_load_cell rowI rfl (.tmp _) rfl ad2 rfl (.int .i64 y) (fun w' h => (h.cell (by omega)).trans hcell2) ?_
          simp only [Act.put, List.setIfInBounds_toArray, List.set_cons_zero, List.set_cons_succ]
          go_big_quiet_step ((first | exact fun _ => rfl | exact fun _ => ⟨rfl, rfl⟩))
          refine wpQuiet_nil ?_
          intro w2 hb2
          clear hcell hcell2
          have HW2 := hide (HW.out.trans (hb2.mono (by omega)))
          clear hb2
          go_wp2
        · go_roundw
          case rel =>
            refine ⟨k + 1, by omega, by go_num, HW2.out, fun j hj => ?_⟩
            rcases Nat.lt_or_ge j k with h | h
            · exact HJ.out j h
            · rw [show j = k by omega, HX.out, HY.out]
              have := HXY.out
              simpa using this
          case measure => simp [intOf]; omega
        · go_ret
          refine ⟨ret_b ?_, HW2.out⟩
          rw [eq_comm, decide_eq_false_iff_not]
          intro h
          have := HXY.out
          rw [← HX.out, ← HY.out, h] at this
          simp at this
      · have HK := hide (show la.length = k by omega)
        have hlt' : ¬ ((k : Int) < (la.length : Int)) := by omega
        go_wp2_with fail
        go_ret
        refine ⟨ret_b ?_, HW.out⟩
        rw [eq_comm, decide_eq_true_iff]
        exact eq_of_getD HLL.out fun j hj => HJ.out j (by rw [← HK.out, HLL.out]; exact hj)
  · have hd : ((la.length : Int) != (lb.length : Int)) = true := by simp; omega
    have hd' : (la.length != lb.length) = true := by simp; exact hll
    have HLL := hide hll
    clear hll
    go_enter Tryd.func29, Tryd.ntmps29
    go_wp2_with (first
      | (refine wpList_len sliceT rfl (.tmp 6) rfl va rfl w.heap.size la HA.out ?_)
      | (refine wpList_len sliceT rfl (.tmp 8) rfl vb rfl w.heap.size lb HB.out ?_))
    go_ret
    refine ⟨ret_b ?_, Below.refl _ _⟩
    rw [eq_comm, decide_eq_false_iff_not]
    intro h
    exact HLL.out (by rw [h])

end Go.Proofs.YtcokdhmccokkiaaDoor
