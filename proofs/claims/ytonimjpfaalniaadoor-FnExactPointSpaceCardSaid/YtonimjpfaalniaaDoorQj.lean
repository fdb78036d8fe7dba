/- Contracts: what a set of points covers, its corners: the specification's. -/
import Derived.Test.YtonimjpfaalniaaDoorQf
import Derived.Test.YtonimjpfaalniaaDoorQe
import Derived.Test.YtonimjpfaalniaaDoorQi
import Derived.Test.YtonimjpfaalniaaDoorNo

namespace Go.Proofs.YtonimjpfaalniaaDoor
open Go.RowKit
set_option maxRecDepth 100000
set_option linter.unusedSimpArgs false
theorem ent_shTurn : enters Tryd.prog 206 := enters_of Tryd.func206 (by kernel_rfl) (by kernel_rfl)
theorem ent_shBetween : enters Tryd.prog 195 := enters_of Tryd.func195 (by kernel_rfl) (by kernel_rfl)
theorem ent_shWithin : enters Tryd.prog 196 := enters_of Tryd.func196 (by kernel_rfl) (by kernel_rfl)
theorem ent_spInQ : enters Tryd.prog 100 := enters_of Tryd.func100 (by kernel_rfl) (by kernel_rfl)
theorem row_is {L : List (List Int)} (h : ptB L = true) {j : Nat} (hj : j < L.length) : L[j]?.getD [] = [ptX L j, ptY L j] := by
  have h1 : ptTo L L.length = true := by unfold ptB at h; rw [Bool.and_eq_true] at h; exact h.2
  have h2 := row_two h1 hj
  unfold ptX ptY
  match hr : L[j]?.getD [], h2 with
  | [a, b], _ => simp
theorem pt_pnS {L : List (List Int)} (h : ptB L = true) {j : Nat} (hj : j < L.length) : pn (ptX L j) ∧ pn (ptY L j) := ⟨(ptB_in h j hj).1.1, (ptB_in h j hj).1.2⟩
set_option maxHeartbeats 1000000 in
theorem shTurn_c (va vb vp : Value) (ax ay bx b_y px py : Int) (w : World) (ha : ints w.heap.size w va [ax, ay]) (hb : ints w.heap.size w vb [bx, b_y]) (hp : ints w.heap.size w vp [px, py]) (h1 : pn ax) (h2 : pn ay) (h3 : pn bx) (h4 : pn b_y) (h5 : pn px) (h6 : pn py) :
    Calls Tryd.prog 206 #[va, vb, vp] w fun e w' => e = .returned (.int .i64 (tn ax ay bx b_y px py)) ∧ Below w.heap.size w w' := by
  have HA := hide ha
  have HB := hide hb
  have HP := hide hp
  have g1 := mul_bd (u := bx - ax) (v := py - ay) (by unfold pn at *; omega) (by unfold pn at *; omega)
  have g2 := mul_bd (u := b_y - ay) (v := px - ax) (by unfold pn at *; omega) (by unfold pn at *; omega)
  unfold pn at h1 h2 h3 h4 h5 h6
  have w1 : IntKind.i64.wrap (bx - ax) = bx - ax := IntWalk.i64_in _ (by omega)
  have w2 : IntKind.i64.wrap (py - ay) = py - ay := IntWalk.i64_in _ (by omega)
  have w3 : IntKind.i64.wrap (b_y - ay) = b_y - ay := IntWalk.i64_in _ (by omega)
  have w4 : IntKind.i64.wrap (px - ax) = px - ax := IntWalk.i64_in _ (by omega)
  have w5 : IntKind.i64.wrap ((bx - ax) * (py - ay)) = (bx - ax) * (py - ay) := IntWalk.i64_in _ (by omega)
  have w6 : IntKind.i64.wrap ((b_y - ay) * (px - ax)) = (b_y - ay) * (px - ax) := IntWalk.i64_in _ (by omega)
  have w7 : IntKind.i64.wrap ((bx - ax) * (py - ay) - (b_y - ay) * (px - ax)) = (bx - ax) * (py - ay) - (b_y - ay) * (px - ax) := IntWalk.i64_in _ (by omega)
  clear g1 g2 h1 h2 h3 h4 h5 h6 ha hb hp
  go_enter Tryd.func206, Tryd.ntmps206
  go_wp2_with fail
  refine wp_region_old (by kernel_rfl) (by kernel_rfl) ?_
  go_big_quiet_step ((first | exact fun _ => rfl | exact fun _ => ⟨rfl, rfl⟩))
  refine q_at sliceT intS rfl (.tmp _) _ rfl vb rfl 0 rfl 0 rfl w.heap.size [bx, b_y] w HB.out (by simp) ?_
  intro ad1 hc1 hb1
  simp only [Act.put, List.setIfInBounds_toArray, List.set_cons_zero, List.set_cons_succ]
  refine q_load_cell rowI rfl (.tmp _) rfl ad1 rfl (.int .i64 bx) (fun w' h => (h.cell hb1).trans hc1) ?_
  simp only [Act.put, List.setIfInBounds_toArray, List.set_cons_zero, List.set_cons_succ]
  go_big_quiet_step ((first | exact fun _ => rfl | exact fun _ => ⟨rfl, rfl⟩))
  refine q_at sliceT intS rfl (.tmp _) _ rfl va rfl 0 rfl 0 rfl w.heap.size [ax, ay] w HA.out (by simp) ?_
  intro ad2 hc2 hb2
  simp only [Act.put, List.setIfInBounds_toArray, List.set_cons_zero, List.set_cons_succ]
  refine q_load_cell rowI rfl (.tmp _) rfl ad2 rfl (.int .i64 ax) (fun w' h => (h.cell hb2).trans hc2) ?_
  simp only [Act.put, List.setIfInBounds_toArray, List.set_cons_zero, List.set_cons_succ]
  go_big_quiet_step ((first | exact fun _ => rfl | exact fun _ => ⟨rfl, rfl⟩))
  go_big_quiet_step ((first | exact fun _ => rfl | exact fun _ => ⟨rfl, rfl⟩))
  refine q_at sliceT intS rfl (.tmp _) _ rfl vp rfl 1 rfl 1 rfl w.heap.size [px, py] w HP.out (by simp) ?_
  intro ad3 hc3 hb3
  simp only [Act.put, List.setIfInBounds_toArray, List.set_cons_zero, List.set_cons_succ]
  refine q_load_cell rowI rfl (.tmp _) rfl ad3 rfl (.int .i64 py) (fun w' h => (h.cell hb3).trans hc3) ?_
  simp only [Act.put, List.setIfInBounds_toArray, List.set_cons_zero, List.set_cons_succ]
  go_big_quiet_step ((first | exact fun _ => rfl | exact fun _ => ⟨rfl, rfl⟩))
  refine q_at sliceT intS rfl (.tmp _) _ rfl va rfl 1 rfl 1 rfl w.heap.size [ax, ay] w HA.out (by simp) ?_
  intro ad4 hc4 hb4
  simp only [Act.put, List.setIfInBounds_toArray, List.set_cons_zero, List.set_cons_succ]
  refine q_load_cell rowI rfl (.tmp _) rfl ad4 rfl (.int .i64 ay) (fun w' h => (h.cell hb4).trans hc4) ?_
  simp only [Act.put, List.setIfInBounds_toArray, List.set_cons_zero, List.set_cons_succ]
  go_big_quiet_step ((first | exact fun _ => rfl | exact fun _ => ⟨rfl, rfl⟩))
  go_big_quiet_step ((first | exact fun _ => rfl | exact fun _ => ⟨rfl, rfl⟩))
  go_big_quiet_step ((first | exact fun _ => rfl | exact fun _ => ⟨rfl, rfl⟩))
  refine q_at sliceT intS rfl (.tmp _) _ rfl vb rfl 1 rfl 1 rfl w.heap.size [bx, b_y] w HB.out (by simp) ?_
  intro ad5 hc5 hb5
  simp only [Act.put, List.setIfInBounds_toArray, List.set_cons_zero, List.set_cons_succ]
  refine q_load_cell rowI rfl (.tmp _) rfl ad5 rfl (.int .i64 b_y) (fun w' h => (h.cell hb5).trans hc5) ?_
  simp only [Act.put, List.setIfInBounds_toArray, List.set_cons_zero, List.set_cons_succ]
  go_big_quiet_step ((first | exact fun _ => rfl | exact fun _ => ⟨rfl, rfl⟩))
  refine q_at sliceT intS rfl (.tmp _) _ rfl va rfl 1 rfl 1 rfl w.heap.size [ax, ay] w HA.out (by simp) ?_
  intro ad6 hc6 hb6
  simp only [Act.put, List.setIfInBounds_toArray, List.set_cons_zero, List.set_cons_succ]
  refine q_load_cell rowI rfl (.tmp _) rfl ad6 rfl (.int .i64 ay) (fun w' h => (h.cell hb6).trans hc6) ?_
  simp only [Act.put, List.setIfInBounds_toArray, List.set_cons_zero, List.set_cons_succ]
  go_big_quiet_step ((first | exact fun _ => rfl | exact fun _ => ⟨rfl, rfl⟩))
  go_big_quiet_step ((first | exact fun _ => rfl | exact fun _ => ⟨rfl, rfl⟩))
  refine q_at sliceT intS rfl (.tmp _) _ rfl vp rfl 0 rfl 0 rfl w.heap.size [px, py] w HP.out (by simp) ?_
  intro ad7 hc7 hb7
  simp only [Act.put, List.setIfInBounds_toArray, List.set_cons_zero, List.set_cons_succ]
  refine q_load_cell rowI rfl (.tmp _) rfl ad7 rfl (.int .i64 px) (fun w' h => (h.cell hb7).trans hc7) ?_
  simp only [Act.put, List.setIfInBounds_toArray, List.set_cons_zero, List.set_cons_succ]
  go_big_quiet_step ((first | exact fun _ => rfl | exact fun _ => ⟨rfl, rfl⟩))
  refine q_at sliceT intS rfl (.tmp _) _ rfl va rfl 0 rfl 0 rfl w.heap.size [ax, ay] w HA.out (by simp) ?_
  intro ad8 hc8 hb8
  simp only [Act.put, List.setIfInBounds_toArray, List.set_cons_zero, List.set_cons_succ]
  refine q_load_cell rowI rfl (.tmp _) rfl ad8 rfl (.int .i64 ax) (fun w' h => (h.cell hb8).trans hc8) ?_
  simp only [Act.put, List.setIfInBounds_toArray, List.set_cons_zero, List.set_cons_succ]
  go_big_quiet_step ((first | exact fun _ => rfl | exact fun _ => ⟨rfl, rfl⟩))
  repeat (first | go_big_quiet_skip | go_big_quiet_step ((first | exact fun _ => rfl | exact fun _ => ⟨rfl, rfl⟩)))
  refine wpQuiet_nil ?_
  intro w2 hb2
  go_wp2
  go_ret
  exact ⟨rfl, hb2⟩
set_option maxHeartbeats 1000000 in
theorem shBetween_c (vp va vb : Value) (px py ax ay bx b_y : Int) (b : Bool) (hbb : b = true ↔ btP px py ax ay bx b_y) (w : World) (hp : ints w.heap.size w vp [px, py]) (ha : ints w.heap.size w va [ax, ay]) (hb : ints w.heap.size w vb [bx, b_y]) (h1 : pn ax) (h2 : pn ay) (h3 : pn bx) (h4 : pn b_y) (h5 : pn px) (h6 : pn py) :
    Calls Tryd.prog 195 #[vp, va, vb] w fun e w' => e = .returned (.bool b) ∧ Below w.heap.size w w' := by
  have HA := hide ha
  have HB := hide hb
  have HP := hide hp
  have HTN := hide (fun (w' : World) (h : Below w.heap.size w w') => shTurn_c va vb vp ax ay bx b_y px py w' ((ha.below h (Nat.le_refl _)).mono h.size) ((hb.below h (Nat.le_refl _)).mono h.size) ((hp.below h (Nat.le_refl _)).mono h.size) h1 h2 h3 h4 h5 h6)
  have g1 := mul_bd (u := px - ax) (v := px - bx) (by unfold pn at *; omega) (by unfold pn at *; omega)
  have g2 := mul_bd (u := py - ay) (v := py - b_y) (by unfold pn at *; omega) (by unfold pn at *; omega)
  unfold pn at h1 h2 h3 h4 h5 h6
  have w1 : IntKind.i64.wrap (px - ax) = px - ax := IntWalk.i64_in _ (by omega)
  have w2 : IntKind.i64.wrap (px - bx) = px - bx := IntWalk.i64_in _ (by omega)
  have w3 : IntKind.i64.wrap (py - ay) = py - ay := IntWalk.i64_in _ (by omega)
  have w4 : IntKind.i64.wrap (py - b_y) = py - b_y := IntWalk.i64_in _ (by omega)
  have w5 : IntKind.i64.wrap ((px - ax) * (px - bx)) = (px - ax) * (px - bx) := IntWalk.i64_in _ (by omega)
  have w6 : IntKind.i64.wrap ((py - ay) * (py - b_y)) = (py - ay) * (py - b_y) := IntWalk.i64_in _ (by omega)
  have w7 : IntKind.i64.wrap ((px - ax) * (px - bx) + (py - ay) * (py - b_y)) = (px - ax) * (px - bx) + (py - ay) * (py - b_y) := IntWalk.i64_in _ (by omega)
  have HBT := hide (show b = true ↔ tn ax ay bx b_y px py = 0 ∧ (px - ax) * (px - bx) + (py - ay) * (py - b_y) ≤ 0 from hbb)
  clear g1 g2 h1 h2 h3 h4 h5 h6 ha hb hp hbb
  generalize tn ax ay bx b_y px py = t at HTN HBT
  by_cases ht : t = 0
  · subst ht
    cases b
    · have hle : ¬ (px - ax) * (px - bx) + (py - ay) * (py - b_y) ≤ 0 := fun h => by have := HBT.out.2 ⟨rfl, h⟩; cases this
      go_enter Tryd.func195, Tryd.ntmps195
      go_wp2_with fail
      refine wp_region_old (by kernel_rfl) (by kernel_rfl) ?_
      go_big_quiet_step ((first | exact fun _ => rfl | exact fun _ => ⟨rfl, rfl⟩))
      go_big_quiet_step ((first | exact fun _ => rfl | exact fun _ => ⟨rfl, rfl⟩))
      go_big_quiet_step ((first | exact fun _ => rfl | exact fun _ => ⟨rfl, rfl⟩))
      refine q_belowN rfl 206 ent_shTurn _ _ rfl #[va, vb, vp] rfl (.int .i64 0) (fun w' h => HTN.out w' h) ?_
      simp only [Act.put, List.setIfInBounds_toArray, List.set_cons_zero, List.set_cons_succ]
      go_big_quiet_step ((first | exact fun _ => rfl | exact fun _ => ⟨rfl, rfl⟩))
      go_big_quiet_step ((first | exact fun _ => rfl | exact fun _ => ⟨rfl, rfl⟩))
      go_big_quiet_step ((first | exact fun _ => rfl | exact fun _ => ⟨rfl, rfl⟩))
      refine q_at sliceT intS rfl (.tmp _) _ rfl vp rfl 0 rfl 0 rfl w.heap.size [px, py] w HP.out (by simp) ?_
      intro ad9 hc9 hb9
      simp only [Act.put, List.setIfInBounds_toArray, List.set_cons_zero, List.set_cons_succ]
      refine q_load_cell rowI rfl (.tmp _) rfl ad9 rfl (.int .i64 px) (fun w' h => (h.cell hb9).trans hc9) ?_
      simp only [Act.put, List.setIfInBounds_toArray, List.set_cons_zero, List.set_cons_succ]
      go_big_quiet_step ((first | exact fun _ => rfl | exact fun _ => ⟨rfl, rfl⟩))
      refine q_at sliceT intS rfl (.tmp _) _ rfl va rfl 0 rfl 0 rfl w.heap.size [ax, ay] w HA.out (by simp) ?_
      intro ad10 hc10 hb10
      simp only [Act.put, List.setIfInBounds_toArray, List.set_cons_zero, List.set_cons_succ]
      refine q_load_cell rowI rfl (.tmp _) rfl ad10 rfl (.int .i64 ax) (fun w' h => (h.cell hb10).trans hc10) ?_
      simp only [Act.put, List.setIfInBounds_toArray, List.set_cons_zero, List.set_cons_succ]
      go_big_quiet_step ((first | exact fun _ => rfl | exact fun _ => ⟨rfl, rfl⟩))
      go_big_quiet_step ((first | exact fun _ => rfl | exact fun _ => ⟨rfl, rfl⟩))
      refine q_at sliceT intS rfl (.tmp _) _ rfl vp rfl 0 rfl 0 rfl w.heap.size [px, py] w HP.out (by simp) ?_
      intro ad11 hc11 hb11
      simp only [Act.put, List.setIfInBounds_toArray, List.set_cons_zero, List.set_cons_succ]
      refine q_load_cell rowI rfl (.tmp _) rfl ad11 rfl (.int .i64 px) (fun w' h => (h.cell hb11).trans hc11) ?_
      simp only [Act.put, List.setIfInBounds_toArray, List.set_cons_zero, List.set_cons_succ]
      go_big_quiet_step ((first | exact fun _ => rfl | exact fun _ => ⟨rfl, rfl⟩))
      refine q_at sliceT intS rfl (.tmp _) _ rfl vb rfl 0 rfl 0 rfl w.heap.size [bx, b_y] w HB.out (by simp) ?_
      intro ad12 hc12 hb12
      simp only [Act.put, List.setIfInBounds_toArray, List.set_cons_zero, List.set_cons_succ]
      refine q_load_cell rowI rfl (.tmp _) rfl ad12 rfl (.int .i64 bx) (fun w' h => (h.cell hb12).trans hc12) ?_
      simp only [Act.put, List.setIfInBounds_toArray, List.set_cons_zero, List.set_cons_succ]
      go_big_quiet_step ((first | exact fun _ => rfl | exact fun _ => ⟨rfl, rfl⟩))
      go_big_quiet_step ((first | exact fun _ => rfl | exact fun _ => ⟨rfl, rfl⟩))
      go_big_quiet_step ((first | exact fun _ => rfl | exact fun _ => ⟨rfl, rfl⟩))
      refine q_at sliceT intS rfl (.tmp _) _ rfl vp rfl 1 rfl 1 rfl w.heap.size [px, py] w HP.out (by simp) ?_
      intro ad13 hc13 hb13
      simp only [Act.put, List.setIfInBounds_toArray, List.set_cons_zero, List.set_cons_succ]
      refine q_load_cell rowI rfl (.tmp _) rfl ad13 rfl (.int .i64 py) (fun w' h => (h.cell hb13).trans hc13) ?_
      simp only [Act.put, List.setIfInBounds_toArray, List.set_cons_zero, List.set_cons_succ]
      go_big_quiet_step ((first | exact fun _ => rfl | exact fun _ => ⟨rfl, rfl⟩))
      refine q_at sliceT intS rfl (.tmp _) _ rfl va rfl 1 rfl 1 rfl w.heap.size [ax, ay] w HA.out (by simp) ?_
      intro ad14 hc14 hb14
      simp only [Act.put, List.setIfInBounds_toArray, List.set_cons_zero, List.set_cons_succ]
      refine q_load_cell rowI rfl (.tmp _) rfl ad14 rfl (.int .i64 ay) (fun w' h => (h.cell hb14).trans hc14) ?_
      simp only [Act.put, List.setIfInBounds_toArray, List.set_cons_zero, List.set_cons_succ]
      go_big_quiet_step ((first | exact fun _ => rfl | exact fun _ => ⟨rfl, rfl⟩))
      go_big_quiet_step ((first | exact fun _ => rfl | exact fun _ => ⟨rfl, rfl⟩))
      refine q_at sliceT intS rfl (.tmp _) _ rfl vp rfl 1 rfl 1 rfl w.heap.size [px, py] w HP.out (by simp) ?_
      intro ad15 hc15 hb15
      simp only [Act.put, List.setIfInBounds_toArray, List.set_cons_zero, List.set_cons_succ]
      refine q_load_cell rowI rfl (.tmp _) rfl ad15 rfl (.int .i64 py) (fun w' h => (h.cell hb15).trans hc15) ?_
      simp only [Act.put, List.setIfInBounds_toArray, List.set_cons_zero, List.set_cons_succ]
      go_big_quiet_step ((first | exact fun _ => rfl | exact fun _ => ⟨rfl, rfl⟩))
      refine q_at sliceT intS rfl (.tmp _) _ rfl vb rfl 1 rfl 1 rfl w.heap.size [bx, b_y] w HB.out (by simp) ?_
      intro ad16 hc16 hb16
      simp only [Act.put, List.setIfInBounds_toArray, List.set_cons_zero, List.set_cons_succ]
      refine q_load_cell rowI rfl (.tmp _) rfl ad16 rfl (.int .i64 b_y) (fun w' h => (h.cell hb16).trans hc16) ?_
      simp only [Act.put, List.setIfInBounds_toArray, List.set_cons_zero, List.set_cons_succ]
      go_big_quiet_step ((first | exact fun _ => rfl | exact fun _ => ⟨rfl, rfl⟩))
      repeat (first | go_big_quiet_skip | go_big_quiet_step ((first | exact fun _ => rfl | exact fun _ => ⟨rfl, rfl⟩)))
      refine wpQuiet_nil ?_
      intro w2 hb2
      go_wp2
      go_ret
      exact ⟨ret_b (by first | rfl | exact decide_eq_false hle | exact decide_eq_false (Int.not_le.2 hle)), hb2⟩
    · have hle : (px - ax) * (px - bx) + (py - ay) * (py - b_y) ≤ 0 := (HBT.out.1 rfl).2
      go_enter Tryd.func195, Tryd.ntmps195
      go_wp2_with fail
      refine wp_region_old (by kernel_rfl) (by kernel_rfl) ?_
      go_big_quiet_step ((first | exact fun _ => rfl | exact fun _ => ⟨rfl, rfl⟩))
      go_big_quiet_step ((first | exact fun _ => rfl | exact fun _ => ⟨rfl, rfl⟩))
      go_big_quiet_step ((first | exact fun _ => rfl | exact fun _ => ⟨rfl, rfl⟩))
      refine q_belowN rfl 206 ent_shTurn _ _ rfl #[va, vb, vp] rfl (.int .i64 0) (fun w' h => HTN.out w' h) ?_
      simp only [Act.put, List.setIfInBounds_toArray, List.set_cons_zero, List.set_cons_succ]
      go_big_quiet_step ((first | exact fun _ => rfl | exact fun _ => ⟨rfl, rfl⟩))
      go_big_quiet_step ((first | exact fun _ => rfl | exact fun _ => ⟨rfl, rfl⟩))
      go_big_quiet_step ((first | exact fun _ => rfl | exact fun _ => ⟨rfl, rfl⟩))
      refine q_at sliceT intS rfl (.tmp _) _ rfl vp rfl 0 rfl 0 rfl w.heap.size [px, py] w HP.out (by simp) ?_
      intro ad17 hc17 hb17
      simp only [Act.put, List.setIfInBounds_toArray, List.set_cons_zero, List.set_cons_succ]
      refine q_load_cell rowI rfl (.tmp _) rfl ad17 rfl (.int .i64 px) (fun w' h => (h.cell hb17).trans hc17) ?_
      simp only [Act.put, List.setIfInBounds_toArray, List.set_cons_zero, List.set_cons_succ]
      go_big_quiet_step ((first | exact fun _ => rfl | exact fun _ => ⟨rfl, rfl⟩))
      refine q_at sliceT intS rfl (.tmp _) _ rfl va rfl 0 rfl 0 rfl w.heap.size [ax, ay] w HA.out (by simp) ?_
      intro ad18 hc18 hb18
      simp only [Act.put, List.setIfInBounds_toArray, List.set_cons_zero, List.set_cons_succ]
      refine q_load_cell rowI rfl (.tmp _) rfl ad18 rfl (.int .i64 ax) (fun w' h => (h.cell hb18).trans hc18) ?_
      simp only [Act.put, List.setIfInBounds_toArray, List.set_cons_zero, List.set_cons_succ]
      go_big_quiet_step ((first | exact fun _ => rfl | exact fun _ => ⟨rfl, rfl⟩))
      go_big_quiet_step ((first | exact fun _ => rfl | exact fun _ => ⟨rfl, rfl⟩))
      refine q_at sliceT intS rfl (.tmp _) _ rfl vp rfl 0 rfl 0 rfl w.heap.size [px, py] w HP.out (by simp) ?_
      intro ad19 hc19 hb19
      simp only [Act.put, List.setIfInBounds_toArray, List.set_cons_zero, List.set_cons_succ]
      refine q_load_cell rowI rfl (.tmp _) rfl ad19 rfl (.int .i64 px) (fun w' h => (h.cell hb19).trans hc19) ?_
      simp only [Act.put, List.setIfInBounds_toArray, List.set_cons_zero, List.set_cons_succ]
      go_big_quiet_step ((first | exact fun _ => rfl | exact fun _ => ⟨rfl, rfl⟩))
      refine q_at sliceT intS rfl (.tmp _) _ rfl vb rfl 0 rfl 0 rfl w.heap.size [bx, b_y] w HB.out (by simp) ?_
      intro ad20 hc20 hb20
      simp only [Act.put, List.setIfInBounds_toArray, List.set_cons_zero, List.set_cons_succ]
      refine q_load_cell rowI rfl (.tmp _) rfl ad20 rfl (.int .i64 bx) (fun w' h => (h.cell hb20).trans hc20) ?_
      simp only [Act.put, List.setIfInBounds_toArray, List.set_cons_zero, List.set_cons_succ]
      go_big_quiet_step ((first | exact fun _ => rfl | exact fun _ => ⟨rfl, rfl⟩))
      go_big_quiet_step ((first | exact fun _ => rfl | exact fun _ => ⟨rfl, rfl⟩))
      go_big_quiet_step ((first | exact fun _ => rfl | exact fun _ => ⟨rfl, rfl⟩))
      refine q_at sliceT intS rfl (.tmp _) _ rfl vp rfl 1 rfl 1 rfl w.heap.size [px, py] w HP.out (by simp) ?_
      intro ad21 hc21 hb21
      simp only [Act.put, List.setIfInBounds_toArray, List.set_cons_zero, List.set_cons_succ]
      refine q_load_cell rowI rfl (.tmp _) rfl ad21 rfl (.int .i64 py) (fun w' h => (h.cell hb21).trans hc21) ?_
      simp only [Act.put, List.setIfInBounds_toArray, List.set_cons_zero, List.set_cons_succ]
      go_big_quiet_step ((first | exact fun _ => rfl | exact fun _ => ⟨rfl, rfl⟩))
      refine q_at sliceT intS rfl (.tmp _) _ rfl va rfl 1 rfl 1 rfl w.heap.size [ax, ay] w HA.out (by simp) ?_
      intro ad22 hc22 hb22
      simp only [Act.put, List.setIfInBounds_toArray, List.set_cons_zero, List.set_cons_succ]
      refine q_load_cell rowI rfl (.tmp _) rfl ad22 rfl (.int .i64 ay) (fun w' h => (h.cell hb22).trans hc22) ?_
      simp only [Act.put, List.setIfInBounds_toArray, List.set_cons_zero, List.set_cons_succ]
      go_big_quiet_step ((first | exact fun _ => rfl | exact fun _ => ⟨rfl, rfl⟩))
      go_big_quiet_step ((first | exact fun _ => rfl | exact fun _ => ⟨rfl, rfl⟩))
      refine q_at sliceT intS rfl (.tmp _) _ rfl vp rfl 1 rfl 1 rfl w.heap.size [px, py] w HP.out (by simp) ?_
      intro ad23 hc23 hb23
      simp only [Act.put, List.setIfInBounds_toArray, List.set_cons_zero, List.set_cons_succ]
      refine q_load_cell rowI rfl (.tmp _) rfl ad23 rfl (.int .i64 py) (fun w' h => (h.cell hb23).trans hc23) ?_
      simp only [Act.put, List.setIfInBounds_toArray, List.set_cons_zero, List.set_cons_succ]
      go_big_quiet_step ((first | exact fun _ => rfl | exact fun _ => ⟨rfl, rfl⟩))
      refine q_at sliceT intS rfl (.tmp _) _ rfl vb rfl 1 rfl 1 rfl w.heap.size [bx, b_y] w HB.out (by simp) ?_
      intro ad24 hc24 hb24
      simp only [Act.put, List.setIfInBounds_toArray, List.set_cons_zero, List.set_cons_succ]
      refine q_load_cell rowI rfl (.tmp _) rfl ad24 rfl (.int .i64 b_y) (fun w' h => (h.cell hb24).trans hc24) ?_
      simp only [Act.put, List.setIfInBounds_toArray, List.set_cons_zero, List.set_cons_succ]
      go_big_quiet_step ((first | exact fun _ => rfl | exact fun _ => ⟨rfl, rfl⟩))
      repeat (first | go_big_quiet_skip | go_big_quiet_step ((first | exact fun _ => rfl | exact fun _ => ⟨rfl, rfl⟩)))
      refine wpQuiet_nil ?_
      intro w2 hb2
      go_wp2
      go_ret
      exact ⟨ret_b (by first | rfl | exact decide_eq_true hle | exact decide_eq_false (Int.not_le.2 hle)), hb2⟩
  · have HF := hide (show b = false by cases b; rfl; exact absurd (HBT.out.1 rfl).1 ht)
    have hte : (t == 0) = false := by simp; exact ht
    go_enter Tryd.func195, Tryd.ntmps195
    go_wp2_with fail
    refine wp_region_old (by kernel_rfl) (by kernel_rfl) ?_
    go_big_quiet_step ((first | exact fun _ => rfl | exact fun _ => ⟨rfl, rfl⟩))
    go_big_quiet_step ((first | exact fun _ => rfl | exact fun _ => ⟨rfl, rfl⟩))
    go_big_quiet_step ((first | exact fun _ => rfl | exact fun _ => ⟨rfl, rfl⟩))
    refine q_belowN rfl 206 ent_shTurn _ _ rfl #[va, vb, vp] rfl (.int .i64 t) (fun w' h => HTN.out w' h) ?_
    simp only [Act.put, List.setIfInBounds_toArray, List.set_cons_zero, List.set_cons_succ]
    repeat (first | go_big_quiet_skip | go_big_quiet_step ((first | exact fun _ => rfl | exact fun _ => ⟨rfl, rfl⟩)))
    refine wpQuiet_nil ?_
    intro w2 hb2
    go_wp2
    go_ret
    exact ⟨by rw [HF.out]; rfl, hb2⟩
set_option maxHeartbeats 2000000 in
theorem shWithin_c (vp va vb vc : Value) (px py ax ay bx b_y cx cy : Int) (b : Bool) (hbb : b = true ↔ wiP px py ax ay bx b_y cx cy) (w : World) (hp : ints w.heap.size w vp [px, py]) (ha : ints w.heap.size w va [ax, ay]) (hb : ints w.heap.size w vb [bx, b_y]) (hc : ints w.heap.size w vc [cx, cy]) (h1 : pn ax) (h2 : pn ay) (h3 : pn bx) (h4 : pn b_y) (h5 : pn px) (h6 : pn py) (h7 : pn cx) (h8 : pn cy) :
    Calls Tryd.prog 196 #[vp, va, vb, vc] w fun e w' => e = .returned (.bool b) ∧ Below w.heap.size w w' := by
  have HTX := hide (fun (w' : World) (h : Below w.heap.size w w') => shTurn_c va vb vp ax ay bx b_y px py w' ((ha.below h (Nat.le_refl _)).mono h.size) ((hb.below h (Nat.le_refl _)).mono h.size) ((hp.below h (Nat.le_refl _)).mono h.size) h1 h2 h3 h4 h5 h6)
  have HTY := hide (fun (w' : World) (h : Below w.heap.size w w') => shTurn_c vb vc vp bx b_y cx cy px py w' ((hb.below h (Nat.le_refl _)).mono h.size) ((hc.below h (Nat.le_refl _)).mono h.size) ((hp.below h (Nat.le_refl _)).mono h.size) h3 h4 h7 h8 h5 h6)
  have HTZ := hide (fun (w' : World) (h : Below w.heap.size w w') => shTurn_c vc va vp cx cy ax ay px py w' ((hc.below h (Nat.le_refl _)).mono h.size) ((ha.below h (Nat.le_refl _)).mono h.size) ((hp.below h (Nat.le_refl _)).mono h.size) h7 h8 h1 h2 h5 h6)
  have HTT := hide (fun (w' : World) (h : Below w.heap.size w w') => shTurn_c va vb vc ax ay bx b_y cx cy w' ((ha.below h (Nat.le_refl _)).mono h.size) ((hb.below h (Nat.le_refl _)).mono h.size) ((hc.below h (Nat.le_refl _)).mono h.size) h1 h2 h3 h4 h7 h8)
  have HWI := hide (show b = true ↔ tn ax ay bx b_y cx cy ≠ 0 ∧ ((0 ≤ tn ax ay bx b_y px py ∧ 0 ≤ tn bx b_y cx cy px py ∧ 0 ≤ tn cx cy ax ay px py) ∨ (tn ax ay bx b_y px py ≤ 0 ∧ tn bx b_y cx cy px py ≤ 0 ∧ tn cx cy ax ay px py ≤ 0)) from hbb)
  clear ha hb hc hp h1 h2 h3 h4 h5 h6 h7 h8 hbb
  generalize tn ax ay bx b_y px py = x at HTX HWI
  generalize tn bx b_y cx cy px py = y at HTY HWI
  generalize tn cx cy ax ay px py = z at HTZ HWI
  generalize tn ax ay bx b_y cx cy = t at HTT HWI
  go_enter Tryd.func196, Tryd.ntmps196
  go_wp2_with fail
  refine (HTX.out _ (Below.refl _ _)).mono ?_
  rintro e w1 ⟨rfl, hb1⟩
  have HB1 := hide hb1
  clear hb1
  go_wp2_with fail
  refine (HTY.out _ HB1.out).mono ?_
  rintro e w2 ⟨rfl, hb2⟩
  have HB2 := hide (HB1.out.trans (hb2.mono HB1.out.size))
  clear hb2
  go_wp2_with fail
  refine (HTZ.out _ HB2.out).mono ?_
  rintro e w3 ⟨rfl, hb3⟩
  have HB3 := hide (HB2.out.trans (hb3.mono HB2.out.size))
  clear hb3
  go_wp2_with fail
  refine (HTT.out _ HB3.out).mono ?_
  rintro e w4 ⟨rfl, hb4⟩
  have HB4 := hide (HB3.out.trans (hb4.mono HB3.out.size))
  clear hb4 HTX HTY HTZ HTT HB1 HB2 HB3
  by_cases ht : t = 0
  · have HF := hide (show b = false by cases b; rfl; exact absurd ht (HWI.out.1 rfl).1)
    have hte : (t != 0) = false := by subst ht; rfl
    go_wp2
    go_ret
    exact ⟨by rw [HF.out]; rfl, HB4.out⟩
  · have hte : (t != 0) = true := by simp; exact ht
    have HT := hide ht
    clear ht
    by_cases hx : 0 ≤ x <;> by_cases hy : 0 ≤ y <;> by_cases hz : 0 ≤ z <;> by_cases hx' : x ≤ 0 <;> by_cases hy' : y ≤ 0 <;> by_cases hz' : z ≤ 0
    all_goals first
      | (exfalso; omega)
      | (have HV := hide (show b = true from HWI.out.2 ⟨HT.out, by omega⟩)
         go_wp2
         go_ret
         exact ⟨ret_b (by first | exact HV.out.symm | (rw [HV.out, decide_eq_true_eq]; omega)), HB4.out⟩)
      | (have HV := hide (show b = false by cases b; rfl; have := (HWI.out.1 rfl).2; omega)
         go_wp2
         go_ret
         exact ⟨ret_b (by first | exact HV.out.symm | (rw [HV.out, decide_eq_false_iff_not]; omega)), HB4.out⟩)
end Go.Proofs.YtonimjpfaalniaaDoor
/- Contracts: what a set of points covers, its corners: the specification's; CornersOf, CoveredBy, FreeTriples, the specification's. -/
namespace Go.Proofs.YtonimjpfaalniaaDoor
open Go.RowKit
set_option maxRecDepth 100000
set_option linter.unusedSimpArgs false
attribute [local irreducible] p2 low memB risB
theorem cvPair_no1 {L : List (List Int)} {s i a b : Nat} (h : s.testBit a = false) : cvPair L s i a b = false := by unfold cvPair; rw [h]; rfl
theorem cvPair_no2 {L : List (List Int)} {s i a b : Nat} (h : s.testBit b = false) : cvPair L s i a b = false := by unfold cvPair; rw [h]; simp
theorem cvPair_no {L : List (List Int)} {s i a b : Nat} (h1 : ¬ btL L i a b) (h2 : ∀ c, c < b → ¬ (s.testBit c = true ∧ wiL L i a b c)) : cvPair L s i a b = false := by
  rw [← Bool.not_eq_true, cvPair_iff]
  rintro ⟨_, _, h | ⟨c, hc, h3, h4⟩⟩
  · exact h1 h
  · exact h2 c hc ⟨h3, h4⟩
theorem cvB_yes {L : List (List Int)} {s i a b : Nat} (ha : a < L.length) (hb : b < a) (h : cvPair L s i a b = true) : cvB L s i = true := (cvB_iff L s i).2 (.inr ⟨a, ha, b, hb, h⟩)
theorem cvB_no {L : List (List Int)} {s i : Nat} (h0 : s.testBit i = false) (h : ∀ a, a < L.length → ∀ b, b < a → cvPair L s i a b = false) : cvB L s i = false := by
  rw [← Bool.not_eq_true, cvB_iff]
  rintro (h1 | ⟨a, ha, b, hb, h1⟩)
  · rw [h0] at h1; cases h1
  · rw [h a ha b hb] at h1; cases h1
set_option maxHeartbeats 4000000 in
theorem shCovers_c (u : Value) (L : List (List Int)) (s i : Nat) (w : World) (hl : rows w.heap.size w u L) (hL : ptB L = true) (hi : i < L.length) (hs : s < 128) :
    Calls Tryd.prog 166 #[u, .int .i64 (s : Int), .int .i64 (i : Int)] w fun e w' => e = .returned (.bool (cvB L s i)) ∧ Below w.heap.size w w' := by
  have h7 := (ptB_n hL).2
  have HL := hide hl
  have HI := hide hi
  have HPN := hide (fun j (h : j < L.length) => pt_pnS hL h)
  have HRI := hide (fun j (h : j < L.length) => row_is hL h)
  have HSP := hide (fun (k : Nat) (hk : k < 7) (w1 : World) => show Calls Tryd.prog 100 #[.int .i64 (s : Int), .int .i64 (k : Int)] w1 fun e w' => e = .returned (.bool (s.testBit k)) ∧ w1 = w' by
    have := spIn_c (s : Int) (k : Int) w1 (by omega) (by omega) (by omega) (by omega)
    rw [Int.toNat_natCast, Int.toNat_natCast] at this
    exact this)
  clear hl hL
  cases hb : s.testBit i
  case true =>
    have HB := hide hb
    have HV := hide (show cvB L s i = true by unfold cvB; rw [hb]; rfl)
    clear hb
    generalize cvB L s i = r at HV ⊢
    go_enter Tryd.func166, Tryd.ntmps166
    go_wp2_with (go_at_call 100; refine (HSP.out i (by omega) _).mono ?_; rw [HB.out]; rintro e w1 ⟨rfl, rfl⟩)
    go_ret
    exact ⟨ret_b HV.out.symm, Below.refl _ _⟩
  have HB := hide hb
  have HNO := hide (cvB_no (L := L) hb)
  have HYES := hide (fun a b ha hb h => cvB_yes (L := L) (s := s) (i := i) (a := a) (b := b) ha hb h)
  clear hb
  generalize cvB L s i = r at HNO HYES ⊢
  go_enter Tryd.func166, Tryd.ntmps166
  go_wp2_with (first
    | (go_at_call 100; refine (HSP.out i (by omega) _).mono ?_; rw [HB.out]; rintro e w1 ⟨rfl, rfl⟩)
    | (refine wpList_len2 sliceT2 rfl (.tmp _) rfl u rfl w.heap.size L HL.out ?_))
  go_loopw [15] (fun v wr => ∃ k : Nat, k ≤ L.length ∧ v = .int .i64 (k : Int) ∧ Hid (∀ a, a < k → ∀ b, b < a → cvPair L s i a b = false) ∧ Hid (Below w.heap.size w wr)) (fun v _ => L.length - (intOf v).toNat)
  case atStart => exact ⟨0, Nat.zero_le _, rfl, hide (fun a h => by omega), Below.refl _ _⟩
  case round =>
    obtain ⟨k, hk, rfl, HK, HB1⟩ := hrel
    by_cases hlk : k < L.length
    · have hlk' : (k : Int) < (L.length : Int) := by omega
      have HSK := hide (HSP.out k (by omega))
      have HRK := hide (HRI.out k hlk)
      have HYK := hide (fun b (hb : b < k) h => HYES.out k b hlk hb h)
      cases hbk : s.testBit k
      case false =>
        have HBK := hide hbk
        go_wp2_with fail
        go_loopw [8] (fun v wr => ∃ j : Nat, j ≤ k ∧ v = .int .i64 (j : Int) ∧ Hid (∀ b, b < j → cvPair L s i k b = false) ∧ Hid (Below w.heap.size w wr)) (fun v _ => k - (intOf v).toNat)
        case atStart => exact ⟨0, Nat.zero_le _, rfl, hide (fun a h => by omega), HB1⟩
        case round =>
          obtain ⟨j, hj, rfl, HJ, HB⟩ := hrel
          have HMORE := hide (fun (h : cvPair L s i k j = false) => show ∀ b, b < j + 1 → cvPair L s i k b = false from fun b hb => by
            rcases Nat.lt_or_ge b j with h1 | h1
            · exact HJ.out b h1
            · rw [show b = j by omega]; exact h)
          by_cases hlj : j < k
          · have hlj' : (j : Int) < (k : Int) := by omega
            have HSJ := hide (HSP.out j (by omega))
            have HRJ := hide (HRI.out j (by omega))
            have HP := hide (HMORE.out (cvPair_no1 hbk))
            have HSKK := hide (fun w1 => by have := HSK.out w1; rw [hbk] at this; exact this)
            clear hbk
            go_wp2_with (go_at_call 100; refine (HSKK.out _).mono ?_; rintro e w2 ⟨rfl, rfl⟩)
            go_roundw
            case rel => exact ⟨j + 1, by omega, by go_num, HP, HB⟩
            case measure => (simp [intOf] <;> omega)
          · have hlj' : ¬ (j : Int) < (k : Int) := by omega
            have HJE := hide (show j = k by omega)
            go_wp2
            go_roundw
            case rel => exact ⟨k + 1, hlk, by go_num, hide (fun a ha => by
              rcases Nat.lt_or_ge a k with h1 | h1
              · exact HK.out a h1
              · rw [show a = k by omega]; intro b hb; exact HJ.out b (by rw [HJE.out]; exact hb)), HB⟩
            case measure => (simp [intOf] <;> omega)
      case true =>
        have HBK := hide hbk
        go_wp2_with fail
        go_loopw [8] (fun v wr => ∃ j : Nat, j ≤ k ∧ v = .int .i64 (j : Int) ∧ Hid (∀ b, b < j → cvPair L s i k b = false) ∧ Hid (Below w.heap.size w wr)) (fun v _ => k - (intOf v).toNat)
        case atStart => exact ⟨0, Nat.zero_le _, rfl, hide (fun a h => by omega), HB1⟩
        case round =>
          obtain ⟨j, hj, rfl, HJ, HB⟩ := hrel
          have HMORE := hide (fun (h : cvPair L s i k j = false) => show ∀ b, b < j + 1 → cvPair L s i k b = false from fun b hb => by
            rcases Nat.lt_or_ge b j with h1 | h1
            · exact HJ.out b h1
            · rw [show b = j by omega]; exact h)
          by_cases hlj : j < k
          · have hlj' : (j : Int) < (k : Int) := by omega
            have HSJ := hide (HSP.out j (by omega))
            have HRJ := hide (HRI.out j (by omega))
            have HSKK := hide (fun w1 => by have := HSK.out w1; rw [hbk] at this; exact this)
            cases hbj : s.testBit j
            case false =>
              have HP := hide (HMORE.out (cvPair_no2 hbj))
              have HSJJ := hide (fun w1 => by have := HSJ.out w1; rw [hbj] at this; exact this)
              clear hbk hbj
              go_wp2_with (first
                | (go_at_call 100; refine (HSKK.out _).mono ?_; rintro e w2 ⟨rfl, rfl⟩)
                | (go_at_call 100; refine (HSJJ.out _).mono ?_; rintro e w2 ⟨rfl, rfl⟩))
              go_roundw
              case rel => exact ⟨j + 1, by omega, by go_num, HP, HB⟩
              case measure => (simp [intOf] <;> omega)
            have HSJJ := hide (fun w1 => by have := HSJ.out w1; rw [hbj] at this; exact this)
            have HY1 := hide (fun (h : btL L i k j) => HYK.out j hlj ((cvPair_iff L s i k j).2 ⟨hbk, hbj, .inl h⟩))
            have HY2 := hide (fun c (hc : c < j) (h1 : s.testBit c = true) (h2 : wiL L i k j c) => HYK.out j hlj ((cvPair_iff L s i k j).2 ⟨hbk, hbj, .inr ⟨c, hc, h1, h2⟩⟩))
            have hwz := HB.out.size
            have HLW := hide (HL.out.below HB.out (Nat.le_refl _))
            have HR0 := hide (HRI.out i HI.out)
            have N1 := HPN.out i HI.out
            have N2 := HPN.out k hlk
            have N3 := HPN.out j (by omega)
            have HBT := hide (fun vp va vb w1 h1 h2 h3 => shBetween_c vp va vb (ptX L i) (ptY L i) (ptX L k) (ptY L k) (ptX L j) (ptY L j) (decide (btL L i k j)) (by rw [decide_eq_true_eq]; exact Iff.rfl) w1 h1 h2 h3 N2.1 N2.2 N3.1 N3.2 N1.1 N1.2)
            clear N1 N2 N3 hbk hbj
            go_wp2_with (first
              | (go_at_call 100; refine (HSKK.out _).mono ?_; rintro e w2 ⟨rfl, rfl⟩)
              | (go_at_call 100; refine (HSJJ.out _).mono ?_; rintro e w2 ⟨rfl, rfl⟩))
            cases hbt : decide (btL L i k j)
            all_goals
              have HBB := hide hbt
              refine wp_region_old (by kernel_rfl) (by kernel_rfl) ?_
              go_big_quiet_step ((first | exact fun _ => rfl | exact fun _ => ⟨rfl, rfl⟩))
              go_big_quiet_step ((first | exact fun _ => rfl | exact fun _ => ⟨rfl, rfl⟩))
              refine q_at2 sliceT2 rowS2 rfl (.tmp _) (.tmp _) rfl u rfl _ rfl i rfl w.heap.size L wr HLW.out HI.out ?_
              intro ad1 u1 hc1 hb1 hu1
              rw [HR0.out] at hu1
              have HU1 := hide (fun w' (h : Below wr.heap.size wr w') => (hu1.below h hwz).mono (Nat.le_trans hwz h.size))
              clear hu1
              simp only [Act.put, List.setIfInBounds_toArray, List.set_cons_zero, List.set_cons_succ]
              refine q_load_cell rowS rfl (.tmp _) rfl ad1 rfl u1 (fun w' h => (h.cell (Nat.lt_of_lt_of_le hb1 hwz)).trans hc1) ?_
              simp only [Act.put, List.setIfInBounds_toArray, List.set_cons_zero, List.set_cons_succ]
              go_big_quiet_step ((first | exact fun _ => rfl | exact fun _ => ⟨rfl, rfl⟩))
              go_big_quiet_step ((first | exact fun _ => rfl | exact fun _ => ⟨rfl, rfl⟩))
              refine q_at2 sliceT2 rowS2 rfl (.tmp _) (.tmp _) rfl u rfl _ rfl k rfl w.heap.size L wr HLW.out hlk ?_
              intro ad2 u2 hc2 hb2 hu2
              rw [HRK.out] at hu2
              have HU2 := hide (fun w' (h : Below wr.heap.size wr w') => (hu2.below h hwz).mono (Nat.le_trans hwz h.size))
              clear hu2
              simp only [Act.put, List.setIfInBounds_toArray, List.set_cons_zero, List.set_cons_succ]
              refine q_load_cell rowS rfl (.tmp _) rfl ad2 rfl u2 (fun w' h => (h.cell (Nat.lt_of_lt_of_le hb2 hwz)).trans hc2) ?_
              simp only [Act.put, List.setIfInBounds_toArray, List.set_cons_zero, List.set_cons_succ]
              go_big_quiet_step ((first | exact fun _ => rfl | exact fun _ => ⟨rfl, rfl⟩))
              go_big_quiet_step ((first | exact fun _ => rfl | exact fun _ => ⟨rfl, rfl⟩))
              refine q_at2 sliceT2 rowS2 rfl (.tmp _) (.tmp _) rfl u rfl _ rfl j rfl w.heap.size L wr HLW.out (by omega) ?_
              intro ad3 u3 hc3 hb3 hu3
              rw [HRJ.out] at hu3
              have HU3 := hide (fun w' (h : Below wr.heap.size wr w') => (hu3.below h hwz).mono (Nat.le_trans hwz h.size))
              clear hu3
              simp only [Act.put, List.setIfInBounds_toArray, List.set_cons_zero, List.set_cons_succ]
              refine q_load_cell rowS rfl (.tmp _) rfl ad3 rfl u3 (fun w' h => (h.cell (Nat.lt_of_lt_of_le hb3 hwz)).trans hc3) ?_
              simp only [Act.put, List.setIfInBounds_toArray, List.set_cons_zero, List.set_cons_succ]
              refine q_belowN rfl 195 ent_shBetween _ _ rfl #[u1, u2, u3] rfl (.bool _) (fun w' h => by have := HBT.out u1 u2 u3 w' (HU1.out w' h) (HU2.out w' h) (HU3.out w' h); rw [HBB.out] at this; exact this) ?_
              simp only [Act.put, List.setIfInBounds_toArray, List.set_cons_zero, List.set_cons_succ]
              repeat (first | go_big_quiet_skip | go_big_quiet_step ((first | exact fun _ => rfl | exact fun _ => ⟨rfl, rfl⟩)))
              refine wpQuiet_nil ?_
              intro w2 hb2
              have HB2 := hide (HB.out.trans (hb2.mono hwz))
              clear hb2 HLW hbt hwz hc1 hc2 hc3
            case true =>
              go_wp2
              go_ret
              exact ⟨ret_b (HY1.out (of_decide_eq_true HBB.out)).symm, HB2.out⟩
            case false =>
              have HNB := hide (of_decide_eq_false HBB.out)
              go_wp2_with fail
              go_loopw [9] (fun v wr => ∃ m : Nat, m ≤ j ∧ v = .int .i64 (m : Int) ∧ Hid (∀ c, c < m → ¬ (s.testBit c = true ∧ wiL L i k j c)) ∧ Hid (Below w.heap.size w wr)) (fun v _ => j - (intOf v).toNat)
              case atStart => exact ⟨0, Nat.zero_le _, rfl, hide (fun a h => by omega), HB2⟩
              case round =>
                obtain ⟨m, hm, rfl, HM, HB⟩ := hrel
                have HMM := hide (fun (h : ¬ (s.testBit m = true ∧ wiL L i k j m)) => show ∀ c, c < m + 1 → ¬ (s.testBit c = true ∧ wiL L i k j c) from fun c hc => by
                  rcases Nat.lt_or_ge c m with h1 | h1
                  · exact HM.out c h1
                  · rw [show c = m by omega]; exact h)
                by_cases hlm : m < j
                · have hlm' : (m : Int) < (j : Int) := by omega
                  have HSM := hide (HSP.out m (by omega))
                  have HRM := hide (HRI.out m (by omega))
                  have hwz := HB.out.size
                  have HLW := hide (HL.out.below HB.out (Nat.le_refl _))
                  cases hbm : s.testBit m
                  case false =>
                    have HP := hide (HMM.out (fun h => by rw [hbm] at h; cases h.1))
                    have HSMM := hide (fun w1 => by have := HSM.out w1; rw [hbm] at this; exact this)
                    clear hbm
                    go_wp2_with fail
                    refine wp_region_old (by kernel_rfl) (by kernel_rfl) ?_
                    go_big_quiet_step ((first | exact fun _ => rfl | exact fun _ => ⟨rfl, rfl⟩))
                    go_big_quiet_step ((first | exact fun _ => rfl | exact fun _ => ⟨rfl, rfl⟩))
                    refine q_pure rfl 100 ent_spInQ _ _ rfl #[.int .i64 (s : Int), .int .i64 (m : Int)] rfl (.bool false) (fun w' _ => HSMM.out w') ?_
                    simp only [Act.put, List.setIfInBounds_toArray, List.set_cons_zero, List.set_cons_succ]
                    repeat (first | go_big_quiet_skip | go_big_quiet_step ((first | exact fun _ => rfl | exact fun _ => ⟨rfl, rfl⟩)))
                    refine wpQuiet_nil ?_
                    intro w2 hb2
                    have HB2 := hide (HB.out.trans (hb2.mono hwz))
                    clear hb2
                    go_wp2
                    go_roundw
                    case rel => exact ⟨m + 1, by omega, by go_num, HP, HB2⟩
                    case measure => (simp [intOf] <;> omega)
                  have HSMM := hide (fun w1 => by have := HSM.out w1; rw [hbm] at this; exact this)
                  have HYM := hide (fun h => HY2.out m hlm hbm h)
                  have N1 := HPN.out i HI.out
                  have N2 := HPN.out k hlk
                  have N3 := HPN.out j (by omega)
                  have N4 := HPN.out m (by omega)
                  have HWT := hide (fun vp va vb vc w1 h1 h2 h3 h4 => shWithin_c vp va vb vc (ptX L i) (ptY L i) (ptX L k) (ptY L k) (ptX L j) (ptY L j) (ptX L m) (ptY L m) (decide (wiL L i k j m)) (by rw [decide_eq_true_eq]; exact Iff.rfl) w1 h1 h2 h3 h4 N2.1 N2.2 N3.1 N3.2 N1.1 N1.2 N4.1 N4.2)
                  clear N1 N2 N3 N4 hbm
                  go_wp2_with fail
                  cases hwt : decide (wiL L i k j m)
                  all_goals
                    have HWW := hide hwt
                    refine wp_region_old (by kernel_rfl) (by kernel_rfl) ?_
                    go_big_quiet_step ((first | exact fun _ => rfl | exact fun _ => ⟨rfl, rfl⟩))
                    go_big_quiet_step ((first | exact fun _ => rfl | exact fun _ => ⟨rfl, rfl⟩))
                    refine q_pure rfl 100 ent_spInQ _ _ rfl #[.int .i64 (s : Int), .int .i64 (m : Int)] rfl (.bool true) (fun w' _ => HSMM.out w') ?_
                    simp only [Act.put, List.setIfInBounds_toArray, List.set_cons_zero, List.set_cons_succ]
                    go_big_quiet_step ((first | exact fun _ => rfl | exact fun _ => ⟨rfl, rfl⟩))
                    go_big_quiet_step ((first | exact fun _ => rfl | exact fun _ => ⟨rfl, rfl⟩))
                    go_big_quiet_step ((first | exact fun _ => rfl | exact fun _ => ⟨rfl, rfl⟩))
                    refine q_at2 sliceT2 rowS2 rfl (.tmp _) (.tmp _) rfl u rfl _ rfl i rfl w.heap.size L wr HLW.out HI.out ?_
                    intro ad4 q1 hc4 hb4 hu4
                    rw [HR0.out] at hu4
                    have HU4 := hide (fun w' (h : Below wr.heap.size wr w') => (hu4.below h hwz).mono (Nat.le_trans hwz h.size))
                    clear hu4
                    simp only [Act.put, List.setIfInBounds_toArray, List.set_cons_zero, List.set_cons_succ]
                    refine q_load_cell rowS rfl (.tmp _) rfl ad4 rfl q1 (fun w' h => (h.cell (Nat.lt_of_lt_of_le hb4 hwz)).trans hc4) ?_
                    simp only [Act.put, List.setIfInBounds_toArray, List.set_cons_zero, List.set_cons_succ]
                    go_big_quiet_step ((first | exact fun _ => rfl | exact fun _ => ⟨rfl, rfl⟩))
                    go_big_quiet_step ((first | exact fun _ => rfl | exact fun _ => ⟨rfl, rfl⟩))
                    refine q_at2 sliceT2 rowS2 rfl (.tmp _) (.tmp _) rfl u rfl _ rfl k rfl w.heap.size L wr HLW.out hlk ?_
                    intro ad5 q2 hc5 hb5 hu5
                    rw [HRK.out] at hu5
                    have HU5 := hide (fun w' (h : Below wr.heap.size wr w') => (hu5.below h hwz).mono (Nat.le_trans hwz h.size))
                    clear hu5
                    simp only [Act.put, List.setIfInBounds_toArray, List.set_cons_zero, List.set_cons_succ]
                    refine q_load_cell rowS rfl (.tmp _) rfl ad5 rfl q2 (fun w' h => (h.cell (Nat.lt_of_lt_of_le hb5 hwz)).trans hc5) ?_
                    simp only [Act.put, List.setIfInBounds_toArray, List.set_cons_zero, List.set_cons_succ]
                    go_big_quiet_step ((first | exact fun _ => rfl | exact fun _ => ⟨rfl, rfl⟩))
                    go_big_quiet_step ((first | exact fun _ => rfl | exact fun _ => ⟨rfl, rfl⟩))
                    refine q_at2 sliceT2 rowS2 rfl (.tmp _) (.tmp _) rfl u rfl _ rfl j rfl w.heap.size L wr HLW.out (by omega) ?_
                    intro ad6 q3 hc6 hb6 hu6
                    rw [HRJ.out] at hu6
                    have HU6 := hide (fun w' (h : Below wr.heap.size wr w') => (hu6.below h hwz).mono (Nat.le_trans hwz h.size))
                    clear hu6
                    simp only [Act.put, List.setIfInBounds_toArray, List.set_cons_zero, List.set_cons_succ]
                    refine q_load_cell rowS rfl (.tmp _) rfl ad6 rfl q3 (fun w' h => (h.cell (Nat.lt_of_lt_of_le hb6 hwz)).trans hc6) ?_
                    simp only [Act.put, List.setIfInBounds_toArray, List.set_cons_zero, List.set_cons_succ]
                    go_big_quiet_step ((first | exact fun _ => rfl | exact fun _ => ⟨rfl, rfl⟩))
                    go_big_quiet_step ((first | exact fun _ => rfl | exact fun _ => ⟨rfl, rfl⟩))
                    refine q_at2 sliceT2 rowS2 rfl (.tmp _) (.tmp _) rfl u rfl _ rfl m rfl w.heap.size L wr HLW.out (by omega) ?_
                    intro ad7 q4 hc7 hb7 hu7
                    rw [HRM.out] at hu7
                    have HU7 := hide (fun w' (h : Below wr.heap.size wr w') => (hu7.below h hwz).mono (Nat.le_trans hwz h.size))
                    clear hu7
                    simp only [Act.put, List.setIfInBounds_toArray, List.set_cons_zero, List.set_cons_succ]
                    refine q_load_cell rowS rfl (.tmp _) rfl ad7 rfl q4 (fun w' h => (h.cell (Nat.lt_of_lt_of_le hb7 hwz)).trans hc7) ?_
                    simp only [Act.put, List.setIfInBounds_toArray, List.set_cons_zero, List.set_cons_succ]
                    refine q_belowN rfl 196 ent_shWithin _ _ rfl #[q1, q2, q3, q4] rfl (.bool _) (fun w' h => by have := HWT.out q1 q2 q3 q4 w' (HU4.out w' h) (HU5.out w' h) (HU6.out w' h) (HU7.out w' h); rw [HWW.out] at this; exact this) ?_
                    simp only [Act.put, List.setIfInBounds_toArray, List.set_cons_zero, List.set_cons_succ]
                    repeat (first | go_big_quiet_skip | go_big_quiet_step ((first | exact fun _ => rfl | exact fun _ => ⟨rfl, rfl⟩)))
                    refine wpQuiet_nil ?_
                    intro w2 hb2
                    have HB2 := hide (HB.out.trans (hb2.mono hwz))
                    clear hb2 HLW hwt hwz hc4 hc5 hc6 hc7
                  case true =>
                    go_wp2
                    go_ret
                    exact ⟨ret_b (HYM.out (of_decide_eq_true HWW.out)).symm, HB2.out⟩
                  case false =>
                    go_wp2
                    go_roundw
                    case rel => exact ⟨m + 1, by omega, by go_num, hide (HMM.out (fun h => of_decide_eq_false HWW.out h.2)), HB2⟩
                    case measure => (simp [intOf] <;> omega)
                · have hlm' : ¬ (m : Int) < (j : Int) := by omega
                  have HP := hide (HMORE.out (cvPair_no HNB.out (fun c hc => HM.out c (by omega))))
                  go_wp2
                  go_roundw
                  case rel => exact ⟨j + 1, by omega, by go_num, HP, HB⟩
                  case measure => (simp [intOf] <;> omega)
          · have hlj' : ¬ (j : Int) < (k : Int) := by omega
            have HJE := hide (show j = k by omega)
            go_wp2
            go_roundw
            case rel => exact ⟨k + 1, hlk, by go_num, hide (fun a ha => by
              rcases Nat.lt_or_ge a k with h1 | h1
              · exact HK.out a h1
              · rw [show a = k by omega]; intro b hb; exact HJ.out b (by rw [HJE.out]; exact hb)), HB⟩
            case measure => (simp [intOf] <;> omega)
    · have HKE := hide (show k = L.length by omega)
      have hlk' : ¬ (k : Int) < (L.length : Int) := by omega
      go_wp2
      go_ret
      exact ⟨ret_b (HNO.out (fun a ha => HK.out a (by omega))).symm, HB1.out⟩
end Go.Proofs.YtonimjpfaalniaaDoor
/- Contracts: CornersOf, CoveredBy, FreeTriples, the specification's. -/
namespace Go.Proofs.YtonimjpfaalniaaDoor
open Go.RowKit
set_option maxRecDepth 100000
set_option linter.unusedSimpArgs false
attribute [local irreducible] p2 low memB risB
theorem spIn_nat (s k : Nat) (hs : s < 128) (hk : k < 7) (w1 : World) : Calls Tryd.prog 100 #[.int .i64 (s : Int), .int .i64 (k : Int)] w1 fun e w' => e = .returned (.bool (s.testBit k)) ∧ w1 = w' := by
  have := spIn_c (s : Int) (k : Int) w1 (by omega) (by omega) (by omega) (by omega)
  rw [Int.toNat_natCast, Int.toNat_natCast] at this
  exact this
set_option maxHeartbeats 1000000 in
theorem shCover_c (u : Value) (L : List (List Int)) (s : Nat) (w : World) (hl : rows w.heap.size w u L) (hL : ptB L = true) (hs : s < 128) :
    Calls Tryd.prog 122 #[u, .int .i64 (s : Int)] w fun e w' => e = .returned (.int .i64 (cvS L s : Int)) ∧ Below w.heap.size w w' := by
  have h7 := (ptB_n hL).2
  have HL := hide hl
  have HC := hide (fun k (hk : k < L.length) w1 (h : Below w.heap.size w w1) => shCovers_c u L s k w1 ((hl.below h (Nat.le_refl _)).mono h.size) hL hk hs)
  have HRE := hide (show itemsOf (cvB L s) L.length = cvS L s from rfl)
  have HIN := hide (fun k => itemsOf_next (cvB L s) k)
  have HIL := hide (fun k => itemsOf_lt (cvB L s) k)
  clear hl hL
  go_enter Tryd.func122, Tryd.ntmps122
  go_wp2_with (refine wpList_len2 sliceT2 rfl (.tmp _) rfl u rfl w.heap.size L HL.out ?_)
  go_loopw [5, 9] (fun o j wr => ∃ k : Nat, o = .int .i64 (itemsOf (cvB L s) k : Int) ∧ j = .int .i64 (k : Int) ∧ k ≤ L.length ∧ Hid (Below w.heap.size w wr)) (fun _ j _ => L.length - (intOf j).toNat)
  case atStart => exact ⟨0, rfl, rfl, Nat.zero_le _, Below.refl _ _⟩
  case round =>
    obtain ⟨k, rfl, rfl, hk, HB⟩ := hrel
    by_cases hlt : k < L.length
    · have hlt' : (k : Int) < (L.length : Int) := by omega
      have HNX := hide (HIN.out k)
      have hy8 : itemsOf (cvB L s) k < 128 := by have h1 := HIL.out k; have h2 := p2_le k 7 (by omega); omega
      have HCK := hide (HC.out k hlt wr HB.out)
      have hp1 := wrap_p2 k (by omega)
      have hp2 : IntKind.i64.wrap (2 ^ k) = (p2 k : Int) := by rw [IntWalk.i64_left]; exact hp1
      have hpk := p2_lt128 k (by omega)
      generalize itemsOf (cvB L s) k = y at *
      have hor := i64_or y (p2 k) (Nat.lt_trans hy8 (by decide)) (Nat.lt_trans hpk (by decide))
      generalize cvB L s k = q at *
      cases q
      all_goals
        go_wp2_with (go_at_call 166; refine HCK.out.mono ?_; rintro e w8 ⟨rfl, hb8⟩; have HB8 := hide (HB.out.trans (hb8.mono HB.out.size)); clear hb8)
        go_roundw
        case rel => exact ⟨k + 1, by rw [HNX.out]; simp, by go_num, by omega, HB8⟩
        case measure => simp [intOf]; omega
    · have HE := hide (show itemsOf (cvB L s) k = cvS L s by rw [← HRE.out, show k = L.length by omega])
      have hlt' : ¬ ((k : Int) < (L.length : Int)) := by omega
      generalize itemsOf (cvB L s) k = y at *
      go_wp2
      go_ret
      exact ⟨ret_i (by rw [HE.out]), HB.out⟩
end Go.Proofs.YtonimjpfaalniaaDoor
