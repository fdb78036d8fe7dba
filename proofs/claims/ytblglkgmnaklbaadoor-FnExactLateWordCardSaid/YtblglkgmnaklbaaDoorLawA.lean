/- Contracts of the laws' own small functions: copies, sizes and comparisons. -/
import Derived.Test.YtblglkgmnaklbaaDoorSpecC
import Derived.Test.YtblglkgmnaklbaaDoorMk
namespace Go.Proofs.YtblglkgmnaklbaaDoor
open Go.RowKit
set_option maxRecDepth 100000

def szOf (left : Int) (n : Nat) : Int := if left < (n : Int) then -1 else left - n
theorem szIntS_c (v : Value) (l : List Int) (left : Int) (w : World) (hl : ints w.heap.size w v l) (hlen : l.length ≤ 9223372036854775807) (h1 : 0 ≤ left) (h2 : left ≤ 1048576) :
    Calls Tryd.prog 31 #[v, .int .i64 left] w fun e w' => e = .returned (.int .i64 (szOf left l.length)) ∧ w = w' := by
  by_cases h : left < (l.length : Int)
  all_goals
    go_enter Tryd.func31, Tryd.ntmps31
    go_wp2_with (refine wpList_len sliceT rfl (.tmp _) rfl v rfl w.heap.size l hl ?_)
    go_ret
    exact ⟨ret_i (by unfold szOf; split <;> omega), rfl⟩

set_option maxHeartbeats 400000 in
theorem toIntS_c (v : Value) (l : List Int) (w : World) (hl : ints w.heap.size w v l) (hlen : l.length < 1000000000) :
    Calls Tryd.prog 26 #[v] w fun e w' => e = .returned (.slice (some ⟨w.heap.size, 0, none⟩) l.length l.length) ∧ blk 3 w' w.heap.size l ∧ Below w.heap.size w w' := by
  have HL := hide hl
  clear hl
  go_enter Tryd.func26, Tryd.ntmps26
  go_wp2_with (first
    | (refine wpList_len sliceT rfl (.tmp _) rfl v rfl w.heap.size l HL.out ?_)
    | (refine wpList_makeInts sliceT intI rfl (.tmp _) (.tmp _) rfl l.length rfl rfl (by omega) ?_; intro w1 hz1 hb1 hw1))
  have HL1 := hide (HL.out.below hw1 (Nat.le_refl _))
  go_loopw [4] (fun i wr => ∃ k : Nat, k ≤ l.length ∧ i = .int .i64 k ∧ Below w.heap.size w wr ∧ Hid (∃ m : List Int, blk 3 wr w.heap.size m ∧ m.length = l.length ∧ ∀ j, j < k → m[j]?.getD 0 = l[j]?.getD 0)) (fun i _ => l.length - (intOf i).toNat)
  case atStart => exact ⟨0, Nat.zero_le _, rfl, hw1, ⟨_, hb1, by simp, fun j hj => by omega⟩⟩
  case round =>
    obtain ⟨k, hk, rfl, hb, HM⟩ := hrel
    have HLW := hide (HL.out.below hb (Nat.le_refl _))
    have HB := hide hb
    obtain ⟨m, hm, hml, hmj⟩ := HM.out
    have HJ := hide hmj
    have HML := hide hml
    clear hb hb1 hw1 HL1 HM hmj
    by_cases hlt : k < l.length
    · have hc := hm.cell k (by rw [HML.out]; exact hlt)
      have hf := hm.free k
      have HMM := hide hm
      clear hm hml
      go_wp2_with (first
        | (refine wpList_len sliceT rfl (.tmp _) rfl v rfl w.heap.size l HLW.out ?_)
        | (refine wpList_at sliceT intS rfl (.tmp 16) (.tmp _) rfl v rfl k rfl w.heap.size l HLW.out hlt ?_; intro ad hcell hblk))
      go_roundw
      case rel =>
        refine ⟨k + 1, by omega, by go_num, HB.out.setCell (Nat.le_refl _) _, ⟨m.set k l[k], HMM.out.set k _, by rw [List.length_set]; exact HML.out, fun j hj => ?_⟩⟩
        have hml := HML.out
        rcases Nat.lt_or_ge j k with h | h
        · rw [List.getElem?_set_ne (by omega)]; exact HJ.out j h
        · have : j = k := by omega
          subst this
          simp [hml, hlt]
      case measure => simp [intOf]; omega
    · have HK := hide (show k = l.length by omega)
      have hlt' : ¬ ((k : Int) < (l.length : Int)) := by omega
      have HMM := hide hm
      clear hm hml
      go_wp2_with (refine wpList_len sliceT rfl (.tmp _) rfl v rfl w.heap.size l HLW.out ?_)
      go_ret
      refine ⟨rfl, ?_, HB.out⟩
      have e : m = l := eq_of_getD HML.out fun j hj => HJ.out j (by rw [HK.out]; exact hj)
      rw [← e]; exact HMM.out

/-- A struct of a number and a slice, in memory. -/
theorem szSpace_c (n : Int) (v : Value) (l : List Int) (left : Int) (w : World) (hl : ints w.heap.size w v l) (hlen : l.length ≤ 9223372036854775807) (h1 : 0 ≤ left) (h2 : left ≤ 1048576) :
    Calls Tryd.prog 7 #[.agg #[.int .i64 n, v], .int .i64 left] w fun e w' => e = .returned (.int .i64 (szOf left l.length)) ∧ Below w.heap.size w w' := by
  have HL1 := hide (hl.alloc (.cells #[.int .i64 n, v] 24))
  clear hl
  have hz : szOf left l.length = -1 ∨ ¬ szOf left l.length < 0 := by unfold szOf; split <;> omega
  generalize hq : szOf left l.length = q at hz ⊢
  have HQ := hide hq
  clear hq
  rcases hz with hz | hz
  · have HZ := hide hz
    have h3 : q < 0 := by omega
    clear hz
    go_enter Tryd.func7, Tryd.ntmps7
    go_wp2_with (go_at_call 31; refine (szIntS_c v l left _ (HL1.out.mono (by simp)) hlen h1 h2).mono ?_; rw [HQ.out]; rintro e w' ⟨rfl, rfl⟩)
    go_ret
    exact ⟨ret_i HZ.out.symm, (Below.refl _ _).alloc (Nat.le_refl _) _⟩
  · go_enter Tryd.func7, Tryd.ntmps7
    go_wp2_with (go_at_call 31; refine (szIntS_c v l left _ (HL1.out.mono (by simp)) hlen h1 h2).mono ?_; rw [HQ.out]; rintro e w' ⟨rfl, rfl⟩)
    go_ret
    exact ⟨rfl, (Below.refl _ _).alloc (Nat.le_refl _) _⟩

set_option maxHeartbeats 400000 in
theorem toSpace_c (n : Int) (v : Value) (l : List Int) (w : World) (hl : ints w.heap.size w v l) (hlen : l.length < 1000000000) :
    Calls Tryd.prog 9 #[.agg #[.int .i64 n, v]] w fun e w' => ∃ g, e = .returned (.agg #[.int .i64 n, .slice (some ⟨g, 0, none⟩) l.length l.length]) ∧ w.heap.size ≤ g ∧ blk 3 w' g l ∧ Below w.heap.size w w' := by
  have HL := hide hl
  clear hl
  go_enter Tryd.func9, Tryd.ntmps9
  go_wp2_with fail
  refine (toIntS_c v l _ ((((HL.out.alloc _).alloc _).alloc _).mono (by simp; omega)) hlen).mono ?_
  rintro e w1 ⟨rfl, hb, hw⟩
  have hz : (((w.alloc (.cells #[.int .i64 n, v] 24)).alloc (.cells #[.int .i64 0, .slice none 0 0] 29)).alloc (.cells #[.int .i64 n, .slice none 0 0] 29)).heap.size = w.heap.size + 1 + 1 + 1 := by simp
  rw [hz] at hb hw ⊢
  have c20 : w1.cell? ⟨w.heap.size + 1 + 1, 0, none⟩ = some (.int .i64 n) := by rw [hw.cell (p := ⟨w.heap.size + 1 + 1, 0, none⟩) (by show w.heap.size + 1 + 1 < _; omega)]; simp [go_sem]
  have c21 : w1.cell? ⟨w.heap.size + 1 + 1, 1, none⟩ = some (.slice none 0 0) := by rw [hw.cell (p := ⟨w.heap.size + 1 + 1, 1, none⟩) (by show w.heap.size + 1 + 1 < _; omega)]; simp [go_sem]
  have f21 : w1.frozen? ⟨w.heap.size + 1 + 1, 1, none⟩ = false := by rw [hw.frozen (p := ⟨w.heap.size + 1 + 1, 1, none⟩) (by show w.heap.size + 1 + 1 < _; omega)]; simp [go_sem]
  have c10 : w1.cell? ⟨w.heap.size + 1, 0, none⟩ = some (.int .i64 0) := by rw [hw.cell (p := ⟨w.heap.size + 1, 0, none⟩) (by show w.heap.size + 1 < _; omega)]; simp [go_sem]
  have c11 : w1.cell? ⟨w.heap.size + 1, 1, none⟩ = some (.slice none 0 0) := by rw [hw.cell (p := ⟨w.heap.size + 1, 1, none⟩) (by show w.heap.size + 1 < _; omega)]; simp [go_sem]
  have f10 : w1.frozen? ⟨w.heap.size + 1, 0, none⟩ = false := by rw [hw.frozen (p := ⟨w.heap.size + 1, 0, none⟩) (by show w.heap.size + 1 < _; omega)]; simp [go_sem]
  have f11 : w1.frozen? ⟨w.heap.size + 1, 1, none⟩ = false := by rw [hw.frozen (p := ⟨w.heap.size + 1, 1, none⟩) (by show w.heap.size + 1 < _; omega)]; simp [go_sem]
  have HB := hide hb
  have HW := hide hw
  clear hb hw hz
  go_wp2
  have hlt := HB.out.lt
  have hb0 := (((Below.refl w.heap.size w).alloc (Nat.le_refl _) (.cells #[.int .i64 n, v] 24)).alloc (by simp) (.cells #[.int .i64 0, .slice none 0 0] 29)).alloc (by simp; omega) (.cells #[.int .i64 n, .slice none 0 0] 29)
  refine bodyPost_ret (v := .agg #[.int .i64 n, .slice (some ⟨w.heap.size + 1 + 1 + 1, 0, none⟩) l.length l.length]) (by simp [results, Tryd.results9, go_sem, c10, c11]) rfl ⟨_, rfl, by omega, ?_, ?_⟩
  · exact (hp_setO _ _ _ _ (by show _ ≠ w.heap.size + 1; omega)).trans ((hp_setO _ _ _ _ (by show _ ≠ w.heap.size + 1; omega)).trans ((hp_setO _ _ _ _ (by show _ ≠ w.heap.size + 1 + 1; omega)).trans HB.out))
  · exact (((hb0.trans (HW.out.mono (by omega))).setCell (by show _ ≤ w.heap.size + 1 + 1; omega) _).setCell (by show _ ≤ w.heap.size + 1; omega) _).setCell (by show _ ≤ w.heap.size + 1; omega) _

set_option maxHeartbeats 400000 in
theorem eqIntS_c (va vb : Value) (la lb : List Int) (w : World) (ha : ints w.heap.size w va la) (hb : ints w.heap.size w vb lb) (hla : la.length < 1000000000) :
    Calls Tryd.prog 28 #[va, vb] w fun e w' => e = .returned (.bool (decide (la = lb))) ∧ Below w.heap.size w w' := by
  have HA := hide ha
  have HB := hide hb
  clear ha hb
  by_cases hll : la.length = lb.length
  · have hd : ((la.length : Int) != (lb.length : Int)) = false := by rw [hll]; simp
    have hd' : (la.length != lb.length) = false := by rw [hll]; simp
    have HLL := hide hll
    clear hll
    go_enter Tryd.func28, Tryd.ntmps28
    go_wp2_with (first
      | (refine wpList_len sliceT rfl (.tmp 6) rfl va rfl w.heap.size la HA.out ?_)
      | (refine wpList_len sliceT rfl (.tmp 8) rfl vb rfl w.heap.size lb HB.out ?_))
    go_loopw [5] (fun i wr => ∃ k : Nat, k ≤ la.length ∧ i = .int .i64 k ∧ Below w.heap.size w wr ∧ Hid (∀ j, j < k → la[j]?.getD 0 = lb[j]?.getD 0)) (fun i _ => la.length - (intOf i).toNat)
    case atStart => exact ⟨0, Nat.zero_le _, rfl, Below.refl _ _, fun j hj => by omega⟩
    case round =>
      obtain ⟨k, hk, rfl, hbw, HJ⟩ := hrel
      have HAW := hide (HA.out.below hbw (Nat.le_refl _))
      have HBW := hide (HB.out.below hbw (Nat.le_refl _))
      have HW := hide hbw
      have hsz := hbw.size
      clear hbw
      by_cases hlt : k < la.length
      · have hltb : k < lb.length := by rw [← HLL.out]; exact hlt
        generalize hx : la[k]?.getD 0 = x
        generalize hy : lb[k]?.getD 0 = y
        have HX := hide hx
        have HY := hide hy
        clear hx hy
        cases hxy : (x != y)
        all_goals
          have HXY := hide hxy
          go_wp2_with (refine wpList_len sliceT rfl (.tmp _) rfl va rfl w.heap.size la HAW.out ?_)
          refine wp_region_old (by kernel_rfl) (by kernel_rfl) ?_
          go_big_quiet_step ((first | exact fun _ => rfl | exact fun _ => ⟨rfl, rfl⟩))
          go_big_quiet_step ((first | exact fun _ => rfl | exact fun _ => ⟨rfl, rfl⟩))
          refine q_at sliceT intS rfl (.tmp _) (.tmp _) rfl va rfl _ rfl k rfl w.heap.size la wr HAW.out hlt ?_
          intro ad hcell hblk
          rw [HX.out] at hcell
          simp only [Act.put, List.setIfInBounds_toArray, List.set_cons_zero, List.set_cons_succ]
          refine q_load_cell rowI rfl (.tmp _) rfl ad rfl (.int .i64 x) (fun w' h => (h.cell (by omega)).trans hcell) ?_
          simp only [Act.put, List.setIfInBounds_toArray, List.set_cons_zero, List.set_cons_succ]
          go_big_quiet_step ((first | exact fun _ => rfl | exact fun _ => ⟨rfl, rfl⟩))
          go_big_quiet_step ((first | exact fun _ => rfl | exact fun _ => ⟨rfl, rfl⟩))
          refine q_at sliceT intS rfl (.tmp _) (.tmp _) rfl vb rfl _ rfl k rfl w.heap.size lb wr HBW.out hltb ?_
          intro ad2 hcell2 hblk2
          rw [HY.out] at hcell2
          simp only [Act.put, List.setIfInBounds_toArray, List.set_cons_zero, List.set_cons_succ]
          refine q_load_cell rowI rfl (.tmp _) rfl ad2 rfl (.int .i64 y) (fun w' h => (h.cell (by omega)).trans hcell2) ?_
          simp only [Act.put, List.setIfInBounds_toArray, List.set_cons_zero, List.set_cons_succ]
          go_big_quiet_step ((first | exact fun _ => rfl | exact fun _ => ⟨rfl, rfl⟩))
          refine wpQuiet_nil ?_
          intro w2 hb2
          clear hcell hcell2
          have HW2 := hide (HW.out.trans (hb2.mono (by omega)))
          clear hb2
          go_wp2
        · go_roundw
          case rel =>
            refine ⟨k + 1, by omega, by go_num, HW2.out, fun j hj => ?_⟩
            rcases Nat.lt_or_ge j k with h | h
            · exact HJ.out j h
            · rw [show j = k by omega, HX.out, HY.out]
              have := HXY.out
              simpa using this
          case measure => simp [intOf]; omega
        · go_ret
          refine ⟨ret_b ?_, HW2.out⟩
          rw [eq_comm, decide_eq_false_iff_not]
          intro h
          have := HXY.out
          rw [← HX.out, ← HY.out, h] at this
          simp at this
      · have HK := hide (show la.length = k by omega)
        have hlt' : ¬ ((k : Int) < (la.length : Int)) := by omega
        go_wp2_with (refine wpList_len sliceT rfl (.tmp _) rfl va rfl w.heap.size la HAW.out ?_)
        go_ret
        refine ⟨ret_b ?_, HW.out⟩
        rw [eq_comm, decide_eq_true_iff]
        exact eq_of_getD HLL.out fun j hj => HJ.out j (by rw [← HK.out, HLL.out]; exact hj)
  · have hd : ((la.length : Int) != (lb.length : Int)) = true := by simp; omega
    have hd' : (la.length != lb.length) = true := by simp; exact hll
    have HLL := hide hll
    clear hll
    go_enter Tryd.func28, Tryd.ntmps28
    go_wp2_with (first
      | (refine wpList_len sliceT rfl (.tmp 6) rfl va rfl w.heap.size la HA.out ?_)
      | (refine wpList_len sliceT rfl (.tmp 8) rfl vb rfl w.heap.size lb HB.out ?_))
    go_ret
    refine ⟨ret_b ?_, Below.refl _ _⟩
    rw [eq_comm, decide_eq_false_iff_not]
    intro h
    exact HLL.out (by rw [h])

set_option maxHeartbeats 400000 in
theorem eqSpace_c (n m : Int) (va vb : Value) (la lb : List Int) (w : World) (ha : ints w.heap.size w va la) (hb : ints w.heap.size w vb lb) (hla : la.length < 1000000000) :
    Calls Tryd.prog 12 #[.agg #[.int .i64 n, va], .agg #[.int .i64 m, vb]] w fun e w' => e = .returned (.bool (decide (n = m ∧ la = lb))) ∧ Below w.heap.size w w' := by
  have HA := hide (((ha.alloc (.cells #[.int .i64 n, va] 29)).alloc (.cells #[.int .i64 m, vb] 29)).mono (show w.heap.size ≤ ((w.alloc (.cells #[.int .i64 n, va] 29)).alloc (.cells #[.int .i64 m, vb] 29)).heap.size by simp; omega))
  have HB := hide (((hb.alloc (.cells #[.int .i64 n, va] 29)).alloc (.cells #[.int .i64 m, vb] 29)).mono (show w.heap.size ≤ ((w.alloc (.cells #[.int .i64 n, va] 29)).alloc (.cells #[.int .i64 m, vb] 29)).heap.size by simp; omega))
  clear ha hb
  have hb0 := ((Below.refl w.heap.size w).alloc (Nat.le_refl _) (.cells #[.int .i64 n, va] 29)).alloc (by simp) (.cells #[.int .i64 m, vb] 29)
  have H0 := hide hb0
  clear hb0
  cases hnm : (n != m)
  · have hnm' : n = m := by simpa using hnm
    cases hl : decide (la = lb)
    all_goals
      have HNM := hide hnm'
      have HL := hide hl
      clear hl hnm'
      go_enter Tryd.func12, Tryd.ntmps12
      go_wp2_with (go_at_call 28; refine (eqIntS_c va vb la lb _ HA.out HB.out hla).mono ?_; rw [HL.out]; rintro e w' ⟨rfl, hb1⟩)
      go_ret
      refine ⟨ret_b ?_, H0.out.trans (hb1.mono (by simp; omega))⟩
      have := HL.out
      simp [HNM.out]
      simpa using this
  · have HNM := hide hnm
    go_enter Tryd.func12, Tryd.ntmps12
    go_wp2
    go_ret
    refine ⟨ret_b ?_, H0.out⟩
    have := HNM.out
    rw [eq_comm, decide_eq_false_iff_not]
    intro h
    simp [h.1] at this
end Go.Proofs.YtblglkgmnaklbaaDoor
