/- Contracts: whether a net is one, the specification's; IsNet, both. -/
import Derived.Test.YtojejhdlfklhkaaDoorNc
namespace Go.Proofs.YtojejhdlfklhkaaDoor
open Go.RowKit
set_option maxRecDepth 100000
attribute [local irreducible] p2 low memB risB
theorem ent_spItemsN : enters Tryd.prog 95 := enters_of Tryd.func95 (by kernel_rfl) (by kernel_rfl)
theorem ent_l1AllN : enters Tryd.prog 96 := enters_of Tryd.func96 (by kernel_rfl) (by kernel_rfl)
theorem ent_spInN : enters Tryd.prog 63 := enters_of Tryd.func63 (by kernel_rfl) (by kernel_rfl)

set_option maxHeartbeats 4000000 in
theorem shGood_c (v : Value) (l : List Int) (w : World) (hl : ints w.heap.size w v l) (hlen : l.length < 1000000000) :
    Calls Tryd.prog 55 #[.agg #[v]] w fun e w' => e = .returned (.bool (neB l)) ∧ Below w.heap.size w w' := by
  have HL := hide hl
  have HL1 := hide (hl.alloc (.cells #[v] 27))
  have HB1 := hide (bx_start 27 v w)
  clear hl
  by_cases hn : 1 ≤ (l.length : Int) ∧ (l.length : Int) ≤ 7
  · have HN := hide hn
    have hn7 : l.length ≤ 7 := by omega
    have hp1 := wrap_p2 l.length hn7
    have hp2 : IntKind.i64.wrap (2 ^ l.length) = (p2 l.length : Int) := by rw [IntWalk.i64_left]; exact hp1
    have hp3 := wrap_low l.length hn7
    have hp4 := low_p2 l.length
    have hlo := low_lt l.length hn7
    have hp5 : IntKind.i64.wrap (low l.length : Int) = (low l.length : Int) := IntWalk.i64_in _ (by omega)
    have HAL := hide (neA_yes hn)
    clear hn
    cases ha : neA l
    all_goals
      have HA := hide ha
      have HAA := hide (HAL.out.symm.trans ha)
      go_enter Tryd.func55, Tryd.ntmps55
      go_wp2_with (refine wpList_len sliceT rfl (.tmp _) rfl v rfl w.heap.size l HL1.out ?_)
      refine wp_region_old (by kernel_rfl) (by kernel_rfl) ?_
      go_big_quiet_step ((first | exact fun _ => rfl | exact fun _ => ⟨rfl, rfl⟩))
      refine q_pure rfl 95 ent_spItemsN _ _ rfl #[.int .i64 (l.length : Int)] rfl (.bool true) (fun w' _ => by have := spItems_c (l.length : Int) w'; rw [decide_eq_true HN.out] at this; exact this) ?_
      simp only [Act.put, List.setIfInBounds_toArray, List.set_cons_zero, List.set_cons_succ]
      go_big_quiet_step ((first | exact fun _ => rfl | exact fun _ => ⟨rfl, rfl⟩))
      go_big_quiet_step ((first | exact fun _ => rfl | exact fun _ => ⟨rfl, rfl⟩))
      go_big_quiet_step ((first | exact fun _ => rfl | exact fun _ => ⟨rfl, rfl⟩))
      refine q_load_cell rowS rfl (.tmp _) rfl _ rfl v (fun w' h => bx_cell (h.mono (by simp))) ?_
      simp only [Act.put, List.setIfInBounds_toArray, List.set_cons_zero, List.set_cons_succ]
      go_big_quiet_step ((first | exact fun _ => rfl | exact fun _ => ⟨rfl, rfl⟩))
      go_big_quiet_step ((first | exact fun _ => rfl | exact fun _ => ⟨rfl, rfl⟩))
      go_big_quiet_step ((first | exact fun _ => rfl | exact fun _ => ⟨rfl, rfl⟩))
      refine q_pure rfl 96 ent_l1AllN _ _ rfl #[v, .int .i64 0, .int .i64 (low l.length : Int)] rfl (.bool (neA l)) (fun w' h => by have := l1All_c v l 0 (low l.length : Int) w' (bx_full (h.mono (by simp)) HL.out) hlen; rw [HAA.out] at this; rw [HA.out]; exact this) ?_
      rw [HA.out]
      simp only [Act.put, List.setIfInBounds_toArray, List.set_cons_zero, List.set_cons_succ]
      repeat (first | go_big_quiet_skip | go_big_quiet_step ((first | exact fun _ => rfl | exact fun _ => ⟨rfl, rfl⟩)))
      refine wpQuiet_nil ?_
      intro w2 hb2
      have HB2 := hide (HB1.out.trans (hb2.mono (by simp)))
      have hcell := bx_cell HB2.out
      clear hb2
    · have HNO := hide (neB_no1 HA.out)
      go_wp2
      go_ret
      exact ⟨ret_b HNO.out.symm, bx_below HB2.out⟩
    · have h128 := fun p => neA_128 ha p
      have HCX := hide (fun p hp => neA_cast ha p hp)
      have H128 := hide h128
      clear ha h128 hp1 hp2 hp3 hp4 hp5 hlo
      go_wp2_with (refine wpList_len sliceT rfl (.tmp _) rfl v rfl w.heap.size l (bx_ints HB2.out HL.out) ?_)
      clear hcell
      go_loopw [25] (fun i wr => ∃ k : Nat, k ≤ l.length ∧ i = .int .i64 (k : Int) ∧ Hid (neTo l k = true) ∧ Hid (Below (w.heap.size + 1) (w.alloc (.cells #[v] 27)) wr)) (fun i _ => l.length - (intOf i).toNat)
      case atStart => exact ⟨0, Nat.zero_le _, rfl, rfl, HB2⟩
      case round =>
        obtain ⟨k, hk, rfl, HJ, HB⟩ := hrel
        have hcell := bx_cell HB.out
        have HIW := hide (bx_ints HB.out HL.out)
        have hkk : k ≤ 7 := by omega
        by_cases hlt : k < l.length
        · have hs128 := H128.out k
          have HNX := hide (neTo_next l k)
          have HX := hide (HCX.out k hlt)
          have HRN := hide (neRow_next l k)
          have HPD : Hid (∀ j, neP l k j = !((nth l k).testBit j && (decide (k = j) || !(nth l j).testBit k))) := hide (fun j => rfl)
          have HBAD := hide (fun j (hj : j < l.length) (h : neP l k j = false) => ne_bad hlt hj h)
          generalize nth l k = s at hs128 HX HPD
          go_wp2_with (first
            | (refine wpList_at sliceT intS rfl (.tmp _) (.tmp _) rfl v rfl k rfl w.heap.size l HIW.out hlt ?_; intro ad hcell2 hblk; rw [HX.out] at hcell2)
            | (refine wpList_len sliceT rfl (.tmp _) rfl v rfl w.heap.size l HIW.out ?_))
          clear hcell2
          go_loopw [33] (fun i ws => ∃ j : Nat, j ≤ l.length ∧ i = .int .i64 (j : Int) ∧ Hid (neRow l k j = true) ∧ Hid (Below (w.heap.size + 1) (w.alloc (.cells #[v] 27)) ws)) (fun i _ => l.length - (intOf i).toNat)
          case atStart => exact ⟨0, Nat.zero_le _, rfl, rfl, HB⟩
          case round =>
            clear hcell
            obtain ⟨j, hj, rfl, HK, HBI⟩ := hrel
            have hcell := bx_cell HBI.out
            have HIV := hide (bx_ints HBI.out HL.out)
            have hjj : j ≤ 7 := by omega
            by_cases hlj : j < l.length
            · have HP := hide (HPD.out j)
              have HRX := hide (HRN.out j)
              have HBJ := hide (HBAD.out j hlj)
              have ht128 := H128.out j
              have HY := hide (HCX.out j hlj)
              generalize nth l j = t at ht128 HP HY
              cases hb : s.testBit j
              · have HBT := hide hb
                have HYES := hide (show neRow l k (j + 1) = true by rw [HRX.out, HK.out, HP.out, hb]; rfl)
                clear hb
                go_wp2_with (go_at_call 63; refine (spIn_c _ _ _ (by omega) (by omega) (by omega) (by omega)).mono ?_; rw [Int.toNat_natCast, Int.toNat_natCast, HBT.out]; rintro e w8 ⟨rfl, rfl⟩)
                go_roundw
                case rel => exact ⟨j + 1, by omega, by go_num, HYES, HBI⟩
                case measure => simp [intOf]; omega
              · have HBT := hide hb
                clear hb
                by_cases hkj : k = j
                · have HNO := hide (HBJ.out (by rw [HP.out, HBT.out, decide_eq_true hkj]; rfl))
                  have hd : ((k : Int) == (j : Int)) = true := by rw [beq_iff_eq]; omega
                  have HKJ := hide hkj
                  clear hkj
                  go_wp2_with (go_at_call 63; refine (spIn_c _ _ _ (by omega) (by omega) (by omega) (by omega)).mono ?_; rw [Int.toNat_natCast, Int.toNat_natCast, HBT.out]; rintro e w8 ⟨rfl, rfl⟩)
                  go_ret
                  exact ⟨ret_b HNO.out.symm, bx_below HBI.out⟩
                · have hd : ((k : Int) == (j : Int)) = false := by rw [beq_eq_false_iff_ne]; omega
                  have HKJ := hide hkj
                  clear hkj
                  cases hb2 : t.testBit k
                  · have HBT2 := hide hb2
                    have HNO := hide (HBJ.out (by rw [HP.out, HBT.out, hb2]; simp))
                    clear hb2
                    go_wp2_with (first
                      | (go_at_call 63; refine (spIn_c _ _ _ (by omega) (by omega) (by omega) (by omega)).mono ?_; rw [Int.toNat_natCast, Int.toNat_natCast]; (first | rw [HBT.out] | rw [HBT2.out]); rintro e w8 ⟨rfl, rfl⟩)
                      | (refine wpList_at sliceT intS rfl (.tmp _) (.tmp _) rfl v rfl j rfl w.heap.size l HIV.out hlj ?_; intro ad hcell2 hblk; rw [HY.out] at hcell2))
                    go_ret
                    exact ⟨ret_b HNO.out.symm, bx_below HBI.out⟩
                  · have HBT2 := hide hb2
                    have HYES := hide (show neRow l k (j + 1) = true by rw [HRX.out, HK.out, HP.out, HBT.out, hb2, decide_eq_false HKJ.out]; rfl)
                    clear hb2
                    go_wp2_with (first
                      | (go_at_call 63; refine (spIn_c _ _ _ (by omega) (by omega) (by omega) (by omega)).mono ?_; rw [Int.toNat_natCast, Int.toNat_natCast]; (first | rw [HBT.out] | rw [HBT2.out]); rintro e w8 ⟨rfl, rfl⟩)
                      | (refine wpList_at sliceT intS rfl (.tmp _) (.tmp _) rfl v rfl j rfl w.heap.size l HIV.out hlj ?_; intro ad hcell2 hblk; rw [HY.out] at hcell2))
                    go_roundw
                    case rel => exact ⟨j + 1, by omega, by go_num, HYES, HBI⟩
                    case measure => simp [intOf]; omega
            · have HJE := hide (show j = l.length by omega)
              have HROW := hide (show neRow l k l.length = true by rw [← HJE.out]; exact HK.out)
              have hlj' : ¬ ((j : Int) < (l.length : Int)) := by omega
              go_wp2
              go_roundw
              case rel => exact ⟨k + 1, by omega, by go_num, by rw [HNX.out, HJ.out, HROW.out]; rfl, HBI⟩
              case measure => simp [intOf]; omega
        · have HKE := hide (show k = l.length by omega)
          have HYES := hide (neB_yes HA.out (by rw [← HKE.out]; exact HJ.out))
          have hlt' : ¬ ((k : Int) < (l.length : Int)) := by omega
          go_wp2
          go_ret
          exact ⟨ret_b HYES.out.symm, bx_below HB.out⟩
  · have HN := hide hn
    have HNO := hide (neB_no1 (neA_no hn))
    clear hn
    go_enter Tryd.func55, Tryd.ntmps55
    go_wp2_with (refine wpList_len sliceT rfl (.tmp _) rfl v rfl w.heap.size l HL1.out ?_)
    refine wp_region_old (by kernel_rfl) (by kernel_rfl) ?_
    go_big_quiet_step ((first | exact fun _ => rfl | exact fun _ => ⟨rfl, rfl⟩))
    refine q_pure rfl 95 ent_spItemsN _ _ rfl #[.int .i64 (l.length : Int)] rfl (.bool false) (fun w' _ => by have := spItems_c (l.length : Int) w'; rw [decide_eq_false HN.out] at this; exact this) ?_
    simp only [Act.put, List.setIfInBounds_toArray, List.set_cons_zero, List.set_cons_succ]
    repeat (first | go_big_quiet_skip | go_big_quiet_step ((first | exact fun _ => rfl | exact fun _ => ⟨rfl, rfl⟩)))
    refine wpQuiet_nil ?_
    intro w2 hb2
    have HB2 := hide (HB1.out.trans (hb2.mono (by simp)))
    clear hb2
    go_wp2
    go_ret
    exact ⟨ret_b HNO.out.symm, bx_below HB2.out⟩

theorem specIsNet_c (v : Value) (l : List Int) (w : World) (hl : ints w.heap.size w v l) (hlen : l.length < 1000000000) (_hT : tab w) :
    Calls Tryd.prog 16 #[.agg #[v]] w fun e w' => e = .returned (.bool (neB l)) ∧ Below w.heap.size w w' := by
  have HL := hide hl
  clear hl
  go_enter Tryd.func16, Tryd.ntmps16
  go_wp2_with (go_at_call 55; refine (shGood_c v l _ (bx_full (bx_start _ _ _) HL.out) hlen).mono ?_; rintro e w2 ⟨rfl, hb2⟩; have HB2 := hide (bx_to (bx_start 27 v w) hb2); clear hb2)
  go_ret
  exact ⟨rfl, bx_below HB2.out⟩
theorem implIsNet_c (v : Value) (l : List Int) (w : World) (hl : ints w.heap.size w v l) (hlen : l.length < 1000000000) (hT : tab w) :
    Calls Tryd.prog 18 #[.agg #[v]] w fun e w' => e = .returned (.bool (neB l)) ∧ Below w.heap.size w w' := by
  have HL := hide hl
  have HT := hide hT
  clear hl hT
  go_enter Tryd.func18, Tryd.ntmps18
  go_wp2_with (go_at_call 56; refine (isNet_c v l _ (bx_full (bx_start _ _ _) HL.out) hlen (bx_tab (bx_start _ _ _) HT.out)).mono ?_; rintro e w2 ⟨rfl, hb2⟩; have HB2 := hide (bx_to (bx_start 27 v w) hb2); clear hb2)
  go_ret
  exact ⟨rfl, bx_below HB2.out⟩
end Go.Proofs.YtojejhdlfklhkaaDoor
