/- Contracts: WayBetween, the specification's. -/
import Derived.Test.YtonimjpfaalniaaDoorNm2
namespace Go.Proofs.YtonimjpfaalniaaDoor
open Go.RowKit
set_option maxRecDepth 100000
set_option linter.unusedSimpArgs false
attribute [local irreducible] p2 low memB risB
set_option maxHeartbeats 4000000 in
theorem specWayBetween_c (v : Value) (l : List Int) (a b : Int) (w : World) (hl : ints w.heap.size w v l) (hlen : l.length < 1000000000) (_hT : tab w) :
    Calls Tryd.prog 52 #[.agg #[v], .int .i64 a, .int .i64 b] w fun e w' => e = .returned (.tuple #[.int .i64 (wbR l a b), .bool (wbB l a b)]) ∧ Below w.heap.size w w' := by
  have HL := hide hl
  have HB1 := hide (bx_start 62 v w)
  clear hl
  cases htb : treB l
  · have HTB := hide htb
    have HR := hide (wb_no (wb_no1 (a := a) (b := b) htb))
    clear htb
    go_enter Tryd.func52, Tryd.ntmps52
    go_wp2_with (first
      | (go_at_call 108; refine (shTree_c v l _ (bx_full HB1.out HL.out) hlen).mono ?_; rw [HTB.out]; rintro e w2 ⟨rfl, hb2⟩; have HB2 := hide (bx_to HB1.out hb2); have hc2 := bx_cell HB2.out; have HL2 := hide (bx_ints HB2.out HL.out); clear hb2)
      | (refine wpList_len sliceT rfl (.tmp _) rfl v rfl w.heap.size l HL2.out ?_)
      | fail)
    go_ret2
    exact ⟨by rw [HR.out.1, HR.out.2]; rfl, bx_below HB2.out⟩
  · have HTB := hide htb
    have hA := treB_A htb
    have h7 := (treB_n htb).2
    have hsub : IntKind.i64.wrap ((l.length : Int) - 1) = (l.length : Int) - 1 := IntWalk.i64_in _ (by omega)
    by_cases ha : 0 ≤ a ∧ a < (l.length : Int)
    · have HA := hide (show 0 ≤ a ∧ a ≤ (l.length : Int) - 1 by omega)
      by_cases hb : 0 ≤ b ∧ b < (l.length : Int)
      · have HBB := hide (show 0 ≤ b ∧ b ≤ (l.length : Int) - 1 by omega)
        obtain ⟨a, rfl⟩ := Int.eq_ofNat_of_zero_le ha.1
        obtain ⟨b, rfl⟩ := Int.eq_ofNat_of_zero_le hb.1
        have hal : a < l.length := by omega
        have hbl : b < l.length := by omega
        have HR := hide (wb_yes htb hal hbl)
        have ha7 : a < 7 := by omega
        have hb7 : b < 7 := by omega
        have HW0 := hide (WyIn.start (l := l) (a := a) (b := b) ha7 hb7)
        have HWE := hide (fun y h => WyIn.done (l := l) (y := y) hal hbl h)
        have hpa := p2_lt128 a ha7
        have hpb := p2_lt128 b hb7
        have hor := i64_or (p2 a) (p2 b) (Nat.lt_trans hpa (by decide)) (Nat.lt_trans hpb (by decide))
        have hlo := low_lt l.length h7
        have hp1 := wrap_p2 l.length h7
        have hp2 : IntKind.i64.wrap (2 ^ l.length) = (p2 l.length : Int) := by rw [IntWalk.i64_left]; exact hp1
        have hp3 := wrap_low l.length h7
        have hp4 := low_p2 l.length
        have hq1 := wrap_p2 a (by omega)
        have hq2 : IntKind.i64.wrap (2 ^ a) = (p2 a : Int) := by rw [IntWalk.i64_left]; exact hq1
        have hr1 := wrap_p2 b (by omega)
        have hr2 : IntKind.i64.wrap (2 ^ b) = (p2 b : Int) := by rw [IntWalk.i64_left]; exact hr1
        clear htb ha hb
        go_enter Tryd.func52, Tryd.ntmps52
        go_wp2_with (first
          | (go_at_call 108; refine (shTree_c v l _ (bx_full HB1.out HL.out) hlen).mono ?_; rw [HTB.out]; rintro e w2 ⟨rfl, hb2⟩; have HB2 := hide (bx_to HB1.out hb2); have hc2 := bx_cell HB2.out; have HL2 := hide (bx_ints HB2.out HL.out); clear hb2)
          | (refine wpList_len sliceT rfl (.tmp _) rfl v rfl w.heap.size l HL2.out ?_)
          | (go_at_call 99; refine (l1In_c _ _ _ _).mono ?_; (first | rw [decide_eq_true HA.out] | rw [decide_eq_true HBB.out]); rintro e w4 ⟨rfl, rfl⟩))
        refine wp_region_old (by kernel_rfl) (by kernel_rfl) ?_
        go_big_quiet_step ((first | exact fun _ => rfl | exact fun _ => ⟨rfl, rfl⟩))
        go_big_quiet_step ((first | exact fun _ => rfl | exact fun _ => ⟨rfl, rfl⟩))
        go_big_quiet_step ((first | exact fun _ => rfl | exact fun _ => ⟨rfl, rfl⟩))
        go_big_quiet_step ((first | exact fun _ => rfl | exact fun _ => ⟨rfl, rfl⟩))
        go_big_quiet_step ((first | exact fun _ => rfl | exact fun _ => ⟨rfl, rfl⟩))
        go_big_quiet_step ((first | exact fun _ => rfl | exact fun _ => ⟨rfl, rfl⟩))
        refine wpQuiet_nil ?_
        intro w5 hb5
        have HB5 := hide (bx_to HB2.out hb5)
        have hc5 := bx_cell HB5.out
        have HL5 := hide (bx_ints HB5.out HL.out)
        clear hb5 hc2 hp1 hp2 hp3 hp4 hq1 hq2 hr1 hr2 hor
        go_wp2_with (refine wpList_len sliceT rfl (.tmp _) rfl v rfl w.heap.size l HL5.out ?_)
        clear hc5
        generalize p2 a ||| p2 b = y0 at *
        go_loopw [9, 45] (fun o j wr => ∃ y k : Nat, o = .int .i64 (y : Int) ∧ j = .int .i64 (k : Int) ∧ k ≤ l.length ∧ Hid (WyIn l a b k y) ∧ Hid (Below (w.heap.size + 1) (w.alloc (.cells #[v] 62)) wr)) (fun _ j _ => l.length - (intOf j).toNat)
        case atStart => exact ⟨y0, 0, rfl, rfl, Nat.zero_le _, HW0, HB5⟩
        case round =>
          obtain ⟨y, k, rfl, rfl, hk, HY, HB⟩ := hrel
          have hcell := bx_cell HB.out
          have hy8 := HY.out.1
          by_cases hlt : k < l.length
          · have hk7 : k < 7 := by omega
            by_cases hka : k = a
            · have hd : ((k : Int) != (a : Int)) = false := by simp; omega
              have hd2 : ((k : Int) == (a : Int)) = true := by rw [beq_iff_eq]; omega
              have HN := hide (HY.out.skip (.inl hka))
              clear hka
              go_wp2_with fail
              refine wp_region_old (by kernel_rfl) (by kernel_rfl) ?_
              repeat (first | go_big_quiet_skip | go_big_quiet_step ((first | exact fun _ => rfl | exact fun _ => ⟨rfl, rfl⟩)))
              refine wpQuiet_nil ?_
              intro w6 hb6
              have HB6 := hide (bx_to HB.out hb6)
              clear hb6 hcell
              go_wp2
              go_roundw
              case rel => exact ⟨y, k + 1, rfl, by go_num, by omega, HN, HB6⟩
              case measure => simp [intOf]; omega
            · have hd : ((k : Int) != (a : Int)) = true := by simp; omega
              have hd2 : ((k : Int) == (a : Int)) = false := by rw [beq_eq_false_iff_ne]; omega
              by_cases hkb : k = b
              · have he : ((k : Int) != (b : Int)) = false := by simp; omega
                have he2 : ((k : Int) == (b : Int)) = true := by rw [beq_iff_eq]; omega
                have HN := hide (HY.out.skip (.inr (.inl hkb)))
                clear hka hkb
                go_wp2_with fail
                refine wp_region_old (by kernel_rfl) (by kernel_rfl) ?_
                repeat (first | go_big_quiet_skip | go_big_quiet_step ((first | exact fun _ => rfl | exact fun _ => ⟨rfl, rfl⟩)))
                refine wpQuiet_nil ?_
                intro w6 hb6
                have HB6 := hide (bx_to HB.out hb6)
                clear hb6 hcell
                go_wp2
                go_roundw
                case rel => exact ⟨y, k + 1, rfl, by go_num, by omega, HN, HB6⟩
                case measure => simp [intOf]; omega
              · have he : ((k : Int) != (b : Int)) = true := by simp; omega
                have he2 : ((k : Int) == (b : Int)) = false := by rw [beq_eq_false_iff_ne]; omega
                have HWK := hide (way_cond (l := l) hka hkb)
                have hp1 := wrap_p2 k (by omega)
                have hp2 : IntKind.i64.wrap (2 ^ k) = (p2 k : Int) := by rw [IntWalk.i64_left]; exact hp1
                have hpk := p2_lt128 k hk7
                have han := i64_andNot (low l.length) (p2 k) (by omega)
                have hs8 := andNot_lt128 (low l.length) (p2 k) hlo
                have HRE := hide (fun w1 h1 => shReach_c v l a (andNot (low l.length) (p2 k)) w1 h1 hA hal hs8)
                have hr8 := reach_lt (l := l) (s := andNot (low l.length) (p2 k)) (i := a) ha7 hs8
                have hoy := i64_or y (p2 k) (by omega) (by omega)
                have HNS := hide (fun h => HY.out.skip (.inr (.inr h)))
                have HNT := hide (fun h => HY.out.take hk7 h)
                clear hka hkb
                generalize andNot (low l.length) (p2 k) = s at *
                generalize reachS l s a = r at *
                cases hrb : r.testBit b
                all_goals
                  have HRB := hide hrb
                  clear hrb
                  go_wp2_with fail
                  refine wp_region_old (by kernel_rfl) (by kernel_rfl) ?_
                  go_big_quiet_step ((first | exact fun _ => rfl | exact fun _ => ⟨rfl, rfl⟩))
                  go_big_quiet_step ((first | exact fun _ => rfl | exact fun _ => ⟨rfl, rfl⟩))
                  go_big_quiet_step ((first | exact fun _ => rfl | exact fun _ => ⟨rfl, rfl⟩))
                  go_big_quiet_step ((first | exact fun _ => rfl | exact fun _ => ⟨rfl, rfl⟩))
                  go_big_quiet_step ((first | exact fun _ => rfl | exact fun _ => ⟨rfl, rfl⟩))
                  go_big_quiet_step ((first | exact fun _ => rfl | exact fun _ => ⟨rfl, rfl⟩))
                  go_big_quiet_step ((first | exact fun _ => rfl | exact fun _ => ⟨rfl, rfl⟩))
                  go_big_quiet_step ((first | exact fun _ => rfl | exact fun _ => ⟨rfl, rfl⟩))
                  go_big_quiet_step ((first | exact fun _ => rfl | exact fun _ => ⟨rfl, rfl⟩))
                  refine q_load_one rowNq sizeNq rfl (.tmp _) rfl _ _ rfl v (fun w' h => bx_cell (bx_to HB.out h)) ?_
                  simp only [Act.put, List.setIfInBounds_toArray, List.set_cons_zero, List.set_cons_succ]
                  go_big_quiet_step ((first | exact fun _ => rfl | exact fun _ => ⟨rfl, rfl⟩))
                  go_big_quiet_step ((first | exact fun _ => rfl | exact fun _ => ⟨rfl, rfl⟩))
                  go_big_quiet_step ((first | exact fun _ => rfl | exact fun _ => ⟨rfl, rfl⟩))
                  go_big_quiet_step ((first | exact fun _ => rfl | exact fun _ => ⟨rfl, rfl⟩))
                  go_big_quiet_step ((first | exact fun _ => rfl | exact fun _ => ⟨rfl, rfl⟩))
                  refine q_belowN rfl 111 ent_shReach _ _ rfl #[.agg #[v], .int .i64 (a : Int), .int .i64 (s : Int)] rfl (.int .i64 (r : Int)) (fun w' h => HRE.out w' (bx_full (bx_to HB.out h) HL.out)) ?_
                  simp only [Act.put, List.setIfInBounds_toArray, List.set_cons_zero, List.set_cons_succ]
                  go_big_quiet_step ((first | exact fun _ => rfl | exact fun _ => ⟨rfl, rfl⟩))
                  refine q_pure rfl 100 ent_spInN _ _ rfl #[.int .i64 (r : Int), .int .i64 (b : Int)] rfl (.bool (r.testBit b)) (fun w' _ => by have := spIn_c (r : Int) (b : Int) w' (by omega) (by omega) (by omega) (by omega); rw [Int.toNat_natCast, Int.toNat_natCast] at this; exact this) ?_
                  rw [HRB.out]
                  simp only [Act.put, List.setIfInBounds_toArray, List.set_cons_zero, List.set_cons_succ]
                  repeat (first | go_big_quiet_skip | go_big_quiet_step ((first | exact fun _ => rfl | exact fun _ => ⟨rfl, rfl⟩)))
                  refine wpQuiet_nil ?_
                  intro w6 hb6
                  have HB6 := hide (bx_to HB.out hb6)
                  clear hb6 hcell
                  go_wp2
                  go_roundw
                · exact ⟨_, k + 1, rfl, by go_num, by omega, HNT.out (by rw [HWK.out, HRB.out]; rfl), HB6⟩
                · simp [intOf]; omega
                · exact ⟨y, k + 1, rfl, by go_num, by omega, HNS.out (by rw [HWK.out, HRB.out]; rfl), HB6⟩
                · simp [intOf]; omega
          · have HE := hide (HWE.out y (by rw [← show k = l.length by omega]; exact HY.out))
            have hlt' : ¬ ((k : Int) < (l.length : Int)) := by omega
            go_wp2
            go_ret2
            exact ⟨by rw [HR.out.1, HR.out.2, ← HE.out]; rfl, bx_below HB.out⟩
      · have HBB := hide (show ¬ (0 ≤ b ∧ b ≤ (l.length : Int) - 1) by omega)
        have HR := hide (wb_no (wb_no3 (a := a) hb))
        clear htb ha hb
        go_enter Tryd.func52, Tryd.ntmps52
        go_wp2_with (first
          | (go_at_call 108; refine (shTree_c v l _ (bx_full HB1.out HL.out) hlen).mono ?_; rw [HTB.out]; rintro e w2 ⟨rfl, hb2⟩; have HB2 := hide (bx_to HB1.out hb2); have hc2 := bx_cell HB2.out; have HL2 := hide (bx_ints HB2.out HL.out); clear hb2)
          | (refine wpList_len sliceT rfl (.tmp _) rfl v rfl w.heap.size l HL2.out ?_)
          | (go_at_call 99; refine (l1In_c _ _ _ _).mono ?_; (first | rw [decide_eq_true HA.out] | rw [decide_eq_false HBB.out]); rintro e w4 ⟨rfl, rfl⟩))
        go_ret2
        exact ⟨by rw [HR.out.1, HR.out.2]; rfl, bx_below HB2.out⟩
    · have HA := hide (show ¬ (0 ≤ a ∧ a ≤ (l.length : Int) - 1) by omega)
      have HR := hide (wb_no (wb_no2 (b := b) ha))
      clear htb ha
      go_enter Tryd.func52, Tryd.ntmps52
      go_wp2_with (first
        | (go_at_call 108; refine (shTree_c v l _ (bx_full HB1.out HL.out) hlen).mono ?_; rw [HTB.out]; rintro e w2 ⟨rfl, hb2⟩; have HB2 := hide (bx_to HB1.out hb2); have hc2 := bx_cell HB2.out; have HL2 := hide (bx_ints HB2.out HL.out); clear hb2)
        | (refine wpList_len sliceT rfl (.tmp _) rfl v rfl w.heap.size l HL2.out ?_)
        | (go_at_call 99; refine (l1In_c _ _ _ _).mono ?_; rw [decide_eq_false HA.out]; rintro e w4 ⟨rfl, rfl⟩))
      go_ret2
      exact ⟨by rw [HR.out.1, HR.out.2]; rfl, bx_below HB2.out⟩
end Go.Proofs.YtonimjpfaalniaaDoor
