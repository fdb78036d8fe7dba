/- Contracts: the neighbours of a point; whether a net is one: the program's and the specification's; IsNet. -/
import Derived.Test.YtonimjpfaalniaaDoorNa
import Derived.Test.YtonimjpfaalniaaDoorSpm
import Derived.Test.YtonimjpfaalniaaDoorTz
import Derived.Test.YtonimjpfaalniaaDoorFwh
namespace Go.Proofs.YtonimjpfaalniaaDoor
open Go.RowKit
set_option maxRecDepth 100000
theorem low_p2 (n : Nat) : (p2 n : Int) - 1 = (low n : Int) := by have := p2_pos n; unfold p2 low; omega
attribute [local irreducible] p2 low memB risB
theorem bx_tab {T : TypeId} {v : Value} {w wr : World} (h : Below (w.heap.size + 1) (w.alloc (.cells #[v] T)) wr) (hT : tab w) : tab wr := hT.below (bx_below h)

theorem neighbours_c (v : Value) (l : List Int) (p : Nat) (w : World) (hl : ints w.heap.size w v l) (hp : p < l.length) (hx : l[p]?.getD 0 = (nth l p : Int)) :
    Calls Tryd.prog 186 #[.agg #[v], .int .i64 (p : Int)] w fun e w' => e = .returned (.int .i64 (nth l p : Int)) ∧ Below w.heap.size w w' := by
  have HL := hide (hl.alloc (.cells #[v] 62))
  generalize nth l p = x at hx ⊢
  have HX := hide hx
  clear hx hl
  go_enter Tryd.func186, Tryd.ntmps186
  go_wp2_with (refine wpList_at sliceT intS rfl (.tmp _) (.tmp _) rfl v rfl p rfl w.heap.size l HL.out hp ?_; intro ad hcell hblk; rw [HX.out] at hcell)
  go_ret
  exact ⟨rfl, (Below.refl _ _).alloc (Nat.le_refl _) _⟩

set_option maxHeartbeats 2000000 in
theorem isNet_c (v : Value) (l : List Int) (w : World) (hl : ints w.heap.size w v l) (hlen : l.length < 1000000000) (hT : tab w) :
    Calls Tryd.prog 156 #[.agg #[v]] w fun e w' => e = .returned (.bool (neB l)) ∧ Below w.heap.size w w' := by
  have HL := hide hl
  have HT := hide hT
  have HL1 := hide (hl.alloc (.cells #[v] 62))
  have hf2 : famAt 83 ((w.alloc (.cells #[v] 62)).alloc (.cells (fam 0 noSet) 83)) (w.heap.size + 1) 0 noSet := by have h := famAt.new 83 (w.alloc (.cells #[v] 62)) 0 noSet; simpa using h
  have hc0 := (hf2.row (l.length : Int) noSet).get0
  have HF2 := hide hf2
  have HF3 := hide (hf2.row (l.length : Int) noSet)
  have HB3 := hide (bl_row (((Below.refl (w.heap.size + 1) (w.alloc (.cells #[v] 62))).alloc (by simp) (.cells (fam 0 noSet) 83))) (Nat.le_refl _) (fam (l.length : Int) noSet))
  have hcv := bx_cell HB3.out
  clear hl hT hf2
  by_cases hn : 1 ≤ (l.length : Int) ∧ (l.length : Int) ≤ 7
  · have HN := hide hn
    have hn7 : (l.length : Int) ≤ 7 := hn.2
    have HAR : Hid (∀ (w1 : World), Below (w.heap.size + 1) (w.alloc (.cells #[v] 62)) w1 → Calls Tryd.prog 185 #[.agg (fam (l.length : Int) noSet), v] w1 fun e w' => e = .returned (.bool (neA l)) ∧ Below w1.heap.size w1 w') := hide fun w1 h1 => by
      have := areSets_c (l.length : Int) noSet v l w1 (bx_full h1 HL.out) hlen (by omega) hn7
      rw [Int.toNat_natCast, ← neA_yes HN.out] at this
      exact this
    clear hn
    cases ha : neA l
    · have HA := hide ha
      have HNO := hide (neB_no1 ha)
      clear ha
      go_enter Tryd.func156, Tryd.ntmps156
      go_wp2_with (first
        | (refine wpList_len sliceT rfl (.tmp _) rfl v rfl w.heap.size l HL1.out ?_)
        | (refine wpList_alloc_fam zeroT rfl rfl _ (by first | (simp only [World.size_alloc]; rfl) | rfl) ?_)
        | (refine wpList_build_fam builtT rfl _ rfl _ rfl ?_)
        | (refine wpList_store_fam sizeT rfl (.tmp _) (.tmp _) rfl _ (l.length : Int) noSet rfl rfl _ _ HF2.out ?_)
        | (refine wpList_load_fam rowT sizeT rfl (.tmp _) rfl _ rfl (l.length : Int) noSet HF3.out ?_)
        | (go_at_call 105; refine (isItemCount_c _ _).mono ?_; rw [decide_eq_true HN.out]; rintro e w1 ⟨rfl, rfl⟩)
        | (go_at_call 185; refine (HAR.out _ HB3.out).mono ?_; rw [HA.out]; rintro e w4 ⟨rfl, hb4⟩; have HB4 := hide (bx_to HB3.out hb4); clear hb4))
      go_ret
      exact ⟨ret_b HNO.out.symm, bx_below HB4.out⟩
    · have HA := hide ha
      have h128 := fun p => neA_128 ha p
      have HCX := hide (fun p hp => neA_cast ha p hp)
      have H128 := hide h128
      clear ha h128
      go_enter Tryd.func156, Tryd.ntmps156
      go_wp2_with (first
        | (refine wpList_len sliceT rfl (.tmp _) rfl v rfl w.heap.size l HL1.out ?_)
        | (refine wpList_alloc_fam zeroT rfl rfl _ (by first | (simp only [World.size_alloc]; rfl) | rfl) ?_)
        | (refine wpList_build_fam builtT rfl _ rfl _ rfl ?_)
        | (refine wpList_store_fam sizeT rfl (.tmp _) (.tmp _) rfl _ (l.length : Int) noSet rfl rfl _ _ HF2.out ?_)
        | (refine wpList_load_fam rowT sizeT rfl (.tmp _) rfl _ rfl (l.length : Int) noSet HF3.out ?_)
        | (go_at_call 105; refine (isItemCount_c _ _).mono ?_; rw [decide_eq_true HN.out]; rintro e w1 ⟨rfl, rfl⟩)
        | (go_at_call 185; refine (HAR.out _ HB3.out).mono ?_; rw [HA.out]; rintro e w4 ⟨rfl, hb4⟩; have hc4 := (HF3.out.below hb4 HF3.out.lt).get0; have HB4 := hide (bx_to HB3.out hb4); clear hb4))
      go_loopw [24] (fun i wr => ∃ k : Nat, k ≤ l.length ∧ i = .int .i64 (k : Int) ∧ Hid (neTo l k = true) ∧ Hid (Below (w.heap.size + 1) (w.alloc (.cells #[v] 62)) wr)) (fun i _ => l.length - (intOf i).toNat)
      case atStart => exact ⟨0, Nat.zero_le _, rfl, rfl, HB4⟩
      case round =>
        clear hc0 hcv hc4
        obtain ⟨k, hk, rfl, HJ, HB⟩ := hrel
        have hcell := bx_cell HB.out
        have hkk : k ≤ 7 := by omega
        by_cases hlt : k < l.length
        · have hs128 := H128.out k
          have HNX := hide (neTo_next l k)
          have HRW := hide (ne_row (l := l) (i := k) hs128)
          have HIT := hide (fun m hm => item_at (S := nth l k) (m := m) hs128 hm)
          have HNB := hide (fun w1 h1 => neighbours_c v l k w1 h1 hlt (HCX.out k hlt))
          have HPI := hide (fun j h => neP_item (l := l) (i := k) (j := j) h)
          have h7l := items_short (nth l k)
          have HLT := hide (fun m hm => bit_lt (neA_lt HA.out k) (item_at (S := nth l k) (m := m) hs128 hm).2.2)
          generalize nth l k = s at hs128 HRW HIT HNB HPI h7l HLT
          go_wp2_with (first
            | (go_at_call 186; refine (HNB.out _ (bx_full HB.out HL.out)).mono ?_; rintro e w5 ⟨rfl, hb5⟩; have HB5 := hide (bx_to HB.out hb5); clear hb5)
            | (go_at_call 131; refine (items_c s _ hs128 (bx_tab HB5.out HT.out)).mono ?_; rintro e w6 ⟨v6, rfl, ho6, hb6⟩; have HB6 := hide (bx_to HB5.out hb6); have HI6 := hide ho6.ints; clear hb6 ho6)
            | (refine wpList_len sliceT rfl (.tmp _) rfl v6 rfl w6.heap.size (itemsL s) HI6.out ?_))
          have HZ6 := hide (bx_size HB6.out)
          go_loopw [32] (fun i ws => ∃ j : Nat, j ≤ (itemsL s).length ∧ i = .int .i64 (j : Int) ∧ Hid (∀ m, m < j → neP l k (nth (itemsL s) m) = true) ∧ Hid (Below w6.heap.size w6 ws)) (fun i _ => (itemsL s).length - (intOf i).toNat)
          case atStart => exact ⟨0, Nat.zero_le _, rfl, fun m hm => by omega, Below.refl _ _⟩
          case round =>
            obtain ⟨j, hj, rfl, HK, HBI⟩ := hrel
            have HBW := hide (bx_to HB6.out HBI.out)
            have hcellw := bx_cell HBW.out
            have HIW := hide (HI6.out.below HBI.out (Nat.le_refl _))
            clear hcell
            by_cases hlj : j < (itemsL s).length
            · obtain ⟨i1, i2, i3⟩ := HIT.out j hlj
              have hol := HLT.out j hlj
              have HP := hide (HPI.out _ i3)
              have HLAST := hide (fun (h : neP l k (nth (itemsL s) j) = true) m (hm : m < j + 1) => show neP l k (nth (itemsL s) m) = true by
                rcases Nat.lt_or_ge m j with h' | h'
                · exact HK.out m h'
                · rw [show m = j by omega]; exact h)
              have HBAD := hide (fun (h : neP l k (nth (itemsL s) j) = false) => ne_bad hlt hol h)
              have HX := hide i1
              have HNB2 := hide (fun w1 h1 => neighbours_c v l (nth (itemsL s) j) w1 h1 hol (HCX.out _ hol))
              have ho128 := H128.out (nth (itemsL s) j)
              clear i1 i3
              generalize nth (itemsL s) j = o at *
              by_cases hok : o = k
              · have HNO := hide (HBAD.out (by rw [HP.out, decide_eq_true hok.symm]; rfl))
                have hd : ((o : Int) == (k : Int)) = true := by rw [beq_iff_eq]; omega
                have HOK := hide hok
                clear hok
                go_wp2_with (refine wpList_at sliceT intS rfl (.tmp _) (.tmp _) rfl v6 rfl j rfl w6.heap.size (itemsL s) HIW.out hlj ?_; intro ad hcell hblk; rw [HX.out] at hcell)
                go_ret
                exact ⟨ret_b HNO.out.symm, bx_below HBW.out⟩
              · have hd : ((o : Int) == (k : Int)) = false := by rw [beq_eq_false_iff_ne]; omega
                have HOK := hide hok
                clear hok
                cases hb : (nth l o).testBit k
                · have HBT := hide hb
                  have HNO := hide (HBAD.out (by rw [HP.out, hb]; simp))
                  clear hb
                  generalize nth l o = so at *
                  go_wp2_with (first
                    | (refine wpList_at sliceT intS rfl (.tmp _) (.tmp _) rfl v6 rfl j rfl w6.heap.size (itemsL s) HIW.out hlj ?_; intro ad hcell hblk; rw [HX.out] at hcell)
                    | (go_at_call 186; refine (HNB2.out _ (bx_full HBW.out HL.out)).mono ?_; rintro e w7 ⟨rfl, hb7⟩; have HB7 := hide (bx_to HBW.out hb7); clear hb7)
                    | (go_at_call 135; refine (has_c _ _ _ (by omega) (by omega) (by omega) (by omega)).mono ?_; rw [Int.toNat_natCast, Int.toNat_natCast, HBT.out]; rintro e w8 ⟨rfl, rfl⟩))
                  go_ret
                  exact ⟨ret_b HNO.out.symm, bx_below HB7.out⟩
                · have HBT := hide hb
                  have HYES := hide (HLAST.out (by rw [HP.out, hb, decide_eq_false (fun e => HOK.out e.symm)]; rfl))
                  clear hb
                  generalize nth l o = so at *
                  go_wp2_with (first
                    | (refine wpList_at sliceT intS rfl (.tmp _) (.tmp _) rfl v6 rfl j rfl w6.heap.size (itemsL s) HIW.out hlj ?_; intro ad hcell hblk; rw [HX.out] at hcell)
                    | (go_at_call 186; refine (HNB2.out _ (bx_full HBW.out HL.out)).mono ?_; rintro e w7 ⟨rfl, hb7⟩; have hz7 := HBI.out.size; have HB7 := hide (HBI.out.trans (hb7.mono hz7)); clear hb7)
                    | (go_at_call 135; refine (has_c _ _ _ (by omega) (by omega) (by omega) (by omega)).mono ?_; rw [Int.toNat_natCast, Int.toNat_natCast, HBT.out]; rintro e w8 ⟨rfl, rfl⟩))
                  go_roundw
                  case rel => exact ⟨j + 1, by omega, by go_num, HYES, HB7⟩
                  case measure => simp [intOf]; omega
            · have HJE := hide (show j = (itemsL s).length by omega)
              have HROW := hide (HRW.out (fun m hm => HK.out m (by rw [HJE.out]; exact hm)))
              have hlj' : ¬ ((j : Int) < ((itemsL s).length : Int)) := by omega
              go_wp2
              go_roundw
              case rel => exact ⟨k + 1, by omega, by go_num, by rw [HNX.out, HJ.out, HROW.out]; rfl, HBW⟩
              case measure => simp [intOf]; omega
        · have HKE := hide (show k = l.length by omega)
          have HYES := hide (neB_yes HA.out (by rw [← HKE.out]; exact HJ.out))
          have hlt' : ¬ ((k : Int) < (l.length : Int)) := by omega
          go_wp2
          go_ret
          exact ⟨ret_b HYES.out.symm, bx_below HB.out⟩
  · have HN := hide hn
    have HNO := hide (neB_no1 (neA_no hn))
    clear hn
    go_enter Tryd.func156, Tryd.ntmps156
    go_wp2_with (first
      | (refine wpList_len sliceT rfl (.tmp _) rfl v rfl w.heap.size l HL1.out ?_)
      | (refine wpList_alloc_fam zeroT rfl rfl _ (by first | (simp only [World.size_alloc]; rfl) | rfl) ?_)
      | (refine wpList_build_fam builtT rfl _ rfl _ rfl ?_)
      | (refine wpList_store_fam sizeT rfl (.tmp _) (.tmp _) rfl _ (l.length : Int) noSet rfl rfl _ _ HF2.out ?_)
      | (go_at_call 105; refine (isItemCount_c _ _).mono ?_; rw [decide_eq_false HN.out]; rintro e w1 ⟨rfl, rfl⟩))
    go_ret
    exact ⟨ret_b HNO.out.symm, bx_below HB3.out⟩
end Go.Proofs.YtonimjpfaalniaaDoor
/- Contracts: whether a net is one, the specification's; IsNet, both. -/
namespace Go.Proofs.YtonimjpfaalniaaDoor
open Go.RowKit
set_option maxRecDepth 100000
attribute [local irreducible] p2 low memB risB
theorem ent_spItemsN : enters Tryd.prog 72 := enters_of Tryd.func72 (by kernel_rfl) (by kernel_rfl)
theorem ent_l1AllN : enters Tryd.prog 73 := enters_of Tryd.func73 (by kernel_rfl) (by kernel_rfl)
theorem ent_spInN : enters Tryd.prog 100 := enters_of Tryd.func100 (by kernel_rfl) (by kernel_rfl)

set_option maxHeartbeats 4000000 in
theorem shGood_c (v : Value) (l : List Int) (w : World) (hl : ints w.heap.size w v l) (hlen : l.length < 1000000000) :
    Calls Tryd.prog 116 #[.agg #[v]] w fun e w' => e = .returned (.bool (neB l)) ∧ Below w.heap.size w w' := by
  have HL := hide hl
  have HL1 := hide (hl.alloc (.cells #[v] 62))
  have HB1 := hide (bx_start 62 v w)
  clear hl
  by_cases hn : 1 ≤ (l.length : Int) ∧ (l.length : Int) ≤ 7
  · have HN := hide hn
    have hn7 : l.length ≤ 7 := by omega
    have hp1 := wrap_p2 l.length hn7
    have hp2 : IntKind.i64.wrap (2 ^ l.length) = (p2 l.length : Int) := by rw [IntWalk.i64_left]; exact hp1
    have hp3 := wrap_low l.length hn7
    have hp4 := low_p2 l.length
    have hlo := low_lt l.length hn7
    have hp5 : IntKind.i64.wrap (low l.length : Int) = (low l.length : Int) := IntWalk.i64_in _ (by omega)
    have HAL := hide (neA_yes hn)
    clear hn
    cases ha : neA l
    all_goals
      have HA := hide ha
      have HAA := hide (HAL.out.symm.trans ha)
      go_enter Tryd.func116, Tryd.ntmps116
      go_wp2_with (refine wpList_len sliceT rfl (.tmp _) rfl v rfl w.heap.size l HL1.out ?_)
      refine wp_region_old (by kernel_rfl) (by kernel_rfl) ?_
      go_big_quiet_step ((first | exact fun _ => rfl | exact fun _ => ⟨rfl, rfl⟩))
      refine q_pure rfl 72 ent_spItemsN _ _ rfl #[.int .i64 (l.length : Int)] rfl (.bool true) (fun w' _ => by have := spItems_c (l.length : Int) w'; rw [decide_eq_true HN.out] at this; exact this) ?_
      simp only [Act.put, List.setIfInBounds_toArray, List.set_cons_zero, List.set_cons_succ]
      go_big_quiet_step ((first | exact fun _ => rfl | exact fun _ => ⟨rfl, rfl⟩))
      go_big_quiet_step ((first | exact fun _ => rfl | exact fun _ => ⟨rfl, rfl⟩))
      go_big_quiet_step ((first | exact fun _ => rfl | exact fun _ => ⟨rfl, rfl⟩))
      refine q_load_cell rowS rfl (.tmp _) rfl _ rfl v (fun w' h => bx_cell (h.mono (by simp))) ?_
      simp only [Act.put, List.setIfInBounds_toArray, List.set_cons_zero, List.set_cons_succ]
      go_big_quiet_step ((first | exact fun _ => rfl | exact fun _ => ⟨rfl, rfl⟩))
      go_big_quiet_step ((first | exact fun _ => rfl | exact fun _ => ⟨rfl, rfl⟩))
      go_big_quiet_step ((first | exact fun _ => rfl | exact fun _ => ⟨rfl, rfl⟩))
      refine q_pure rfl 73 ent_l1AllN _ _ rfl #[v, .int .i64 0, .int .i64 (low l.length : Int)] rfl (.bool (neA l)) (fun w' h => by have := l1All_c v l 0 (low l.length : Int) w' (bx_full (h.mono (by simp)) HL.out) hlen; rw [HAA.out] at this; rw [HA.out]; exact this) ?_
      rw [HA.out]
      simp only [Act.put, List.setIfInBounds_toArray, List.set_cons_zero, List.set_cons_succ]
      repeat (first | go_big_quiet_skip | go_big_quiet_step ((first | exact fun _ => rfl | exact fun _ => ⟨rfl, rfl⟩)))
      refine wpQuiet_nil ?_
      intro w2 hb2
      have HB2 := hide (HB1.out.trans (hb2.mono (by simp)))
      have hcell := bx_cell HB2.out
      clear hb2
    · have HNO := hide (neB_no1 HA.out)
      go_wp2
      go_ret
      exact ⟨ret_b HNO.out.symm, bx_below HB2.out⟩
    · have h128 := fun p => neA_128 ha p
      have HCX := hide (fun p hp => neA_cast ha p hp)
      have H128 := hide h128
      clear ha h128 hp1 hp2 hp3 hp4 hp5 hlo
      go_wp2_with (refine wpList_len sliceT rfl (.tmp _) rfl v rfl w.heap.size l (bx_ints HB2.out HL.out) ?_)
      clear hcell
      go_loopw [25] (fun i wr => ∃ k : Nat, k ≤ l.length ∧ i = .int .i64 (k : Int) ∧ Hid (neTo l k = true) ∧ Hid (Below (w.heap.size + 1) (w.alloc (.cells #[v] 62)) wr)) (fun i _ => l.length - (intOf i).toNat)
      case atStart => exact ⟨0, Nat.zero_le _, rfl, rfl, HB2⟩
      case round =>
        obtain ⟨k, hk, rfl, HJ, HB⟩ := hrel
        have hcell := bx_cell HB.out
        have HIW := hide (bx_ints HB.out HL.out)
        have hkk : k ≤ 7 := by omega
        by_cases hlt : k < l.length
        · have hs128 := H128.out k
          have HNX := hide (neTo_next l k)
          have HX := hide (HCX.out k hlt)
          have HRN := hide (neRow_next l k)
          have HPD : Hid (∀ j, neP l k j = !((nth l k).testBit j && (decide (k = j) || !(nth l j).testBit k))) := hide (fun j => rfl)
          have HBAD := hide (fun j (hj : j < l.length) (h : neP l k j = false) => ne_bad hlt hj h)
          generalize nth l k = s at hs128 HX HPD
          go_wp2_with (first
            | (refine wpList_at sliceT intS rfl (.tmp _) (.tmp _) rfl v rfl k rfl w.heap.size l HIW.out hlt ?_; intro ad hcell2 hblk; rw [HX.out] at hcell2)
            | (refine wpList_len sliceT rfl (.tmp _) rfl v rfl w.heap.size l HIW.out ?_))
          clear hcell2
          go_loopw [33] (fun i ws => ∃ j : Nat, j ≤ l.length ∧ i = .int .i64 (j : Int) ∧ Hid (neRow l k j = true) ∧ Hid (Below (w.heap.size + 1) (w.alloc (.cells #[v] 62)) ws)) (fun i _ => l.length - (intOf i).toNat)
          case atStart => exact ⟨0, Nat.zero_le _, rfl, rfl, HB⟩
          case round =>
            clear hcell
            obtain ⟨j, hj, rfl, HK, HBI⟩ := hrel
            have hcell := bx_cell HBI.out
            have HIV := hide (bx_ints HBI.out HL.out)
            have hjj : j ≤ 7 := by omega
            by_cases hlj : j < l.length
            · have HP := hide (HPD.out j)
              have HRX := hide (HRN.out j)
              have HBJ := hide (HBAD.out j hlj)
              have ht128 := H128.out j
              have HY := hide (HCX.out j hlj)
              generalize nth l j = t at ht128 HP HY
              cases hb : s.testBit j
              · have HBT := hide hb
                have HYES := hide (show neRow l k (j + 1) = true by rw [HRX.out, HK.out, HP.out, hb]; rfl)
                clear hb
                go_wp2_with (go_at_call 100; refine (spIn_c _ _ _ (by omega) (by omega) (by omega) (by omega)).mono ?_; rw [Int.toNat_natCast, Int.toNat_natCast, HBT.out]; rintro e w8 ⟨rfl, rfl⟩)
                go_roundw
                case rel => exact ⟨j + 1, by omega, by go_num, HYES, HBI⟩
                case measure => simp [intOf]; omega
              · have HBT := hide hb
                clear hb
                by_cases hkj : k = j
                · have HNO := hide (HBJ.out (by rw [HP.out, HBT.out, decide_eq_true hkj]; rfl))
                  have hd : ((k : Int) == (j : Int)) = true := by rw [beq_iff_eq]; omega
                  have HKJ := hide hkj
                  clear hkj
                  go_wp2_with (go_at_call 100; refine (spIn_c _ _ _ (by omega) (by omega) (by omega) (by omega)).mono ?_; rw [Int.toNat_natCast, Int.toNat_natCast, HBT.out]; rintro e w8 ⟨rfl, rfl⟩)
                  go_ret
                  exact ⟨ret_b HNO.out.symm, bx_below HBI.out⟩
                · have hd : ((k : Int) == (j : Int)) = false := by rw [beq_eq_false_iff_ne]; omega
                  have HKJ := hide hkj
                  clear hkj
                  cases hb2 : t.testBit k
                  · have HBT2 := hide hb2
                    have HNO := hide (HBJ.out (by rw [HP.out, HBT.out, hb2]; simp))
                    clear hb2
                    go_wp2_with (first
                      | (go_at_call 100; refine (spIn_c _ _ _ (by omega) (by omega) (by omega) (by omega)).mono ?_; rw [Int.toNat_natCast, Int.toNat_natCast]; (first | rw [HBT.out] | rw [HBT2.out]); rintro e w8 ⟨rfl, rfl⟩)
                      | (refine wpList_at sliceT intS rfl (.tmp _) (.tmp _) rfl v rfl j rfl w.heap.size l HIV.out hlj ?_; intro ad hcell2 hblk; rw [HY.out] at hcell2))
                    go_ret
                    exact ⟨ret_b HNO.out.symm, bx_below HBI.out⟩
                  · have HBT2 := hide hb2
                    have HYES := hide (show neRow l k (j + 1) = true by rw [HRX.out, HK.out, HP.out, HBT.out, hb2, decide_eq_false HKJ.out]; rfl)
                    clear hb2
                    go_wp2_with (first
                      | (go_at_call 100; refine (spIn_c _ _ _ (by omega) (by omega) (by omega) (by omega)).mono ?_; rw [Int.toNat_natCast, Int.toNat_natCast]; (first | rw [HBT.out] | rw [HBT2.out]); rintro e w8 ⟨rfl, rfl⟩)
                      | (refine wpList_at sliceT intS rfl (.tmp _) (.tmp _) rfl v rfl j rfl w.heap.size l HIV.out hlj ?_; intro ad hcell2 hblk; rw [HY.out] at hcell2))
                    go_roundw
                    case rel => exact ⟨j + 1, by omega, by go_num, HYES, HBI⟩
                    case measure => simp [intOf]; omega
            · have HJE := hide (show j = l.length by omega)
              have HROW := hide (show neRow l k l.length = true by rw [← HJE.out]; exact HK.out)
              have hlj' : ¬ ((j : Int) < (l.length : Int)) := by omega
              go_wp2
              go_roundw
              case rel => exact ⟨k + 1, by omega, by go_num, by rw [HNX.out, HJ.out, HROW.out]; rfl, HBI⟩
              case measure => simp [intOf]; omega
        · have HKE := hide (show k = l.length by omega)
          have HYES := hide (neB_yes HA.out (by rw [← HKE.out]; exact HJ.out))
          have hlt' : ¬ ((k : Int) < (l.length : Int)) := by omega
          go_wp2
          go_ret
          exact ⟨ret_b HYES.out.symm, bx_below HB.out⟩
  · have HN := hide hn
    have HNO := hide (neB_no1 (neA_no hn))
    clear hn
    go_enter Tryd.func116, Tryd.ntmps116
    go_wp2_with (refine wpList_len sliceT rfl (.tmp _) rfl v rfl w.heap.size l HL1.out ?_)
    refine wp_region_old (by kernel_rfl) (by kernel_rfl) ?_
    go_big_quiet_step ((first | exact fun _ => rfl | exact fun _ => ⟨rfl, rfl⟩))
    refine q_pure rfl 72 ent_spItemsN _ _ rfl #[.int .i64 (l.length : Int)] rfl (.bool false) (fun w' _ => by have := spItems_c (l.length : Int) w'; rw [decide_eq_false HN.out] at this; exact this) ?_
    simp only [Act.put, List.setIfInBounds_toArray, List.set_cons_zero, List.set_cons_succ]
    repeat (first | go_big_quiet_skip | go_big_quiet_step ((first | exact fun _ => rfl | exact fun _ => ⟨rfl, rfl⟩)))
    refine wpQuiet_nil ?_
    intro w2 hb2
    have HB2 := hide (HB1.out.trans (hb2.mono (by simp)))
    clear hb2
    go_wp2
    go_ret
    exact ⟨ret_b HNO.out.symm, bx_below HB2.out⟩

end Go.Proofs.YtonimjpfaalniaaDoor
