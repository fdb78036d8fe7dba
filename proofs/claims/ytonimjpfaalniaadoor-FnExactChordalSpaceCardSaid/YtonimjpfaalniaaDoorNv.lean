/- Contracts: ChordalSpace, the specification's. -/
import Derived.Test.YtonimjpfaalniaaDoorNu
namespace Go.Proofs.YtonimjpfaalniaaDoor
open Go.RowKit
set_option maxRecDepth 100000
set_option linter.unusedSimpArgs false
theorem ent_spHasC : enters Tryd.prog 83 := enters_of Tryd.func83 (by kernel_rfl) (by kernel_rfl)
theorem ent_shSimp : enters Tryd.prog 120 := enters_of Tryd.func120 (by kernel_rfl) (by kernel_rfl)
def chStep (l : List Int) (a i : Nat) : Bool := a.testBit i && (elF l (andNot a (p2 i)) && simB l (andNot (low l.length) (andNot a (p2 i))) i)
def chTo (l : List Int) (a : Nat) : Nat → Bool
  | 0 => a == 0
  | i + 1 => chTo l a i || chStep l a i
theorem chTo_next (l : List Int) (a i : Nat) : chTo l a (i + 1) = (chTo l a i || chStep l a i) := rfl
theorem chTo_iff (l : List Int) (a : Nat) : ∀ k, chTo l a k = true ↔ a = 0 ∨ ∃ i, i < k ∧ chStep l a i = true
  | 0 => by simp [chTo]
  | k + 1 => by
    rw [chTo, Bool.or_eq_true, chTo_iff l a k]
    constructor
    · rintro ((h | ⟨i, hi, h⟩) | h)
      · exact .inl h
      · exact .inr ⟨i, by omega, h⟩
      · exact .inr ⟨k, by omega, h⟩
    · rintro (h | ⟨i, hi, h⟩)
      · exact .inl (.inl h)
      · rcases Nat.lt_or_ge i k with h' | h'
        · exact .inl (.inr ⟨i, h', h⟩)
        · rw [show i = k by omega] at h; exact .inr h
theorem chTo_all {l : List Int} {a : Nat} (h7 : l.length ≤ 7) (ha : a < 128) : chTo l a l.length = elF l a := by
  rw [Bool.eq_iff_iff, chTo_iff, elF_iff h7 ha]
  simp only [chStep, Bool.and_eq_true]
theorem ch_rest {l : List Int} {a i : Nat} (hi : i < l.length) : andNot (low l.length) a ||| p2 i = andNot (low l.length) (andNot a (p2 i)) := by
  apply Nat.eq_of_testBit_eq
  intro j
  rw [Nat.testBit_or, andNot_bit, andNot_bit, andNot_bit, p2_bit, low_bit]
  by_cases e : i = j
  · subst e; simp [hi]
  · simp [e]
theorem ch_has {l : List Int} {a x : Nat} (h : x < a) : memB (setsTo (elF l) a) (x : Int) = elF l x := by
  rw [Bool.eq_iff_iff, mem_iff]
  constructor
  · rintro ⟨j, hj, e⟩
    exact ((sets_iff (elF l) x a).1 ⟨j, hj, by unfold nth; omega⟩).2
  · intro h'
    obtain ⟨j, hj, e⟩ := (sets_iff (elF l) x a).2 ⟨h, h'⟩
    have := setsTo_range (elF l) a j hj
    exact ⟨j, hj, by unfold nth at e; omega⟩
theorem ch_bit0 {l : List Int} {a i : Nat} (h : a.testBit i = false) : chStep l a i = false := by unfold chStep; rw [h]; rfl
theorem ch_bit1 {l : List Int} {a i : Nat} (h : a.testBit i = true) : chStep l a i = (elF l (andNot a (p2 i)) && simB l (andNot (low l.length) (andNot a (p2 i))) i) := by unfold chStep; rw [h]; rfl
theorem ch_all {l : List Int} (h7 : l.length ≤ 7) : setsTo (elF l) 128 = setsTo (elF l) (p2 l.length) := by
  rw [← sets_cutN (elF l) l.length (p2_le128 _ h7)]
  refine setsTo_congr _ fun x hx => ?_
  unfold cutAt
  have hl : low l.length + 1 = p2 l.length := low_succ l.length
  cases e : elF l x
  · simp
  · have : x < p2 l.length := elF_lt e
    simp; omega
theorem cs_no {l : List Int} (h : cfB l = false) : cfN l = 0 ∧ csL l = [] ∧ cfB l = false := by unfold cfN csL; rw [h]; exact ⟨rfl, rfl, rfl⟩
theorem cs_yes {l : List Int} (h7 : l.length ≤ 7) (h : cfB l = true) : cfN l = l.length ∧ csL l = setsTo (elF l) (p2 l.length) ∧ cfB l = true := by unfold cfN csL; rw [h, ← ch_all h7]; exact ⟨rfl, rfl, rfl⟩
attribute [local irreducible] p2 low memB risB
set_option maxHeartbeats 8000000 in
theorem specChordalSpace_c (v : Value) (l : List Int) (w : World) (hl : ints w.heap.size w v l) (hlen : l.length < 1000000000) (_hT : tab w) :
    Calls Tryd.prog 56 #[.agg #[v]] w fun e w' => ∃ v', e = .returned (.tuple #[.agg #[.int .i64 (cfN l), v'], .bool (cfB l)]) ∧ own 3 w' w.heap.size v' (csL l) ∧ Below w.heap.size w w' := by
  have HL := hide hl
  have HB1 := hide (show Below (w.heap.size + 1) (w.alloc (.cells #[v] 62)) ((w.alloc (.cells #[v] 62)).alloc (.cells #[.int .i64 0, .slice none 0 0] 30)) from (Below.refl _ _).alloc (by simp) _)
  have HR1 := hide (show ((w.alloc (.cells #[v] 62)).alloc (.cells #[.int .i64 0, .slice none 0 0] 30)).heap[w.heap.size + 1]? = some (.cells #[.int .i64 0, .slice none 0 0] 30) by have h := hp_last (w.alloc (.cells #[v] 62)) (.cells #[.int .i64 0, .slice none 0 0] 30); simpa using h)
  have hc1 := bx_cell HB1.out
  have HZ1 := hide (show ((w.alloc (.cells #[v] 62)).alloc (.cells #[.int .i64 0, .slice none 0 0] 30)).heap.size = w.heap.size + 2 by simp)
  clear hl
  cases hn : neB l
  · have HN := hide hn
    obtain ⟨e1, e2, e3⟩ := cs_no (cfB_no hn)
    rw [e1, e2, e3]
    clear hn e1 e2 e3
    go_enter Tryd.func56, Tryd.ntmps56
    go_wp2_with (go_at_call 116; refine (shGood_c v l _ (bx_full HB1.out HL.out) hlen).mono ?_; rw [HN.out]; rintro e w2 ⟨rfl, hb2⟩; have HB2 := hide (bx_to HB1.out hb2); have hr2 := (hb2.block (w.heap.size + 1) (by rw [HZ1.out]; omega)).trans HR1.out; obtain ⟨y0, y1, y2, y3⟩ := zero_slotsN hr2; clear hb2 hr2)
    refine bodyPost_ret (v := .tuple #[.agg #[.int .i64 0, .slice none 0 0], .bool false]) (by simp [results, Tryd.results56, go_sem, y0, y1]) rfl ⟨_, rfl, own_nil _ _ _, ?_⟩
    exact ((bx_below HB2.out).setCell (by show w.heap.size ≤ w.heap.size + 1; omega) _).setCell (by show w.heap.size ≤ w.heap.size + 1; omega) _
  · have HN := hide hn
    have HA := hide (neB_A hn)
    have h7 := (neA_in (neB_A hn)).1.2
    have HCB := hide (cfB_is hn)
    clear hn
    cases hf : elF l (low l.length)
    · have HF := hide hf
      obtain ⟨e1, e2, e3⟩ := cs_no (HCB.out.trans hf)
      rw [e1, e2, e3]
      clear hf e1 e2 e3
      go_enter Tryd.func56, Tryd.ntmps56
      go_wp2_with (first
        | (go_at_call 116; refine (shGood_c v l _ (bx_full HB1.out HL.out) hlen).mono ?_; rw [HN.out]; rintro e w2 ⟨rfl, hb2⟩; have hz2 := hb2.size; rw [HZ1.out] at hz2; have HB2 := hide (bx_to HB1.out hb2); have HR2 := hide ((hb2.block (w.heap.size + 1) (by rw [HZ1.out]; omega)).trans HR1.out); have hc2 := bx_cell HB2.out; clear hb2)
        | (go_at_call 117; refine (shEliminate_c v l _ (bx_full HB2.out HL.out) HN.out).mono ?_; rw [HF.out]; rintro e w3 ⟨v3, rfl, _, hb3⟩; have HB3 := hide (bx_to HB2.out hb3); have hr3 := (hb3.block (w.heap.size + 1) (by omega)).trans HR2.out; obtain ⟨y0, y1, y2, y3⟩ := zero_slotsN hr3; clear hb3 hr3))
      refine bodyPost_ret (v := .tuple #[.agg #[.int .i64 0, .slice none 0 0], .bool false]) (by simp [results, Tryd.results56, go_sem, y0, y1]) rfl ⟨_, rfl, own_nil _ _ _, ?_⟩
      exact ((bx_below HB3.out).setCell (by show w.heap.size ≤ w.heap.size + 1; omega) _).setCell (by show w.heap.size ≤ w.heap.size + 1; omega) _
    · have HF := hide hf
      obtain ⟨e1, e2, e3⟩ := cs_yes h7 (HCB.out.trans hf)
      rw [e1, e2, e3]
      clear hf e1 e2 e3
      have hp1 := wrap_p2 l.length h7
      have hp2 : IntKind.i64.wrap (2 ^ l.length) = (p2 l.length : Int) := by rw [IntWalk.i64_left]; exact hp1
      have hp3 := wrap_low l.length h7
      have hp4 := low_p2 l.length
      have hlo := low_lt l.length h7
      have HLS := hide (low_succP l.length)
      go_enter Tryd.func56, Tryd.ntmps56
      go_wp2_with (first
        | (go_at_call 116; refine (shGood_c v l _ (bx_full HB1.out HL.out) hlen).mono ?_; rw [HN.out]; rintro e w2 ⟨rfl, hb2⟩; have hz2 := hb2.size; rw [HZ1.out] at hz2; have HB2 := hide (bx_to HB1.out hb2); have HR2 := hide ((hb2.block (w.heap.size + 1) (by rw [HZ1.out]; omega)).trans HR1.out); have hc2 := bx_cell HB2.out; clear hb2)
        | (go_at_call 117; refine (shEliminate_c v l _ (bx_full HB2.out HL.out) HN.out).mono ?_; rw [HF.out]; rintro e w3 ⟨v3, rfl, _, hb3⟩; have hz3 := hb3.size; have HB3 := hide (bx_to HB2.out hb3); have HR3 := hide ((hb3.block (w.heap.size + 1) (by omega)).trans HR2.out); have hc3 := bx_cell HB3.out; have HL3 := hide (bx_ints HB3.out HL.out); have HTX := hide (hp_last w3 (.cells #[.int .i64 (l.length : Int), .slice none 0 0] 30)); have HBT := hide (HB3.out.alloc (show w.heap.size + 1 ≤ w3.heap.size by omega) (.cells #[.int .i64 (l.length : Int), .slice none 0 0] 30)); have HZT := hide (show (w3.alloc (.cells #[.int .i64 (l.length : Int), .slice none 0 0] 30)).heap.size = w3.heap.size + 1 by simp); have HRT := hide ((hp_old w3 (.cells #[.int .i64 (l.length : Int), .slice none 0 0] 30) (w.heap.size + 1) (by omega)).trans HR3.out); clear hb3)
        | (refine wpList_len sliceT rfl (.tmp _) rfl v rfl w.heap.size l HL3.out ?_))
      generalize (w3.alloc (.cells #[.int .i64 (l.length : Int), .slice none 0 0] 30)) = W1 at HTX HBT HZT HRT ⊢
      have hzB : w.heap.size + 2 ≤ w3.heap.size := by omega
      generalize hBe : w3.heap.size = B at HTX HBT HZT HRT hzB ⊢
      clear hBe HB2 HL3 HR2 HB3 HR3 hc2 hc3 hc1 hp1 hp2 hp3 hp4 hz2 hz3
      go_loopw [8] (fun iv w3 => ∃ k : Nat, k ≤ p2 l.length ∧ iv = .int .i64 (k : Int) ∧ Hid (∃ sv, own 3 w3 (B + 1) sv (setsTo (elF l) k) ∧ w3.heap[B]? = some (.cells #[.int .i64 (l.length : Int), sv] 30)) ∧ Hid (Below B W1 w3)) (fun iv _ => p2 l.length - (intOf iv).toNat)
      case atStart => exact ⟨0, Nat.zero_le _, rfl, ⟨_, own_nil _ _ _, HTX.out⟩, Below.refl _ _⟩
      case round =>
        obtain ⟨a, ha, rfl, HO, HBB⟩ := hrel
        have hz3 := HBB.out.size
        rw [HZT.out] at hz3
        have HBW := hide (HBT.out.trans (HBB.out.mono (by omega)))
        have hcv := bx_cell HBW.out
        have HLW := hide (bx_ints HBW.out HL.out)
        by_cases hla : a < p2 l.length
        · have hle : ((a : Int) ≤ (low l.length : Int)) := by have := HLS.out; omega
          have hle2 : a ≤ low l.length := by omega
          have ha8 : a < 128 := by omega
          have HST := hide (show setsTo (elF l) (a + 1) = (if elF l a then setsTo (elF l) a ++ [(a : Int)] else setsTo (elF l) a) from rfl)
          have HLA := hide (setsTo_len (elF l) a)
          have HINC := hide (sets_inc (elF l) a)
          have HALL := hide (chTo_all h7 ha8)
          have han := i64_andNot (low l.length) a (Nat.lt_trans hlo (by decide))
          have hs28 := andNot_lt128 (low l.length) a hlo
          have hca0 : (a == 0) = ((a : Int) == 0) := by rw [Bool.eq_iff_iff, beq_iff_eq, beq_iff_eq]; omega
          have HCA := hide (show chTo l a 0 = ((a : Int) == 0) from hca0)
          obtain ⟨sv, ho3, ht3⟩ := HO.out
          have HO3 := hide ho3
          have HT3 := hide ht3
          have hl4 := HLA.out
          clear HO ho3 ht3 hca0
          go_wp2_with (refine wpList_len sliceT rfl (.tmp _) rfl v rfl w.heap.size l HLW.out ?_)
          clear hcv
          go_loopw [9, 41] (fun qv jv w4 => ∃ i : Nat, i ≤ l.length ∧ jv = .int .i64 (i : Int) ∧ qv = .bool (chTo l a i) ∧ Hid (own 3 w4 (B + 1) sv (setsTo (elF l) a)) ∧ Hid (w4.heap[B]? = some (.cells #[.int .i64 (l.length : Int), sv] 30)) ∧ Hid (Below B W1 w4)) (fun _ jv _ => l.length - (intOf jv).toNat)
          case atStart => exact ⟨0, Nat.zero_le _, rfl, by rw [HCA.out], HO3, HT3, HBB⟩
          case round =>
            obtain ⟨i, hi, rfl, rfl, HO4, HT4, HBI⟩ := hrel
            have HBV := hide (HBT.out.trans (HBI.out.mono (by omega)))
            have hcv := bx_cell HBV.out
            have hct := cells_at1 HT4.out
            have hz4 := hp_lt HT4.out
            by_cases hlt : i < l.length
            · have hi7 : i < 7 := by omega
              have HNX := hide (chTo_next l a i)
              have hp1 := wrap_p2 i (by omega)
              have hp2 : IntKind.i64.wrap (2 ^ i) = (p2 i : Int) := by rw [IntWalk.i64_left]; exact hp1
              have hpi := p2_lt128 i hi7
              generalize chTo l a i = q at *
              cases hb : a.testBit i
              · have HBT := hide hb
                have HS := hide (ch_bit0 (l := l) hb)
                clear hb
                go_wp2_with fail
                refine wp_region_old (by kernel_rfl) (by kernel_rfl) ?_
                go_big_quiet_step ((first | exact fun _ => rfl | exact fun _ => ⟨rfl, rfl⟩))
                go_big_quiet_step ((first | exact fun _ => rfl | exact fun _ => ⟨rfl, rfl⟩))
                refine q_pure rfl 100 ent_spInN _ _ rfl #[.int .i64 (a : Int), .int .i64 (i : Int)] rfl (.bool (a.testBit i)) (fun w' _ => by have := spIn_c (a : Int) (i : Int) w' (by omega) (by omega) (by omega) (by omega); rw [Int.toNat_natCast, Int.toNat_natCast] at this; exact this) ?_
                rw [HBT.out]
                simp only [Act.put, List.setIfInBounds_toArray, List.set_cons_zero, List.set_cons_succ]
                repeat (first | go_big_quiet_skip | go_big_quiet_step ((first | exact fun _ => rfl | exact fun _ => ⟨rfl, rfl⟩)))
                refine wpQuiet_nil ?_
                intro w5 hb5
                have hz5 := hb5.size
                have HB5 := hide (HBI.out.trans (hb5.mono (by omega)))
                have HO5 : Hid (own 3 w5 (B + 1) sv (setsTo (elF l) a)) := hide (HO4.out.kept hb5)
                have HT5 := hide ((hb5.block B (by omega)).trans HT4.out)
                clear hb5 hcv hct
                go_wp2
                go_roundw
                case rel => exact ⟨i + 1, by omega, by go_num, by rw [HNX.out, HS.out, Bool.or_false], HO5, HT5, HB5⟩
                case measure => simp [intOf]; omega
              · have HBT := hide hb
                have HS := hide (ch_bit1 (l := l) hb)
                have hdr := an_drop hb
                have HM := hide (ch_has (l := l) hdr)
                have HRS := hide (ch_rest (a := a) hlt)
                have hax := i64_andNot a (p2 i) (Nat.lt_trans ha8 (by decide))
                have hor := i64_or (andNot (low l.length) a) (p2 i) (Nat.lt_trans hs28 (by decide)) (Nat.lt_trans hpi (by decide))
                rw [HRS.out] at hor
                have hsx8 := andNot_lt128 (low l.length) (andNot a (p2 i)) hlo
                have HSI := hide (fun w1 h1 => shSimplicial_c v l i (andNot (low l.length) (andNot a (p2 i))) w1 h1 HA.out hlt hsx8)
                clear hb
                generalize andNot (low l.length) a = la at *
                generalize andNot (low l.length) (andNot a (p2 i)) = sx at *
                generalize andNot a (p2 i) = x at *
                generalize simB l sx i = qs at *
                cases he : elF l x
                · have HE := hide he
                  clear he
                  go_wp2_with fail
                  refine wp_region_old (by kernel_rfl) (by kernel_rfl) ?_
                  go_big_quiet_step ((first | exact fun _ => rfl | exact fun _ => ⟨rfl, rfl⟩))
                  go_big_quiet_step ((first | exact fun _ => rfl | exact fun _ => ⟨rfl, rfl⟩))
                  refine q_pure rfl 100 ent_spInN _ _ rfl #[.int .i64 (a : Int), .int .i64 (i : Int)] rfl (.bool (a.testBit i)) (fun w' _ => by have := spIn_c (a : Int) (i : Int) w' (by omega) (by omega) (by omega) (by omega); rw [Int.toNat_natCast, Int.toNat_natCast] at this; exact this) ?_
                  rw [HBT.out]
                  simp only [Act.put, List.setIfInBounds_toArray, List.set_cons_zero, List.set_cons_succ]
                  go_big_quiet_step ((first | exact fun _ => rfl | exact fun _ => ⟨rfl, rfl⟩))
                  go_big_quiet_step ((first | exact fun _ => rfl | exact fun _ => ⟨rfl, rfl⟩))
                  refine q_load_cell rowS rfl (.tmp _) rfl _ rfl sv (fun w' h => (h.cell (p := ⟨B, 1, none⟩) (by show B < _; omega)).trans hct) ?_
                  simp only [Act.put, List.setIfInBounds_toArray, List.set_cons_zero, List.set_cons_succ]
                  go_big_quiet_step ((first | exact fun _ => rfl | exact fun _ => ⟨rfl, rfl⟩))
                  go_big_quiet_step ((first | exact fun _ => rfl | exact fun _ => ⟨rfl, rfl⟩))
                  go_big_quiet_step ((first | exact fun _ => rfl | exact fun _ => ⟨rfl, rfl⟩))
                  go_big_quiet_step ((first | exact fun _ => rfl | exact fun _ => ⟨rfl, rfl⟩))
                  refine q_pure rfl 83 ent_spHasC _ _ rfl #[sv, .int .i64 (x : Int)] rfl (.bool (elF l x)) (fun w' h => by have := spHas_c sv (setsTo (elF l) a) (x : Int) w' ((HO4.out.kept h).ints) HINC.out (by omega); rw [HM.out] at this; exact this) ?_
                  rw [HE.out]
                  simp only [Act.put, List.setIfInBounds_toArray, List.set_cons_zero, List.set_cons_succ]
                  repeat (first | go_big_quiet_skip | go_big_quiet_step ((first | exact fun _ => rfl | exact fun _ => ⟨rfl, rfl⟩)))
                  refine wpQuiet_nil ?_
                  intro w5 hb5
                  have hz5 := hb5.size
                  have HB5 := hide (HBI.out.trans (hb5.mono (by omega)))
                  have HO5 : Hid (own 3 w5 (B + 1) sv (setsTo (elF l) a)) := hide (HO4.out.kept hb5)
                  have HT5 := hide ((hb5.block B (by omega)).trans HT4.out)
                  clear hb5 hcv hct
                  go_wp2
                  go_roundw
                  case rel => exact ⟨i + 1, by omega, by go_num, by rw [HNX.out, HS.out, HE.out, Bool.false_and, Bool.or_false], HO5, HT5, HB5⟩
                  case measure => simp [intOf]; omega
                · have HE := hide he
                  clear he
                  cases qs
                  all_goals
                    go_wp2_with fail
                    refine wp_region_old (by kernel_rfl) (by kernel_rfl) ?_
                    go_big_quiet_step ((first | exact fun _ => rfl | exact fun _ => ⟨rfl, rfl⟩))
                    go_big_quiet_step ((first | exact fun _ => rfl | exact fun _ => ⟨rfl, rfl⟩))
                    refine q_pure rfl 100 ent_spInN _ _ rfl #[.int .i64 (a : Int), .int .i64 (i : Int)] rfl (.bool (a.testBit i)) (fun w' _ => by have := spIn_c (a : Int) (i : Int) w' (by omega) (by omega) (by omega) (by omega); rw [Int.toNat_natCast, Int.toNat_natCast] at this; exact this) ?_
                    rw [HBT.out]
                    simp only [Act.put, List.setIfInBounds_toArray, List.set_cons_zero, List.set_cons_succ]
                    go_big_quiet_step ((first | exact fun _ => rfl | exact fun _ => ⟨rfl, rfl⟩))
                    go_big_quiet_step ((first | exact fun _ => rfl | exact fun _ => ⟨rfl, rfl⟩))
                    refine q_load_cell rowS rfl (.tmp _) rfl _ rfl sv (fun w' h => (h.cell (p := ⟨B, 1, none⟩) (by show B < _; omega)).trans hct) ?_
                    simp only [Act.put, List.setIfInBounds_toArray, List.set_cons_zero, List.set_cons_succ]
                    go_big_quiet_step ((first | exact fun _ => rfl | exact fun _ => ⟨rfl, rfl⟩))
                    go_big_quiet_step ((first | exact fun _ => rfl | exact fun _ => ⟨rfl, rfl⟩))
                    go_big_quiet_step ((first | exact fun _ => rfl | exact fun _ => ⟨rfl, rfl⟩))
                    go_big_quiet_step ((first | exact fun _ => rfl | exact fun _ => ⟨rfl, rfl⟩))
                    refine q_pure rfl 83 ent_spHasC _ _ rfl #[sv, .int .i64 (x : Int)] rfl (.bool (elF l x)) (fun w' h => by have := spHas_c sv (setsTo (elF l) a) (x : Int) w' ((HO4.out.kept h).ints) HINC.out (by omega); rw [HM.out] at this; exact this) ?_
                    rw [HE.out]
                    simp only [Act.put, List.setIfInBounds_toArray, List.set_cons_zero, List.set_cons_succ]
                    go_big_quiet_step ((first | exact fun _ => rfl | exact fun _ => ⟨rfl, rfl⟩))
                    go_big_quiet_step ((first | exact fun _ => rfl | exact fun _ => ⟨rfl, rfl⟩))
                    refine q_load_one rowNq sizeNq rfl (.tmp _) rfl _ _ rfl v (fun w' h => (h.cell (p := ⟨w.heap.size, 0, none⟩) (by show w.heap.size < _; omega)).trans hcv) ?_
                    simp only [Act.put, List.setIfInBounds_toArray, List.set_cons_zero, List.set_cons_succ]
                    go_big_quiet_step ((first | exact fun _ => rfl | exact fun _ => ⟨rfl, rfl⟩))
                    go_big_quiet_step ((first | exact fun _ => rfl | exact fun _ => ⟨rfl, rfl⟩))
                    go_big_quiet_step ((first | exact fun _ => rfl | exact fun _ => ⟨rfl, rfl⟩))
                    go_big_quiet_step ((first | exact fun _ => rfl | exact fun _ => ⟨rfl, rfl⟩))
                    go_big_quiet_step ((first | exact fun _ => rfl | exact fun _ => ⟨rfl, rfl⟩))
                    go_big_quiet_step ((first | exact fun _ => rfl | exact fun _ => ⟨rfl, rfl⟩))
                    go_big_quiet_step ((first | exact fun _ => rfl | exact fun _ => ⟨rfl, rfl⟩))
                    refine q_belowN rfl 120 ent_shSimp _ _ rfl #[.agg #[v], .int .i64 (i : Int), .int .i64 (sx : Int)] rfl (.bool _) (fun w' h => HSI.out w' (bx_full (bx_to HBV.out h) HL.out)) ?_
                    simp only [Act.put, List.setIfInBounds_toArray, List.set_cons_zero, List.set_cons_succ]
                    repeat (first | go_big_quiet_skip | go_big_quiet_step ((first | exact fun _ => rfl | exact fun _ => ⟨rfl, rfl⟩)))
                    refine wpQuiet_nil ?_
                    intro w5 hb5
                    have hz5 := hb5.size
                    have HB5 := hide (HBI.out.trans (hb5.mono (by omega)))
                    have HO5 : Hid (own 3 w5 (B + 1) sv (setsTo (elF l) a)) := hide (HO4.out.kept hb5)
                    have HT5 := hide ((hb5.block B (by omega)).trans HT4.out)
                    clear hb5 hcv hct
                    go_wp2
                    go_roundw
                  · exact ⟨i + 1, by omega, by go_num, by rw [HNX.out, HS.out, HE.out]; simp, HO5, HT5, HB5⟩
                  · simp [intOf]; omega
                  · exact ⟨i + 1, by omega, by go_num, by rw [HNX.out, HS.out, HE.out]; simp, HO5, HT5, HB5⟩
                  · simp [intOf]; omega
            · have HAL := hide (show chTo l a i = elF l a by rw [← HALL.out, show i = l.length by omega])
              have hlt' : ¬ ((i : Int) < (l.length : Int)) := by omega
              generalize chTo l a i = q at *
              rw [← HAL.out] at HST
              generalize setsTo (elF l) a = S1 at *
              cases q
              · go_wp2
                go_roundw
                case rel => exact ⟨a + 1, by omega, by go_num, ⟨sv, by rw [HST.out]; exact HO4.out, HT4.out⟩, HBI⟩
                case measure => simp [intOf]; omega
              · obtain ⟨aa, cc, hsv⟩ := HO4.out.shape
                subst hsv
                go_wp2_with (at_builtin; refine wpList_append1 sliceT intI rfl _ _ rfl (B + 1) _ _ rfl (HO4.out.alloc _) _ (a : Int) rfl (by simp [go_sem]) (by simp; omega) (by omega) ?_; intro v5 w5 ho5 hb5; obtain ⟨a5, c5, hv5⟩ := ho5.shape; subst hv5; have HB5 := hide (((Below.refl _ _).alloc (by omega) _).trans hb5); have HO5 := hide ho5; clear ho5 hb5; have ht5 := (HB5.out.block B (by omega)).trans HT4.out; have f5 := hp_free ht5 1; have k5 := cells_at1 ht5; have HT5 := hide ht5; clear ht5; have hb6 := HBI.out.trans (HB5.out.mono (by omega)); have HB6 := hide hb6; clear hb6)
                go_roundw
                case rel => exact ⟨a + 1, by omega, by go_num, ⟨_, by have h := HO5.out.setLow ⟨B, 1, none⟩ (by show B < B + 1; omega) (.slice a5 (S1.length + 1) c5); rw [List.length_append, List.length_singleton] at h; rw [HST.out, if_pos rfl]; exact h, bareS HT5.out _⟩, HB6.out.setCell (by show B ≤ B; omega) _⟩
                case measure => simp [intOf]; omega
        · have HAE := hide (show a = p2 l.length by omega)
          have hle : ¬ ((a : Int) ≤ (low l.length : Int)) := by have := HLS.out; omega
          have hle2 : ¬ (a ≤ low l.length) := by omega
          obtain ⟨sv, ho3, ht3⟩ := HO.out
          rw [HAE.out] at ho3
          obtain ⟨aa, cc, hsv⟩ := ho3.shape
          subst hsv
          generalize hS : setsTo (elF l) (p2 l.length) = S at ho3 ht3 ⊢
          have HO3 := hide ho3
          have hd0 := cells_at0 ht3
          have hd1 := cells_at1 ht3
          have hr3 := (HBB.out.block (w.heap.size + 1) (by omega)).trans HRT.out
          obtain ⟨y0, y1, y2, y3⟩ := zero_slotsN hr3
          clear HO ho3 ht3 hr3
          go_wp2_with fail
          refine bodyPost_ret (v := .tuple #[.agg #[.int .i64 (l.length : Int), .slice aa S.length cc], .bool true]) (by simp [results, Tryd.results56, go_sem, y0, y1]) rfl ⟨_, rfl, ?_, ?_⟩
          · have hfin := ((HO3.out.setLow ⟨w.heap.size + 1, 0, none⟩ (show w.heap.size + 1 < B + 1 by omega) (.int .i64 (l.length : Int))).setLow ⟨w.heap.size + 1, 1, none⟩ (show w.heap.size + 1 < B + 1 by omega) (.slice aa S.length cc))
            exact hfin.mono (by omega)
          · exact ((bx_below HBW.out).setCell (by show w.heap.size ≤ w.heap.size + 1; omega) _).setCell (by show w.heap.size ≤ w.heap.size + 1; omega) _
end Go.Proofs.YtonimjpfaalniaaDoor
