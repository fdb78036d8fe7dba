/- Contracts: SpaceOfPaths, the specification's. -/
import Derived.Test.YtagahoaogfogkaaSpm
namespace Go.Proofs.Ytagahoaogfogkaa
open Go.RowKit
set_option maxRecDepth 100000
theorem gdTo_next (l : List Int) (a i : Nat) : gdTo l a (i + 1) = (gdTo l a i || (a.testBit i && (wiTo l (andNot a (p2 i)) l.length == andNot a (p2 i)))) := rfl
theorem wiTo_next (l : List Int) (lim k : Nat) : wiTo l lim (k + 1) = if andNot (nth l k) lim == 0 then wiTo l lim k ||| nth l k else wiTo l lim k := rfl
theorem gdAll_next (l : List Int) (n k : Nat) : gdAll l n (k + 1) = (gdAll l n k && gdTo l (nth l k) n) := rfl
attribute [local irreducible] p2 low memB risB
theorem spNL_no {n : Int} {l : List Int} (h : spB n l = false) : spN n l = 0 ∧ spL n l = [] ∧ spB n l = false := ⟨spN_no h, spL_no h, h⟩
theorem spNL_yes {n : Int} {l : List Int} (h : spB n l = true) : spN n l = n ∧ spL n l = setsTo (unionsF l) 128 ∧ spB n l = true := ⟨spN_yes h, spL_yes h, h⟩
set_option maxHeartbeats 4000000 in
theorem specSpaceOfPaths_c (n : Int) (u : Value) (l : List Int) (w : World) (hl : ints w.heap.size w u l) (hlen : l.length < 1000000000) :
    Calls Try.prog 38 #[.int .i64 n, u] w fun e w' => ∃ v', e = .returned (.tuple #[.agg #[.int .i64 (spN n l), v'], .bool (spB n l)]) ∧ own 3 w' w.heap.size v' (spL n l) ∧ Below w.heap.size w w' := by
  have HR0 := hide (hp_last w (.cells #[.int .i64 0, .slice none 0 0] 26))
  have H0 := hide ((Below.refl w.heap.size w).alloc (Nat.le_refl _) (.cells #[.int .i64 0, .slice none 0 0] 26))
  have HL0 := hide (hl.alloc (.cells #[.int .i64 0, .slice none 0 0] 26))
  have HZ0 := hide (show (w.alloc (.cells #[.int .i64 0, .slice none 0 0] 26)).heap.size = w.heap.size + 1 by simp)
  obtain ⟨q0, q1, q2, q3⟩ := zero_slotsQ HR0.out
  clear hl
  by_cases hn : 1 ≤ n ∧ n ≤ 7
  · obtain ⟨m, rfl⟩ := Int.eq_ofNat_of_zero_le (show 0 ≤ n by omega)
    have HN := hide hn
    have hp1 := wrap_p2 m (by omega)
    have hp2 : IntKind.i64.wrap (2 ^ m) = (p2 m : Int) := by rw [IntWalk.i64_left]; exact hp1
    have hp3 := wrap_low m (by omega)
    have hp4 : wrap64 ((p2 m : Int) - 1) = (low m : Int) := by rw [← IntWalk.i64_left]; exact hp3
    have hmin : min m 64 = m := by omega
    by_cases h60 : 60 < l.length
    · have HB := hide (spB_no1 (n := (m : Int)) (l := l) (by unfold spA; rw [decide_eq_false (show ¬ l.length ≤ 60 by omega)]; simp))
      have hgt : (60 : Int) < (l.length : Int) := by omega
      rw [spN_no HB.out, spL_no HB.out, HB.out]
      clear hn
      go_enter Try.func38, Try.ntmps38
      go_wp2_with (first
        | (go_at_call 47; refine (spItems_c _ _).mono ?_; rw [decide_eq_true HN.out]; rintro e w1 ⟨rfl, rfl⟩)
        | (refine wpList_len sliceT rfl (.tmp _) rfl u rfl w.heap.size l HL0.out ?_))
      refine bodyPost_ret (v := .tuple #[.agg #[.int .i64 0, .slice none 0 0], .bool false]) (by simp [results, Try.results38, go_sem, q0, q1]) rfl ⟨_, rfl, own_nil _ _ _, ?_⟩
      first | exact H0.out | exact (H0.out.setCell (by show w.heap.size ≤ w.heap.size; omega) _).setCell (by show w.heap.size ≤ w.heap.size; omega) _
    · have hgt : ¬ ((60 : Int) < (l.length : Int)) := by omega
      have hgt2 : ¬ (60 < l.length) := h60
      cases ha : allTo 0 (low m) l l.length
      · have HA := hide ha
        have HB := hide (spB_no1 (n := (m : Int)) (l := l) (by unfold spA; rw [Int.toNat_natCast, ha]; simp))
        rw [spN_no HB.out, spL_no HB.out, HB.out]
        clear hn ha
        go_enter Try.func38, Try.ntmps38
        go_wp2_with (first
          | (go_at_call 47; refine (spItems_c _ _).mono ?_; rw [decide_eq_true HN.out]; rintro e w1 ⟨rfl, rfl⟩)
          | (refine wpList_len sliceT rfl (.tmp _) rfl u rfl w.heap.size l HL0.out ?_)
          | (go_at_call 48; refine (l1All_c u l 0 (low m : Int) _ (HL0.out.mono (by rw [HZ0.out]; omega)) hlen).mono ?_; rw [HA.out]; rintro e w1 ⟨rfl, rfl⟩))
        refine bodyPost_ret (v := .tuple #[.agg #[.int .i64 0, .slice none 0 0], .bool false]) (by simp [results, Try.results38, go_sem, q0, q1]) rfl ⟨_, rfl, own_nil _ _ _, ?_⟩
        first | exact H0.out | exact (H0.out.setCell (by show w.heap.size ≤ w.heap.size; omega) _).setCell (by show w.heap.size ≤ w.heap.size; omega) _
      · have HA := hide ha
        have hsq : spA (m : Int) l = true := by unfold spA; rw [decide_eq_true hn, decide_eq_true (show l.length ≤ 60 by omega), Int.toNat_natCast, ha]; rfl
        have HSQ := hide hsq
        have HNL := hide (fun j hj => (spA_lt hsq j hj).2)
        have HN128 := hide (fun j hj => spA_128 hsq j hj)
        have HWL := hide (fun lim k hk => wiTo_lt l lim (fun j hj => spA_128 hsq j hj) k hk)
        have hm7 : m ≤ 7 := by omega
        have HSI : Hid (∀ (x k : Nat) (w2 : World), x < 128 → k < 7 → Calls Try.prog 49 #[.int .i64 (x : Int), .int .i64 (k : Int)] w2 fun e w' => e = .returned (.bool (x.testBit k)) ∧ w2 = w') := hide fun x k w2 hx hk => by
          have := spIn_c (x : Int) (k : Int) w2 (by omega) (by omega) (by omega) (by omega)
          rw [Int.toNat_natCast, Int.toNat_natCast] at this
          exact this
        clear hn ha hsq
        go_enter Try.func38, Try.ntmps38
        go_wp2_with (first
          | (go_at_call 47; refine (spItems_c _ _).mono ?_; rw [decide_eq_true HN.out]; rintro e w1 ⟨rfl, rfl⟩)
          | (refine wpList_len sliceT rfl (.tmp 17) rfl u rfl w.heap.size l HL0.out ?_)
          | (refine wpList_len sliceT rfl (.tmp 30) rfl u rfl w.heap.size l HL0.out ?_)
          | (go_at_call 48; refine (l1All_c u l 0 (low m : Int) _ (HL0.out.mono (by rw [HZ0.out]; omega)) hlen).mono ?_; rw [HA.out]; rintro e w1 ⟨rfl, rfl⟩))
        clear hp1 hp2 hp3 hp4
        go_loop [32] (fun i => ∃ k : Nat, k ≤ l.length ∧ i = .int .i64 (k : Int) ∧ Hid (gdAll l m k = true)) (fun i => l.length - (intOf i).toNat)
        case atStart => exact ⟨0, Nat.zero_le _, rfl, rfl⟩
        case round =>
          obtain ⟨k, hk, rfl, HJ⟩ := hrel
          by_cases hlt : k < l.length
          · have HX := hide (HNL.out k hlt)
            have ha128 := HN128.out k hlt
            have HGN := hide (gdAll_next l m k)
            have HGF := hide (fun h => gdAll_false (l := l) (n := m) (k := k) h l.length hlt)
            generalize nth l k = a at HX ha128 HGN HGF
            go_wp2_with (refine wpList_at sliceT intS rfl (.tmp 30) (.tmp _) rfl u rfl k rfl w.heap.size l HL0.out hlt ?_; intro ad hcell hblk; rw [HX.out] at hcell)
            go_loop [9, 8] (fun t g => ∃ i : Nat, i ≤ m ∧ t = .int .i64 (i : Int) ∧ g = .bool (gdTo l a i)) (fun t _ => m - (intOf t).toNat)
            case atStart => exact ⟨0, by omega, rfl, rfl⟩
            case round =>
              obtain ⟨i, hi, rfl, rfl⟩ := hrel
              have HGI := hide (gdTo_next l a i)
              generalize hg : gdTo l a i = g at HGI
              have HG := hide hg
              clear hg
              by_cases hlt2 : i < m
              · have hi3 : (i : Int) < (m : Int) := by omega
                have hp := wrap_p2 i (by omega)
                have hp2 : IntKind.i64.wrap (2 ^ i) = (p2 i : Int) := by rw [IntWalk.i64_left]; exact hp
                have hpl := p2_lt128 i (by omega)
                have hal := i64_andNot a (p2 i) (by omega)
                have hlim := andNot_lt128 a (p2 i) ha128
                generalize andNot a (p2 i) = lim at hal hlim HGI
                go_wp2_with (refine wpList_len sliceT rfl (.tmp 41) rfl u rfl w.heap.size l HL0.out ?_)
                go_loop [43, 10] (fun t r => ∃ d : Nat, d ≤ l.length ∧ t = .int .i64 (d : Int) ∧ r = .int .i64 (wiTo l lim d : Int)) (fun t _ => l.length - (intOf t).toNat)
                case atStart => exact ⟨0, by omega, rfl, rfl⟩
                case round =>
                  obtain ⟨d, hd, rfl, rfl⟩ := hrel
                  have hq := HWL.out lim d hd
                  by_cases hlt3 : d < l.length
                  · have HX2 := hide (HNL.out d hlt3)
                    have hb128 := HN128.out d hlt3
                    have HWN := hide (wiTo_next l lim d)
                    generalize nth l d = b at HX2 hb128 HWN
                    generalize wiTo l lim d = q at hq HWN ⊢
                    have hab := i64_andNot b lim (by omega)
                    have hor := i64_or q b (by omega) (by omega)
                    cases hz : (andNot b lim == 0)
                    · have hz' : ((andNot b lim : Int) == 0) = false := by rw [Bool.eq_false_iff] at hz ⊢; simp at hz ⊢; exact hz
                      have HZZ := hide hz
                      clear hz
                      go_wp2_with (refine wpList_at sliceT intS rfl (.tmp 41) (.tmp _) rfl u rfl d rfl w.heap.size l HL0.out hlt3 ?_; intro ad2 hcell2 hblk2; rw [HX2.out] at hcell2)
                      go_round
                      case rel => exact ⟨d + 1, by omega, by go_num, by rw [HWN.out, HZZ.out]; rfl⟩
                      case measure => simp [intOf]; omega
                    · have hz' : ((andNot b lim : Int) == 0) = true := by simp at hz ⊢; exact hz
                      have HZZ := hide hz
                      clear hz
                      go_wp2_with (refine wpList_at sliceT intS rfl (.tmp 41) (.tmp _) rfl u rfl d rfl w.heap.size l HL0.out hlt3 ?_; intro ad2 hcell2 hblk2; rw [HX2.out] at hcell2)
                      go_round
                      case rel => exact ⟨d + 1, by omega, by go_num, by rw [HWN.out, HZZ.out]; rfl⟩
                      case measure => simp [intOf]; omega
                  · have hlt3' : ¬ ((d : Int) < (l.length : Int)) := by omega
                    have hdl : d = l.length := by omega
                    rw [← hdl] at HGI
                    have HDL := hide hdl
                    clear hdl
                    generalize wiTo l lim d = q at hq HGI ⊢
                    cases g
                    · cases hb : a.testBit i
                      · have HBT := hide hb
                        rw [hb] at HGI
                        clear hb
                        go_wp2_with (go_at_call 49; refine (HSI.out _ _ _ (by omega) (by omega)).mono ?_; rw [HBT.out]; rintro e w6 ⟨rfl, rfl⟩)
                        go_round
                        case rel => exact ⟨i + 1, by omega, by go_num, by rw [HGI.out]; rfl⟩
                        case measure => simp [intOf]; omega
                      · have HBT := hide hb
                        rw [hb] at HGI
                        clear hb
                        cases hql : (q == lim)
                        all_goals
                          have hql2 : ((q : Int) == (lim : Int)) = _ := (show ((q : Int) == (lim : Int)) = (q == lim) by rw [Bool.eq_iff_iff]; simp; try omega).trans hql
                          rw [hql] at HGI
                          clear hql
                          go_wp2_with (go_at_call 49; refine (HSI.out _ _ _ (by omega) (by omega)).mono ?_; rw [HBT.out]; rintro e w6 ⟨rfl, rfl⟩)
                          go_round
                          case rel => exact ⟨i + 1, by omega, by go_num, by rw [HGI.out]; rfl⟩
                          case measure => simp [intOf]; omega
                    · go_wp2
                      go_round
                      case rel => exact ⟨i + 1, by omega, by go_num, by rw [HGI.out]; rfl⟩
                      case measure => simp [intOf]; omega
              · have him : i = m := by omega
                have hi3 : ¬ ((i : Int) < (m : Int)) := by omega
                have HGM := hide (show gdTo l a m = g by rw [← him]; exact HG.out)
                have hi4 : ¬ ((m : Int) < (m : Int)) := by omega
                clear HGI
                subst him
                cases g
                · have HBX := hide (spNL_no (spB_no2 (n := (i : Int)) (l := l) (by unfold spG; rw [Int.toNat_natCast]; exact HGF.out HGM.out)))
                  go_wp2
                  refine bodyPost_ret (v := .tuple #[.agg #[.int .i64 0, .slice none 0 0], .bool false]) (by simp [results, Try.results38, go_sem, q0, q1]) rfl ⟨_, by rw [HBX.out.1, HBX.out.2.2], by rw [HBX.out.2.1]; exact own_nil _ _ _, ?_⟩
                  first | exact H0.out | exact (H0.out.setCell (by show w.heap.size ≤ w.heap.size; omega) _).setCell (by show w.heap.size ≤ w.heap.size; omega) _
                · go_wp2
                  go_round
                  case rel => exact ⟨k + 1, by omega, by go_num, by rw [HGN.out, HJ.out, HGM.out]; rfl⟩
                  case measure => simp [intOf]; omega
          · have HKE := hide (show k = l.length by omega)
            have hlt' : ¬ ((k : Int) < (l.length : Int)) := by omega
            have hgd : spG (m : Int) l = true := by
              unfold spG; rw [Int.toNat_natCast, ← HKE.out]; exact HJ.out
            have HGG := hide hgd
            have hgood := sp_good HSQ.out hgd
            have HUL := hide (setsTo_len (unionsF l) 128)
            have HUG := hide (fun j hj => show nth l j < 128 ∧ l[j]?.getD 0 = (nth l j : Int) from ⟨HN128.out j hj, HNL.out j hj⟩)
            clear hk hgd
            cases hsf : spU (m : Int) l
            all_goals
              rw [hsf] at hgood
              have HGD := hide hgood
              have HSF := hide hsf
              clear hgood hsf
              go_wp2_with fail
              refine (spUnionsI_c u l _ (HL0.out.mono (by rw [HZ0.out]; omega)) HUG.out (by omega)).mono ?_
              rintro e w5 ⟨v5, rfl, ho5, hb5⟩
              obtain ⟨ua, uc, huv⟩ := ho5.shape
              subst huv
              have hz5 := hb5.size
              rw [HZ0.out] at hz5
              have HR5 := hide ((hb5.block w.heap.size (by rw [HZ0.out]; omega)).trans HR0.out)
              have HB5 := hide (H0.out.trans (hb5.mono (by rw [HZ0.out]; omega)))
              have HO6 := hide ho5
              rw [HZ0.out] at HO6
              have HV6 := hide HO6.out.ints
              clear q0 q1 q2 q3 ho5 hb5
              go_wp2_with fail
            · have HBX := hide (spNL_no (spB_no3 HSF.out))
              refine (spIf_no_c (m : Int) _ _ _ HV6.out (by have := HUL.out; omega) HGD.out).mono ?_
              rintro e w7 ⟨rfl, hb7⟩
              have hr7 := (hb7.block w.heap.size (by omega)).trans HR5.out
              obtain ⟨q0, q1, q2, q3⟩ := zero_slotsQ hr7
              have HB7 := hide (HB5.out.trans (hb7.mono (by omega)))
              clear hb7 hr7
              go_wp2
              refine bodyPost_ret (v := .tuple #[.agg #[.int .i64 0, .slice none 0 0], .bool false]) (by simp [results, Try.results38, go_sem, q0, q1]) rfl ⟨_, by rw [HBX.out.1, HBX.out.2.2], by rw [HBX.out.2.1]; exact own_nil _ _ _, ?_⟩
              exact (HB7.out.setCell (Nat.le_refl _) _).setCell (Nat.le_refl _) _
            · have HBX := hide (spNL_yes (spB_yes HSQ.out HGG.out HSF.out))
              refine (spIf_c (m : Int) _ _ _ HV6.out (by have := HUL.out; omega) HGD.out).mono ?_
              rintro e w7 ⟨rfl, hb7⟩
              have hr7 := (hb7.block w.heap.size (by omega)).trans HR5.out
              obtain ⟨q0, q1, q2, q3⟩ := zero_slotsQ hr7
              have HB7 := hide (HB5.out.trans (hb7.mono (by omega)))
              have HO7 := hide (HO6.out.kept hb7)
              clear hb7 hr7
              go_wp2
              refine bodyPost_ret (v := .tuple #[.agg #[.int .i64 (m : Int), .slice ua (setsTo (unionsF l) 128).length uc], .bool true]) (by simp [results, Try.results38, go_sem, q0, q1]) rfl ⟨_, by rw [HBX.out.1, HBX.out.2.2], ?_, ?_⟩
              · rw [HBX.out.2.1]
                have hfin := ((HO7.out.setLow ⟨w.heap.size, 0, none⟩ (show w.heap.size < w.heap.size + 1 by omega) (.int .i64 (m : Int))).setLow ⟨w.heap.size, 1, none⟩ (show w.heap.size < w.heap.size + 1 by omega) (.slice ua (setsTo (unionsF l) 128).length uc))
                exact hfin.mono (by omega)
              · exact (HB7.out.setCell (Nat.le_refl _) _).setCell (Nat.le_refl _) _
  · have HN := hide hn
    have HB := hide (spB_no1 (n := n) (l := l) (by unfold spA; rw [decide_eq_false hn]; rfl))
    rw [spN_no HB.out, spL_no HB.out, HB.out]
    clear hn
    go_enter Try.func38, Try.ntmps38
    go_wp2_with (first
      | (go_at_call 47; refine (spItems_c _ _).mono ?_; rw [decide_eq_false HN.out]; rintro e w1 ⟨rfl, rfl⟩))
    refine bodyPost_ret (v := .tuple #[.agg #[.int .i64 0, .slice none 0 0], .bool false]) (by simp [results, Try.results38, go_sem, q0, q1]) rfl ⟨_, rfl, own_nil _ _ _, ?_⟩
    first | exact H0.out | exact (H0.out.setCell (by show w.heap.size ≤ w.heap.size; omega) _).setCell (by show w.heap.size ≤ w.heap.size; omega) _
end Go.Proofs.Ytagahoaogfogkaa
