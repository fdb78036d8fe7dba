/- Contracts: AreMaking, the specification's. -/
import Derived.Test.YtbcohlnimmoifaaAmk
namespace Go.Proofs.Ytbcohlnimmoifaa
open Go.RowKit
set_option maxRecDepth 100000
set_option linter.unusedSimpArgs false
attribute [local irreducible] p2 low memB risB
/-! ### The specification's -/
theorem ent_cnJoinA : enters Try.prog 16 := enters_of Try.func16 (by kernel_rfl) (by kernel_rfl)
theorem ent_l1SameA : enters Try.prog 15 := enters_of Try.func15 (by kernel_rfl) (by kernel_rfl)
set_option maxHeartbeats 4000000 in
theorem cnJoin_c (u : Value) (L : List (List Int)) (w : World) (hl : rowsC w.heap.size w u L) (hs : small2 L) (hord : ∀ j, j < L.length → okOrd (L[j]?.getD []) = true) :
    Calls Try.prog 16 #[u] w fun e w' => ∃ v', e = .returned v' ∧ own 3 w' w.heap.size v' (setsTo (unionsF (swC L L.length)) 128) ∧ Below w.heap.size w w' := by
  have HLB := hide hl
  have HOR := hide hord
  have hll := hs.1
  clear hl hs hord
  go_enter Try.func16, Try.ntmps16
  go_wp2_with (refine wpList_len2 sliceT2 rfl (.tmp _) rfl u rfl _ L HLB.out.plain ?_)
  go_loopw [3, 10] (fun s i wr => ∃ k : Nat, k ≤ L.length ∧ i = .int .i64 (k : Int) ∧ Hid (own 3 wr w.heap.size s (setsTo (swM L k) 128)) ∧ Hid (Below w.heap.size w wr)) (fun _ i _ => L.length - (intOf i).toNat)
  case atStart => exact ⟨0, Nat.zero_le _, rfl, own_nil _ _ _, Below.refl _ _⟩
  case round =>
    obtain ⟨k, hk, rfl, HO, HB⟩ := hrel
    have hsz := HB.out.size
    have HLW := hide (HLB.out.below HB.out (Nat.le_refl _))
    by_cases hlt : k < L.length
    · have hlt' : (k : Int) < (L.length : Int) := by omega
      have HOK := hide (HOR.out k hlt)
      have HSM2 := hide (show swM L (k + 1) = addTo (swM L k) (chS (L[k]?.getD [])) (chS (L[k]?.getD [])).length from rfl)
      have HCI := hide (chS_in (L[k]?.getD []))
      have HCE := hide (show setsTo (chF (L[k]?.getD []) (L[k]?.getD []).length) 128 = chS (L[k]?.getD []) from rfl)
      have HCL := hide (show (chS (L[k]?.getD [])).length ≤ 128 from setsTo_len _ 128)
      generalize hr : L[k]?.getD [] = r at HOK HSM2 HCI HCE HCL
      have HR := hide hr
      clear hr
      generalize chS r = S at HSM2 HCI HCE HCL
      generalize swM L k = G at HO HSM2
      go_wp2_with (first
        | (refine wpList_at2C sliceT2 rowS2 rfl (.tmp _) (.tmp _) rfl u rfl _ rfl k rfl w.heap.size L HLW.out hlt ?_; intro ad uu hcell hblk hu; rw [HR.out] at hu; have HU := hide hu; clear hu)
        | (go_at_call 29; refine (spChain_c _ r wr (HU.out.plain.mono (by omega)) HOK.out).mono ?_; rw [HCE.out]; rintro e w1 ⟨v1, rfl, ho1, hb1⟩; obtain ⟨a1, c1, hv1⟩ := ho1.shape; subst hv1; have hz1 := hb1.size; have HB1 := hide (HB.out.trans (hb1.mono (by omega))); have HO1 := hide (HO.out.kept hb1); have HC1 := hide ho1; clear ho1 hb1)
        | (refine wpList_len sliceT rfl (.tmp _) rfl _ rfl _ S HC1.out.ints ?_))
      go_loopw [3, 17] (fun s j w2 => ∃ d : Nat, d ≤ S.length ∧ j = .int .i64 (d : Int) ∧ Hid (own 3 w2 w.heap.size s (setsTo (addTo G S d) 128)) ∧ Hid (own 3 w2 wr.heap.size (.slice a1 S.length c1) S) ∧ Hid (Below w.heap.size w w2)) (fun _ j _ => S.length - (intOf j).toNat)
      case atStart => exact ⟨0, Nat.zero_le _, rfl, HO1, HC1, HB1⟩
      case round =>
        clear HO HB HLW HB1 HO1 HC1 hz1
        obtain ⟨d, hd, rfl, HO, HC, HB⟩ := hrel
        have hs2 := HB.out.size
        have hcl := HCL.out
        by_cases hdl : d < S.length
        · have hdl' : (d : Int) < (S.length : Int) := by omega
          have hy := HCI.out d hdl
          have HY := hide hy.2
          have hy1 := hy.1
          have HA := hide (show addTo G S (d + 1) = upd (addTo G S d) (nth S d) true from rfl)
          generalize nth S d = y at HY hy1 HA
          generalize addTo G S d = F at HO HA
          clear hy
          go_wp2_with (first
            | (refine wpList_at sliceT intS rfl (.tmp _) (.tmp _) rfl _ rfl d rfl _ S HC.out.ints hdl ?_; intro ad2 hcell2 hblk2; rw [HY.out] at hcell2)
            | (go_at_call 30; refine (spPut_c _ F y _ w.heap.size hy1 HO.out (by omega)).mono ?_; rw [← HA.out]; rintro e w3 ⟨v3, rfl, ho3, hb3⟩; have HO3 := hide ho3; have HC3 := hide (HC.out.kept hb3); have HB3 := hide (HB.out.trans (hb3.mono (by omega))); clear ho3 hb3))
          go_roundw
          case rel => exact ⟨d + 1, by omega, by go_num, HO3, HC3, HB3⟩
          case measure => (simp [intOf] <;> omega)
        · have hde : d = S.length := by omega
          have hdl2 : ¬ ((d : Int) < (S.length : Int)) := by omega
          subst hde
          rw [← HSM2.out] at HO
          go_wp2
          go_roundw
          case rel => exact ⟨k + 1, by omega, by go_num, HO, HB⟩
          case measure => (simp [intOf] <;> omega)
    · have hlt' : ¬ ((k : Int) < (L.length : Int)) := by omega
      have hkl : k = L.length := by omega
      subst hkl
      clear hk
      have HSA := hide (sw_same L L.length)
      have HRG := hide (swM_rg L L.length)
      have hml := setsTo_len (swM L L.length) 128
      obtain ⟨sa, sc, hsv⟩ := HO.out.shape
      generalize setsTo (swM L L.length) 128 = M at HO HSA HRG hml hsv
      subst hsv
      go_wp2_with (go_at_call 31; refine (spUnionsI_c _ M wr HO.out.ints HRG.out (by omega)).mono ?_; rw [HSA.out]; rintro e w5 ⟨v5, rfl, ho5, hb5⟩; have HO5 := hide (ho5.mono hsz); have HB5 := hide (HB.out.trans (hb5.mono hsz)); clear ho5 hb5)
      go_ret
      exact ⟨_, rfl, HO5.out, HB5.out⟩
set_option maxHeartbeats 4000000 in
theorem specAreMaking_c (n : Int) (v : Value) (l : List Int) (u : Value) (L : List (List Int)) (w : World) (hl : ints w.heap.size w v l) (hlen : l.length < 1000000000) (hu : rowsC w.heap.size w u L) (hs : small2 L) :
    Calls Try.prog 6 #[.agg #[.int .i64 n, v], u] w fun e w' => e = .returned (.tuple #[.bool (amR n l L), .bool (amB n l L)]) ∧ Below w.heap.size w w' := by
  have HL := hide ((hl.alloc (.cells #[.int .i64 n, v] 30)).mono (show w.heap.size ≤ (w.alloc (.cells #[.int .i64 n, v] 30)).heap.size by simp))
  have H0 := hide ((Below.refl w.heap.size w).alloc (Nat.le_refl _) (.cells #[.int .i64 n, v] 30))
  have HU := hide (hu.below H0.out (Nat.le_refl _))
  have HS0 := hide (hp_last w (.cells #[.int .i64 n, v] 30))
  have HZ := hide (show (w.alloc (.cells #[.int .i64 n, v] 30)).heap.size = w.heap.size + 1 by simp)
  have HSM := hide hs
  have c0 := cells_at0 HS0.out
  have c1 := cells_at1 HS0.out
  clear hl
  obtain ⟨ua, uc, hus⟩ := hu.plain.shape
  subst hus
  clear hu hs
  cases hok : okSp n l
  · have HG := hide (show goodB n l = false by rw [← ok_good]; exact hok)
    rw [amR_no (amB_no1 hok), amB_no1 hok]
    clear hok
    go_enter Try.func6, Try.ntmps6
    go_wp2_with (first
      | (go_at_call 13; refine (spGood_c n v l _ HL.out hlen).mono ?_; rw [HG.out]; rintro e w' ⟨rfl, hb⟩; have HB := hide (H0.out.trans (hb.mono (by rw [HZ.out]; omega))); clear hb))
    go_ret2
    exact ⟨rfl, HB.out⟩
  · have HG := hide (show goodB n l = true by rw [← ok_good]; exact hok)
    by_cases h35 : L.length ≤ 35
    · have hgt : ¬ ((35 : Int) < (L.length : Int)) := by omega
      have HOK := hide hok
      have hn := okSp_n hok
      have HYES := hide (amB_yes (L := L) hok h35)
      have HNO := hide (fun k (hk : k ≤ L.length) (h : amTo (fwG n l) L k = false) => amB_no3 (n := n) (l := l) (L := L) (amTo_no h _ hk))
      have HORD := hide (fun (h : amTo (fwG n l) L L.length = true) k (hk : k < L.length) => (fwG_ord (show 1 ≤ n.toNat ∧ n.toNat ≤ 7 by omega) (amTo_in _ h k hk)).2)
      have HYR := hide (amR_yes (n := n) (l := l) (L := L))
      have HNR := hide (amR_no (n := n) (l := l) (L := L))
      clear hok
      generalize amB n l L = ab at *
      generalize amR n l L = ar at *
      go_enter Try.func6, Try.ntmps6
      go_wp2_with (first
        | (go_at_call 13; refine (spGood_c n v l _ HL.out hlen).mono ?_; rw [HG.out]; rintro e w1 ⟨rfl, hb⟩; have HB := hide (H0.out.trans (hb.mono (by rw [HZ.out]; omega))); have HU1 := hide (HU.out.below hb (by rw [HZ.out]; omega)); have hs1 := (hb.block w.heap.size (by rw [HZ.out]; omega)).trans HS0.out; have HS1 := hide hs1; have hz1 := hb.size; rw [HZ.out] at hz1; have HL1 := hide ((HL.out.below hb (Nat.le_refl _)).mono hb.size); clear hb hs1)
        | (refine wpList_len2 sliceT2 rfl (.tmp _) rfl _ rfl w.heap.size L HU1.out.plain ?_))
      go_loopw [18] (fun i wr => ∃ k : Nat, k ≤ L.length ∧ i = .int .i64 (k : Int) ∧ Hid (amTo (fwG n l) L k = true) ∧ Hid (w1.heap.size ≤ wr.heap.size ∧ Below w1.heap.size w1 wr)) (fun i _ => L.length - (intOf i).toNat)
      case atStart => exact ⟨0, Nat.zero_le _, rfl, rfl, Nat.le_refl _, Below.refl _ _⟩
      case round =>
        obtain ⟨k, hk, rfl, HF, HW⟩ := hrel
        have hsz := HW.out.1
        have HUW := hide (HU1.out.below HW.out.2 (by omega))
        have HLW := hide ((HL1.out.below HW.out.2 (Nat.le_refl _)).mono hsz)
        have hsr := (HW.out.2.block w.heap.size (by omega)).trans HS1.out
        have c0 := cells_at0 hsr
        have c1 := cells_at1 hsr
        have HSR := hide hsr
        have HBW := hide (HB.out.trans (HW.out.2.mono (by omega)))
        clear hsr
        by_cases hlt : k < L.length
        · have hlt' : (k : Int) < (L.length : Int) := by omega
          have HNX := hide (show amTo (fwG n l) L (k + 1) = fwG n l (L[k]?.getD []) by rw [amTo_next, HF.out, Bool.true_and])
          have hrl := HSM.out.row k hlt
          have HN1 := hide (HNO.out (k + 1) (by omega))
          generalize hr : L[k]?.getD [] = r at HNX hrl
          have HR := hide hr
          clear hr
          cases hf : fwG n l r
          · have HFF := hide hf
            have hab := HN1.out (HNX.out.trans hf)
            have har := HNR.out hab
            subst hab
            subst har
            clear hf
            go_wp2_with (first
              | (refine wpList_at2C sliceT2 rowS2 rfl (.tmp _) (.tmp _) rfl _ rfl _ rfl k rfl w.heap.size L HUW.out hlt ?_; intro ad uu hcell hblk hu; rw [HR.out] at hu; have HUU := hide (hu.mono (show w.heap.size ≤ wr.heap.size by omega)); clear hu)
              | (go_at_call 14; refine (grWordC_c n v l _ r _ HLW.out hlen HUU.out (by omega) HOK.out).mono ?_; rw [HFF.out]; rintro e w3 ⟨rfl, hb3⟩; have HB3 := hide (HBW.out.trans (hb3.mono (by omega))); clear hb3))
            go_ret2
            exact ⟨rfl, HB3.out⟩
          · have HFF := hide hf
            have HF1 := hide (HNX.out.trans hf)
            clear hf
            go_wp2_with (first
              | (refine wpList_at2C sliceT2 rowS2 rfl (.tmp _) (.tmp _) rfl _ rfl _ rfl k rfl w.heap.size L HUW.out hlt ?_; intro ad uu hcell hblk hu; rw [HR.out] at hu; have HUU := hide (hu.mono (show w.heap.size ≤ wr.heap.size by omega)); clear hu)
              | (go_at_call 14; refine (grWordC_c n v l _ r _ HLW.out hlen HUU.out (by omega) HOK.out).mono ?_; rw [HFF.out]; rintro e w3 ⟨rfl, hb3⟩; have HW3 := hide (show w1.heap.size ≤ w3.heap.size ∧ Below w1.heap.size w1 w3 from ⟨Nat.le_trans hsz hb3.size, HW.out.2.trans (hb3.mono hsz)⟩); clear hb3))
            go_roundw
            case rel => exact ⟨k + 1, by omega, by go_num, HF1, HW3⟩
            case measure => (simp [intOf] <;> omega)
        · have hlt' : ¬ ((k : Int) < (L.length : Int)) := by omega
          have hkl : k = L.length := by omega
          rw [hkl] at HF
          have hab := HYES.out HF.out
          have har := HYR.out hab
          have HOD := hide (HORD.out HF.out)
          subst hab
          subst har
          clear HYES HNO HORD HYR HNR hkl
          by_cases h0 : 0 < L.length
          · have h0' : (0 : Int) < (L.length : Int) := by omega
            go_wp2
            have HX5 := HSR
            refine wp_region_held (S := Below wr.heap.size wr) (by kernel_rfl) ?_
            have hS : Below wr.heap.size wr { wr with drawn := wr.drawn + 1 } := (Below.refl _ _).drew
            refine wpAnyH_take (i := 0) (v := .slice ua L.length uc) rfl (by kernel_rfl) (by kernel_rfl) (by kernel_rfl) (fun _ _ _ h => h) (.inl ⟨rfl, fun w' _ => by go_simp⟩) hS ?_
            simp only [Act.put, List.getElem_toArray, List.getElem_cons_zero, List.getElem_cons_succ, List.setIfInBounds_toArray, List.set_cons_zero, List.set_cons_succ]
            refine wpAnyH_take (i := 1) (v := .int .i64 (L.length : Int)) rfl (by kernel_rfl) (by kernel_rfl) (by kernel_rfl) (fun _ _ _ h => h) (.inl ⟨rfl, fun w' _ => exec_len0 sliceT2 _ rfl ua L.length uc rfl w'⟩) hS ?_
            simp only [Act.put, List.getElem_toArray, List.getElem_cons_zero, List.getElem_cons_succ, List.setIfInBounds_toArray, List.set_cons_zero, List.set_cons_succ]
            refine wpAnyH_take (i := 2) (v := .bool true) rfl (by kernel_rfl) (by kernel_rfl) (by kernel_rfl) (fun _ _ _ h => h) (.inl ⟨rfl, fun w' _ => by simp [execOp, go_sem, h0', h0]⟩) hS ?_
            simp only [Act.put, List.getElem_toArray, List.getElem_cons_zero, List.getElem_cons_succ, List.setIfInBounds_toArray, List.set_cons_zero, List.set_cons_succ]
            refine wpAnyH_take (i := 3) (v := .bool true) rfl (by kernel_rfl) (by kernel_rfl) (by kernel_rfl) (fun _ _ _ h => h) (.inl ⟨rfl, fun w' _ => by go_simp⟩) hS ?_
            simp only [Act.put, List.getElem_toArray, List.getElem_cons_zero, List.getElem_cons_succ, List.setIfInBounds_toArray, List.set_cons_zero, List.set_cons_succ]
            refine wpAnyH_take (i := 4) (v := .slice ua L.length uc) rfl (by kernel_rfl) (by kernel_rfl) (by kernel_rfl) (fun _ _ _ h => h) (.inl ⟨rfl, fun w' _ => by go_simp⟩) hS ?_
            simp only [Act.put, List.getElem_toArray, List.getElem_cons_zero, List.getElem_cons_succ, List.setIfInBounds_toArray, List.set_cons_zero, List.set_cons_succ]
            refine wpAnyH_take (i := 6) (v := .pointer (some ⟨w.heap.size, 1, none⟩)) rfl (by kernel_rfl) (by kernel_rfl) (by kernel_rfl) (fun _ _ _ h => h) (.inl ⟨rfl, fun w' _ => by go_simp⟩) hS ?_
            simp only [Act.put, List.getElem_toArray, List.getElem_cons_zero, List.getElem_cons_succ, List.setIfInBounds_toArray, List.set_cons_zero, List.set_cons_succ]
            refine wpAnyH_take (i := 7) rfl (by kernel_rfl) (by kernel_rfl) (by kernel_rfl) (fun _ _ _ h => h) (yields_load_cell (by kernel_rfl) rfl (.tmp _) rfl ⟨w.heap.size, 1, none⟩ rfl v (fun w' h => (h.cell (p := ⟨w.heap.size, 1, none⟩) (by show w.heap.size < _; omega)).trans c1)) hS ?_
            simp only [Act.put, List.getElem_toArray, List.getElem_cons_zero, List.getElem_cons_succ, List.setIfInBounds_toArray, List.set_cons_zero, List.set_cons_succ]
            refine anyH_call (i := 5) (by kernel_rfl) rfl rfl 16 ent_cnJoinA _ _ rfl #[.slice ua L.length uc] rfl (cnJoin_c _ L _ ((HUW.out.below hS (by omega)).mono (by show w.heap.size ≤ wr.heap.size; omega)) HSM.out HOD.out) ?_
            have hRl := setsTo_len (unionsF (swC L L.length)) 128
            generalize hRE : setsTo (unionsF (swC L L.length)) 128 = R at hRl ⊢
            have HRE := hide hRE
            clear hRE
            rintro e w5 ⟨v5, rfl, ho5, hb5⟩
            have hS5 : Below wr.heap.size wr w5 := hS.trans (hb5.mono (Nat.le_refl _))
            refine ⟨_, rfl, hS5, ?_⟩
            simp only [Act.put, List.getElem_toArray, List.getElem_cons_zero, List.getElem_cons_succ, List.setIfInBounds_toArray, List.set_cons_zero, List.set_cons_succ]
            refine anyH_call (i := 8) (by kernel_rfl) rfl rfl 15 ent_l1SameA _ _ rfl #[v5, v] rfl (l1Same_c v5 v R l w5 ho5.ints ((HLW.out.below hS5 (Nat.le_refl _)).mono hS5.size) (by omega)) ?_
            rintro e w6 ⟨rfl, hb6⟩
            have hS6 : Below wr.heap.size wr w6 := hS5.trans (hb6.mono hS5.size)
            refine ⟨_, rfl, hS6, ?_⟩
            simp only [Act.put, List.getElem_toArray, List.getElem_cons_zero, List.getElem_cons_succ, List.setIfInBounds_toArray, List.set_cons_zero, List.set_cons_succ]
            refine anyH_op (i := 9) (by kernel_rfl) rfl rfl (.bool (decide (R = l))) w6 (by simp [go_sem]) hS6 ?_
            refine anyH_op (i := 10) (by kernel_rfl) rfl rfl (.bool (decide (R = l))) w6 (by simp [go_sem]) hS6 ?_
            refine anyH_op (i := 11) (by kernel_rfl) rfl rfl (.bool true) w6 (by simp [go_sem]) hS6 ?_
            refine wpAnyH_done (by kernel_rfl) ?_ _
            simp only [Act.put, List.getElem_toArray, List.getElem_cons_zero, List.getElem_cons_succ, List.setIfInBounds_toArray, List.set_cons_zero, List.set_cons_succ]
            have HB6 := hide (HBW.out.trans (hS6.mono (by omega)))
            clear hS hS5 hS6 hb5 hb6 ho5
            go_wp2
            go_ret2
            exact ⟨by rw [decide_eq_true h0, Bool.true_and, HRE.out]; rfl, HB6.out⟩
          · have h0' : ¬ (0 : Int) < (L.length : Int) := by omega
            go_wp2
            refine wp_region_old (by kernel_rfl) (by kernel_rfl) ?_
            go_big_quiet_step ((first | exact fun _ => rfl | exact fun _ => ⟨rfl, rfl⟩))
            refine q_len sliceT2 rfl (.tmp _) rfl _ rfl L.length ⟨_, _, rfl⟩ ?_
            simp only [Act.put, List.setIfInBounds_toArray, List.set_cons_zero, List.set_cons_succ]
            refine q_valE rfl (.bool false) (fun w' => by simp [execOp, go_sem, h0', List.eq_nil_of_length_eq_zero (show L.length = 0 by omega)]) ?_
            simp only [Act.put, List.setIfInBounds_toArray, List.set_cons_zero, List.set_cons_succ]
            repeat go_big_quiet_step ((first | exact fun _ => rfl | exact fun _ => ⟨rfl, rfl⟩))
            refine wpQuiet_nil ?_
            intro w6 hb6
            have HB6 := hide (HBW.out.trans (hb6.mono (by omega)))
            clear hb6
            go_wp2
            go_ret2
            exact ⟨by rw [decide_eq_false h0, Bool.false_and]; rfl, HB6.out⟩
    · have hgt : (35 : Int) < (L.length : Int) := by omega
      rw [amR_no (amB_no2 h35), amB_no2 h35]
      clear hok
      go_enter Try.func6, Try.ntmps6
      go_wp2_with (first
        | (go_at_call 13; refine (spGood_c n v l _ HL.out hlen).mono ?_; rw [HG.out]; rintro e w1 ⟨rfl, hb⟩; have HB := hide (H0.out.trans (hb.mono (by rw [HZ.out]; omega))); have HU1 := hide (HU.out.below hb (by rw [HZ.out]; omega)); have hs1 := (hb.block w.heap.size (by rw [HZ.out]; omega)).trans HS0.out; have HS1 := hide hs1; have hz1 := hb.size; rw [HZ.out] at hz1; have HL1 := hide ((HL.out.below hb (Nat.le_refl _)).mono hb.size); clear hb hs1)
        | (refine wpList_len2 sliceT2 rfl (.tmp _) rfl _ rfl w.heap.size L HU1.out.plain ?_))
      go_ret2
      exact ⟨rfl, HB.out⟩
end Go.Proofs.Ytbcohlnimmoifaa
