/- Contracts: WordThrough, both. -/
import Derived.Test.YtonimjpfaalniaaDoorWti
namespace Go.Proofs.YtonimjpfaalniaaDoor
open Go.RowKit
set_option maxRecDepth 100000
set_option linter.unusedSimpArgs false
attribute [local irreducible] p2 low memB risB icTo
set_option maxHeartbeats 2000000 in
theorem implWordThrough_c (n : Int) (v : Value) (l : List Int) (u : Value) (q : List Int) (w : World) (hl : ints w.heap.size w v l) (hlen : l.length < 1000000000) (base : Nat) (hq : own 3 w base u q) (hql : q.length < 1000000000) (hT : tab w) :
    Calls Tryd.prog 36 #[.agg #[.int .i64 n, v], u] w fun e w' => ∃ v', e = .returned (.tuple #[v', .bool (wtOk n l q)]) ∧ own 3 w' w.heap.size v' (wtR n l q) ∧ Below w.heap.size w w' := by
  obtain ⟨ua, uc, hu⟩ := hq.ints.shape
  subst hu
  have HT := hide hT
  have H0 := hide ((Below.refl w.heap.size w).alloc (Nat.le_refl _) (.cells #[.int .i64 n, v] 30))
  have HZ0 := hide (show (w.alloc (.cells #[.int .i64 n, v] 30)).heap.size = w.heap.size + 1 by simp)
  have HQ0 := hide (hq.ints.alloc (.cells #[.int .i64 n, v] 30))
  have HFV := hide (familyOf_c n v l (w.alloc (.cells #[.int .i64 n, v] 30)) ((hl.alloc _).mono (by simp)) hlen)
  clear hq hl hT
  cases hok : okSp n l
  · have HVV := hide (famVal_no n l hok)
    rw [wt_no (wtOk_no1 hok), wtOk_no1 hok]
    clear hok
    obtain ⟨N1, hN1⟩ : ∃ N1 : Int, N1 = 0 := ⟨_, rfl⟩
    obtain ⟨M1, hM1⟩ : ∃ M1 : Nat → Bool, M1 = noSet := ⟨_, rfl⟩
    have HVV2 : Hid (famVal n l = .tuple #[.agg (fam N1 M1), .bool false]) := hide (by rw [hN1, hM1]; exact HVV.out)
    clear HVV hN1 hM1
    have HVV := HVV2
    go_enter Tryd.func36, Tryd.ntmps36
    go_wp2_with (first
      | (go_at_call 86; refine HFV.out.mono ?_; rw [HVV.out]; rintro e w1 ⟨rfl, hb1⟩; rw [HZ0.out] at hb1; have hz1 := hb1.size; rw [HZ0.out] at hz1; have HF1 := hide ((famAt.new 83 w1 0 noSet).row N1 M1); have HQ1 := hide (((HQ0.out.below hb1 (by omega)).below (bl_row ((Below.refl w1.heap.size w1).alloc (Nat.le_refl _) (.cells (fam 0 noSet) 83)) (Nat.le_refl _) (fam N1 M1)) (by omega)).mono (show w.heap.size ≤ ((w1.alloc (.cells (fam 0 noSet) 83)).setRow w1.heap.size (fam N1 M1)).heap.size by rw [show ((w1.alloc (.cells (fam 0 noSet) 83)).setRow w1.heap.size (fam N1 M1)).heap.size = w1.heap.size + 1 by simp [World.setRow]]; omega)); have HB1 := hide (bl_row ((H0.out.trans (hb1.mono (by omega))).alloc (by omega) (.cells (fam 0 noSet) 83)) (show w.heap.size ≤ w1.heap.size by omega) (fam N1 M1)); have HZ1 := hide (show ((w1.alloc (.cells (fam 0 noSet) 83)).setRow w1.heap.size (fam N1 M1)).heap.size = w1.heap.size + 1 by simp [World.setRow]); clear hb1)
      | (refine wpList_alloc_fam zeroT rfl rfl _ (by first | (simp only [World.size_alloc]; rfl) | rfl) ?_)
      | (refine wpList_store_fam sizeT rfl (.tmp _) (.tmp _) rfl _ _ _ rfl rfl _ _ (famAt.new _ _ _ _) ?_)
      )
    go_ret2
    exact ⟨_, rfl, own_nil _ _ _, HB1.out⟩
  · have hn := okSp_n hok
    obtain ⟨m, rfl⟩ := Int.eq_ofNat_of_zero_le (show 0 ≤ n by omega)
    have h7 : m ≤ 7 := by omega
    have HVV := hide (famVal_yes (m : Int) l hok)
    by_cases h40 : 40 < q.length
    · rw [wt_no (wtOk_no2 h40), wtOk_no2 h40]
      have hgt : (40 : Int) < (q.length : Int) := by omega
      clear hok hn
      generalize marksTo l l.length = M1 at HVV
      obtain ⟨N1, hN1⟩ : ∃ N1 : Int, N1 = (m : Int) := ⟨_, rfl⟩
      have HVV2 : Hid (famVal (m : Int) l = .tuple #[.agg (fam N1 M1), .bool true]) := hide (by rw [hN1]; exact HVV.out)
      clear HVV hN1
      have HVV := HVV2
      go_enter Tryd.func36, Tryd.ntmps36
      go_wp2_with (first
        | (go_at_call 86; refine HFV.out.mono ?_; rw [HVV.out]; rintro e w1 ⟨rfl, hb1⟩; rw [HZ0.out] at hb1; have hz1 := hb1.size; rw [HZ0.out] at hz1; have HF1 := hide ((famAt.new 83 w1 0 noSet).row N1 M1); have HQ1 := hide (((HQ0.out.below hb1 (by omega)).below (bl_row ((Below.refl w1.heap.size w1).alloc (Nat.le_refl _) (.cells (fam 0 noSet) 83)) (Nat.le_refl _) (fam N1 M1)) (by omega)).mono (show w.heap.size ≤ ((w1.alloc (.cells (fam 0 noSet) 83)).setRow w1.heap.size (fam N1 M1)).heap.size by rw [show ((w1.alloc (.cells (fam 0 noSet) 83)).setRow w1.heap.size (fam N1 M1)).heap.size = w1.heap.size + 1 by simp [World.setRow]]; omega)); have HB1 := hide (bl_row ((H0.out.trans (hb1.mono (by omega))).alloc (by omega) (.cells (fam 0 noSet) 83)) (show w.heap.size ≤ w1.heap.size by omega) (fam N1 M1)); have HZ1 := hide (show ((w1.alloc (.cells (fam 0 noSet) 83)).setRow w1.heap.size (fam N1 M1)).heap.size = w1.heap.size + 1 by simp [World.setRow]); clear hb1)
        | (refine wpList_alloc_fam zeroT rfl rfl _ (by first | (simp only [World.size_alloc]; rfl) | rfl) ?_)
        | (refine wpList_store_fam sizeT rfl (.tmp _) (.tmp _) rfl _ _ _ rfl rfl _ _ (famAt.new _ _ _ _) ?_)
        | (refine wpList_len sliceT rfl (.tmp _) rfl _ rfl _ q HQ1.out ?_))
      go_ret2
      exact ⟨_, rfl, own_nil _ _ _, HB1.out⟩
    · have hgt : ¬ ((40 : Int) < (q.length : Int)) := by omega
      have hgd : decide ((40 : Int) < (q.length : Int)) = false := decide_eq_false hgt
      have HIC := hide (fun (M : Nat → Bool) w1 h1 => isChain_c m M (.slice ua q.length uc) q w1 h1 hql h7)
      have HIS := hide (wtOk_is hok h40)
      rw [Int.toNat_natCast] at HIS
      have hsp := okSp_spc hok
      rw [Int.toNat_natCast] at hsp
      have HSP := hide hsp
      have HIY := hide (fun h => wt_yes (n := (m : Int)) (l := l) (q := q) h)
      rw [Int.toNat_natCast] at HIY
      have HIN := hide (fun h => wt_no (n := (m : Int)) (l := l) (q := q) h)
      clear hok hn hsp
      generalize marksTo l l.length = M1 at HVV HIS HSP HIY
      cases hdf : icTo m M1 q q.length
      · rw [hdf] at HIS
        have HE := hide (HIN.out HIS.out)
        rw [HE.out, HIS.out]
        have HDF := hide hdf
        clear hdf
        obtain ⟨N1, hN1⟩ : ∃ N1 : Int, N1 = (m : Int) := ⟨_, rfl⟩
        have HVV2 : Hid (famVal (m : Int) l = .tuple #[.agg (fam N1 M1), .bool true]) := hide (by rw [hN1]; exact HVV.out)
        have HIC2 := hide (show ∀ w1, ints w1.heap.size w1 (.slice ua q.length uc) q → Calls Tryd.prog 87 #[.agg (fam N1 M1), .slice ua q.length uc] w1 fun e w' => e = .returned (.bool false) ∧ Below w1.heap.size w1 w' from fun w1 h1 => by
          have h := HIC.out M1 w1 h1
          rw [HDF.out] at h
          rw [hN1]; exact h)
        clear HVV hN1 HIC
        have HVV := HVV2
        go_enter Tryd.func36, Tryd.ntmps36
        go_wp2_with (first
          | (simp only [hgd])
          | (go_at_call 86; refine HFV.out.mono ?_; rw [HVV.out]; rintro e w1 ⟨rfl, hb1⟩; rw [HZ0.out] at hb1; have hz1 := hb1.size; rw [HZ0.out] at hz1; have HF1 := hide ((famAt.new 83 w1 0 noSet).row N1 M1); have HQ1 := hide (((HQ0.out.below hb1 (by omega)).below (bl_row ((Below.refl w1.heap.size w1).alloc (Nat.le_refl _) (.cells (fam 0 noSet) 83)) (Nat.le_refl _) (fam N1 M1)) (by omega)).mono (show w.heap.size ≤ ((w1.alloc (.cells (fam 0 noSet) 83)).setRow w1.heap.size (fam N1 M1)).heap.size by rw [show ((w1.alloc (.cells (fam 0 noSet) 83)).setRow w1.heap.size (fam N1 M1)).heap.size = w1.heap.size + 1 by simp [World.setRow]]; omega)); have HB1 := hide (bl_row ((H0.out.trans (hb1.mono (by omega))).alloc (by omega) (.cells (fam 0 noSet) 83)) (show w.heap.size ≤ w1.heap.size by omega) (fam N1 M1)); have HZ1 := hide (show ((w1.alloc (.cells (fam 0 noSet) 83)).setRow w1.heap.size (fam N1 M1)).heap.size = w1.heap.size + 1 by simp [World.setRow]); clear hb1)
          | (refine wpList_alloc_fam zeroT rfl rfl _ (by first | (simp only [World.size_alloc]; rfl) | rfl) ?_)
          | (refine wpList_store_fam sizeT rfl (.tmp _) (.tmp _) rfl _ _ _ rfl rfl _ _ (famAt.new _ _ _ _) ?_)
          | (refine wpList_len sliceT rfl (.tmp _) rfl _ rfl _ q HQ1.out ?_)
          | (refine wpList_load_fam rowT sizeT rfl (.tmp 6) rfl _ rfl N1 M1 HF1.out ?_)
          | (go_at_call 87; refine (HIC2.out _ HQ1.out).mono ?_; rintro e w2 ⟨rfl, hb2⟩; rw [HZ1.out] at hb2; have HB2 := hide (HB1.out.trans (hb2.mono (by omega))); clear hb2))
        go_ret2
        exact ⟨_, rfl, own_nil _ _ _, HB2.out⟩
      · rw [hdf] at HIS
        have HE := hide (HIY.out HIS.out)
        rw [HE.out, HIS.out]
        have HDF := hide hdf
        have HWT := hide (fun w1 h1 hT1 => wordThrough_c m M1 (.slice ua q.length uc) q w1 h1 (by omega) h7 HSP.out hdf hT1)
        clear hdf
        obtain ⟨N1, hN1⟩ : ∃ N1 : Int, N1 = (m : Int) := ⟨_, rfl⟩
        have HVV2 : Hid (famVal (m : Int) l = .tuple #[.agg (fam N1 M1), .bool true]) := hide (by rw [hN1]; exact HVV.out)
        have HIC2 := hide (show ∀ w1, ints w1.heap.size w1 (.slice ua q.length uc) q → Calls Tryd.prog 87 #[.agg (fam N1 M1), .slice ua q.length uc] w1 fun e w' => e = .returned (.bool true) ∧ Below w1.heap.size w1 w' from fun w1 h1 => by
          have h := HIC.out M1 w1 h1
          rw [HDF.out] at h
          rw [hN1]; exact h)
        rw [← hN1] at HWT
        clear HVV hN1 HIC
        have HVV := HVV2
        go_enter Tryd.func36, Tryd.ntmps36
        go_wp2_with (first
          | (simp only [hgd])
          | (go_at_call 86; refine HFV.out.mono ?_; rw [HVV.out]; rintro e w1 ⟨rfl, hb1⟩; rw [HZ0.out] at hb1; have hz1 := hb1.size; rw [HZ0.out] at hz1; have HF1 := hide ((famAt.new 83 w1 0 noSet).row N1 M1); have HQ1 := hide (((HQ0.out.below hb1 (by omega)).below (bl_row ((Below.refl w1.heap.size w1).alloc (Nat.le_refl _) (.cells (fam 0 noSet) 83)) (Nat.le_refl _) (fam N1 M1)) (by omega)).mono (show w.heap.size ≤ ((w1.alloc (.cells (fam 0 noSet) 83)).setRow w1.heap.size (fam N1 M1)).heap.size by rw [show ((w1.alloc (.cells (fam 0 noSet) 83)).setRow w1.heap.size (fam N1 M1)).heap.size = w1.heap.size + 1 by simp [World.setRow]]; omega)); have HB1 := hide (bl_row ((H0.out.trans (hb1.mono (by omega))).alloc (by omega) (.cells (fam 0 noSet) 83)) (show w.heap.size ≤ w1.heap.size by omega) (fam N1 M1)); have HZ1 := hide (show ((w1.alloc (.cells (fam 0 noSet) 83)).setRow w1.heap.size (fam N1 M1)).heap.size = w1.heap.size + 1 by simp [World.setRow]); clear hb1)
          | (refine wpList_alloc_fam zeroT rfl rfl _ (by first | (simp only [World.size_alloc]; rfl) | rfl) ?_)
          | (refine wpList_store_fam sizeT rfl (.tmp _) (.tmp _) rfl _ _ _ rfl rfl _ _ (famAt.new _ _ _ _) ?_)
          | (refine wpList_len sliceT rfl (.tmp _) rfl _ rfl _ q HQ1.out ?_)
          | (refine wpList_load_fam rowT sizeT rfl (.tmp 6) rfl _ rfl N1 M1 HF1.out ?_)
          | (go_at_call 87; refine (HIC2.out _ HQ1.out).mono ?_; rintro e w2 ⟨rfl, hb2⟩; have hz2 := hb2.size; have HQ2 := hide ((HQ1.out.below hb2 (Nat.le_refl _)).mono hz2); have HF2 := hide (HF1.out.below hb2 HF1.out.lt); rw [HZ1.out] at hb2 hz2; have HB2 := hide (HB1.out.trans (hb2.mono (by omega))); clear hb2)
          | (refine wpList_load_fam rowT sizeT rfl (.tmp 6) rfl _ rfl N1 M1 HF2.out ?_)
          | (go_at_call 88; refine (HWT.out _ HQ2.out (HT.out.below HB2.out)).mono ?_; rintro e w3 ⟨v3, rfl, ho3, hb3⟩; have HO3 := hide (ho3.mono (show w.heap.size ≤ w2.heap.size by omega)); have HB3 := hide (HB2.out.trans (hb3.mono (by omega))); clear ho3 hb3))
        go_ret2
        exact ⟨_, rfl, HO3.out, HB3.out⟩
set_option maxHeartbeats 2000000 in
theorem specWordThrough_c (n : Int) (v : Value) (l : List Int) (u : Value) (q : List Int) (w : World) (hl : ints w.heap.size w v l) (hlen : l.length < 1000000000) (base : Nat) (hq : own 3 w base u q) (hql : q.length < 1000000000) (_hT : tab w) :
    Calls Tryd.prog 35 #[.agg #[.int .i64 n, v], u] w fun e w' => ∃ v', e = .returned (.tuple #[v', .bool (wtOk n l q)]) ∧ own 3 w' w.heap.size v' (wtR n l q) ∧ Below w.heap.size w w' := by
  have HC0 := hide (hp_last w (.cells #[.int .i64 n, v] 30))
  have H0 := hide ((Below.refl w.heap.size w).alloc (Nat.le_refl _) (.cells #[.int .i64 n, v] 30))
  have HZ0 := hide (show (w.alloc (.cells #[.int .i64 n, v] 30)).heap.size = w.heap.size + 1 by simp)
  have HO0 := hide (hq.alloc (.cells #[.int .i64 n, v] 30))
  have HL0 := hide (hl.alloc (.cells #[.int .i64 n, v] 30))
  have a0 := cells_at0 HC0.out
  have a1 := cells_at1 HC0.out
  clear hq hl
  cases hok : okSp n l
  · have HGA := hide (show goodB n l = false by rw [← ok_good]; exact hok)
    rw [wt_no (wtOk_no1 hok), wtOk_no1 hok]
    clear hok
    go_enter Tryd.func35, Tryd.ntmps35
    go_wp2_with (first
      | (go_at_call 82; refine (spGood_c n v l _ (HL0.out.mono (by rw [HZ0.out]; omega)) hlen).mono ?_; rw [HGA.out]; rintro e w1 ⟨rfl, hb1⟩; rw [HZ0.out] at hb1; have hz1 := hb1.size; rw [HZ0.out] at hz1; clear a0 a1; have hc1 := (hb1.block w.heap.size (by omega)).trans HC0.out; have a1 := cells_at1 hc1; have HC1 := hide hc1; have HO1 := hide (HO0.out.kept (hb1.mono (Nat.le_of_eq HZ0.out))); have HL1 := hide (HL0.out.below hb1 (by omega)); have HB1 := hide (H0.out.trans (hb1.mono (by omega))); clear hb1 hc1)
      )
    go_ret2
    exact ⟨_, rfl, own_nil _ _ _, HB1.out⟩
  · have HGA := hide (show goodB n l = true by rw [← ok_good]; exact hok)
    have HSA := hide hok
    by_cases h40 : 40 < q.length
    · rw [wt_no (wtOk_no2 h40), wtOk_no2 h40]
      have hgt : (40 : Int) < (q.length : Int) := by omega
      clear hok
      go_enter Tryd.func35, Tryd.ntmps35
      go_wp2_with (first
        | (go_at_call 82; refine (spGood_c n v l _ (HL0.out.mono (by rw [HZ0.out]; omega)) hlen).mono ?_; rw [HGA.out]; rintro e w1 ⟨rfl, hb1⟩; rw [HZ0.out] at hb1; have hz1 := hb1.size; rw [HZ0.out] at hz1; clear a0 a1; have hc1 := (hb1.block w.heap.size (by omega)).trans HC0.out; have a1 := cells_at1 hc1; have HC1 := hide hc1; have HO1 := hide (HO0.out.kept (hb1.mono (Nat.le_of_eq HZ0.out))); have HL1 := hide (HL0.out.below hb1 (by omega)); have HB1 := hide (H0.out.trans (hb1.mono (by omega))); clear hb1 hc1)
        | (refine wpList_len sliceT rfl (.tmp _) rfl u rfl _ q HO1.out.ints ?_))
      go_ret2
      exact ⟨_, rfl, own_nil _ _ _, HB1.out⟩
    · have hgt : ¬ ((40 : Int) < (q.length : Int)) := by omega
      have hgd : decide ((40 : Int) < (q.length : Int)) = false := decide_eq_false hgt
      have h7 : n.toNat ≤ 7 := by have := okSp_n hok; omega
      have HIS := hide (wtOk_is hok h40)
      have HIY := hide (fun h => wt_yes (n := n) (l := l) (q := q) h)
      have HIN := hide (fun h => wt_no (n := n) (l := l) (q := q) h)
      have HOM := hide (fun x => own_mem hok x)
      have HIF := hide (icTo_iff n.toNat (marksTo l l.length) q)
      have HNO := hide (fun k h m hm => icTo_no (n := n.toNat) (F := marksTo l l.length) (q := q) (k := k) h m hm)
      have HSE := hide (fun K (h : icTo n.toNat (marksTo l l.length) q K = true) k hk => icTo_set h7 h k hk)
      have HCW := hide (fun w1 (h1 : ints w1.heap.size w1 v l) (h2 : ints w1.heap.size w1 u q) (hic : icTo n.toNat (marksTo l l.length) q q.length = true) => cnWord_c n v l u q w1 h1 hlen hok h2 (by omega) hic)
      clear hok
      generalize marksTo l l.length = F at HIS HOM HIF HNO HSE HCW HIY
      go_enter Tryd.func35, Tryd.ntmps35
      go_wp2_with (first
        | (simp only [hgd])
        | (go_at_call 82; refine (spGood_c n v l _ (HL0.out.mono (by rw [HZ0.out]; omega)) hlen).mono ?_; rw [HGA.out]; rintro e w1 ⟨rfl, hb1⟩; rw [HZ0.out] at hb1; have hz1 := hb1.size; rw [HZ0.out] at hz1; clear a0 a1; have hc1 := (hb1.block w.heap.size (by omega)).trans HC0.out; have a1 := cells_at1 hc1; have HC1 := hide hc1; have HO1 := hide (HO0.out.kept (hb1.mono (Nat.le_of_eq HZ0.out))); have HL1 := hide (HL0.out.below hb1 (by omega)); have HB1 := hide (H0.out.trans (hb1.mono (by omega))); clear hb1 hc1)
        | (refine wpList_len sliceT rfl (.tmp _) rfl u rfl _ q HO1.out.ints ?_))
      go_loopw [18] (fun i wr => ∃ k : Nat, k ≤ q.length ∧ i = .int .i64 (k : Int) ∧ Hid (icTo n.toNat F q k = true) ∧ Hid (Below w1.heap.size w1 wr)) (fun i _ => q.length - (intOf i).toNat)
      case atStart => exact ⟨0, Nat.zero_le _, rfl, (HIF.out 0).2 (fun k h => by omega), Below.refl _ _⟩
      case round =>
        obtain ⟨k, hk, rfl, HJ, HB⟩ := hrel
        have hsz := HB.out.size
        have HOW := hide (HO1.out.kept HB.out)
        have HLW := hide ((HL1.out.below HB.out (by omega)).mono (show w.heap.size ≤ wr.heap.size by omega))
        clear a1
        have a0 := cells_at0 ((HB.out.block w.heap.size (by omega)).trans HC1.out)
        have a1 := cells_at1 ((HB.out.block w.heap.size (by omega)).trans HC1.out)
        by_cases hlt : k < q.length
        · have hlt' : (k : Int) < (q.length : Int) := by omega
          have HNF := hide (fun h => HNO.out k h q.length hlt)
          have HNX := hide (fun h => show icTo n.toNat F q (k + 1) = true from (HIF.out (k + 1)).2 (fun j hj => by
            rcases Nat.lt_or_ge j k with h1 | h1
            · exact (HIF.out k).1 HJ.out j h1
            · have : j = k := by omega
              subst this; exact h))
          have HMX := hide (HOM.out (q[k]?.getD 0))
          have hnn : 0 ≤ q[k]?.getD 0 → q[k]?.getD 0 = (nth q k : Int) := nth_int
          have HNI := hide hnn
          clear hnn
          generalize hx : q[k]?.getD 0 = x at HNF HNX HMX HNI
          have HX := hide hx
          clear hx
          cases ho : ownB n.toNat F x
          · have HM := hide (HMX.out.symm.trans ho)
            have HEN := hide (HIS.out.trans (HNF.out (by rw [ho]; rfl)))
            have HE2 := hide (HIN.out HEN.out)
            clear ho
            go_wp2_with (first
              | (refine wpList_at sliceT intS rfl (.tmp 16) (.tmp _) rfl u rfl k rfl _ q HOW.out.ints hlt ?_; intro ad hcell hblk; rw [HX.out] at hcell)
              | (go_at_call 83; refine (spHas_c v l x _ HLW.out (okSp_inc HSA.out) hlen).mono ?_; rw [HM.out]; rintro e w3 ⟨rfl, rfl⟩))
            go_ret2
            exact ⟨_, by rw [HEN.out] <;> rfl, by rw [HE2.out]; exact own_nil _ _ _, HB1.out.trans (HB.out.mono (by omega))⟩
          · have HM := hide (HMX.out.symm.trans ho)
            have HOO := hide ho
            obtain ⟨⟨g1, g2⟩, _⟩ := ownB_in h7 ho
            have hxe := HNI.out g1
            have HXE := hide hxe
            subst hxe
            clear ho g1
            cases k with
            | zero =>
              have HEN := hide (HNX.out ⟨HOO.out, by show andNot 0 _ = 0; exact (an0 _ _).2 (fun i hi => by rw [Nat.zero_testBit] at hi; cases hi)⟩)
              generalize nth q 0 = nx at *
              go_wp2_with (first
                | (refine wpList_at sliceT intS rfl (.tmp 16) (.tmp _) rfl u rfl 0 rfl _ q HOW.out.ints hlt ?_; intro ad hcell hblk; rw [HX.out] at hcell)
                | (go_at_call 83; refine (spHas_c v l (nx : Int) _ HLW.out (okSp_inc HSA.out) hlen).mono ?_; rw [HM.out]; rintro e w3 ⟨rfl, rfl⟩))
              go_roundw
              case rel => exact ⟨1, by omega, by go_num, HEN, HB⟩
              case measure => (simp [intOf] <;> omega)
            | succ j =>
              obtain ⟨p1, p2', _, _⟩ := HSE.out (j + 1) HJ.out j (by omega)
              have HPJ := hide p1
              have hkpos : (0 : Int) < ((j + 1 : Nat) : Int) := by omega
              have hkp : decide ((0 : Int) < ((j + 1 : Nat) : Int)) = true := decide_eq_true hkpos
              have hsub : IntKind.i64.wrap (((j + 1 : Nat) : Int) - 1) = (j : Int) := by rw [show ((j + 1 : Nat) : Int) - 1 = (j : Int) by omega]; exact IntWalk.i64_in _ (by omega)
              have hjl : j < q.length := by omega
              have HPP := hide (show wtP q (j + 1) = nth q j from rfl)
              rw [HPP.out] at HNF HNX
              clear p1
              generalize nth q (j + 1) = nx at *
              generalize nth q j = pr at *
              cases hw : (andNot pr nx == 0)
              · have HW := hide hw
                have HEN := hide (HIS.out.trans (HNF.out (by rw [HOO.out, hw]; rfl)))
                have HE2 := hide (HIN.out HEN.out)
                clear hw
                go_wp2_with (first
                  | (refine wpList_at sliceT intS rfl (.tmp 16) (.tmp _) rfl u rfl (j + 1) rfl _ q HOW.out.ints hlt ?_; intro ad hcell hblk; rw [HX.out] at hcell)
                  | (refine wpList_at sliceT intS rfl (.tmp 32) (.tmp _) rfl u rfl j rfl _ q HOW.out.ints hjl ?_; intro ad2 hcell2 hblk2; rw [HPJ.out] at hcell2)
                  | (go_at_call 83; refine (spHas_c v l (nx : Int) _ HLW.out (okSp_inc HSA.out) hlen).mono ?_; rw [HM.out]; rintro e w3 ⟨rfl, rfl⟩)
                  | (go_at_call 84; refine (cnParts_c pr nx _ p2').mono ?_; rw [HW.out]; rintro e w4 ⟨rfl, rfl⟩))
                go_ret2
                exact ⟨_, by rw [HEN.out] <;> rfl, by rw [HE2.out]; exact own_nil _ _ _, HB1.out.trans (HB.out.mono (by omega))⟩
              · have HW := hide hw
                have HEN := hide (HNX.out ⟨HOO.out, by simpa using hw⟩)
                clear hw
                go_wp2_with (first
                  | (refine wpList_at sliceT intS rfl (.tmp 16) (.tmp _) rfl u rfl (j + 1) rfl _ q HOW.out.ints hlt ?_; intro ad hcell hblk; rw [HX.out] at hcell)
                  | (refine wpList_at sliceT intS rfl (.tmp 32) (.tmp _) rfl u rfl j rfl _ q HOW.out.ints hjl ?_; intro ad2 hcell2 hblk2; rw [HPJ.out] at hcell2)
                  | (go_at_call 83; refine (spHas_c v l (nx : Int) _ HLW.out (okSp_inc HSA.out) hlen).mono ?_; rw [HM.out]; rintro e w3 ⟨rfl, rfl⟩)
                  | (go_at_call 84; refine (cnParts_c pr nx _ p2').mono ?_; rw [HW.out]; rintro e w4 ⟨rfl, rfl⟩))
                go_roundw
                case rel => exact ⟨j + 1 + 1, by omega, by go_num, HEN, HB⟩
                case measure => (simp [intOf] <;> omega)
        · have HKE := hide (show k = q.length by omega)
          have hlt' : ¬ ((k : Int) < (q.length : Int)) := by omega
          have HDF := hide (show icTo n.toNat F q q.length = true by rw [← HKE.out]; exact HJ.out)
          have HEN := hide (HIS.out.trans HDF.out)
          have HE2 := hide (HIY.out HEN.out)
          go_wp2_with (first
            | (go_at_call 85; refine (HCW.out _ HLW.out HOW.out.ints HDF.out).mono ?_; rintro e w5 ⟨v5, rfl, ho5, hb5⟩; have HO5 := hide (ho5.mono (show w.heap.size ≤ wr.heap.size by omega)); have HB5 := hide (HB1.out.trans ((HB.out.mono (by omega)).trans (hb5.mono (by omega)))); clear ho5 hb5))
          go_ret2
          exact ⟨_, by rw [HEN.out] <;> rfl, by rw [HE2.out]; exact HO5.out, HB5.out⟩
end Go.Proofs.YtonimjpfaalniaaDoor
