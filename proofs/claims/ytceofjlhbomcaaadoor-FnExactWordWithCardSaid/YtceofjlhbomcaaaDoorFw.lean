/- Contracts: FinishWord. -/
import Derived.Test.YtceofjlhbomcaaaDoorSo
namespace Go.Proofs.YtceofjlhbomcaaaDoor
open Go.RowKit
set_option maxRecDepth 100000
set_option linter.unusedSimpArgs false
attribute [local irreducible] p2 low memB risB
theorem ent_fullF : enters Tryd.prog 75 := enters_of Tryd.func75 (by kernel_rfl) (by kernel_rfl)
theorem ent_leadOn : enters Tryd.prog 74 := enters_of Tryd.func74 (by kernel_rfl) (by kernel_rfl)
theorem ent_woFinish : enters Tryd.prog 72 := enters_of Tryd.func72 (by kernel_rfl) (by kernel_rfl)
def fwR (n : Int) (l m : List Int) : List Int := if okWd n l m then m ++ finL (marksTo l l.length) n.toNat (low n.toNat) (setTo m m.length) else []
theorem fwR_no {n : Int} {l m : List Int} (h : okWd n l m = false) : fwR n l m = [] := by simp [fwR, h]
theorem fwR_yes {n : Int} {l m : List Int} (h : okWd n l m = true) : fwR n l m = m ++ finL (marksTo l l.length) n.toNat (low n.toNat) (setTo m m.length) := by simp [fwR, h]
theorem okWd_word {n : Int} {l m : List Int} (h : okWd n l m = true) : wordTo (marksTo l l.length) n.toNat m m.length = true := by
  rw [okWd_yes (okWd_sp h)] at h; exact h
theorem okWd_len {n : Int} {l m : List Int} (h : okWd n l m = true) : m.length ≤ 7 := by
  have h1 := word_short (okWd_word h)
  have h2 := okSp_n (okWd_sp h)
  omega
theorem fwR_len (n : Int) (l m : List Int) : (fwR n l m).length < 1000000000 := by
  unfold fwR
  split
  · rename_i h
    have h1 := okWd_len h
    have h2 := finL_len (marksTo l l.length) n.toNat (low n.toNat) (setTo m m.length)
    rw [List.length_append]
    omega
  · simp
theorem setTo_in {F : Nat → Bool} {n : Nat} {m : List Int} (h0 : F 0 = true) : ∀ k, wordTo F n m k = true → F (setTo m k) = true
  | 0, _ => h0
  | k + 1, h => by
    simp only [wordTo, stepB, Bool.and_eq_true] at h
    exact h.2.2.2
theorem okWd_mark {n : Int} {l m : List Int} (h : okWd n l m = true) : marksTo l l.length (setTo m m.length) = true :=
  setTo_in (okSp_spc (okWd_sp h)).zero m.length (okWd_word h)
theorem an0_low {n s : Nat} (h : s < 2 ^ n) : andNot s (low n) = 0 := by
  rw [an0]
  intro i hi
  rw [low_bit]
  by_cases hin : i < n
  · simp [hin]
  · have := Nat.lt_of_lt_of_le h (Nat.pow_le_pow_right (by omega) (show n ≤ i by omega))
    rw [Nat.testBit_lt_two_pow this] at hi
    cases hi

set_option maxHeartbeats 2000000 in
theorem specFinishWord_c (n : Int) (v : Value) (l : List Int) (u : Value) (m : List Int) (w : World) (hl : ints w.heap.size w v l) (hlen : l.length < 1000000000) (hm : ints w.heap.size w u m) (hml : m.length < 1000000000) (_ : tab w) :
    Calls Tryd.prog 39 #[.agg #[.int .i64 n, v], u] w fun e w' => ∃ v', e = .returned (.tuple #[v', .bool (okWd n l m)]) ∧ own 3 w' w.heap.size v' (fwR n l m) ∧ Below w.heap.size w w' := by
  have HL := hide ((hl.alloc (.cells #[.int .i64 n, v] 28)).mono (show w.heap.size ≤ (w.alloc (.cells #[.int .i64 n, v] 28)).heap.size by simp))
  have HM := hide ((hm.alloc (.cells #[.int .i64 n, v] 28)).mono (show w.heap.size ≤ (w.alloc (.cells #[.int .i64 n, v] 28)).heap.size by simp))
  have H0 := hide ((Below.refl w.heap.size w).alloc (Nat.le_refl _) (.cells #[.int .i64 n, v] 28))
  have HS0 := hide (hp_last w (.cells #[.int .i64 n, v] 28))
  have hz0 : (w.alloc (.cells #[.int .i64 n, v] 28)).heap.size = w.heap.size + 1 := by simp
  have HZ := hide hz0
  clear hl hm hz0
  cases hok : okSp n l
  · have HG := hide (show goodB n l = false by rw [← ok_good]; exact hok)
    have HO := hide (okWd_no (m := m) hok)
    have HR := hide (fwR_no HO.out)
    rw [HR.out, HO.out]
    clear hok
    go_enter Tryd.func39, Tryd.ntmps39
    go_wp2_with (go_at_call 48; refine (spGood_c n v l _ HL.out hlen).mono ?_; rw [HG.out]; rintro e w' ⟨rfl, hb⟩)
    go_ret2
    exact ⟨_, rfl, own_nil _ _ _, H0.out.trans (hb.mono (by simp))⟩
  · have HG := hide (show goodB n l = true by rw [← ok_good]; exact hok)
    have hn := okSp_n hok
    have hn1 := hn.1
    have hn2 := hn.2
    have HI := hide (okSp_inc hok)
    have HE1 := hide (wd_spec hok m)
    have HE2 := hide (wd_specS hok m)
    have HO := hide (okWd_yes (m := m) hok)
    have HOK := hide hok
    clear hok hn
    cases hwd : okWd n l m
    · have HW := hide hwd
      rw [fwR_no hwd]
      clear hwd
      go_enter Tryd.func39, Tryd.ntmps39
      go_wp2_with (first
        | (go_at_call 48; refine (spGood_c _ v l _ HL.out hlen).mono ?_; rw [HG.out]; rintro e w1 ⟨rfl, hb⟩; have hs1 := (hb.block w.heap.size (by rw [HZ.out]; omega)).trans HS0.out; have c0 := cells_at0 hs1; have c1 := cells_at1 hs1; have HS1 := hide hs1; have HB := hide hb; have hzb := hb.size; rw [HZ.out] at hzb; clear hb hs1)
        | (go_at_call 71; refine (woSet_c _ v u m l _ ((HL.out.below HB.out (Nat.le_refl _)).mono HB.out.size) HI.out hlen ((HM.out.below HB.out (Nat.le_refl _)).mono HB.out.size) hml (by omega) (by omega)).mono ?_; rw [HE1.out, HE2.out, ← HO.out, HW.out]; (try rw [HWS.out]); rintro e w2 ⟨rfl, hb2⟩; have hz2 := hb2.size; have HS2 := hide ((hb2.block w.heap.size (by omega)).trans HS1.out); have HL2 := hide ((((HL.out.below HB.out (Nat.le_refl _)).mono HB.out.size).below hb2 (Nat.le_refl _)).mono hb2.size); have HM2 := hide ((((HM.out.below HB.out (Nat.le_refl _)).mono HB.out.size).below hb2 (Nat.le_refl _)).mono hb2.size); have HB2 := hide (H0.out.trans ((HB.out.trans (hb2.mono HB.out.size)).mono (by have := HZ.out; omega))); clear hb2 c0 c1))
      go_ret2
      exact ⟨_, rfl, own_nil _ _ _, HB2.out⟩
    · have HW := hide hwd
      have hml7 := okWd_len hwd
      have HMK := hide (okWd_mark hwd)
      have HWS := hide (wdS_yes hwd)
      have HFU := hide (okSp_spc HOK.out).full
      have HAN := hide (an0_low ((okSp_spc HOK.out).lt _ (okWd_mark hwd)))
      rw [fwR_yes hwd]
      clear hwd
      generalize setTo m m.length = st at HMK HWS HAN ⊢
      obtain ⟨N, rfl⟩ := Int.eq_ofNat_of_zero_le (show 0 ≤ n by omega)
      rw [Int.toNat_natCast] at HFU HAN ⊢
      have HP := hide (wrap_p2 N (by omega))
      have HP2 := hide (show IntKind.i64.wrap (2 ^ N) = (p2 N : Int) by rw [IntWalk.i64_left]; exact wrap_p2 N (by omega))
      have HPL := hide (show IntKind.i64.wrap ((p2 N : Int) - 1) = (low N : Int) by
        have h1 : 1 ≤ p2 N := by unfold p2; exact p2_pos N
        have h2 : p2 N ≤ 128 := p2_le128 N (by omega)
        rw [IntWalk.i64_in _ (by omega)]
        unfold low
        unfold p2 at h1 ⊢
        omega)
      have HPM := hide (wrap_low N (by omega))
      go_enter Tryd.func39, Tryd.ntmps39
      go_wp2_with (first
        | (go_at_call 48; refine (spGood_c _ v l _ HL.out hlen).mono ?_; rw [HG.out]; rintro e w1 ⟨rfl, hb⟩; have hs1 := (hb.block w.heap.size (by rw [HZ.out]; omega)).trans HS0.out; have c0 := cells_at0 hs1; have c1 := cells_at1 hs1; have HS1 := hide hs1; have HB := hide hb; have hzb := hb.size; rw [HZ.out] at hzb; clear hb hs1)
        | (go_at_call 71; refine (woSet_c _ v u m l _ ((HL.out.below HB.out (Nat.le_refl _)).mono HB.out.size) HI.out hlen ((HM.out.below HB.out (Nat.le_refl _)).mono HB.out.size) hml (by omega) (by omega)).mono ?_; rw [HE1.out, HE2.out, ← HO.out, HW.out]; (try rw [HWS.out]); rintro e w2 ⟨rfl, hb2⟩; have hz2 := hb2.size; have HS2 := hide ((hb2.block w.heap.size (by omega)).trans HS1.out); have HL2 := hide ((((HL.out.below HB.out (Nat.le_refl _)).mono HB.out.size).below hb2 (Nat.le_refl _)).mono hb2.size); have HM2 := hide ((((HM.out.below HB.out (Nat.le_refl _)).mono HB.out.size).below hb2 (Nat.le_refl _)).mono hb2.size); have HB2 := hide (H0.out.trans ((HB.out.trans (hb2.mono HB.out.size)).mono (by have := HZ.out; omega))); clear hb2 c0 c1))
      refine wp_region_held (S := Below w2.heap.size w2) (by kernel_rfl) ?_
      have hS : Below w2.heap.size w2 { w2 with drawn := w2.drawn + 1 } := (Below.refl _ _).drew
      refine wpAnyH_take (i := 0) rfl (by kernel_rfl) (by kernel_rfl) (by kernel_rfl) (fun _ _ _ h => h) (yields_load_two rowSp sizeSp rfl (.tmp _) rfl _ rfl _ _ (fun w' h => (h.cell (p := ⟨w.heap.size, 0, none⟩) (by show w.heap.size < w2.heap.size; omega)).trans (cells_at0 HS2.out)) (fun w' h => (h.cell (p := ⟨w.heap.size, 1, none⟩) (by show w.heap.size < w2.heap.size; omega)).trans (cells_at1 HS2.out))) hS ?_
      refine wpAnyH_take (i := 1) (v := u) rfl (by kernel_rfl) (by kernel_rfl) (by kernel_rfl) (fun _ _ _ h => h) (.inl ⟨rfl, fun w' _ => by go_simp⟩) hS ?_
      refine wpAnyH_take (i := 2) (v := .int .i64 (st : Int)) rfl (by kernel_rfl) (by kernel_rfl) (by kernel_rfl) (fun _ _ _ h => h) (.inl ⟨rfl, fun w' _ => by go_simp⟩) hS ?_
      refine wpAnyH_take (i := 3) (v := .pointer (some ⟨w.heap.size, 0, none⟩)) rfl (by kernel_rfl) (by kernel_rfl) (by kernel_rfl) (fun _ _ _ h => h) (.inl ⟨rfl, fun w' _ => by go_simp⟩) hS ?_
      refine wpAnyH_take (i := 4) rfl (by kernel_rfl) (by kernel_rfl) (by kernel_rfl) (fun _ _ _ h => h) (yields_load_cell rowI rfl (.tmp _) rfl ⟨w.heap.size, 0, none⟩ rfl (.int .i64 (N : Int)) (fun w' h => (h.cell (p := ⟨w.heap.size, 0, none⟩) (by show w.heap.size < w2.heap.size; omega)).trans (cells_at0 HS2.out))) hS ?_
      simp only [Act.put, List.getElem_toArray, List.getElem_cons_zero, List.getElem_cons_succ, List.setIfInBounds_toArray, List.set_cons_zero, List.set_cons_succ]
      refine wpAnyH_take (i := 5) (v := .int .i64 (p2 N : Int)) rfl (by kernel_rfl) (by kernel_rfl) (by kernel_rfl) (fun _ _ _ h => h) (.inl ⟨rfl, fun w' _ => by simp [go_sem, Act.put, HP.out, HP2.out]⟩) hS ?_
      refine wpAnyH_take (i := 6) (v := .int .i64 (low N : Int)) rfl (by kernel_rfl) (by kernel_rfl) (by kernel_rfl) (fun _ _ _ h => h) (.inl ⟨rfl, fun w' _ => by simp [go_sem, Act.put, HPL.out, HPM.out]⟩) hS ?_
      simp only [Act.put, List.getElem_toArray, List.getElem_cons_zero, List.getElem_cons_succ, List.setIfInBounds_toArray, List.set_cons_zero, List.set_cons_succ]
      refine anyH_call (i := 7) (by kernel_rfl) rfl rfl 72 ent_woFinish _ _ rfl #[.agg #[.int .i64 (N : Int), v], u, .int .i64 (st : Int), .int .i64 (low N : Int)] rfl (woFinish_c (N : Int) v l u m st (low N) _ (show ints w2.heap.size w2.drew v l from HL2.out) hlen HOK.out (show ints w2.heap.size w2.drew u m from HM2.out) (by omega) HMK.out HFU.out HAN.out) ?_
      rintro e w3 ⟨v3, rfl, ho3, hb3⟩
      have hS3 : Below w2.heap.size w2 w3 := hS.trans hb3
      refine ⟨_, rfl, hS3, ?_⟩
      simp only [Act.put, List.getElem_toArray, List.getElem_cons_zero, List.getElem_cons_succ, List.setIfInBounds_toArray, List.set_cons_zero, List.set_cons_succ]
      refine anyH_op (i := 8) (by kernel_rfl) rfl rfl v3 w3 (by simp [go_sem]) hS3 ?_
      refine anyH_op (i := 9) (by kernel_rfl) rfl rfl (.bool true) w3 (by simp [go_sem]) hS3 ?_
      refine wpAnyH_done (by kernel_rfl) ?_ _
      simp only [Act.put, List.getElem_toArray, List.getElem_cons_zero, List.getElem_cons_succ, List.setIfInBounds_toArray, List.set_cons_zero, List.set_cons_succ]
      have HB3 := hide (HB2.out.trans (hS3.mono (by omega)))
      have HO3 := hide (show own 3 w3 w.heap.size v3 _ from ho3.mono (show w.heap.size ≤ w2.heap.size by omega))
      clear hS hS3 hb3 ho3
      go_wp2
      go_ret2
      exact ⟨_, rfl, by simpa using HO3.out, HB3.out⟩

set_option maxHeartbeats 2000000 in
theorem implFinishWord_c (n : Int) (v : Value) (l : List Int) (u : Value) (m : List Int) (w : World) (hl : ints w.heap.size w v l) (hlen : l.length < 1000000000) (hm : ints w.heap.size w u m) (hml : m.length < 1000000000) (hT : tab w) :
    Calls Tryd.prog 40 #[.agg #[.int .i64 n, v], u] w fun e w' => ∃ v', e = .returned (.tuple #[v', .bool (okWd n l m)]) ∧ own 3 w' w.heap.size v' (fwR n l m) ∧ Below w.heap.size w w' := by
  have HL := hide ((hl.alloc (.cells #[.int .i64 n, v] 28)).mono (show w.heap.size ≤ (w.alloc (.cells #[.int .i64 n, v] 28)).heap.size by simp))
  have HM := hide ((hm.alloc (.cells #[.int .i64 n, v] 28)).mono (show w.heap.size ≤ (w.alloc (.cells #[.int .i64 n, v] 28)).heap.size by simp))
  have HMP := hide hm
  have H0 := hide ((Below.refl w.heap.size w).alloc (Nat.le_refl _) (.cells #[.int .i64 n, v] 28))
  have HZ0 := hide (show (w.alloc (.cells #[.int .i64 n, v] 28)).heap.size = w.heap.size + 1 by simp)
  have HT := hide hT
  clear hl hm hT
  cases hwd : okWd n l m
  · have HW := hide hwd
    rw [fwR_no hwd]
    clear hwd
    go_enter Tryd.func40, Tryd.ntmps40
    go_wp2_with (first
      | (go_at_call 73; refine (familyAndWord_c n v l u m _ HL.out hlen HM.out hml).mono ?_; rw [famVal4_no n l m HW.out]; rintro e w1 ⟨rfl, hb1⟩; have hz1 := hb1.size; rw [HZ0.out] at hz1; have HB1 := hide (bl_row ((H0.out.trans (hb1.mono (by rw [HZ0.out]; omega))).alloc (by omega) (.cells (fam 0 noSet) 61)) (show w.heap.size ≤ w1.heap.size by omega) (fam 0 noSet)); clear hb1)
      | (refine wpList_alloc_fam zeroT rfl rfl _ (by first | (simp only [World.size_alloc]; rfl) | rfl) ?_)
      | (refine wpList_store_fam sizeT rfl (.tmp _) (.tmp _) rfl _ _ _ rfl rfl _ _ (famAt.new _ _ _ _) ?_))
    go_ret2
    exact ⟨_, rfl, own_nil _ _ _, HB1.out⟩
  · have HW := hide hwd
    have hml7 := okWd_len hwd
    have HMK := hide (okWd_mark hwd)
    have HSC := hide (okSp_spc (okWd_sp hwd))
    have HAN := hide (an0_low ((okSp_spc (okWd_sp hwd)).lt _ (okWd_mark hwd)))
    have hn := okSp_n (okWd_sp hwd)
    have hn0 : 0 ≤ n := by omega
    have hn7 : n ≤ 7 := hn.2
    have HFV := hide (famVal4_yes n l m hwd)
    rw [fwR_yes hwd]
    clear hwd hn
    generalize setTo m m.length = st at HMK HAN HFV ⊢
    go_enter Tryd.func40, Tryd.ntmps40
    go_wp2_with (first
      | (go_at_call 73; refine (familyAndWord_c n v l u m _ HL.out hlen HM.out hml).mono ?_; rw [HFV.out]; rintro e w1 ⟨rfl, hb1⟩; have hz1 := hb1.size; rw [HZ0.out] at hz1; have HH := hide ((famAt.new 61 w1 0 noSet).row n (marksTo l l.length)); have HT1 := hide (((HT.out.belowB HT.out (H0.out.trans (hb1.mono (by rw [HZ0.out]; omega))) (Nat.le_refl _)).alloc (.cells (fam 0 noSet) 61)).setRow w1.heap.size (by have := HT.out.1; omega) (fam n (marksTo l l.length))); have HB1 := hide (bl_row ((H0.out.trans (hb1.mono (by rw [HZ0.out]; omega))).alloc (by omega) (.cells (fam 0 noSet) 61)) (show w.heap.size ≤ w1.heap.size by omega) (fam n (marksTo l l.length))); clear hb1)
      | (refine wpList_alloc_fam zeroT rfl rfl _ (by first | (simp only [World.size_alloc]; rfl) | rfl) ?_)
      | (refine wpList_store_fam sizeT rfl (.tmp _) (.tmp _) rfl _ _ _ rfl rfl _ _ (famAt.new _ _ _ _) ?_))
    have hzX : ((w1.alloc (.cells (fam 0 noSet) 61)).setRow w1.heap.size (fam n (marksTo l l.length))).heap.size = w1.heap.size + 1 := by simp [World.setRow]
    generalize (w1.alloc (.cells (fam 0 noSet) 61)).setRow w1.heap.size (fam n (marksTo l l.length)) = W at HH HT1 HB1 hzX ⊢
    refine wp_region_held (S := Below W.heap.size W) (by kernel_rfl) ?_
    have hS : Below W.heap.size W { W with drawn := W.drawn + 1 } := (Below.refl _ _).drew
    refine wpAnyH_take (i := 0) rfl (by kernel_rfl) (by kernel_rfl) (by kernel_rfl) (fun _ _ _ h => h) (yields_load_fam rowT sizeT rfl (.tmp _) rfl _ rfl n (marksTo l l.length) (fun w' h => HH.out.below h HH.out.lt)) hS ?_
    refine wpAnyH_take (i := 3) rfl (by kernel_rfl) (by kernel_rfl) (by kernel_rfl) (fun _ _ _ h => h) (yields_load_fam rowT sizeT rfl (.tmp _) rfl _ rfl n (marksTo l l.length) (fun w' h => HH.out.below h HH.out.lt)) hS ?_
    refine wpAnyH_take (i := 1) (v := u) rfl (by kernel_rfl) (by kernel_rfl) (by kernel_rfl) (fun _ _ _ h => h) (.inl ⟨rfl, fun w' _ => by go_simp⟩) hS ?_
    refine wpAnyH_take (i := 2) (v := .int .i64 (st : Int)) rfl (by kernel_rfl) (by kernel_rfl) (by kernel_rfl) (fun _ _ _ h => h) (.inl ⟨rfl, fun w' _ => by go_simp⟩) hS ?_
    simp only [Act.put, List.getElem_toArray, List.getElem_cons_zero, List.getElem_cons_succ, List.setIfInBounds_toArray, List.set_cons_zero, List.set_cons_succ]
    refine anyH_call (i := 4) (by kernel_rfl) rfl rfl 75 ent_fullF _ _ rfl #[.agg (fam n (marksTo l l.length))] rfl (full_c n (marksTo l l.length) _ hn0 hn7) ?_
    rintro e w2 ⟨rfl, hb2⟩
    have hS2 : Below W.heap.size W w2 := hS.trans hb2
    have hz2 := hS2.size
    refine ⟨_, rfl, hS2, ?_⟩
    simp only [Act.put, List.getElem_toArray, List.getElem_cons_zero, List.getElem_cons_succ, List.setIfInBounds_toArray, List.set_cons_zero, List.set_cons_succ]
    refine anyH_call (i := 5) (by kernel_rfl) rfl rfl 74 ent_leadOn _ _ rfl #[.agg (fam n (marksTo l l.length)), u, .int .i64 (st : Int), .int .i64 (low n.toNat : Int)] rfl (leadOn_c n (marksTo l l.length) u m st (low n.toNat) w2 ((HMP.out.below (HB1.out.trans (hS2.mono (by omega))) (Nat.le_refl _)).mono (by omega)) (by omega) hn0 hn7 HSC.out HMK.out HSC.out.full HAN.out (HT1.out.belowB HT1.out hS2 (Nat.le_refl _))) ?_
    rintro e w3 ⟨v3, rfl, ho3, hb3⟩
    have hS3 : Below W.heap.size W w3 := hS2.trans (hb3.mono hz2)
    refine ⟨_, rfl, hS3, ?_⟩
    simp only [Act.put, List.getElem_toArray, List.getElem_cons_zero, List.getElem_cons_succ, List.setIfInBounds_toArray, List.set_cons_zero, List.set_cons_succ]
    refine anyH_op (i := 6) (by kernel_rfl) rfl rfl v3 w3 (by simp [go_sem]) hS3 ?_
    refine anyH_op (i := 7) (by kernel_rfl) rfl rfl (.bool true) w3 (by simp [go_sem]) hS3 ?_
    refine wpAnyH_done (by kernel_rfl) ?_ _
    simp only [Act.put, List.getElem_toArray, List.getElem_cons_zero, List.getElem_cons_succ, List.setIfInBounds_toArray, List.set_cons_zero, List.set_cons_succ]
    have HB3 := hide (HB1.out.trans (hS3.mono (by omega)))
    have HO3 := hide (show own 3 w3 w.heap.size v3 _ from ho3.mono (show w.heap.size ≤ w2.heap.size by omega))
    clear hS hS3 hb3 ho3 hS2 hb2
    go_wp2
    go_ret2
    exact ⟨_, rfl, HO3.out, HB3.out⟩
end Go.Proofs.YtceofjlhbomcaaaDoor
