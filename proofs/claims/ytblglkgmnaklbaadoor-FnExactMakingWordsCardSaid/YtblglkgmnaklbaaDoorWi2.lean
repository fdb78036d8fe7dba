/- Contracts: the counts of words of a family. -/
import Derived.Test.YtblglkgmnaklbaaDoorKc
namespace Go.Proofs.YtblglkgmnaklbaaDoor
open Go.RowKit
set_option maxRecDepth 100000
attribute [local irreducible] p2 low memB risB cntA

set_option maxHeartbeats 4000000 in
theorem wordCountsBy_c (n : Nat) (F : Nat → Bool) (al : Nat → Nat → Bool) (kf : Nat) (pre caps : Array Value) (w : World) (h1 : 1 ≤ n) (h7 : n ≤ 7) (hF : ∀ x, F x = true → x < 2 ^ n) (hT : tab w) (hk : enters Tryd.prog kf)
    (hcl : ∀ (w1 : World), Below w.heap.size w w1 → ∀ s : Nat, F s = true → s < low n → Calls Tryd.prog kf (pre ++ #[.int .i64 (s : Int)] ++ caps) w1 fun e w2 => e = .returned (.int .i64 (nxA F al n s : Int)) ∧ Below w1.heap.size w1 w2) :
    Calls Tryd.prog 47 #[.agg (fam (n : Int) F), .func (.func kf) pre caps] w fun e w' => e = .returned (.agg (rowV (cRow (cntA F al n)))) ∧ Below w.heap.size w w' := by
  have hk1 : ∀ (args : Array Value) (w : World), Sem.run Tryd.prog (callFunc kf args) w = .ok (.enter kf args) w := hk
  have HCL := hide hcl
  clear hcl
  have HT := hide hT
  have HFS := hide hF
  have hlo := low_lt n h7
  have hg5 := hT.1
  have f1 := ((famAt.new 57 w (n : Int) F).alloc (.cells (rowV zRow) 79)).alloc (.cells (rowV zRow) 79)
  have b3 : blk 79 (((w.alloc (.cells (fam (n : Int) F) 57)).alloc (.cells (rowV zRow) 79)).alloc (.cells (rowV zRow) 79)) (w.heap.size + 1 + 1) zRow := by
    have := blk.new 79 ((w.alloc (.cells (fam (n : Int) F) 57)).alloc (.cells (rowV zRow) 79)) zRow
    simpa using this
  have b2 : blk 79 (((w.alloc (.cells (fam (n : Int) F) 57)).alloc (.cells (rowV zRow) 79)).alloc (.cells (rowV zRow) 79)) (w.heap.size + 1) zRow := by
    have := (blk.new 79 (w.alloc (.cells (fam (n : Int) F) 57)) zRow).alloc (.cells (rowV zRow) 79)
    simpa using this
  have H0 := hide ((((Below.refl w.heap.size w).alloc (Nat.le_refl _) (.cells (fam (n : Int) F) 57)).alloc (by simp) (.cells (rowV zRow) 79)).alloc (by simp; omega) (.cells (rowV zRow) 79))
  have hz0 : (((w.alloc (.cells (fam (n : Int) F) 57)).alloc (.cells (rowV zRow) 79)).alloc (.cells (rowV zRow) 79)).heap.size = w.heap.size + 3 := by simp
  have HF1 := hide f1
  have HB3 := hide b3
  have HB2 := hide b2
  have HZ0 := hide hz0
  have HN := hide (show (0 : Int) ≤ (n : Int) ∧ (n : Int) ≤ 7 by omega)
  clear hT hF f1 b3 b2 hz0
  go_enter Tryd.func47, Tryd.ntmps47
  have c3 := HB3.out.cell (low n) (by rw [zRow_len]; exact hlo)
  have fr3 := HB3.out.free (low n)
  go_wp2_with (first
    | (refine wpList_alloc_arr zeroC rfl rfl _ (by first | (simp only [World.size_alloc]; rfl) | rfl) ?_)
    | (refine wpList_load_fam rowT sizeT rfl (.tmp _) rfl _ rfl (n : Int) F HF1.out ?_))
  refine (full_c (n : Int) F _ HN.out.1 HN.out.2).mono ?_
  rw [Int.toNat_natCast]
  rintro e w1 ⟨rfl, hb1⟩
  have HF2 := hide (HF1.out.below hb1 HF1.out.lt)
  have hb3 := HB3.out.below hb1 HB3.out.lt
  have hc3 := hb3.cell (low n) (by rw [zRow_len]; exact hlo)
  have hf3 := hb3.free (low n)
  have HC3 := hide (hb3.set (low n) 1)
  have HC2 := hide ((HB2.out.below hb1 HB2.out.lt).setO ⟨w.heap.size + 1 + 1, low n, none⟩ (show w.heap.size + 1 ≠ w.heap.size + 1 + 1 by omega) (.int .i64 1))
  have HF3 := hide (HF2.out.setO ⟨w.heap.size + 1 + 1, low n, none⟩ (show w.heap.size ≠ w.heap.size + 1 + 1 by omega) (.int .i64 1))
  have HB1 := hide ((H0.out.trans (hb1.mono (by rw [HZ0.out]; omega))).setCell (p := ⟨w.heap.size + 1 + 1, low n, none⟩) (show w.heap.size ≤ w.heap.size + 1 + 1 by omega) (.int .i64 1))
  have HZ1 := hide (show w.heap.size + 3 ≤ (w1.setCell ⟨w.heap.size + 1 + 1, low n, none⟩ (.int .i64 1)).heap.size by have := hb1.size; rw [HZ0.out] at this; simp [World.setCell]; exact this)
  clear hb1 hb3 c3 fr3
  have HC3' := hide (show blk 79 (w1.setCell ⟨w.heap.size + 1 + 1, low n, none⟩ (.int .i64 1)) (w.heap.size + 1 + 1) (cRow (cKA F al n (low n))) by
    have h := HC3.out
    rw [show zRow.set (low n) 1 = cRow (updN (fun _ => 0) (low n) 1) from cRow_set (fun _ => 0) (low n) 1, cKA_start F al n h7 HFS.out] at h
    exact h)
  clear HC3 HF2
  go_wp2_with (first
    | (refine wpList_load_fam rowT sizeT rfl (.tmp _) rfl _ rfl (n : Int) F HF3.out ?_)
    | (go_at_call 74; refine (full_c (n : Int) F _ HN.out.1 HN.out.2).mono ?_; rw [Int.toNat_natCast]; rintro e w2 ⟨rfl, hb2⟩; have HC4 := hide (HC3'.out.below hb2 HC3'.out.lt); have HC5 := hide (HC2.out.below hb2 HC2.out.lt); have HF4 := hide (HF3.out.below hb2 HF3.out.lt); have HB2' := hide (HB1.out.trans (hb2.mono (by have := HZ1.out; omega))); have HZ2 := hide (show w.heap.size + 3 ≤ w2.heap.size by have := hb2.size; have := HZ1.out; omega); clear hb2))
  go_loopw [6] (fun sv wr => ∃ (k : Nat) (z : Int), k ≤ low n ∧ z = (k : Int) - 1 ∧ sv = .int .i64 z ∧ Hid (blk 79 wr (w.heap.size + 1 + 1) (cRow (cKA F al n k))) ∧ Hid (blk 79 wr (w.heap.size + 1) zRow) ∧ Hid (famAt 57 wr w.heap.size (n : Int) F) ∧ Hid (Below w.heap.size w wr) ∧ w.heap.size + 3 ≤ wr.heap.size) (fun sv _ => ((intOf sv) + 1).toNat)
  case atStart => exact ⟨low n, _, Nat.le_refl _, rfl, by go_num, HC4, HC5, HF4, HB2', HZ2.out⟩
  case round =>
    obtain ⟨k, z, hk, hz, rfl, HC, HCR, HF, HB, hsz⟩ := hrel
    clear HC4 HC5 HF4 HB2' HZ2 HC3' HC2 HF3 HB1 HZ1 H0 HF1 HB3 HB2 HZ0
    rcases Nat.eq_zero_or_pos k with hk0 | hk0
    · subst hk0
      have hneg : ¬ (0 ≤ z) := by omega
      clear hz
      have HE := hide (cKA_zero F al n)
      have HCC := hide (show blk 79 wr (w.heap.size + 1 + 1) (cRow (cntA F al n)) by rw [← HE.out]; exact HC.out)
      go_wp2_with (first
        | (refine wpList_load_arr rowC sizeC rfl (.tmp _) rfl _ rfl _ (cRow_len _) HCC.out ?_)
        | (refine wpList_store_arr sizeC rfl (.tmp _) (.tmp _) rfl (w.heap.size + 1) _ (cRow_len (cntA F al n)) rfl rfl _ zRow_len HCR.out ?_))
      exact bodyPost_ret (v := .agg (rowV (cRow (cntA F al n)))) (results_arr rowC sizeC rfl _ _ (w.heap.size + 1) rfl _ (cRow_len _) (HCR.out.row _)) rfl ⟨rfl, bl_row HB.out (by omega) _⟩
    · obtain ⟨s, rfl⟩ : ∃ s, k = s + 1 := ⟨k - 1, by omega⟩
      have hzs : z = (s : Int) := by omega
      subst hzs
      have hs128 : s < 128 := by omega
      have hslow : s < low n := by omega
      have hfg := HF.out.get s hs128
      clear hz hk0
      cases hf : F s
      · have HV := hide hf
        rw [hf] at hfg
        have HSK := hide (cKA_skip F al n s h7 hslow hf)
        clear hf
        go_wp2
        go_roundw
        case rel => exact ⟨s, _, by omega, rfl, by go_num, by rw [← HSK.out]; exact HC, HCR, HF, HB, hsz⟩
        case measure => simp [intOf]
      · have HV := hide hf
        rw [hf] at hfg
        have HDN := hide (cKA_done F al n s h7 hslow hf)
        have HU0 := hide (cKA_upd0 F al n s)
        have hy := nxA_lt F al n s h7
        have HIA := hide (isum_nxA F al (cntA F al n) n s h7 HFS.out)
        have HIL := hide (itemsL_at (nxA F al n s))
        have hlen := itemsL_len _ hy
        have HOB := hide (fun i => nxA_bit F al n s i)
        have HTW := hide (HT.out.belowB HT.out HB.out (Nat.le_refl _))
        have hsb := cntA_sum_le F al n h7 s n h7
        have HIS := hide (fun j => isum_le (fun i => cntA F al n (p2s s i)) (itemsL (nxA F al n s)) j)
        have HIT := hide (fun j h => isum_step (fun i => cntA F al n (p2s s i)) (itemsL (nxA F al n s)) j h)
        clear hf
        generalize hyy : nxA F al n s = y at hy HIA HIL hlen HOB HIS HIT
        have HY := hide hyy
        clear hyy
        generalize hLL : itemsL y = L at HIA HIL hlen HIS HIT
        have HL := hide hLL
        clear hLL
        go_wp2_with (refine wpList_load_fam rowT sizeT rfl (.tmp _) rfl _ rfl (n : Int) F HF.out ?_)
        refine (HCL.out wr HB.out s HV.out hslow).mono ?_
        rw [HY.out]
        rintro e w3 ⟨rfl, hb3⟩
        have HT3 := hide (HTW.out.below hb3)
        have hz3 := hb3.size
        have HC6 := hide (HC.out.below hb3 HC.out.lt)
        have HC7 := hide (HCR.out.below hb3 HCR.out.lt)
        have HF6 := hide (HF.out.below hb3 HF.out.lt)
        have HB6 := hide (HB.out.trans (hb3.mono (by omega)))
        clear hb3
        go_wp2_with (first
          | (go_at_call 81; refine (items_c y w3 hy HT3.out).mono ?_; rw [HL.out]; rintro e w4 ⟨v4, rfl, ho4, hb4⟩; have HO4 := hide ho4; have hz4 := hb4.size; have HC8 := hide (HC6.out.below hb4 HC6.out.lt); have HC9 := hide (HC7.out.below hb4 HC7.out.lt); have HF8 := hide (HF6.out.below hb4 HF6.out.lt); have HB8 := hide (HB6.out.trans (hb4.mono (by omega))); clear ho4 hb4)
          | (refine wpList_len sliceT rfl (.tmp _) rfl v4 rfl _ L HO4.out.ints ?_))
        go_loopw [29] (fun jv wr => ∃ j : Nat, j ≤ L.length ∧ jv = .int .i64 j ∧ Hid (blk 79 wr (w.heap.size + 1 + 1) (cRow (updN (cKA F al n (s + 1)) s (isum (fun i => cntA F al n (p2s s i)) L j)))) ∧ Hid (blk 79 wr (w.heap.size + 1) zRow) ∧ Hid (famAt 57 wr w.heap.size (n : Int) F) ∧ Hid (Below w.heap.size w wr) ∧ Hid (own 3 wr w3.heap.size v4 L) ∧ w4.heap.size ≤ wr.heap.size) (fun jv _ => L.length - (intOf jv).toNat)
        case atStart => exact ⟨0, Nat.zero_le _, rfl, by rw [isum_zero, HU0.out]; exact HC8, HC9, HF8, HB8, HO4, Nat.le_refl _⟩
        case round =>
          clear HC HCR HF HB HC6 HC7 HF6 HB6 HC8 HC9 HF8 HB8 HO4 hfg
          obtain ⟨j, hj, rfl, HC, HCR, HF, HB, HO, hszr⟩ := hrel
          by_cases hjl : j < L.length
          · obtain ⟨i, hi, hi7, hyb⟩ := HIL.out j hjl
            have HX := hide hi
            have hob := HOB.out i
            rw [hyb] at hob
            have hob2 := hob.symm
            simp only [Bool.and_eq_true, Bool.not_eq_true', decide_eq_true_eq] at hob2
            have hps := p2s_lt s i hs128 hi7
            have hgt := p2s_gt hob2.2.1.1
            have HST := hide (show isum (fun i => cntA F al n (p2s s i)) L (j + 1) = isum (fun i => cntA F al n (p2s s i)) L j + cntA F al n (p2s s i) by rw [HIT.out j hjl, hi, Int.toNat_natCast])
            have hb1 := HIS.out j
            have hb2 := HIS.out (j + 1)
            rw [HIA.out] at hb1 hb2
            have hcv : updN (cKA F al n (s + 1)) s (isum (fun i => cntA F al n (p2s s i)) L j) (p2s s i) = cntA F al n (p2s s i) := by
              unfold updN cKA
              rw [if_neg (by omega)]
              exact if_pos (by omega)
            have hcs : updN (cKA F al n (s + 1)) s (isum (fun i => cntA F al n (p2s s i)) L j) s = isum (fun i => cntA F al n (p2s s i)) L j := by
              unfold updN; rw [if_pos rfl]
            have hg1 := HC.out.cell s (by rw [cRow_len]; exact hs128)
            have hg2 := HC.out.cell (p2s s i) (by rw [cRow_len]; exact hps)
            have hfr := HC.out.free s
            rw [cRow_get _ _ hs128, hcs] at hg1
            rw [cRow_get _ _ hps, hcv] at hg2
            have HSET := hide (show (cRow (updN (cKA F al n (s + 1)) s (isum (fun i => cntA F al n (p2s s i)) L j))).set s ((isum (fun i => cntA F al n (p2s s i)) L (j + 1) : Nat) : Int) = cRow (updN (cKA F al n (s + 1)) s (isum (fun i => cntA F al n (p2s s i)) L (j + 1))) by
              rw [cRow_set]
              refine cRow_congr fun x _ => ?_
              unfold updN
              by_cases hx : x = s
              · rw [if_pos hx, if_pos hx]
              · rw [if_neg hx, if_neg hx, if_neg hx])
            rw [HST.out] at hb2
            have hwith := with_c (s : Int) (i : Int)
            rw [Int.toNat_natCast, Int.toNat_natCast, show s ||| p2 i = p2s s i from rfl] at hwith
            have HW := hide hwith
            clear hi hob hob2 hyb hwith hcv hcs
            generalize p2s s i = q at hps hgt HST hg2 HW hb2
            generalize cntA F al n q = c at HST hg2 hb2
            generalize isum (fun i => cntA F al n (p2s s i)) L j = p at HST hb1 hb2 hg1 HC HSET
            have hadd : IntKind.i64.wrap ((p : Int) + (c : Int)) = ((p + c : Nat) : Int) := by rw [IntWalk.i64_in _ (by omega)]; omega
            go_wp2_with (first
              | (refine wpList_at sliceT intS rfl (.tmp _) (.tmp _) rfl v4 rfl j rfl _ L HO.out.ints hjl ?_; intro ad hcell hblk; rw [HX.out] at hcell))
            have HEQ := hide (show w.heap.size + 1 + 1 < wr.heap.size by omega)
            have hCd : blk 79 wr.drew (w.heap.size + 1 + 1) (cRow (updN (cKA F al n (s + 1)) s p)) := HC.out
            have hRd : blk 79 wr.drew (w.heap.size + 1) zRow := HCR.out
            have hFd : famAt 57 wr.drew w.heap.size (n : Int) F := HF.out
            have hOd : own 3 wr.drew w3.heap.size v4 L := HO.out
            have hput := hCd.set s (((p + c : Nat)) : Int)
            rw [show p + c = isum (fun i => cntA F al n (p2s s i)) L (j + 1) from HST.out.symm, HSET.out] at hput
            rw [← HST.out] at hadd
            generalize hpc1 : isum (fun i => cntA F al n (p2s s i)) L (j + 1) = pc1 at hput hadd HST
            have HPC1 := hide hpc1
            clear hpc1
            have HP := hide hput
            have HR2 := hide (hRd.setO ⟨w.heap.size + 1 + 1, s, none⟩ (show w.heap.size + 1 ≠ w.heap.size + 1 + 1 by omega) (.int .i64 (pc1 : Int)))
            have HF2 := hide (hFd.setO ⟨w.heap.size + 1 + 1, s, none⟩ (show w.heap.size ≠ w.heap.size + 1 + 1 by omega) (.int .i64 (pc1 : Int)))
            have HB2 := hide (HB.out.drew.setCell (p := ⟨w.heap.size + 1 + 1, s, none⟩) (show w.heap.size ≤ w.heap.size + 1 + 1 by omega) (.int .i64 (pc1 : Int)))
            have HO2 := hide (hOd.setLow ⟨w.heap.size + 1 + 1, s, none⟩ (show w.heap.size + 1 + 1 < w3.heap.size by omega) (.int .i64 (pc1 : Int)))
            clear hput hcell hCd hRd hFd hOd
            refine wp_region_held (S := fun _ => True) (by kernel_rfl) ?_
            refine wpAnyH_take (i := 0) (v := .int .i64 (s : Int)) rfl (by kernel_rfl) (by kernel_rfl) (by kernel_rfl) (fun _ _ _ h => h) (.inl ⟨rfl, fun w' _ => by go_simp⟩) trivial ?_
            refine wpAnyH_take (i := 1) (v := .pointer (some ⟨w.heap.size + 1 + 1, s, none⟩)) rfl (by kernel_rfl) (by kernel_rfl) (by kernel_rfl) (fun _ _ _ h => h) (.inl ⟨rfl, fun w' _ => by simp [go_sem, Act.put]; intro hx; omega⟩) trivial ?_
            refine wpAnyH_take (i := 3) (v := .int .i64 (s : Int)) rfl (by kernel_rfl) (by kernel_rfl) (by kernel_rfl) (fun _ _ _ h => h) (.inl ⟨rfl, fun w' _ => by go_simp⟩) trivial ?_
            refine wpAnyH_take (i := 4) (v := .int .i64 (i : Int)) rfl (by kernel_rfl) (by kernel_rfl) (by kernel_rfl) (fun _ _ _ h => h) (.inl ⟨rfl, fun w' _ => by go_simp⟩) trivial ?_
            simp only [Act.put, List.getElem_toArray, List.getElem_cons_zero, List.getElem_cons_succ, List.setIfInBounds_toArray, List.set_cons_zero, List.set_cons_succ]
            refine anyH_load_call_load (i := 2) (j := 5) (k := 6) (l := 7) (by kernel_rfl) (by kernel_rfl) (by kernel_rfl) (by kernel_rfl) (by kernel_rfl) (by kernel_rfl) (by kernel_rfl) rfl rfl rfl rfl (.int .i64 (p : Int)) (.int .i64 (q : Int)) (.pointer (some ⟨w.heap.size + 1 + 1, q, none⟩)) (.int .i64 (c : Int)) rfl rfl rfl rfl (by kernel_rfl) (by kernel_rfl) (by kernel_rfl) (fun _ _ _ h => h) (.inl ⟨rfl, fun w' _ => ?hq3⟩) rfl ?hq4 rfl rfl rfl rfl rfl rfl rfl rfl ?hq1 ?hq2 ?hq5 ?hq6 ?hq7 ?hq8 82 ent_withC _ _ rfl #[.int .i64 (s : Int), .int .i64 (i : Int)] rfl rfl (HW.out wr.drew (by omega) (by omega) (by omega) (by omega)) trivial ?_
            case hq1 => simp [go_sem, hg1]
            case hq2 => simp [go_sem, Act.put, hg1]
            case hq5 => simp [go_sem, Act.put, hg1]
            case hq6 => simp [go_sem, Act.put, hg2]
            case hq7 => simp [go_sem, Act.put, hg2]
            case hq8 => simp [go_sem, Act.put, hg2]
            case hq3 => simp [go_sem, Act.put]; intro hx; omega
            case hq4 => simp [go_sem, Act.put]; intro hx; omega
            simp only [Act.put, List.getElem_toArray, List.getElem_cons_zero, List.getElem_cons_succ, List.setIfInBounds_toArray, List.set_cons_zero, List.set_cons_succ]
            refine anyH_op (i := 8) (by kernel_rfl) rfl rfl (.int .i64 (pc1 : Int)) wr.drew (by simp [go_sem, hadd]) trivial ?_
            refine anyH_op (i := 9) (by kernel_rfl) rfl rfl (.pointer (some ⟨w.heap.size + 1 + 1, s, none⟩)) wr.drew (by simp [go_sem, Act.put]; intro hx; omega) trivial ?_
            refine anyH_skip (i := 10) (by kernel_rfl) rfl rfl (wr.drew.setCell ⟨w.heap.size + 1 + 1, s, none⟩ (.int .i64 (pc1 : Int))) (by simp [go_sem, Act.put, hg1, hfr]) trivial ?_
            refine wpAnyH_done (by kernel_rfl) ?_ _
            simp only [Act.put, List.getElem_toArray, List.getElem_cons_zero, List.getElem_cons_succ, List.setIfInBounds_toArray, List.set_cons_zero, List.set_cons_succ]
            go_wp2
            go_roundw
            case rel => exact ⟨j + 1, by omega, by go_num, by rw [HPC1.out]; exact HP, HR2.out, HF2.out, HB2.out, HO2.out, by simp [World.setCell]; omega⟩
            case measure => simp [intOf]; omega
          · have HJ := hide (show j = L.length by omega)
            clear hj
            have hjl2 : ¬ ((j : Int) < (L.length : Int)) := by have := HJ.out; omega
            go_wp2
            go_roundw
            case rel => exact ⟨s, _, by omega, rfl, by go_num, by rw [← HDN.out, ← HIA.out, ← HJ.out]; exact HC, HCR, HF, HB, by omega⟩
            case measure => simp [intOf]
theorem ent_outerW : enters Tryd.prog 80 := enters_of Tryd.func80 (by kernel_rfl) (by kernel_rfl)
end Go.Proofs.YtblglkgmnaklbaaDoor
