/- Contracts: IsAntichain, both. -/
import Derived.Test.YtonimjpfaalniaaIa
namespace Go.Proofs.Ytonimjpfaalniaa
open Go.RowKit
set_option maxRecDepth 100000
set_option linter.unusedSimpArgs false
theorem marks_take {q : List Int} {k : Nat} (hk : k ≤ q.length) (hr : ∀ j, j < k → 0 ≤ q[j]?.getD 0) (m : Nat) : marksTo q k m = memB (q.take k) (m : Int) := by
  rw [Bool.eq_iff_iff, marks_iff q m k, take_mem q k hk]
  constructor
  · rintro ⟨j, h1, h2⟩
    exact ⟨j, h1, by rw [nth_int (hr j h1)]; unfold nth; rw [h2]⟩
  · rintro ⟨j, h1, h2⟩
    exact ⟨j, h1, by rw [h2, Int.toNat_natCast]⟩
attribute [local irreducible] p2 low memB risB acB dfTo
set_option maxHeartbeats 2000000 in
theorem areDifferentSets_c (n : Nat) (F : Nat → Bool) (u : Value) (q : List Int) (w : World) (hq : ints w.heap.size w u q) (hlen : q.length < 1000000000) (h7 : n ≤ 7) :
    Calls Try.prog 59 #[.agg (fam (n : Int) F), u] w fun e w' => e = .returned (.bool (dfTo n F q q.length)) ∧ Below w.heap.size w w' := by
  obtain ⟨ua, uc, hu⟩ := hq.shape
  subst hu
  have HF0 := hide ((famAt.new 63 w (n : Int) F).alloc (.cells (fam 0 noSet) 63))
  have HS0 := hide (show famAt 63 ((w.alloc (.cells (fam (n : Int) F) 63)).alloc (.cells (fam 0 noSet) 63)) (w.heap.size + 1) 0 (marksTo q 0) by have h := famAt.new 63 (w.alloc (.cells (fam (n : Int) F) 63)) 0 noSet; rw [show marksTo q 0 = noSet from rfl]; simpa using h)
  have HB0 := hide (((Below.refl w.heap.size w).alloc (Nat.le_refl _) (.cells (fam (n : Int) F) 63)).alloc (by simp) (.cells (fam 0 noSet) 63))
  have HQ := hide hq
  have HIF := hide (dfTo_iff n F q)
  have HNO := hide (fun k h m hm => dfTo_no (n := n) (F := F) (q := q) (k := k) h m hm)
  have HQ0 := hide (show ints w.heap.size ((w.alloc (.cells (fam (n : Int) F) 63)).alloc (.cells (fam 0 noSet) 63)) (.slice ua q.length uc) q from (hq.alloc _).alloc _)
  clear hq
  go_enter Try.func59, Try.ntmps59
  go_wp2_with (first
    | (refine wpList_alloc_fam zeroT rfl rfl _ (by first | (simp only [World.size_alloc]; rfl) | rfl) ?_))
  go_loopw [10] (fun i wr => ∃ k : Nat, k ≤ q.length ∧ i = .int .i64 (k : Int) ∧ Hid (dfTo n F q k = true) ∧ Hid (famAt 63 wr w.heap.size (n : Int) F) ∧ Hid (famAt 63 wr (w.heap.size + 1) 0 (marksTo q k)) ∧ Hid (Below w.heap.size w wr)) (fun i _ => q.length - (intOf i).toNat)
  case atStart => exact ⟨0, Nat.zero_le _, rfl, (HIF.out 0).2 (fun k h => by omega), HF0, HS0, HB0⟩
  case round =>
    clear HF0 HS0 HB0 HQ0
    obtain ⟨k, hk, rfl, HJ, HF, HS, HB⟩ := hrel
    have HQW := hide (HQ.out.below HB.out (Nat.le_refl _))
    have hls := HS.out.lt
    by_cases hlt : k < q.length
    · have hlt' : (k : Int) < (q.length : Int) := by omega
      have HMT := hide (fun m => marks_take (q := q) (k := k) (by omega) (fun j hj => (ownB_in h7 ((HIF.out k).1 HJ.out j hj).1).1.1) m)
      have HNF := hide (fun h => HNO.out k h q.length hlt)
      have HNX := hide (fun h => show dfTo n F q (k + 1) = true from (HIF.out (k + 1)).2 (fun j hj => by
        rcases Nat.lt_or_ge j k with h1 | h1
        · exact (HIF.out k).1 HJ.out j h1
        · have : j = k := by omega
          subst this; exact h))
      have HST := hide (show marksTo q (k + 1) = upd (marksTo q k) (q[k]?.getD 0).toNat true from rfl)
      generalize hx : q[k]?.getD 0 = x at HNF HNX HST
      have HX := hide hx
      clear hx
      cases ho : ownB n F x
      · have HO := hide ho
        have HEN := hide (HNF.out (by rw [ho]; rfl))
        clear ho
        go_wp2_with (first
          | (refine wpList_at sliceT intS rfl (.tmp _) (.tmp _) rfl _ rfl k rfl w.heap.size q HQW.out hlt ?_; intro ad hcell hblk; rw [HX.out] at hcell)
          | (refine wpList_load_fam rowT sizeT rfl (.tmp _) rfl _ rfl (n : Int) F HF.out ?_)
          | (go_at_call 98; refine (hasOwn_c n F x _ h7).mono ?_; rw [HO.out]; rintro e w2 ⟨rfl, hb2⟩; have HB2 := hide (HB.out.trans (hb2.mono (by omega))); clear hb2))
        go_ret
        exact ⟨ret_b HEN.out.symm, HB2.out⟩
      · have HO := hide ho
        obtain ⟨⟨g1, g2⟩, _⟩ := ownB_in h7 ho
        obtain ⟨m, rfl⟩ := Int.eq_ofNat_of_zero_le g1
        have hm8 : m < 128 := by omega
        rw [Int.toNat_natCast] at HST
        have HMM := hide (HMT.out m)
        have HOO := hide ho
        clear ho g1 g2 HMT
        generalize hG : marksTo q k = G at HS HST HMM
        clear hG
        cases hmm : G m
        · have HGM := hide hmm
          rw [hmm] at HMM
          have HEN := hide (HNX.out ⟨HOO.out, HMM.out.symm⟩)
          clear hmm
          go_wp2_with (first
            | (refine wpList_at sliceT intS rfl (.tmp _) (.tmp _) rfl _ rfl k rfl w.heap.size q HQW.out hlt ?_; intro ad hcell hblk; rw [HX.out] at hcell)
            | (refine wpList_load_fam rowT sizeT rfl (.tmp _) rfl _ rfl (n : Int) F HF.out ?_)
            | (go_at_call 98; refine (hasOwn_c n F (m : Int) _ h7).mono ?_; rw [HO.out]; rintro e w2 ⟨rfl, hb2⟩; have hz2 := hb2.size; have hs2 := HS.out.below hb2 hls; have c2 := hs2.get m hm8; rw [HGM.out] at c2; have f2 := hs2.free (1 + m); have HS2 := hide hs2; have HF2 := hide (HF.out.below hb2 (by omega)); have HB2 := hide (HB.out.trans (hb2.mono (by omega))); clear hb2 hs2))
          go_roundw
          case rel => exact ⟨k + 1, by omega, by go_num, HEN, HF2.out.setO _ (by show w.heap.size ≠ w.heap.size + 1; omega) _, by rw [HST.out]; exact HS2.out.set m hm8 true, HB2.out.setCell (by show w.heap.size ≤ w.heap.size + 1; omega) _⟩
          case measure => (simp [intOf] <;> omega)
        · have HGM := hide hmm
          rw [hmm] at HMM
          have HEN := hide (HNF.out (by rw [HOO.out, ← HMM.out]; rfl))
          clear hmm
          go_wp2_with (first
            | (refine wpList_at sliceT intS rfl (.tmp _) (.tmp _) rfl _ rfl k rfl w.heap.size q HQW.out hlt ?_; intro ad hcell hblk; rw [HX.out] at hcell)
            | (refine wpList_load_fam rowT sizeT rfl (.tmp _) rfl _ rfl (n : Int) F HF.out ?_)
            | (go_at_call 98; refine (hasOwn_c n F (m : Int) _ h7).mono ?_; rw [HO.out]; rintro e w2 ⟨rfl, hb2⟩; have hs2 := HS.out.below hb2 hls; have c2 := hs2.get m hm8; rw [HGM.out] at c2; have HB2 := hide (HB.out.trans (hb2.mono (by omega))); clear hb2 hs2))
          go_ret
          exact ⟨ret_b HEN.out.symm, HB2.out⟩
    · have HKE := hide (show k = q.length by omega)
      have hlt' : ¬ ((k : Int) < (q.length : Int)) := by omega
      go_wp2
      go_ret
      exact ⟨ret_b (by rw [← HKE.out, HJ.out]), HB.out⟩
set_option maxHeartbeats 2000000 in
theorem implIsAntichain_c (n : Int) (v : Value) (l : List Int) (u : Value) (q : List Int) (w : World) (hl : ints w.heap.size w v l) (hlen : l.length < 1000000000) (base : Nat) (hq : own 3 w base u q) (hql : q.length < 1000000000) :
    Calls Try.prog 19 #[.agg #[.int .i64 n, v], u] w fun e w' => e = .returned (.tuple #[.bool (iaB n l q), .bool (iaOk n l q)]) ∧ Below w.heap.size w w' := by
  obtain ⟨ua, uc, hu⟩ := hq.ints.shape
  subst hu
  have H0 := hide ((Below.refl w.heap.size w).alloc (Nat.le_refl _) (.cells #[.int .i64 n, v] 28))
  have HZ0 := hide (show (w.alloc (.cells #[.int .i64 n, v] 28)).heap.size = w.heap.size + 1 by simp)
  have HQ0 := hide (hq.ints.alloc (.cells #[.int .i64 n, v] 28))
  have HFV := hide (familyOf_c n v l (w.alloc (.cells #[.int .i64 n, v] 28)) ((hl.alloc _).mono (by simp)) hlen)
  clear hq hl
  cases hok : okSp n l
  · have HVV := hide (famVal_no n l hok)
    rw [ia_no (iaOk_no1 hok), iaOk_no1 hok]
    clear hok
    obtain ⟨N1, hN1⟩ : ∃ N1 : Int, N1 = 0 := ⟨_, rfl⟩
    obtain ⟨M1, hM1⟩ : ∃ M1 : Nat → Bool, M1 = noSet := ⟨_, rfl⟩
    have HVV2 : Hid (famVal n l = .tuple #[.agg (fam N1 M1), .bool false]) := hide (by rw [hN1, hM1]; exact HVV.out)
    clear HVV hN1 hM1
    have HVV := HVV2
    go_enter Try.func19, Try.ntmps19
    go_wp2_with (first
      | (go_at_call 58; refine HFV.out.mono ?_; rw [HVV.out]; rintro e w1 ⟨rfl, hb1⟩; rw [HZ0.out] at hb1; have hz1 := hb1.size; rw [HZ0.out] at hz1; have HF1 := hide ((famAt.new 63 w1 0 noSet).row N1 M1); have HQ1 := hide (((HQ0.out.below hb1 (by omega)).below (bl_row ((Below.refl w1.heap.size w1).alloc (Nat.le_refl _) (.cells (fam 0 noSet) 63)) (Nat.le_refl _) (fam N1 M1)) (by omega)).mono (show w.heap.size ≤ ((w1.alloc (.cells (fam 0 noSet) 63)).setRow w1.heap.size (fam N1 M1)).heap.size by rw [show ((w1.alloc (.cells (fam 0 noSet) 63)).setRow w1.heap.size (fam N1 M1)).heap.size = w1.heap.size + 1 by simp [World.setRow]]; omega)); have HB1 := hide (bl_row ((H0.out.trans (hb1.mono (by omega))).alloc (by omega) (.cells (fam 0 noSet) 63)) (show w.heap.size ≤ w1.heap.size by omega) (fam N1 M1)); have HZ1 := hide (show ((w1.alloc (.cells (fam 0 noSet) 63)).setRow w1.heap.size (fam N1 M1)).heap.size = w1.heap.size + 1 by simp [World.setRow]); clear hb1)
      | (refine wpList_alloc_fam zeroT rfl rfl _ (by first | (simp only [World.size_alloc]; rfl) | rfl) ?_)
      | (refine wpList_store_fam sizeT rfl (.tmp _) (.tmp _) rfl _ _ _ rfl rfl _ _ (famAt.new _ _ _ _) ?_)
      )
    go_ret2
    exact ⟨rfl, HB1.out⟩
  · have hn := okSp_n hok
    obtain ⟨m, rfl⟩ := Int.eq_ofNat_of_zero_le (show 0 ≤ n by omega)
    have h7 : m ≤ 7 := by omega
    have HVV := hide (famVal_yes (m : Int) l hok)
    by_cases h40 : 40 < q.length
    · rw [ia_no (iaOk_no2 h40), iaOk_no2 h40]
      have hgt : (40 : Int) < (q.length : Int) := by omega
      clear hok hn
      generalize marksTo l l.length = M1 at HVV
      obtain ⟨N1, hN1⟩ : ∃ N1 : Int, N1 = (m : Int) := ⟨_, rfl⟩
      have HVV2 : Hid (famVal (m : Int) l = .tuple #[.agg (fam N1 M1), .bool true]) := hide (by rw [hN1]; exact HVV.out)
      clear HVV hN1
      have HVV := HVV2
      go_enter Try.func19, Try.ntmps19
      go_wp2_with (first
        | (go_at_call 58; refine HFV.out.mono ?_; rw [HVV.out]; rintro e w1 ⟨rfl, hb1⟩; rw [HZ0.out] at hb1; have hz1 := hb1.size; rw [HZ0.out] at hz1; have HF1 := hide ((famAt.new 63 w1 0 noSet).row N1 M1); have HQ1 := hide (((HQ0.out.below hb1 (by omega)).below (bl_row ((Below.refl w1.heap.size w1).alloc (Nat.le_refl _) (.cells (fam 0 noSet) 63)) (Nat.le_refl _) (fam N1 M1)) (by omega)).mono (show w.heap.size ≤ ((w1.alloc (.cells (fam 0 noSet) 63)).setRow w1.heap.size (fam N1 M1)).heap.size by rw [show ((w1.alloc (.cells (fam 0 noSet) 63)).setRow w1.heap.size (fam N1 M1)).heap.size = w1.heap.size + 1 by simp [World.setRow]]; omega)); have HB1 := hide (bl_row ((H0.out.trans (hb1.mono (by omega))).alloc (by omega) (.cells (fam 0 noSet) 63)) (show w.heap.size ≤ w1.heap.size by omega) (fam N1 M1)); have HZ1 := hide (show ((w1.alloc (.cells (fam 0 noSet) 63)).setRow w1.heap.size (fam N1 M1)).heap.size = w1.heap.size + 1 by simp [World.setRow]); clear hb1)
        | (refine wpList_alloc_fam zeroT rfl rfl _ (by first | (simp only [World.size_alloc]; rfl) | rfl) ?_)
        | (refine wpList_store_fam sizeT rfl (.tmp _) (.tmp _) rfl _ _ _ rfl rfl _ _ (famAt.new _ _ _ _) ?_)
        | (refine wpList_len sliceT rfl (.tmp _) rfl _ rfl _ q HQ1.out ?_))
      go_ret2
      exact ⟨rfl, HB1.out⟩
    · have hgt : ¬ ((40 : Int) < (q.length : Int)) := by omega
      have hgd : decide ((40 : Int) < (q.length : Int)) = false := decide_eq_false hgt
      have HAD := hide (fun (M : Nat → Bool) w1 h1 => areDifferentSets_c m M (.slice ua q.length uc) q w1 h1 hql h7)
      have HIS := hide (iaOk_is hok h40)
      have HDI := hide (fun h => dfTo_diff (n := m) (F := marksTo l l.length) (q := q) h)
      have HRG := hide (fun (h : dfTo m (marksTo l l.length) q q.length = true) j hj => (ownB_in h7 ((dfTo_iff m (marksTo l l.length) q q.length).1 h j hj).1).1)
      rw [Int.toNat_natCast] at HIS
      have HIY := hide (fun h => ia_yes (n := (m : Int)) (l := l) (q := q) h)
      have HIN := hide (fun h => ia_no (n := (m : Int)) (l := l) (q := q) h)
      clear hok hn h40
      generalize marksTo l l.length = M1 at HVV HIS HDI HRG
      cases hdf : dfTo m M1 q q.length
      · rw [hdf] at HIS
        have HE := hide (HIN.out HIS.out)
        rw [HE.out, HIS.out]
        have HDF := hide hdf
        clear hdf
        obtain ⟨N1, hN1⟩ : ∃ N1 : Int, N1 = (m : Int) := ⟨_, rfl⟩
        have HVV2 : Hid (famVal (m : Int) l = .tuple #[.agg (fam N1 M1), .bool true]) := hide (by rw [hN1]; exact HVV.out)
        have HAD2 := hide (show ∀ w1, ints w1.heap.size w1 (.slice ua q.length uc) q → Calls Try.prog 59 #[.agg (fam N1 M1), .slice ua q.length uc] w1 fun e w' => e = .returned (.bool false) ∧ Below w1.heap.size w1 w' from fun w1 h1 => by
          have h := HAD.out M1 w1 h1
          rw [HDF.out] at h
          rw [hN1]; exact h)
        clear HVV hN1 HAD
        have HVV := HVV2
        go_enter Try.func19, Try.ntmps19
        go_wp2_with (first
          | (simp only [hgd])
          | (go_at_call 58; refine HFV.out.mono ?_; rw [HVV.out]; rintro e w1 ⟨rfl, hb1⟩; rw [HZ0.out] at hb1; have hz1 := hb1.size; rw [HZ0.out] at hz1; have HF1 := hide ((famAt.new 63 w1 0 noSet).row N1 M1); have HQ1 := hide (((HQ0.out.below hb1 (by omega)).below (bl_row ((Below.refl w1.heap.size w1).alloc (Nat.le_refl _) (.cells (fam 0 noSet) 63)) (Nat.le_refl _) (fam N1 M1)) (by omega)).mono (show w.heap.size ≤ ((w1.alloc (.cells (fam 0 noSet) 63)).setRow w1.heap.size (fam N1 M1)).heap.size by rw [show ((w1.alloc (.cells (fam 0 noSet) 63)).setRow w1.heap.size (fam N1 M1)).heap.size = w1.heap.size + 1 by simp [World.setRow]]; omega)); have HB1 := hide (bl_row ((H0.out.trans (hb1.mono (by omega))).alloc (by omega) (.cells (fam 0 noSet) 63)) (show w.heap.size ≤ w1.heap.size by omega) (fam N1 M1)); have HZ1 := hide (show ((w1.alloc (.cells (fam 0 noSet) 63)).setRow w1.heap.size (fam N1 M1)).heap.size = w1.heap.size + 1 by simp [World.setRow]); clear hb1)
          | (refine wpList_alloc_fam zeroT rfl rfl _ (by first | (simp only [World.size_alloc]; rfl) | rfl) ?_)
          | (refine wpList_store_fam sizeT rfl (.tmp _) (.tmp _) rfl _ _ _ rfl rfl _ _ (famAt.new _ _ _ _) ?_)
          | (refine wpList_len sliceT rfl (.tmp _) rfl _ rfl _ q HQ1.out ?_)
          | (refine wpList_load_fam rowT sizeT rfl (.tmp 6) rfl _ rfl N1 M1 HF1.out ?_)
          | (go_at_call 59; refine (HAD2.out _ HQ1.out).mono ?_; rintro e w2 ⟨rfl, hb2⟩; rw [HZ1.out] at hb2; have HB2 := hide (HB1.out.trans (hb2.mono (by omega))); clear hb2))
        go_ret2
        exact ⟨rfl, HB2.out⟩
      · rw [hdf] at HIS
        have HE := hide (HIY.out HIS.out)
        rw [HE.out, HIS.out]
        have HDF := hide hdf
        have HIA := hide (fun w1 h1 => isAntichain_c (.slice ua q.length uc) q w1 h1 hql (HRG.out hdf) (HDI.out hdf))
        clear hdf
        obtain ⟨N1, hN1⟩ : ∃ N1 : Int, N1 = (m : Int) := ⟨_, rfl⟩
        have HVV2 : Hid (famVal (m : Int) l = .tuple #[.agg (fam N1 M1), .bool true]) := hide (by rw [hN1]; exact HVV.out)
        have HAD2 := hide (show ∀ w1, ints w1.heap.size w1 (.slice ua q.length uc) q → Calls Try.prog 59 #[.agg (fam N1 M1), .slice ua q.length uc] w1 fun e w' => e = .returned (.bool true) ∧ Below w1.heap.size w1 w' from fun w1 h1 => by
          have h := HAD.out M1 w1 h1
          rw [HDF.out] at h
          rw [hN1]; exact h)
        clear HVV hN1 HAD
        have HVV := HVV2
        go_enter Try.func19, Try.ntmps19
        go_wp2_with (first
          | (simp only [hgd])
          | (go_at_call 58; refine HFV.out.mono ?_; rw [HVV.out]; rintro e w1 ⟨rfl, hb1⟩; rw [HZ0.out] at hb1; have hz1 := hb1.size; rw [HZ0.out] at hz1; have HF1 := hide ((famAt.new 63 w1 0 noSet).row N1 M1); have HQ1 := hide (((HQ0.out.below hb1 (by omega)).below (bl_row ((Below.refl w1.heap.size w1).alloc (Nat.le_refl _) (.cells (fam 0 noSet) 63)) (Nat.le_refl _) (fam N1 M1)) (by omega)).mono (show w.heap.size ≤ ((w1.alloc (.cells (fam 0 noSet) 63)).setRow w1.heap.size (fam N1 M1)).heap.size by rw [show ((w1.alloc (.cells (fam 0 noSet) 63)).setRow w1.heap.size (fam N1 M1)).heap.size = w1.heap.size + 1 by simp [World.setRow]]; omega)); have HB1 := hide (bl_row ((H0.out.trans (hb1.mono (by omega))).alloc (by omega) (.cells (fam 0 noSet) 63)) (show w.heap.size ≤ w1.heap.size by omega) (fam N1 M1)); have HZ1 := hide (show ((w1.alloc (.cells (fam 0 noSet) 63)).setRow w1.heap.size (fam N1 M1)).heap.size = w1.heap.size + 1 by simp [World.setRow]); clear hb1)
          | (refine wpList_alloc_fam zeroT rfl rfl _ (by first | (simp only [World.size_alloc]; rfl) | rfl) ?_)
          | (refine wpList_store_fam sizeT rfl (.tmp _) (.tmp _) rfl _ _ _ rfl rfl _ _ (famAt.new _ _ _ _) ?_)
          | (refine wpList_len sliceT rfl (.tmp _) rfl _ rfl _ q HQ1.out ?_)
          | (refine wpList_load_fam rowT sizeT rfl (.tmp 6) rfl _ rfl N1 M1 HF1.out ?_)
          | (go_at_call 59; refine (HAD2.out _ HQ1.out).mono ?_; rintro e w2 ⟨rfl, hb2⟩; rw [HZ1.out] at hb2; have hz2 := hb2.size; have HQ2 := hide ((HQ1.out.below hb2 (Nat.le_of_eq HZ1.out)).mono hz2); rw [HZ1.out] at hz2; have HB2 := hide (HB1.out.trans (hb2.mono (by omega))); clear hb2)
          | (go_at_call 60; refine (HIA.out _ HQ2.out).mono ?_; rintro e w3 ⟨rfl, hb3⟩; have HB3 := hide (HB2.out.trans (hb3.mono (by omega))); clear hb3))
        go_ret2
        exact ⟨rfl, HB3.out⟩
set_option maxHeartbeats 2000000 in
theorem specIsAntichain_c (n : Int) (v : Value) (l : List Int) (u : Value) (q : List Int) (w : World) (hl : ints w.heap.size w v l) (hlen : l.length < 1000000000) (base : Nat) (hq : own 3 w base u q) (hql : q.length < 1000000000) :
    Calls Try.prog 16 #[.agg #[.int .i64 n, v], u] w fun e w' => e = .returned (.tuple #[.bool (iaB n l q), .bool (iaOk n l q)]) ∧ Below w.heap.size w w' := by
  have HC0 := hide (hp_last w (.cells #[.int .i64 n, v] 28))
  have H0 := hide ((Below.refl w.heap.size w).alloc (Nat.le_refl _) (.cells #[.int .i64 n, v] 28))
  have HZ0 := hide (show (w.alloc (.cells #[.int .i64 n, v] 28)).heap.size = w.heap.size + 1 by simp)
  have HO0 := hide (hq.alloc (.cells #[.int .i64 n, v] 28))
  have HL0 := hide (hl.alloc (.cells #[.int .i64 n, v] 28))
  have a0 := cells_at0 HC0.out
  have a1 := cells_at1 HC0.out
  clear hq hl
  cases hok : okSp n l
  · have HGA := hide (show goodB n l = false by rw [← ok_good]; exact hok)
    rw [ia_no (iaOk_no1 hok), iaOk_no1 hok]
    clear hok
    go_enter Try.func16, Try.ntmps16
    go_wp2_with (first
      | (go_at_call 54; refine (spGood_c n v l _ (HL0.out.mono (by rw [HZ0.out]; omega)) hlen).mono ?_; rw [HGA.out]; rintro e w1 ⟨rfl, hb1⟩; rw [HZ0.out] at hb1; have hz1 := hb1.size; rw [HZ0.out] at hz1; clear a0 a1; have hc1 := (hb1.block w.heap.size (by omega)).trans HC0.out; have a1 := cells_at1 hc1; have HC1 := hide hc1; have HO1 := hide (HO0.out.kept (hb1.mono (Nat.le_of_eq HZ0.out))); have HL1 := hide (HL0.out.below hb1 (by omega)); have HB1 := hide (H0.out.trans (hb1.mono (by omega))); clear hb1 hc1)
      )
    go_ret2
    exact ⟨rfl, HB1.out⟩
  · have HGA := hide (show goodB n l = true by rw [← ok_good]; exact hok)
    have HSA := hide hok
    by_cases h40 : 40 < q.length
    · rw [ia_no (iaOk_no2 h40), iaOk_no2 h40]
      have hgt : (40 : Int) < (q.length : Int) := by omega
      clear hok
      go_enter Try.func16, Try.ntmps16
      go_wp2_with (first
        | (go_at_call 54; refine (spGood_c n v l _ (HL0.out.mono (by rw [HZ0.out]; omega)) hlen).mono ?_; rw [HGA.out]; rintro e w1 ⟨rfl, hb1⟩; rw [HZ0.out] at hb1; have hz1 := hb1.size; rw [HZ0.out] at hz1; clear a0 a1; have hc1 := (hb1.block w.heap.size (by omega)).trans HC0.out; have a1 := cells_at1 hc1; have HC1 := hide hc1; have HO1 := hide (HO0.out.kept (hb1.mono (Nat.le_of_eq HZ0.out))); have HL1 := hide (HL0.out.below hb1 (by omega)); have HB1 := hide (H0.out.trans (hb1.mono (by omega))); clear hb1 hc1)
        | (refine wpList_len sliceT rfl (.tmp _) rfl u rfl _ q HO1.out.ints ?_))
      go_ret2
      exact ⟨rfl, HB1.out⟩
    · have hgt : ¬ ((40 : Int) < (q.length : Int)) := by omega
      have hgd : decide ((40 : Int) < (q.length : Int)) = false := decide_eq_false hgt
      have h7 : n.toNat ≤ 7 := by have := okSp_n hok; omega
      have HIS := hide (iaOk_is hok h40)
      have HIY := hide (fun h => ia_yes (n := n) (l := l) (q := q) h)
      have HIN := hide (fun h => ia_no (n := n) (l := l) (q := q) h)
      have HOM := hide (fun x => own_mem hok x)
      have HIF := hide (dfTo_iff n.toNat (marksTo l l.length) q)
      have HNO := hide (fun k h m hm => dfTo_no (n := n.toNat) (F := marksTo l l.length) (q := q) (k := k) h m hm)
      clear hok
      generalize marksTo l l.length = F at HIS HOM HIF HNO
      go_enter Try.func16, Try.ntmps16
      go_wp2_with (first
        | (simp only [hgd])
        | (go_at_call 54; refine (spGood_c n v l _ (HL0.out.mono (by rw [HZ0.out]; omega)) hlen).mono ?_; rw [HGA.out]; rintro e w1 ⟨rfl, hb1⟩; rw [HZ0.out] at hb1; have hz1 := hb1.size; rw [HZ0.out] at hz1; clear a0 a1; have hc1 := (hb1.block w.heap.size (by omega)).trans HC0.out; have a1 := cells_at1 hc1; have HC1 := hide hc1; have HO1 := hide (HO0.out.kept (hb1.mono (Nat.le_of_eq HZ0.out))); have HL1 := hide (HL0.out.below hb1 (by omega)); have HB1 := hide (H0.out.trans (hb1.mono (by omega))); clear hb1 hc1)
        | (refine wpList_len sliceT rfl (.tmp _) rfl u rfl _ q HO1.out.ints ?_))
      go_loopw [18] (fun i wr => ∃ k : Nat, k ≤ q.length ∧ i = .int .i64 (k : Int) ∧ Hid (dfTo n.toNat F q k = true) ∧ Hid (Below w1.heap.size w1 wr)) (fun i _ => q.length - (intOf i).toNat)
      case atStart => exact ⟨0, Nat.zero_le _, rfl, (HIF.out 0).2 (fun k h => by omega), Below.refl _ _⟩
      case round =>
        obtain ⟨k, hk, rfl, HJ, HB⟩ := hrel
        have hsz := HB.out.size
        have HOW := hide (HO1.out.kept HB.out)
        have HLW := hide ((HL1.out.below HB.out (by omega)).mono (show w.heap.size ≤ wr.heap.size by omega))
        clear a1
        have a1 := cells_at1 ((HB.out.block w.heap.size (by omega)).trans HC1.out)
        by_cases hlt : k < q.length
        · have hlt' : (k : Int) < (q.length : Int) := by omega
          have HNF := hide (fun h => HNO.out k h q.length hlt)
          have HNX := hide (fun h => show dfTo n.toNat F q (k + 1) = true from (HIF.out (k + 1)).2 (fun j hj => by
            rcases Nat.lt_or_ge j k with h1 | h1
            · exact (HIF.out k).1 HJ.out j h1
            · have : j = k := by omega
              subst this; exact h))
          have HMX := hide (HOM.out (q[k]?.getD 0))
          obtain ⟨g, cap, hcap, huv⟩ : ∃ g cap, q.length ≤ cap ∧ u = .slice (some ⟨g, 0, none⟩) q.length cap := by
            rcases HOW.out.2 with ⟨_, h0⟩ | ⟨g, cap, cur, h1, _, _, h2, _⟩
            · omega
            · exact ⟨g, cap, h2, h1⟩
          have HUV := hide huv
          have HT := hide (fun c' => by have h := HOW.out; rw [huv] at h; exact take_own h k (by omega) c')
          have HTL := hide (show (q.take k).length < 1000000000 by simp; omega)
          generalize hx : q[k]?.getD 0 = x at HNF HNX HMX
          have HX := hide hx
          clear hx huv
          cases ho : ownB n.toNat F x
          · have HM := hide (HMX.out.symm.trans ho)
            have HEN := hide (HIS.out.trans (HNF.out (by rw [ho]; rfl)))
            have HE2 := hide (HIN.out HEN.out)
            clear ho
            go_wp2_with (first
              | (refine wpList_at sliceT intS rfl (.tmp _) (.tmp _) rfl u rfl k rfl _ q HOW.out.ints hlt ?_; intro ad hcell hblk; rw [HX.out] at hcell)
              | (go_at_call 55; refine (spHas_c v l x _ HLW.out (okSp_inc HSA.out) hlen).mono ?_; rw [HM.out]; rintro e w3 ⟨rfl, rfl⟩))
            go_ret2
            exact ⟨by rw [HE2.out, HEN.out] <;> rfl, HB1.out.trans (HB.out.mono (by omega))⟩
          · have HM := hide (HMX.out.symm.trans ho)
            have HOO := hide ho
            clear ho
            subst u
            cases hm : memB (q.take k) x
            all_goals
              have HMT := hide hm
              clear hm
              generalize htk : q.take k = tk at HT HTL HMT HNX HNF
              have HTK := hide htk
              clear htk
              go_wp2_with (first
                | (refine wpList_at sliceT intS rfl (.tmp _) (.tmp _) rfl _ rfl k rfl _ q HOW.out.ints hlt ?_; intro ad hcell hblk; rw [HX.out] at hcell)
                | (go_at_call 55; refine (spHas_c v l x _ HLW.out (okSp_inc HSA.out) hlen).mono ?_; rw [HM.out]; rintro e w3 ⟨rfl, rfl⟩)
                | (go_at_call 56; refine (l1Has_c _ tk x _ (HT.out _) HTL.out).mono ?_; rw [HMT.out]; rintro e w4 ⟨rfl, rfl⟩))
            · go_roundw
              case rel => exact ⟨k + 1, by omega, by go_num, HNX.out ⟨HOO.out, HMT.out⟩, HB⟩
              case measure => (simp [intOf] <;> omega)
            · have HEN := hide (HIS.out.trans (HNF.out (by rw [HOO.out, HMT.out]; rfl)))
              have HE2 := hide (HIN.out HEN.out)
              go_ret2
              exact ⟨by rw [HE2.out, HEN.out] <;> rfl, HB1.out.trans (HB.out.mono (by omega))⟩
        · have HKE := hide (show k = q.length by omega)
          have hlt' : ¬ ((k : Int) < (q.length : Int)) := by omega
          have HDF := hide (show dfTo n.toNat F q q.length = true by rw [← HKE.out]; exact HJ.out)
          have HEN := hide (HIS.out.trans HDF.out)
          have HE2 := hide (HIY.out HEN.out)
          have HRG := hide (fun j hj => (ownB_in h7 ((HIF.out q.length).1 HDF.out j hj).1).1)
          go_wp2_with (first
            | (go_at_call 57; refine (cnAntichain_c _ q _ HOW.out.ints hql HRG.out).mono ?_; rintro e w5 ⟨rfl, hb5⟩; have HB5 := hide (HB1.out.trans ((HB.out.mono (by omega)).trans (hb5.mono (by omega)))); clear hb5))
          go_ret2
          exact ⟨by rw [HE2.out, HEN.out] <;> rfl, HB5.out⟩
end Go.Proofs.Ytonimjpfaalniaa
