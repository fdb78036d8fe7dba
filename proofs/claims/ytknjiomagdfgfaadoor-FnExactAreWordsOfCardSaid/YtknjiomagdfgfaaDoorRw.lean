/- Contracts: RankWord. -/
import Derived.Test.YtknjiomagdfgfaaDoorRm
import Derived.Test.YtknjiomagdfgfaaDoorFw
namespace Go.Proofs.YtknjiomagdfgfaaDoor
open Go.RowKit
set_option maxRecDepth 100000
set_option linter.unusedSimpArgs false
attribute [local irreducible] p2 low memB risB
def rkR (n : Int) (l m : List Int) : Int := if okFu n l m then (rkTo (marksTo l l.length) n.toNat m m.length : Int) else 0
theorem rkR_no {n : Int} {l m : List Int} (h : okFu n l m = false) : rkR n l m = 0 := by simp [rkR, h]
theorem rkR_yes {n : Int} {l m : List Int} (h : okFu n l m = true) : rkR n l m = (rkTo (marksTo l l.length) n.toNat m m.length : Int) := by simp [rkR, h]
theorem okFu_no1 {n : Int} {l m : List Int} (h : okSp n l = false) : okFu n l m = false := by simp [okFu, okWd_no h]
theorem okFu_no2 {n : Int} {l m : List Int} (h : ¬ (m.length : Int) = n) : okFu n l m = false := by simp [okFu, h]
theorem okFu_eq {n : Int} {l m : List Int} (h : (m.length : Int) = n) : okFu n l m = okWd n l m := by simp [okFu, h]

set_option maxHeartbeats 1000000 in
theorem woFull_c (n : Int) (v : Value) (l : List Int) (u : Value) (m : List Int) (w : World) (hl : ints w.heap.size w v l) (hlen : l.length < 1000000000) (hm : ints w.heap.size w u m) (hml : m.length < 1000000000) :
    Calls Tryd.prog 58 #[.agg #[.int .i64 n, v], u] w fun e w' => e = .returned (.bool (okFu n l m)) ∧ Below w.heap.size w w' := by
  have HL := hide ((hl.alloc (.cells #[.int .i64 n, v] 28)).mono (show w.heap.size ≤ (w.alloc (.cells #[.int .i64 n, v] 28)).heap.size by simp))
  have HM := hide ((hm.alloc (.cells #[.int .i64 n, v] 28)).mono (show w.heap.size ≤ (w.alloc (.cells #[.int .i64 n, v] 28)).heap.size by simp))
  have H0 := hide ((Below.refl w.heap.size w).alloc (Nat.le_refl _) (.cells #[.int .i64 n, v] 28))
  have HS0 := hide (hp_last w (.cells #[.int .i64 n, v] 28))
  have hz0 : (w.alloc (.cells #[.int .i64 n, v] 28)).heap.size = w.heap.size + 1 := by simp
  have HZ := hide hz0
  clear hl hm hz0
  cases hok : okSp n l
  · have HG := hide (show goodB n l = false by rw [← ok_good]; exact hok)
    have HO := hide (okFu_no1 (m := m) hok)
    clear hok
    go_enter Tryd.func58, Tryd.ntmps58
    go_wp2_with (go_at_call 48; refine (spGood_c n v l _ HL.out hlen).mono ?_; rw [HG.out]; rintro e w' ⟨rfl, hb⟩; have HB := hide (H0.out.trans (hb.mono (by rw [HZ.out]; omega))); clear hb)
    go_ret
    exact ⟨ret_b (by rw [HO.out]), HB.out⟩
  · have HG := hide (show goodB n l = true by rw [← ok_good]; exact hok)
    have hn := okSp_n hok
    have hn1 := hn.1
    have hn2 := hn.2
    have HI := hide (okSp_inc hok)
    have HE1 := hide (wd_spec hok m)
    have HO := hide (okWd_yes (m := m) hok)
    clear hok hn
    by_cases he : (m.length : Int) = n
    · have hb : ((m.length : Int) == n) = true := by simpa using he
      have hb2 : ((m.length : Int) != n) = false := by simpa using he
      have HF := hide (okFu_eq (l := l) he)
      clear he
      go_enter Tryd.func58, Tryd.ntmps58
      go_wp2_with (first
        | (go_at_call 48; refine (spGood_c n v l _ HL.out hlen).mono ?_; rw [HG.out]; rintro e w1 ⟨rfl, hb'⟩; have hs1 := (hb'.block w.heap.size (by rw [HZ.out]; omega)).trans HS0.out; have c0 := cells_at0 hs1; have c1 := cells_at1 hs1; have HB := hide hb'; have HM1 := hide ((HM.out.below hb' (Nat.le_refl _)).mono hb'.size); have HL1 := hide ((HL.out.below hb' (Nat.le_refl _)).mono hb'.size); clear hb' hs1)
        | (refine wpList_len sliceT rfl (.tmp _) rfl u rfl _ m HM1.out ?_)
        | (go_at_call 91; refine (woSet_c n v u m l _ HL1.out HI.out hlen HM1.out hml (by omega) (by omega)).mono ?_; rw [HE1.out, ← HO.out, ← HF.out]; rintro e w2 ⟨rfl, hb2'⟩; have HB2 := hide (H0.out.trans ((HB.out.trans (hb2'.mono HB.out.size)).mono (by have := HZ.out; omega))); clear hb2'))
      go_ret
      exact ⟨rfl, HB2.out⟩
    · have hb : ((m.length : Int) == n) = false := by simpa using he
      have hb2 : ((m.length : Int) != n) = true := by simpa using he
      have HF := hide (okFu_no2 (l := l) he)
      clear he
      go_enter Tryd.func58, Tryd.ntmps58
      go_wp2_with (first
        | (go_at_call 48; refine (spGood_c n v l _ HL.out hlen).mono ?_; rw [HG.out]; rintro e w1 ⟨rfl, hb'⟩; have hs1 := (hb'.block w.heap.size (by rw [HZ.out]; omega)).trans HS0.out; have c0 := cells_at0 hs1; have c1 := cells_at1 hs1; have HB := hide (H0.out.trans (hb'.mono (by rw [HZ.out]; omega))); have HM1 := hide ((HM.out.below hb' (Nat.le_refl _)).mono hb'.size); clear hb' hs1)
        | (refine wpList_len sliceT rfl (.tmp _) rfl u rfl _ m HM1.out ?_))
      go_ret
      exact ⟨ret_b (by rw [HF.out]), HB.out⟩

set_option maxHeartbeats 2000000 in
theorem implRankWord_c (n : Int) (v : Value) (l : List Int) (u : Value) (m : List Int) (w : World) (hl : ints w.heap.size w v l) (hlen : l.length < 1000000000) (hm : ints w.heap.size w u m) (hml : m.length < 1000000000) (hT : tab w) :
    Calls Tryd.prog 28 #[.agg #[.int .i64 n, v], u] w fun e w' => e = .returned (.tuple #[.int .i64 (rkR n l m), .bool (okFu n l m)]) ∧ Below w.heap.size w w' := by
  have HL := hide ((hl.alloc (.cells #[.int .i64 n, v] 28)).mono (show w.heap.size ≤ (w.alloc (.cells #[.int .i64 n, v] 28)).heap.size by simp))
  have HMP := hide hm
  have H0 := hide ((Below.refl w.heap.size w).alloc (Nat.le_refl _) (.cells #[.int .i64 n, v] 28))
  have HZ0 := hide (show (w.alloc (.cells #[.int .i64 n, v] 28)).heap.size = w.heap.size + 1 by simp)
  have HT := hide hT
  clear hl hm hT
  cases hok : okSp n l
  · have HK := hide hok
    have HF := hide (okFu_no1 (m := m) hok)
    rw [rkR_no HF.out, HF.out]
    clear hok
    go_enter Tryd.func28, Tryd.ntmps28
    go_wp2_with (first
      | (go_at_call 56; refine (familyOf_c n v l _ HL.out hlen).mono ?_; rw [famVal_no n l HK.out]; rintro e w1 ⟨rfl, hb1⟩; have hz1 := hb1.size; rw [HZ0.out] at hz1; have HB1 := hide (bl_row ((H0.out.trans (hb1.mono (by rw [HZ0.out]; omega))).alloc (by omega) (.cells (fam 0 noSet) 63)) (show w.heap.size ≤ w1.heap.size by omega) (fam 0 noSet)); clear hb1)
      | (refine wpList_alloc_fam zeroT rfl rfl _ (by first | (simp only [World.size_alloc]; rfl) | rfl) ?_)
      | (refine wpList_store_fam sizeT rfl (.tmp _) (.tmp _) rfl _ _ _ rfl rfl _ _ (famAt.new _ _ _ _) ?_))
    go_ret2
    exact ⟨rfl, HB1.out⟩
  · have HK := hide hok
    have hn := okSp_n hok
    obtain ⟨N, rfl⟩ := Int.eq_ofNat_of_zero_le (show 0 ≤ n by omega)
    have hN1 : 1 ≤ N := by omega
    have hN7 : N ≤ 7 := by omega
    have HSC := hide (okSp_spc hok)
    rw [Int.toNat_natCast] at HSC
    have HFU := hide (show (decide (m.length = N) && wordB (marksTo l l.length) N m) = okFu (N : Int) l m by
      rw [okFu, okWd_yes hok, Int.toNat_natCast, Bool.and_comm]
      congr 1
      exact decide_eq_decide.2 (by omega))
    clear hok hn
    cases hfu : okFu (N : Int) l m
    · have HF := hide hfu
      rw [rkR_no HF.out]
      clear hfu
      go_enter Tryd.func28, Tryd.ntmps28
      go_wp2_with (first
        | (go_at_call 56; refine (familyOf_c (N : Int) v l _ HL.out hlen).mono ?_; rw [famVal_yes (N : Int) l HK.out]; rintro e w1 ⟨rfl, hb1⟩; have hz1 := hb1.size; rw [HZ0.out] at hz1; have HH := hide ((famAt.new 63 w1 0 noSet).row (N : Int) (marksTo l l.length)); have HT1 := hide (((HT.out.belowB HT.out (H0.out.trans (hb1.mono (by rw [HZ0.out]; omega))) (Nat.le_refl _)).alloc (.cells (fam 0 noSet) 63)).setRow w1.heap.size (by have := HT.out.1; omega) (fam (N : Int) (marksTo l l.length))); have HB1 := hide (bl_row ((H0.out.trans (hb1.mono (by rw [HZ0.out]; omega))).alloc (by omega) (.cells (fam 0 noSet) 63)) (show w.heap.size ≤ w1.heap.size by omega) (fam (N : Int) (marksTo l l.length))); have HM1 := hide ((HMP.out.below HB1.out (Nat.le_refl _)).mono HB1.out.size); clear hb1)
        | (refine wpList_alloc_fam zeroT rfl rfl _ (by first | (simp only [World.size_alloc]; rfl) | rfl) ?_)
        | (refine wpList_store_fam sizeT rfl (.tmp _) (.tmp _) rfl _ _ _ rfl rfl _ _ (famAt.new _ _ _ _) ?_)
        | (refine wpList_load_fam rowT sizeT rfl (.tmp 16) rfl _ rfl (N : Int) (marksTo l l.length) HH.out ?_)
        | (refine wpList_load_fam rowT sizeT rfl (.tmp 6) rfl _ rfl (N : Int) (marksTo l l.length) HH.out ?_)
        | (go_at_call 59; refine (isFullWord_c N (marksTo l l.length) u m _ HM1.out hml hN7).mono ?_; rw [HFU.out, HF.out]; rintro e w2 ⟨rfl, hb2⟩; have hz2 := hb2.size; have HH2 := hide (HH.out.below hb2 HH.out.lt); have HT2 := hide (HT1.out.belowB HT1.out hb2 (Nat.le_refl _)); have HM2 := hide ((HM1.out.below hb2 (Nat.le_refl _)).mono hb2.size); have HB2 := hide (HB1.out.trans (hb2.mono HB1.out.size)); clear hb2)
        | (refine wpList_load_fam rowT sizeT rfl (.tmp _) rfl _ rfl (N : Int) (marksTo l l.length) HH2.out ?_)
        | (go_at_call 60; refine (rankOf_c N (marksTo l l.length) u m _ HM2.out HME.out hN1 hN7 HSC.out HWT.out HT2.out).mono ?_; rintro e w3 ⟨rfl, hb3⟩; have HB3 := hide (HB2.out.trans (hb3.mono HB2.out.size)); clear hb3))
      go_ret2
      exact ⟨rfl, HB2.out⟩
    · have HF := hide hfu
      rw [rkR_yes HF.out, Int.toNat_natCast]
      have HWT := hide (show wordTo (marksTo l l.length) N m m.length = true by
        have := okWd_word (okFu_wd hfu).1
        rwa [Int.toNat_natCast] at this)
      have HME := hide (show m.length = N by have := (okFu_wd hfu).2; omega)
      clear hfu
      go_enter Tryd.func28, Tryd.ntmps28
      go_wp2_with (first
        | (go_at_call 56; refine (familyOf_c (N : Int) v l _ HL.out hlen).mono ?_; rw [famVal_yes (N : Int) l HK.out]; rintro e w1 ⟨rfl, hb1⟩; have hz1 := hb1.size; rw [HZ0.out] at hz1; have HH := hide ((famAt.new 63 w1 0 noSet).row (N : Int) (marksTo l l.length)); have HT1 := hide (((HT.out.belowB HT.out (H0.out.trans (hb1.mono (by rw [HZ0.out]; omega))) (Nat.le_refl _)).alloc (.cells (fam 0 noSet) 63)).setRow w1.heap.size (by have := HT.out.1; omega) (fam (N : Int) (marksTo l l.length))); have HB1 := hide (bl_row ((H0.out.trans (hb1.mono (by rw [HZ0.out]; omega))).alloc (by omega) (.cells (fam 0 noSet) 63)) (show w.heap.size ≤ w1.heap.size by omega) (fam (N : Int) (marksTo l l.length))); have HM1 := hide ((HMP.out.below HB1.out (Nat.le_refl _)).mono HB1.out.size); clear hb1)
        | (refine wpList_alloc_fam zeroT rfl rfl _ (by first | (simp only [World.size_alloc]; rfl) | rfl) ?_)
        | (refine wpList_store_fam sizeT rfl (.tmp _) (.tmp _) rfl _ _ _ rfl rfl _ _ (famAt.new _ _ _ _) ?_)
        | (refine wpList_load_fam rowT sizeT rfl (.tmp 16) rfl _ rfl (N : Int) (marksTo l l.length) HH.out ?_)
        | (refine wpList_load_fam rowT sizeT rfl (.tmp 6) rfl _ rfl (N : Int) (marksTo l l.length) HH.out ?_)
        | (go_at_call 59; refine (isFullWord_c N (marksTo l l.length) u m _ HM1.out hml hN7).mono ?_; rw [HFU.out, HF.out]; rintro e w2 ⟨rfl, hb2⟩; have hz2 := hb2.size; have HH2 := hide (HH.out.below hb2 HH.out.lt); have HT2 := hide (HT1.out.belowB HT1.out hb2 (Nat.le_refl _)); have HM2 := hide ((HM1.out.below hb2 (Nat.le_refl _)).mono hb2.size); have HB2 := hide (HB1.out.trans (hb2.mono HB1.out.size)); clear hb2)
        | (refine wpList_load_fam rowT sizeT rfl (.tmp _) rfl _ rfl (N : Int) (marksTo l l.length) HH2.out ?_)
        | (go_at_call 60; refine (rankOf_c N (marksTo l l.length) u m _ HM2.out HME.out hN1 hN7 HSC.out HWT.out HT2.out).mono ?_; rintro e w3 ⟨rfl, hb3⟩; have HB3 := hide (HB2.out.trans (hb3.mono HB2.out.size)); clear hb3))
      go_ret2
      exact ⟨rfl, HB3.out⟩

set_option maxHeartbeats 4000000 in
theorem specRankWord_c (n : Int) (v : Value) (l : List Int) (u : Value) (m : List Int) (w : World) (hl : ints w.heap.size w v l) (hlen : l.length < 1000000000) (hm : ints w.heap.size w u m) (hml : m.length < 1000000000) (_ : tab w) :
    Calls Tryd.prog 26 #[.agg #[.int .i64 n, v], u] w fun e w' => e = .returned (.tuple #[.int .i64 (rkR n l m), .bool (okFu n l m)]) ∧ Below w.heap.size w w' := by
  have HL := hide ((hl.alloc (.cells #[.int .i64 n, v] 28)).mono (show w.heap.size ≤ (w.alloc (.cells #[.int .i64 n, v] 28)).heap.size by simp))
  have HM := hide ((hm.alloc (.cells #[.int .i64 n, v] 28)).mono (show w.heap.size ≤ (w.alloc (.cells #[.int .i64 n, v] 28)).heap.size by simp))
  have H0 := hide ((Below.refl w.heap.size w).alloc (Nat.le_refl _) (.cells #[.int .i64 n, v] 28))
  have HS0 := hide (hp_last w (.cells #[.int .i64 n, v] 28))
  have hz0 : (w.alloc (.cells #[.int .i64 n, v] 28)).heap.size = w.heap.size + 1 := by simp
  have HZ := hide hz0
  clear hl hm hz0
  cases hfu : okFu n l m
  · have HF := hide hfu
    rw [rkR_no hfu]
    clear hfu
    go_enter Tryd.func26, Tryd.ntmps26
    go_wp2_with (go_at_call 58; refine (woFull_c n v l u m _ HL.out hlen HM.out hml).mono ?_; rw [HF.out]; rintro e w' ⟨rfl, hb⟩; have HB := hide (H0.out.trans (hb.mono (by rw [HZ.out]; omega))); clear hb)
    go_ret2
    exact ⟨rfl, HB.out⟩
  · have HF := hide hfu
    have hwd := (okFu_wd hfu).1
    have hok := okWd_sp hwd
    have HOK := hide hok
    have hn := okSp_n hok
    have hlenm := (okFu_wd hfu).2
    rw [rkR_yes hfu]
    obtain ⟨N, rfl⟩ := Int.eq_ofNat_of_zero_le (show 0 ≤ n by omega)
    rw [Int.toNat_natCast]
    have hN7 : N ≤ 7 := by omega
    have hml8 : m.length ≤ 7 := by omega
    have hw : wordTo (marksTo l l.length) N m m.length = true := by
      have := okWd_word hwd
      rwa [Int.toNat_natCast] at this
    have hp := p2_le N 7 hN7
    have HIN := hide (wordTo_len hw)
    have HS := hide (fun k (h : k ≤ m.length) => show setTo m k < 128 by have := setTo_lt k (wordTo_at hw k h); omega)
    have HFL := hide (show marksTo l l.length (low N) = true by have := (okSp_spc hok).full; rwa [Int.toNat_natCast] at this)
    have HWC := hide (fun (u2 : Value) (x : Nat) (w' : World) (h1 : ints w'.heap.size w' v l) (h2 : ints w'.heap.size w' u2 (wRow l (cnt (marksTo l l.length) N) 0)) (hx : x < 128) => woFrom_c (N : Int) v l u2 x w' h1 hlen hok (by rw [Int.toNat_natCast]; exact h2) hx)
    have HWW := hide (fun (w' : World) (h1 : ints w'.heap.size w' v l) => woWays_c (N : Int) v l w' h1 hlen hok)
    rw [Int.toNat_natCast] at HWC HWW
    have HSUB := hide (fun s (k : Nat) (hk : k ≤ 7) => cnt_sum_le (marksTo l l.length) N hN7 s k hk)
    have HRL := hide (fun k (h : k ≤ m.length) => show rkTo (marksTo l l.length) N m k ≤ 40353607 by
      have h1 := rkTo_le (marksTo l l.length) N m hN7 (wordTo_len hw) k h
      have h2 : k * 5764801 ≤ 7 * 5764801 := Nat.mul_le_mul_right _ (by omega)
      omega)
    clear hfu hwd hok hn hw hp
    generalize marksTo l l.length = F at HIN HS HFL HWC HWW HSUB HRL ⊢
    have HRK := hide (fun k => show rkTo F N m (k + 1) = rkTo F N m k + sumN F (cnt F N) (setTo m k) (m[k]?.getD 0).toNat from rfl)
    have HSK := hide (fun k => show setTo m (k + 1) = setTo m k ||| p2 (m[k]?.getD 0).toNat from rfl)
    go_enter Tryd.func26, Tryd.ntmps26
    go_wp2_with (first
      | (go_at_call 58; refine (woFull_c (N : Int) v l u m _ HL.out hlen HM.out hml).mono ?_; rw [HF.out]; rintro e w1 ⟨rfl, hb⟩; have hs1 := (hb.block w.heap.size (by rw [HZ.out]; omega)).trans HS0.out; have c0 := cells_at0 hs1; have c1 := cells_at1 hs1; have HS1 := hide hs1; have hz1 := hb.size; rw [HZ.out] at hz1; have HB1 := hide (H0.out.trans (hb.mono (by rw [HZ.out]; omega))); have HL1 := hide ((HL.out.below hb (Nat.le_refl _)).mono hb.size); have HM1 := hide ((HM.out.below hb (Nat.le_refl _)).mono hb.size); clear hb hs1)
      | (go_at_call 49; refine (HWW.out _ HL1.out).mono ?_; rintro e w2 ⟨v2, rfl, ho2, hb2⟩; have hz2 := hb2.size; have HO2 := hide ho2.ints; have HS2 := hide ((hb2.block w.heap.size (by omega)).trans HS1.out); have HB2 := hide (HB1.out.trans (hb2.mono (by omega))); have HL2 := hide ((HL1.out.below hb2 (Nat.le_refl _)).mono hb2.size); have HM2 := hide ((HM1.out.below hb2 (Nat.le_refl _)).mono hb2.size); clear ho2 hb2)
      | (refine wpList_len sliceT rfl (.tmp _) rfl u rfl _ m HM2.out ?_))
    clear c0 c1
    go_loopw [7, 8, 20] (fun rv sv kv wr => ∃ k : Nat, k ≤ m.length ∧ kv = .int .i64 k ∧ sv = .int .i64 (setTo m k : Int) ∧ rv = .int .i64 (rkTo F N m k : Int) ∧ Hid (Below w2.heap.size w2 wr)) (fun _ _ kv _ => m.length - (intOf kv).toNat)
    case atStart => exact ⟨0, Nat.zero_le _, rfl, rfl, rfl, Below.refl _ _⟩
    case round =>
      obtain ⟨k, hk, rfl, rfl, rfl, HB⟩ := hrel
      have hszr := HB.out.size
      have hs128 := HS.out k hk
      have hr := HRL.out k hk
      have HMR := hide (HM2.out.below HB.out (Nat.le_refl _))
      by_cases hlt : k < m.length
      · have hin := HIN.out k hlt
        have hrk := HRK.out k
        have hsk := HSK.out k
        have hs2 := HS.out (k + 1) hlt
        generalize hx : m[k]?.getD 0 = x at hin hrk hsk
        have HX := hide hx
        obtain ⟨x, rfl⟩ := Int.eq_ofNat_of_zero_le hin.1
        rw [Int.toNat_natCast] at hrk hsk
        have hxn : x < N := by omega
        have HSUM := hide hrk
        have HSET := hide hsk
        have hpx := wrap_p2 x (by omega)
        have hpx2 : IntKind.i64.wrap (2 ^ x) = (p2 x : Int) := by rw [IntWalk.i64_left]; exact hpx
        have hplx := p2_lt128 x (by omega)
        clear hx hin hrk hsk
        have HS1' := hide (fun i => show sumN F (cnt F N) (setTo m k) (i + 1) = sumN F (cnt F N) (setTo m k) i + (if (!(setTo m k).testBit i && F (p2s (setTo m k) i)) = true then cnt F N (p2s (setTo m k) i) else 0) from rfl)
        have HSB := hide (HSUB.out (setTo m k))
        generalize setTo m k = s at hs128 HSUM HSET HS1' HSB ⊢
        generalize rkTo F N m k = rk at hr HSUM ⊢
        have hor := i64_or s (p2 x) (by omega) (by omega)
        go_wp2_with (refine wpList_at sliceT intS rfl (.tmp _) (.tmp _) rfl u rfl k rfl _ m HMR.out hlt ?_; intro ad hcell hblk; rw [HX.out] at hcell)
        go_loopw [7, 11] (fun rv iv wi => ∃ i : Nat, i ≤ x ∧ iv = .int .i64 i ∧ rv = .int .i64 ((rk + sumN F (cnt F N) s i : Nat) : Int) ∧ Hid (Below w2.heap.size w2 wi)) (fun _ iv _ => x - (intOf iv).toNat)
        case atStart => exact ⟨0, Nat.zero_le _, rfl, rfl, HB⟩
        case round =>
          clear HB
          obtain ⟨i, hi, rfl, rfl, HB⟩ := hrel
          have hszi := HB.out.size
          by_cases hix : i < x
          · have hst := HS1'.out i
            have hb1 := HSB.out (i + 1) (by omega)
            have hps := p2s_lt s i hs128 (by omega)
            have hixi : (i : Int) < (x : Int) := by omega
            have hp := wrap_p2 i (by omega)
            have hp2 : IntKind.i64.wrap (2 ^ i) = (p2 i : Int) := by rw [IntWalk.i64_left]; exact hp
            have hpl := p2_lt128 i (by omega)
            have hori := i64_or s (p2 i) (by omega) (by omega)
            have hoff := cnt_off hN7 HFL.out (p2s s i) hps
            rw [show s ||| p2 i = p2s s i from rfl] at hori
            cases hbit : s.testBit i
            · have HBIT := hide hbit
              have hst2 : sumN F (cnt F N) s (i + 1) = sumN F (cnt F N) s i + cnt F N (p2s s i) := by
                rw [hst, hbit]
                cases hf : F (p2s s i)
                · rw [hoff hf]; simp
                · simp
              have HST := hide hst2
              rw [hst2] at hb1
              clear hst hbit hst2 hoff
              generalize p2s s i = q at hps HST hori hb1
              have hWC := fun u2 w' h1 h2 => HWC.out u2 q w' h1 h2 hps
              have HWQ := hide hWC
              clear hWC
              generalize cnt F N q = c at HST hb1 HWQ
              generalize sumN F (cnt F N) s i = p at HST hb1 ⊢
              have HADD := hide (show IntKind.i64.wrap (((rk + p : Nat) : Int) + (c : Int)) = ((rk + (p + c) : Nat) : Int) by rw [IntWalk.i64_in _ (by omega)]; omega)
              go_wp2_with (go_at_call 55; refine (spIn_c (s : Int) (i : Int) _ (by omega) (by omega) (by omega) (by omega)).mono ?_; rw [Int.toNat_natCast, Int.toNat_natCast, HBIT.out]; rintro e w3 ⟨rfl, rfl⟩)
              refine wp_region_held (S := Below w2.heap.size w2) (by kernel_rfl) ?_
              have hS : Below w2.heap.size w2 { wr with drawn := wr.drawn + 1 } := HB.out.drew
              refine wpAnyH_take (i := 0) (v := .int .i64 ((rk + p : Nat) : Int)) rfl (by kernel_rfl) (by kernel_rfl) (by kernel_rfl) (fun _ _ _ h => h) (.inl ⟨rfl, fun w' _ => by go_simp⟩) hS ?_
              refine wpAnyH_take (i := 1) rfl (by kernel_rfl) (by kernel_rfl) (by kernel_rfl) (fun _ _ _ h => h) (yields_load_two rowSp sizeSp rfl (.tmp _) rfl _ rfl _ _ (fun w' h => (h.cell (p := ⟨w.heap.size, 0, none⟩) (by show w.heap.size < w2.heap.size; omega)).trans (cells_at0 HS2.out)) (fun w' h => (h.cell (p := ⟨w.heap.size, 1, none⟩) (by show w.heap.size < w2.heap.size; omega)).trans (cells_at1 HS2.out))) hS ?_
              refine wpAnyH_take (i := 2) (v := v2) rfl (by kernel_rfl) (by kernel_rfl) (by kernel_rfl) (fun _ _ _ h => h) (.inl ⟨rfl, fun w' _ => by go_simp⟩) hS ?_
              refine wpAnyH_take (i := 3) (v := .int .i64 (s : Int)) rfl (by kernel_rfl) (by kernel_rfl) (by kernel_rfl) (fun _ _ _ h => h) (.inl ⟨rfl, fun w' _ => by go_simp⟩) hS ?_
              refine wpAnyH_take (i := 4) (v := .int .i64 (i : Int)) rfl (by kernel_rfl) (by kernel_rfl) (by kernel_rfl) (fun _ _ _ h => h) (.inl ⟨rfl, fun w' _ => by go_simp⟩) hS ?_
              simp only [Act.put, List.getElem_toArray, List.getElem_cons_zero, List.getElem_cons_succ, List.setIfInBounds_toArray, List.set_cons_zero, List.set_cons_succ]
              refine wpAnyH_take (i := 5) (v := .int .i64 (p2 i : Int)) rfl (by kernel_rfl) (by kernel_rfl) (by kernel_rfl) (fun _ _ _ h => h) (.inl ⟨rfl, fun w' _ => by simp [go_sem, Act.put, hp, hp2]⟩) hS ?_
              refine wpAnyH_take (i := 6) (v := .int .i64 (q : Int)) rfl (by kernel_rfl) (by kernel_rfl) (by kernel_rfl) (fun _ _ _ h => h) (.inl ⟨rfl, fun w' _ => by simp [go_sem, Act.put, hori]⟩) hS ?_
              simp only [Act.put, List.getElem_toArray, List.getElem_cons_zero, List.getElem_cons_succ, List.setIfInBounds_toArray, List.set_cons_zero, List.set_cons_succ]
              have hwz := hS.size
              refine anyH_call (i := 7) (by kernel_rfl) rfl rfl 51 ent_woFrom _ _ rfl #[.agg #[.int .i64 (N : Int), v], v2, .int .i64 (q : Int)] rfl (HWQ.out v2 _ ((HL2.out.below hS (Nat.le_refl _)).mono hwz) ((HO2.out.below hS (Nat.le_refl _)).mono hwz)) ?_
              rintro e w4 ⟨rfl, hb4⟩
              have hS4 : Below w2.heap.size w2 w4 := hS.trans (hb4.mono hwz)
              refine ⟨_, rfl, hS4, ?_⟩
              simp only [Act.put, List.getElem_toArray, List.getElem_cons_zero, List.getElem_cons_succ, List.setIfInBounds_toArray, List.set_cons_zero, List.set_cons_succ]
              refine anyH_op (i := 8) (by kernel_rfl) rfl rfl (.int .i64 ((rk + (p + c) : Nat) : Int)) w4 ?hadd hS4 ?_
              case hadd =>
                have h := HADD.out
                simp [go_sem]
                simpa using h
              refine anyH_op (i := 9) (by kernel_rfl) rfl rfl (.int .i64 ((rk + (p + c) : Nat) : Int)) w4 (by simp [go_sem, Act.put]) hS4 ?_
              refine wpAnyH_done (by kernel_rfl) ?_ _
              simp only [Act.put, List.getElem_toArray, List.getElem_cons_zero, List.getElem_cons_succ, List.setIfInBounds_toArray, List.set_cons_zero, List.set_cons_succ]
              have HB4 := hide hS4
              clear hS hS4 hb4
              go_wp2
              go_roundw
              case rel => exact ⟨i + 1, by omega, by go_num, by (rw [HST.out]), HB4⟩
              case measure => simp [intOf]; omega
            · have HBIT := hide hbit
              have HST := hide (show sumN F (cnt F N) s (i + 1) = sumN F (cnt F N) s i by rw [hst, hbit]; simp)
              clear hst hbit hoff hb1
              go_wp2_with (go_at_call 55; refine (spIn_c (s : Int) (i : Int) _ (by omega) (by omega) (by omega) (by omega)).mono ?_; rw [Int.toNat_natCast, Int.toNat_natCast, HBIT.out]; rintro e w3 ⟨rfl, rfl⟩)
              go_roundw
              case rel => exact ⟨i + 1, by omega, by go_num, by (rw [HST.out]; rfl), HB⟩
              case measure => simp [intOf]; omega
          · have hix' : ¬ ((i : Int) < (x : Int)) := by omega
            have hii : i = x := by omega
            have HRS := hide (show rk + sumN F (cnt F N) s i = rkTo F N m (k + 1) by rw [hii, HSUM.out])
            have HSS := hide (show ((s ||| p2 x : Nat) : Int) = (setTo m (k + 1) : Int) by rw [HSET.out])
            clear hii
            go_wp2
            go_roundw
            case rel => exact ⟨k + 1, by omega, by go_num, by (rw [← HSS.out]), by (rw [← HRS.out]), HB⟩
            case measure => simp [intOf]; omega
      · have hlt' : ¬ ((k : Int) < (m.length : Int)) := by omega
        have HK := hide (show k = m.length by omega)
        clear hk
        go_wp2
        go_ret2
        exact ⟨by (rw [← HK.out]; rfl), HB2.out.trans (HB.out.mono (by omega))⟩
end Go.Proofs.YtknjiomagdfgfaaDoor
