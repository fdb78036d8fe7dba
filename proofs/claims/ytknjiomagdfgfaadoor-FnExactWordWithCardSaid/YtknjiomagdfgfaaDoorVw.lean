/- Contracts: WordWith. -/
import Derived.Test.YtknjiomagdfgfaaDoorVm
namespace Go.Proofs.YtknjiomagdfgfaaDoor
open Go.RowKit
set_option maxRecDepth 100000
set_option linter.unusedSimpArgs false
attribute [local irreducible] p2 low memB risB
def okWw (n : Int) (l : List Int) (x : Int) : Bool := okSp n l && decide (0 ≤ x ∧ x < (cnt (marksTo l l.length) n.toNat 0 : Int))
def wwR (n : Int) (l : List Int) (x : Int) : List Int := if okWw n l x then wwL (marksTo l l.length) n.toNat n.toNat 0 x.toNat else []
theorem wwR_no {n : Int} {l : List Int} {x : Int} (h : okWw n l x = false) : wwR n l x = [] := by simp [wwR, h]
theorem wwR_yes {n : Int} {l : List Int} {x : Int} (h : okWw n l x = true) : wwR n l x = wwL (marksTo l l.length) n.toNat n.toNat 0 x.toNat := by simp [wwR, h]
theorem okWw_no {n : Int} {l : List Int} {x : Int} (h : okSp n l = false) : okWw n l x = false := by simp [okWw, h]
theorem okWw_eq {n : Int} {l : List Int} {x : Int} (h : okSp n l = true) : okWw n l x = decide (0 ≤ x ∧ x < (cnt (marksTo l l.length) n.toNat 0 : Int)) := by simp [okWw, h]
theorem wwR_len (n : Int) (l : List Int) (x : Int) : (wwR n l x).length < 1000000000 := by
  unfold wwR
  split
  · rename_i h
    simp only [okWw, Bool.and_eq_true] at h
    have := okSp_n h.1
    rw [wwL_len]
    omega
  · simp

set_option maxHeartbeats 2000000 in
theorem implWordWith_c (n : Int) (v : Value) (l : List Int) (x : Int) (w : World) (hl : ints w.heap.size w v l) (hlen : l.length < 1000000000) (hT : tab w) :
    Calls Tryd.prog 21 #[.agg #[.int .i64 n, v], .int .i64 x] w fun e w' => ∃ v', e = .returned (.tuple #[v', .bool (okWw n l x)]) ∧ own 3 w' w.heap.size v' (wwR n l x) ∧ Below w.heap.size w w' := by
  have HL := hide ((hl.alloc (.cells #[.int .i64 n, v] 28)).mono (show w.heap.size ≤ (w.alloc (.cells #[.int .i64 n, v] 28)).heap.size by simp))
  have H0 := hide ((Below.refl w.heap.size w).alloc (Nat.le_refl _) (.cells #[.int .i64 n, v] 28))
  have HZ0 := hide (show (w.alloc (.cells #[.int .i64 n, v] 28)).heap.size = w.heap.size + 1 by simp)
  have HT := hide hT
  clear hl hT
  cases hok : okSp n l
  · have HK := hide hok
    have HF := hide (okWw_no (x := x) hok)
    rw [wwR_no HF.out, HF.out]
    clear hok
    go_enter Tryd.func21, Tryd.ntmps21
    go_wp2_with (first
      | (go_at_call 56; refine (familyOf_c n v l _ HL.out hlen).mono ?_; rw [famVal_no n l HK.out]; rintro e w1 ⟨rfl, hb1⟩; have hz1 := hb1.size; rw [HZ0.out] at hz1; have HB1 := hide (bl_row ((H0.out.trans (hb1.mono (by rw [HZ0.out]; omega))).alloc (by omega) (.cells (fam 0 noSet) 63)) (show w.heap.size ≤ w1.heap.size by omega) (fam 0 noSet)); clear hb1)
      | (refine wpList_alloc_fam zeroT rfl rfl _ (by first | (simp only [World.size_alloc]; rfl) | rfl) ?_)
      | (refine wpList_store_fam sizeT rfl (.tmp _) (.tmp _) rfl _ _ _ rfl rfl _ _ (famAt.new _ _ _ _) ?_))
    go_ret2
    exact ⟨_, rfl, own_nil _ _ _, HB1.out⟩
  · have HK := hide hok
    have hn := okSp_n hok
    obtain ⟨N, rfl⟩ := Int.eq_ofNat_of_zero_le (show 0 ≤ n by omega)
    have hN1 : 1 ≤ N := by omega
    have hN7 : N ≤ 7 := by omega
    have HSC := hide (okSp_spc hok)
    rw [Int.toNat_natCast] at HSC
    have HEQ := hide (okWw_eq (x := x) hok)
    rw [Int.toNat_natCast] at HEQ
    have hcl := cnt_le (marksTo l l.length) N hN7 0
    clear hok hn
    by_cases hx0 : x < 0
    · have HF := hide (show okWw (N : Int) l x = false by rw [HEQ.out]; simp; omega)
      rw [wwR_no HF.out, HF.out]
      go_enter Tryd.func21, Tryd.ntmps21
      go_wp2_with (first
        | (go_at_call 56; refine (familyOf_c (N : Int) v l _ HL.out hlen).mono ?_; rw [famVal_yes (N : Int) l HK.out]; rintro e w1 ⟨rfl, hb1⟩; have hz1 := hb1.size; rw [HZ0.out] at hz1; have HH := hide ((famAt.new 63 w1 0 noSet).row (N : Int) (marksTo l l.length)); have HT1 := hide (((HT.out.belowB HT.out (H0.out.trans (hb1.mono (by rw [HZ0.out]; omega))) (Nat.le_refl _)).alloc (.cells (fam 0 noSet) 63)).setRow w1.heap.size (by have := HT.out.1; omega) (fam (N : Int) (marksTo l l.length))); have HB1 := hide (bl_row ((H0.out.trans (hb1.mono (by rw [HZ0.out]; omega))).alloc (by omega) (.cells (fam 0 noSet) 63)) (show w.heap.size ≤ w1.heap.size by omega) (fam (N : Int) (marksTo l l.length))); clear hb1)
        | (refine wpList_alloc_fam zeroT rfl rfl _ (by first | (simp only [World.size_alloc]; rfl) | rfl) ?_)
        | (refine wpList_store_fam sizeT rfl (.tmp _) (.tmp _) rfl _ _ _ rfl rfl _ _ (famAt.new _ _ _ _) ?_)
        | (refine wpList_load_fam rowT sizeT rfl (.tmp 6) rfl _ rfl (N : Int) (marksTo l l.length) HH.out ?_)
        | (go_at_call 53; refine (wordCounts_c N (marksTo l l.length) _ hN1 hN7 HSC.out.lt HT1.out).mono ?_; rintro e w2 ⟨rfl, hb2⟩; have hz2 := hb2.size; have HH2 := hide (((HH.out.below hb2 HH.out.lt).alloc (.cells (rowV zRow) 68)).rowO w2.heap.size (by have := HH.out.lt; omega) (rowV (cRow (cnt (marksTo l l.length) N)))); have hcc2 := (blk.new 68 w2 zRow).row (cRow (cnt (marksTo l l.length) N)); have HCB := hide hcc2; have hg0 := hcc2.cell 0 (by rw [cRow_len]; omega); (try rw [HC0.out] at hg0); have HT2 := hide (((HT1.out.belowB HT1.out hb2 (Nat.le_refl _)).alloc (.cells (rowV zRow) 68)).setRow w2.heap.size (by have := HT.out.1; have := HB1.out.size; omega) (rowV (cRow (cnt (marksTo l l.length) N)))); have HB2 := hide (bl_row ((HB1.out.trans (hb2.mono HB1.out.size)).alloc (by have := HB1.out.size; omega) (.cells (rowV zRow) 68)) (show w.heap.size ≤ w2.heap.size by have := HB1.out.size; omega) (rowV (cRow (cnt (marksTo l l.length) N)))); clear hb2 hcc2)
        | (refine wpList_alloc_arr zeroC rfl rfl _ (by first | (simp only [World.size_alloc]; rfl) | rfl) ?_)
        | (refine wpList_store_arr sizeC rfl (.tmp _) (.tmp _) rfl _ (cRow (cnt (marksTo l l.length) N)) (cRow_len _) rfl rfl zRow zRow_len (blk.new _ _ _) ?_)
        | (refine wpList_load_fam rowT sizeT rfl (.tmp 6) rfl _ rfl (N : Int) (marksTo l l.length) HH2.out ?_)
        | (refine wpList_load_arr rowC sizeC rfl (.tmp 8) rfl _ rfl _ (cRow_len _) HCB.out ?_)
        | (go_at_call 57; refine (wordWith_c N (marksTo l l.length) r _ hN1 hN7 HSC.out (by rw [HCC.out]; omega) HT2.out).mono ?_; rintro e w3 ⟨v3, rfl, ho3, hb3⟩; have HO3 := hide (ho3.mono HB2.out.size); have HB3 := hide (HB2.out.trans (hb3.mono HB2.out.size)); clear ho3 hb3))
      go_ret2
      exact ⟨_, rfl, own_nil _ _ _, HB2.out⟩
    · obtain ⟨r, rfl⟩ := Int.eq_ofNat_of_zero_le (show 0 ≤ x by omega)
      have HC0 := hide (cRow_get (cnt (marksTo l l.length) N) 0 (by omega))
      by_cases hrc : r < cnt (marksTo l l.length) N 0
      · have HF := hide (show okWw (N : Int) l (r : Int) = true by rw [HEQ.out]; simp; omega)
        rw [wwR_yes HF.out, HF.out, Int.toNat_natCast, Int.toNat_natCast]
        have HRC := hide hrc
        have hrci : ¬ ((cnt (marksTo l l.length) N 0 : Int) ≤ (r : Int)) := by omega
        have hrcn : ¬ (cnt (marksTo l l.length) N 0 ≤ r) := by omega
        have hx0n : ¬ ((r : Int) < 0) := by omega
        clear hrc
        generalize hcc : cnt (marksTo l l.length) N 0 = c at hrci hrcn hcl HC0 HEQ
        have HCC := hide hcc
        clear hcc
        go_enter Tryd.func21, Tryd.ntmps21
        go_wp2_with (first
          | (go_at_call 56; refine (familyOf_c (N : Int) v l _ HL.out hlen).mono ?_; rw [famVal_yes (N : Int) l HK.out]; rintro e w1 ⟨rfl, hb1⟩; have hz1 := hb1.size; rw [HZ0.out] at hz1; have HH := hide ((famAt.new 63 w1 0 noSet).row (N : Int) (marksTo l l.length)); have HT1 := hide (((HT.out.belowB HT.out (H0.out.trans (hb1.mono (by rw [HZ0.out]; omega))) (Nat.le_refl _)).alloc (.cells (fam 0 noSet) 63)).setRow w1.heap.size (by have := HT.out.1; omega) (fam (N : Int) (marksTo l l.length))); have HB1 := hide (bl_row ((H0.out.trans (hb1.mono (by rw [HZ0.out]; omega))).alloc (by omega) (.cells (fam 0 noSet) 63)) (show w.heap.size ≤ w1.heap.size by omega) (fam (N : Int) (marksTo l l.length))); clear hb1)
          | (refine wpList_alloc_fam zeroT rfl rfl _ (by first | (simp only [World.size_alloc]; rfl) | rfl) ?_)
          | (refine wpList_store_fam sizeT rfl (.tmp _) (.tmp _) rfl _ _ _ rfl rfl _ _ (famAt.new _ _ _ _) ?_)
          | (refine wpList_load_fam rowT sizeT rfl (.tmp 6) rfl _ rfl (N : Int) (marksTo l l.length) HH.out ?_)
          | (go_at_call 53; refine (wordCounts_c N (marksTo l l.length) _ hN1 hN7 HSC.out.lt HT1.out).mono ?_; rintro e w2 ⟨rfl, hb2⟩; have hz2 := hb2.size; have HH2 := hide (((HH.out.below hb2 HH.out.lt).alloc (.cells (rowV zRow) 68)).rowO w2.heap.size (by have := HH.out.lt; omega) (rowV (cRow (cnt (marksTo l l.length) N)))); have hcc2 := (blk.new 68 w2 zRow).row (cRow (cnt (marksTo l l.length) N)); have HCB := hide hcc2; have hg0 := hcc2.cell 0 (by rw [cRow_len]; omega); (try rw [HC0.out] at hg0); have HT2 := hide (((HT1.out.belowB HT1.out hb2 (Nat.le_refl _)).alloc (.cells (rowV zRow) 68)).setRow w2.heap.size (by have := HT.out.1; have := HB1.out.size; omega) (rowV (cRow (cnt (marksTo l l.length) N)))); have HB2 := hide (bl_row ((HB1.out.trans (hb2.mono HB1.out.size)).alloc (by have := HB1.out.size; omega) (.cells (rowV zRow) 68)) (show w.heap.size ≤ w2.heap.size by have := HB1.out.size; omega) (rowV (cRow (cnt (marksTo l l.length) N)))); clear hb2 hcc2)
          | (refine wpList_alloc_arr zeroC rfl rfl _ (by first | (simp only [World.size_alloc]; rfl) | rfl) ?_)
          | (refine wpList_store_arr sizeC rfl (.tmp _) (.tmp _) rfl _ (cRow (cnt (marksTo l l.length) N)) (cRow_len _) rfl rfl zRow zRow_len (blk.new _ _ _) ?_)
          | (refine wpList_load_fam rowT sizeT rfl (.tmp 6) rfl _ rfl (N : Int) (marksTo l l.length) HH2.out ?_)
          | (refine wpList_load_arr rowC sizeC rfl (.tmp 8) rfl _ rfl _ (cRow_len _) HCB.out ?_)
          | (go_at_call 57; refine (wordWith_c N (marksTo l l.length) r _ hN1 hN7 HSC.out (by rw [HCC.out]; omega) HT2.out).mono ?_; rintro e w3 ⟨v3, rfl, ho3, hb3⟩; have HO3 := hide (ho3.mono HB2.out.size); have HB3 := hide (HB2.out.trans (hb3.mono HB2.out.size)); clear ho3 hb3))
        go_ret2
        exact ⟨_, rfl, HO3.out, HB3.out⟩
      · have HF := hide (show okWw (N : Int) l (r : Int) = false by rw [HEQ.out]; simp; omega)
        rw [wwR_no HF.out, HF.out]
        have hrci : (cnt (marksTo l l.length) N 0 : Int) ≤ (r : Int) := by omega
        have hrcn : cnt (marksTo l l.length) N 0 ≤ r := by omega
        have hx0n : ¬ ((r : Int) < 0) := by omega
        clear hrc
        generalize hcc : cnt (marksTo l l.length) N 0 = c at hrci hrcn hcl HC0 HEQ
        have HCC := hide hcc
        clear hcc
        go_enter Tryd.func21, Tryd.ntmps21
        go_wp2_with (first
          | (go_at_call 56; refine (familyOf_c (N : Int) v l _ HL.out hlen).mono ?_; rw [famVal_yes (N : Int) l HK.out]; rintro e w1 ⟨rfl, hb1⟩; have hz1 := hb1.size; rw [HZ0.out] at hz1; have HH := hide ((famAt.new 63 w1 0 noSet).row (N : Int) (marksTo l l.length)); have HT1 := hide (((HT.out.belowB HT.out (H0.out.trans (hb1.mono (by rw [HZ0.out]; omega))) (Nat.le_refl _)).alloc (.cells (fam 0 noSet) 63)).setRow w1.heap.size (by have := HT.out.1; omega) (fam (N : Int) (marksTo l l.length))); have HB1 := hide (bl_row ((H0.out.trans (hb1.mono (by rw [HZ0.out]; omega))).alloc (by omega) (.cells (fam 0 noSet) 63)) (show w.heap.size ≤ w1.heap.size by omega) (fam (N : Int) (marksTo l l.length))); clear hb1)
          | (refine wpList_alloc_fam zeroT rfl rfl _ (by first | (simp only [World.size_alloc]; rfl) | rfl) ?_)
          | (refine wpList_store_fam sizeT rfl (.tmp _) (.tmp _) rfl _ _ _ rfl rfl _ _ (famAt.new _ _ _ _) ?_)
          | (refine wpList_load_fam rowT sizeT rfl (.tmp 6) rfl _ rfl (N : Int) (marksTo l l.length) HH.out ?_)
          | (go_at_call 53; refine (wordCounts_c N (marksTo l l.length) _ hN1 hN7 HSC.out.lt HT1.out).mono ?_; rintro e w2 ⟨rfl, hb2⟩; have hz2 := hb2.size; have HH2 := hide (((HH.out.below hb2 HH.out.lt).alloc (.cells (rowV zRow) 68)).rowO w2.heap.size (by have := HH.out.lt; omega) (rowV (cRow (cnt (marksTo l l.length) N)))); have hcc2 := (blk.new 68 w2 zRow).row (cRow (cnt (marksTo l l.length) N)); have HCB := hide hcc2; have hg0 := hcc2.cell 0 (by rw [cRow_len]; omega); (try rw [HC0.out] at hg0); have HT2 := hide (((HT1.out.belowB HT1.out hb2 (Nat.le_refl _)).alloc (.cells (rowV zRow) 68)).setRow w2.heap.size (by have := HT.out.1; have := HB1.out.size; omega) (rowV (cRow (cnt (marksTo l l.length) N)))); have HB2 := hide (bl_row ((HB1.out.trans (hb2.mono HB1.out.size)).alloc (by have := HB1.out.size; omega) (.cells (rowV zRow) 68)) (show w.heap.size ≤ w2.heap.size by have := HB1.out.size; omega) (rowV (cRow (cnt (marksTo l l.length) N)))); clear hb2 hcc2)
          | (refine wpList_alloc_arr zeroC rfl rfl _ (by first | (simp only [World.size_alloc]; rfl) | rfl) ?_)
          | (refine wpList_store_arr sizeC rfl (.tmp _) (.tmp _) rfl _ (cRow (cnt (marksTo l l.length) N)) (cRow_len _) rfl rfl zRow zRow_len (blk.new _ _ _) ?_)
          | (refine wpList_load_fam rowT sizeT rfl (.tmp 6) rfl _ rfl (N : Int) (marksTo l l.length) HH2.out ?_)
          | (refine wpList_load_arr rowC sizeC rfl (.tmp 8) rfl _ rfl _ (cRow_len _) HCB.out ?_)
          | (go_at_call 57; refine (wordWith_c N (marksTo l l.length) r _ hN1 hN7 HSC.out (by rw [HCC.out]; omega) HT2.out).mono ?_; rintro e w3 ⟨v3, rfl, ho3, hb3⟩; have HO3 := hide (ho3.mono HB2.out.size); have HB3 := hide (HB2.out.trans (hb3.mono HB2.out.size)); clear ho3 hb3))
        go_ret2
        exact ⟨_, rfl, own_nil _ _ _, HB2.out⟩

set_option maxHeartbeats 4000000 in
theorem specWordWith_c (n : Int) (v : Value) (l : List Int) (x : Int) (w : World) (hl : ints w.heap.size w v l) (hlen : l.length < 1000000000) (_ : tab w) :
    Calls Tryd.prog 20 #[.agg #[.int .i64 n, v], .int .i64 x] w fun e w' => ∃ v', e = .returned (.tuple #[v', .bool (okWw n l x)]) ∧ own 3 w' w.heap.size v' (wwR n l x) ∧ Below w.heap.size w w' := by
  have HL := hide ((hl.alloc (.cells #[.int .i64 n, v] 28)).mono (show w.heap.size ≤ (w.alloc (.cells #[.int .i64 n, v] 28)).heap.size by simp))
  have H0 := hide ((Below.refl w.heap.size w).alloc (Nat.le_refl _) (.cells #[.int .i64 n, v] 28))
  have HS0 := hide (hp_last w (.cells #[.int .i64 n, v] 28))
  have hz0 : (w.alloc (.cells #[.int .i64 n, v] 28)).heap.size = w.heap.size + 1 := by simp
  have HZ := hide hz0
  clear hl hz0
  cases hok : okSp n l
  · have HG := hide (show goodB n l = false by rw [← ok_good]; exact hok)
    have HF := hide (okWw_no (x := x) hok)
    rw [wwR_no HF.out, HF.out]
    clear hok
    go_enter Tryd.func20, Tryd.ntmps20
    go_wp2_with (go_at_call 48; refine (spGood_c n v l _ HL.out hlen).mono ?_; rw [HG.out]; rintro e w' ⟨rfl, hb⟩; have HB := hide (H0.out.trans (hb.mono (by rw [HZ.out]; omega))); clear hb)
    go_ret2
    exact ⟨_, rfl, own_nil _ _ _, HB.out⟩
  · have HG := hide (show goodB n l = true by rw [← ok_good]; exact hok)
    have hn := okSp_n hok
    obtain ⟨N, rfl⟩ := Int.eq_ofNat_of_zero_le (show 0 ≤ n by omega)
    have hN1 : 1 ≤ N := by omega
    have hN7 : N ≤ 7 := by omega
    have hsp := okSp_spc hok
    rw [Int.toNat_natCast] at hsp
    have HEQ := hide (okWw_eq (x := x) hok)
    have hpos := okSp_ne hok
    have HW0 := hide (show (wRow l (cnt (marksTo l l.length) N) 0)[0]?.getD 0 = (cnt (marksTo l l.length) N 0 : Int) by
      rw [wRow_get _ _ _ _ hpos, if_pos (Nat.le_refl _)]
      congr 2
      obtain ⟨j, hj, e⟩ := (okSp_has hok 0).1 (okSp_spc hok).zero
      rcases Nat.eq_zero_or_pos j with h0 | h0
      · rw [h0] at e; exact e
      · have := okSp_nth_inc hok 0 j h0 hj; omega)
    have hml : 0 < (wRow l (cnt (marksTo l l.length) N) 0).length := by rw [wRow_len]; exact hpos
    have HWC := hide (fun (u2 : Value) (x : Nat) (w' : World) (h1 : ints w'.heap.size w' v l) (h2 : ints w'.heap.size w' u2 (wRow l (cnt (marksTo l l.length) N) 0)) (hx : x < 128) => woFrom_c (N : Int) v l u2 x w' h1 hlen hok (by rw [Int.toNat_natCast]; exact h2) hx)
    have HWW := hide (fun (w' : World) (h1 : ints w'.heap.size w' v l) => woWays_c (N : Int) v l w' h1 hlen hok)
    rw [Int.toNat_natCast] at HEQ HWC HWW
    have hcl := cnt_le (marksTo l l.length) N hN7 0
    have hp := p2_le N 7 hN7
    have HLT := hide (fun y (hy : marksTo l l.length y = true) => show y < 128 by have := hsp.lt y hy; omega)
    have HSP := hide hsp
    have HCL := hide (fun s => cnt_le (marksTo l l.length) N hN7 s)
    have hwr : IntKind.i64.wrap ((cnt (marksTo l l.length) N 0 : Int) - 1) = (cnt (marksTo l l.length) N 0 : Int) - 1 := IntWalk.i64_in _ (by omega)
    have HIN := hide (show decide (0 ≤ x ∧ x ≤ (cnt (marksTo l l.length) N 0 : Int) - 1) = okWw (N : Int) l x by
      rw [HEQ.out]
      exact decide_eq_decide.2 (by omega))
    clear hok hn hp hsp hpos
    cases hx : okWw (N : Int) l x
    · have HX := hide hx
      rw [wwR_no hx]
      clear hx
      go_enter Tryd.func20, Tryd.ntmps20
      go_wp2_with (first
        | (go_at_call 48; refine (spGood_c (N : Int) v l _ HL.out hlen).mono ?_; rw [HG.out]; rintro e w1 ⟨rfl, hb⟩; have hs1 := (hb.block w.heap.size (by rw [HZ.out]; omega)).trans HS0.out; have c0 := cells_at0 hs1; have c1 := cells_at1 hs1; have HS1 := hide hs1; have hz1 := hb.size; rw [HZ.out] at hz1; have HB1 := hide (H0.out.trans (hb.mono (by rw [HZ.out]; omega))); have HL1 := hide ((HL.out.below hb (Nat.le_refl _)).mono hb.size); clear hb hs1)
        | (go_at_call 49; refine (HWW.out _ HL1.out).mono ?_; rintro e w2 ⟨v2, rfl, ho2, hb2⟩; have hz2 := hb2.size; have HO2 := hide ho2.ints; have HS2 := hide ((hb2.block w.heap.size (by omega)).trans HS1.out); have HB2 := hide (HB1.out.trans (hb2.mono (by omega))); have HL2 := hide ((HL1.out.below hb2 (Nat.le_refl _)).mono hb2.size); clear ho2 hb2 c0 c1)
        | (refine wpList_at sliceT intS rfl (.tmp _) (.const _) rfl v2 rfl 0 rfl _ _ HO2.out hml ?_; intro ad hcell hblk; rw [HW0.out] at hcell)
        | (go_at_call 54; refine (l1In_c _ _ _ _).mono ?_; rw [HIN.out, HX.out]; rintro e w2' ⟨rfl, rfl⟩))
      go_ret2
      exact ⟨_, rfl, own_nil _ _ _, HB2.out⟩
    · have HX := hide hx
      rw [wwR_yes hx, Int.toNat_natCast]
      have hxx := HEQ.out.symm.trans hx
      simp only [decide_eq_true_eq] at hxx
      obtain ⟨r0, rfl⟩ := Int.eq_ofNat_of_zero_le hxx.1
      rw [Int.toNat_natCast]
      have HR0 := hide (show r0 < cnt (marksTo l l.length) N 0 by omega)
      clear hx hxx HEQ
      generalize marksTo l l.length = F at *
      go_enter Tryd.func20, Tryd.ntmps20
      go_wp2_with (first
        | (go_at_call 48; refine (spGood_c (N : Int) v l _ HL.out hlen).mono ?_; rw [HG.out]; rintro e w1 ⟨rfl, hb⟩; have hs1 := (hb.block w.heap.size (by rw [HZ.out]; omega)).trans HS0.out; have c0 := cells_at0 hs1; have c1 := cells_at1 hs1; have HS1 := hide hs1; have hz1 := hb.size; rw [HZ.out] at hz1; have HB1 := hide (H0.out.trans (hb.mono (by rw [HZ.out]; omega))); have HL1 := hide ((HL.out.below hb (Nat.le_refl _)).mono hb.size); clear hb hs1)
        | (go_at_call 49; refine (HWW.out _ HL1.out).mono ?_; rintro e w2 ⟨v2, rfl, ho2, hb2⟩; have hz2 := hb2.size; have HO2 := hide ho2.ints; have HS2 := hide ((hb2.block w.heap.size (by omega)).trans HS1.out); have HB2 := hide (HB1.out.trans (hb2.mono (by omega))); have HL2 := hide ((HL1.out.below hb2 (Nat.le_refl _)).mono hb2.size); clear ho2 hb2 c0 c1)
        | (refine wpList_at sliceT intS rfl (.tmp _) (.const _) rfl v2 rfl 0 rfl _ _ HO2.out hml ?_; intro ad hcell hblk; rw [HW0.out] at hcell)
        | (go_at_call 54; refine (l1In_c _ _ _ _).mono ?_; rw [HIN.out, HX.out]; rintro e w2' ⟨rfl, rfl⟩))
      go_loopw [7, 8, 1] (fun ov sv rv wr => ∃ k s r : Nat, k ≤ N ∧ sv = .int .i64 (s : Int) ∧ rv = .int .i64 (r : Int) ∧ Hid (WwOk F N k s r) ∧ Hid (∃ L, own 3 wr w2.heap.size ov L ∧ L.length = k ∧ L ++ wwL F N (N - k) s r = wwL F N N 0 r0) ∧ Hid (Below w2.heap.size w2 wr)) (fun _ sv _ _ => N - pc (intOf sv).toNat)
      case atStart => exact ⟨0, 0, r0, Nat.zero_le _, rfl, rfl, ⟨HSP.out.zero, by decide, HR0.out⟩, ⟨[], own_nil _ _ _, rfl, by simp⟩, Below.refl _ _⟩
      case round =>
        obtain ⟨k, s, r, hk, rfl, rfl, HWO, HO, HB⟩ := hrel
        obtain ⟨L, ho, hLk, hl⟩ := HO.out
        have HOL := hide ho
        have HLL := hide hl
        have HLK := hide hLk
        have hs128 : s < 128 := HLT.out s HWO.out.mark
        have hszr := HB.out.size
        have HOI := hide ho.ints
        have hsr := (HB.out.block w.heap.size (by omega)).trans HS2.out
        have d0 := cells_at0 hsr
        clear ho hl HO hLk hsr
        by_cases hkn : k < N
        · have HRS := hide (ww_sum HWO.out hN7 hs128 hkn)
          have hrc := HCL.out s
          have hrl := HWO.out.lt
          have hknL : ((L.length : Int) < (N : Int)) := by have := HLK.out; omega
          have hlL : L.length ≤ 7 := by have := HLK.out; omega
          have HS1' := hide (fun i => show sumN F (cnt F N) s (i + 1) = sumN F (cnt F N) s i + (if (!s.testBit i && F (p2s s i)) = true then cnt F N (p2s s i) else 0) from rfl)
          have HPK := hide (HWO.out.cnt)
          go_wp2_with (refine wpList_len sliceT rfl (.tmp _) rfl _ rfl _ L HOI.out ?_)
          clear d0
          go_loopw [7, 8, 1, 9] (fun ov sv rv iv wi => ∃ i : Nat, i ≤ N ∧ iv = .int .i64 i ∧ sv = .int .i64 (s : Int) ∧ rv = .int .i64 ((r - sumN F (cnt F N) s i : Nat) : Int) ∧ sumN F (cnt F N) s i ≤ r ∧ Hid (own 3 wi w2.heap.size ov L) ∧ Hid (Below w2.heap.size w2 wi)) (fun _ _ _ iv _ => N - (intOf iv).toNat)
          case atStart => exact ⟨0, Nat.zero_le _, rfl, rfl, rfl, Nat.zero_le _, HOL, HB⟩
          case round =>
            clear HB HOL HOI
            obtain ⟨i, hi, rfl, rfl, rfl, hle, HOL, HB⟩ := hrel
            have hszi := HB.out.size
            have hsi := (HB.out.block w.heap.size (by omega)).trans HS2.out
            have d0 := cells_at0 hsi
            clear hsi
            by_cases hiN : i < N
            · have hst := HS1'.out i
              have hps := p2s_lt s i hs128 (by omega)
              have hiNi : (i : Int) < (N : Int) := by omega
              have hp := wrap_p2 i (by omega)
              have hp2 : IntKind.i64.wrap (2 ^ i) = (p2 i : Int) := by rw [IntWalk.i64_left]; exact hp
              have hpl := p2_lt128 i (by omega)
              have hori := i64_or s (p2 i) (by omega) (by omega)
              have hoff := cnt_off hN7 HSP.out.full (p2s s i) hps
              rw [show s ||| p2 i = p2s s i from rfl] at hori
              cases hbit : s.testBit i
              · have HBIT := hide hbit
                have hst2 : sumN F (cnt F N) s (i + 1) = sumN F (cnt F N) s i + cnt F N (p2s s i) := by
                  rw [hst, hbit]
                  cases hf : F (p2s s i)
                  · rw [hoff hf]; simp
                  · simp
                have hfc : 0 < cnt F N (p2s s i) → F (p2s s i) = true := by
                  intro h0
                  cases hf : F (p2s s i)
                  · rw [hoff hf] at h0; omega
                  · rfl
                have HST := hide hst2
                have hc := HCL.out (p2s s i)
                have HWS := hide (fun h0 h1 h2 => ww_step HWO.out hs128 (show i < 7 by omega) hbit (hfc h0) h1 h2)
                have HPC := hide ((pc_orW s hs128 i (by omega) hbit))
                rw [show s ||| p2 i = p2s s i from rfl] at HWS HPC
                clear hst hbit hst2 hoff hfc
                generalize p2s s i = q at hps HST hori HWS hc HPC
                have hWC := fun u2 w' h1 h2 => HWC.out u2 q w' h1 h2 hps
                have HWQ := hide hWC
                clear hWC
                generalize cnt F N q = c at HST HWQ HWS hc
                generalize sumN F (cnt F N) s i = p at HST hle HWS ⊢
                generalize hrp : r - p = rp at HWS ⊢
                go_wp2_with (go_at_call 55; refine (spIn_c (s : Int) (i : Int) _ (by omega) (by omega) (by omega) (by omega)).mono ?_; rw [Int.toNat_natCast, Int.toNat_natCast, HBIT.out]; rintro e w3 ⟨rfl, rfl⟩)
                refine wp_region_held (S := Below w2.heap.size w2) (by kernel_rfl) ?_
                have hS : Below w2.heap.size w2 { wr with drawn := wr.drawn + 1 } := HB.out.drew
                have HOLd := hide (show own 3 { wr with drawn := wr.drawn + 1 } w2.heap.size _ L from HOL.out)
                generalize ({ wr with drawn := wr.drawn + 1 } : World) = wd at hS HOLd ⊢
                refine wpAnyH_take (i := 0) rfl (by kernel_rfl) (by kernel_rfl) (by kernel_rfl) (fun _ _ _ h => h) (yields_load_two rowSp sizeSp rfl (.tmp _) rfl _ rfl _ _ (fun w' h => (h.cell (p := ⟨w.heap.size, 0, none⟩) (by show w.heap.size < w2.heap.size; omega)).trans (cells_at0 HS2.out)) (fun w' h => (h.cell (p := ⟨w.heap.size, 1, none⟩) (by show w.heap.size < w2.heap.size; omega)).trans (cells_at1 HS2.out))) hS ?_
                refine wpAnyH_take (i := 1) (v := v2) rfl (by kernel_rfl) (by kernel_rfl) (by kernel_rfl) (fun _ _ _ h => h) (.inl ⟨rfl, fun w' _ => by go_simp⟩) hS ?_
                refine wpAnyH_take (i := 2) (v := .int .i64 (s : Int)) rfl (by kernel_rfl) (by kernel_rfl) (by kernel_rfl) (fun _ _ _ h => h) (.inl ⟨rfl, fun w' _ => by go_simp⟩) hS ?_
                refine wpAnyH_take (i := 3) (v := .int .i64 (i : Int)) rfl (by kernel_rfl) (by kernel_rfl) (by kernel_rfl) (fun _ _ _ h => h) (.inl ⟨rfl, fun w' _ => by go_simp⟩) hS ?_
                simp only [Act.put, List.getElem_toArray, List.getElem_cons_zero, List.getElem_cons_succ, List.setIfInBounds_toArray, List.set_cons_zero, List.set_cons_succ]
                refine wpAnyH_take (i := 4) (v := .int .i64 (p2 i : Int)) rfl (by kernel_rfl) (by kernel_rfl) (by kernel_rfl) (fun _ _ _ h => h) (.inl ⟨rfl, fun w' _ => by simp [go_sem, Act.put, hp, hp2]⟩) hS ?_
                refine wpAnyH_take (i := 5) (v := .int .i64 (q : Int)) rfl (by kernel_rfl) (by kernel_rfl) (by kernel_rfl) (fun _ _ _ h => h) (.inl ⟨rfl, fun w' _ => by simp [go_sem, Act.put, hori]⟩) hS ?_
                simp only [Act.put, List.getElem_toArray, List.getElem_cons_zero, List.getElem_cons_succ, List.setIfInBounds_toArray, List.set_cons_zero, List.set_cons_succ]
                have hwz := hS.size
                refine anyH_call (i := 6) (by kernel_rfl) rfl rfl 51 ent_woFrom _ _ rfl #[.agg #[.int .i64 (N : Int), v], v2, .int .i64 (q : Int)] rfl (HWQ.out v2 _ ((HL2.out.below hS (Nat.le_refl _)).mono hwz) ((HO2.out.below hS (Nat.le_refl _)).mono hwz)) ?_
                rintro e w4 ⟨rfl, hb4⟩
                have hS4 : Below w2.heap.size w2 w4 := hS.trans (hb4.mono hwz)
                refine ⟨_, rfl, hS4, ?_⟩
                simp only [Act.put, List.getElem_toArray, List.getElem_cons_zero, List.getElem_cons_succ, List.setIfInBounds_toArray, List.set_cons_zero, List.set_cons_succ]
                refine anyH_op (i := 7) (by kernel_rfl) rfl rfl (.int .i64 (c : Int)) w4 (by simp [go_sem, Act.put]) hS4 ?_
                refine wpAnyH_done (by kernel_rfl) ?_ _
                simp only [Act.put, List.getElem_toArray, List.getElem_cons_zero, List.getElem_cons_succ, List.setIfInBounds_toArray, List.set_cons_zero, List.set_cons_succ]
                have HB4 := hide hS4
                have hz4 := hS4.size
                have HOL4 := hide (HOLd.out.kept hb4)
                clear hS hS4 hb4 d0 HOLd hp hp2
                by_cases hlt : rp < c
                · obtain ⟨g1, g2⟩ := HWS.out (by omega) hle hlt
                  have G1 := hide g1
                  have G2 := hide (g2 (N - (k + 1)))
                  have hlti : ((rp : Int) < (c : Int)) := by omega
                  have HNK := hide (show N - k = N - (k + 1) + 1 by omega)
                  have hpp := wrap_p2 i (by omega)
                  have hpp2 : IntKind.i64.wrap (2 ^ i) = (p2 i : Int) := by rw [IntWalk.i64_left]; exact hpp
                  clear g1 g2 hrp
                  go_wp2_with (at_builtin; refine wpList_append1 sliceT intI rfl (.tmp 47) (.tmp 49) rfl w2.heap.size _ _ rfl (HOL4.out.alloc _) _ (i : Int) rfl (by simp [go_sem]) (by simp; omega) (by omega) ?_; intro v7 w7 ho7 hb7; have HO7 := hide ho7; have HB7 := hide ((HB4.out.alloc (by omega) _).trans hb7); clear ho7 hb7)
                  go_roundw
                  case rel => exact ⟨k + 1, q, rp, by omega, rfl, rfl, G1, ⟨L ++ [(i : Int)], HO7.out, by rw [List.length_append, HLK.out]; rfl, by rw [← HLL.out, HNK.out, G2.out, List.append_assoc]; rfl⟩, HB7⟩
                  case measure =>
                    have h1 := HPC.out
                    have h2 := HPK.out
                    simp only [intOf, Int.toNat_natCast]
                    omega
                · have hlti : ¬ ((rp : Int) < (c : Int)) := by omega
                  have hsub : IntKind.i64.wrap ((rp : Int) - (c : Int)) = ((rp - c : Nat) : Int) := by rw [IntWalk.i64_in _ (by omega)]; omega
                  have HRP := hide (show rp - c = r - sumN F (cnt F N) s (i + 1) by rw [HST.out]; omega)
                  have HLE := hide (show sumN F (cnt F N) s (i + 1) ≤ r by rw [HST.out]; omega)
                  clear hrp
                  go_wp2
                  go_roundw
                  case rel => exact ⟨i + 1, by omega, by go_num, rfl, by rw [← HRP.out], HLE.out, HOL4, HB4⟩
                  case measure => simp [intOf]; omega
              · have HBIT := hide hbit
                have HST := hide (show sumN F (cnt F N) s (i + 1) = sumN F (cnt F N) s i by rw [hst, hbit]; simp)
                clear hst hbit hoff
                go_wp2_with (go_at_call 55; refine (spIn_c (s : Int) (i : Int) _ (by omega) (by omega) (by omega) (by omega)).mono ?_; rw [Int.toNat_natCast, Int.toNat_natCast, HBIT.out]; rintro e w3 ⟨rfl, rfl⟩)
                go_roundw
                case rel => exact ⟨i + 1, by omega, by go_num, rfl, by rw [HST.out], by rw [HST.out]; exact hle, HOL, HB⟩
                case measure => simp [intOf]; omega
            · exfalso
              have hii : i = N := by omega
              have h := HRS.out
              rw [hii] at hle
              omega
        · have hkn' : ¬ ((L.length : Int) < (N : Int)) := by have := HLK.out; omega
          have hl := HLL.out
          rw [show N - k = 0 by omega] at hl
          have HL2' := hide (show L = wwL F N N 0 r0 by rw [← hl]; simp [wwL])
          clear hl
          go_wp2_with (refine wpList_len sliceT rfl (.tmp _) rfl _ rfl _ L HOI.out ?_)
          go_ret2
          exact ⟨_, rfl, by rw [← HL2'.out]; exact HOL.out.mono (by omega), HB2.out.trans (HB.out.mono (by omega))⟩
end Go.Proofs.YtknjiomagdfgfaaDoor
