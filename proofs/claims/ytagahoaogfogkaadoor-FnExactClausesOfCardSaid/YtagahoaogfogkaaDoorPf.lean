/- Contracts: EndOf, PathsTo: the specification's and the program's. -/
import Derived.Test.YtagahoaogfogkaaDoorPe
namespace Go.Proofs.YtagahoaogfogkaaDoor
open Go.RowKit
set_option maxRecDepth 100000
theorem ipR_yes {n : Int} {l : List Int} {x : Int} (h : ipR n l x = true) : okSet n l x = true ∧ pathSp l x.toNat = true := by
  simpa [ipR] using h
theorem ptL_no2 {n : Int} {l : List Int} {x : Int} (h : ptB n l x = false) : ptL n l x = [] := ptL_no h
attribute [local irreducible] p2 low memB risB
set_option maxHeartbeats 1000000 in
theorem specEndOf_c (n : Int) (v : Value) (l : List Int) (x : Int) (w : World) (hl : ints w.heap.size w v l) (hlen : l.length < 1000000000) (_ : tab w) :
    Calls Tryd.prog 25 #[.agg #[.int .i64 n, v], .int .i64 x] w fun e w' => e = .returned (.tuple #[.int .i64 (eoR n l x), .bool (ipR n l x)]) ∧ Below w.heap.size w w' := by
  have HL := hide ((hl.alloc (.cells #[.int .i64 n, v] 29)).mono (show w.heap.size ≤ (w.alloc (.cells #[.int .i64 n, v] 29)).heap.size by simp))
  have H0 := hide ((Below.refl w.heap.size w).alloc (Nat.le_refl _) (.cells #[.int .i64 n, v] 29))
  have HS0 := hide (hp_last w (.cells #[.int .i64 n, v] 29))
  have HZ := hide (show (w.alloc (.cells #[.int .i64 n, v] 29)).heap.size = w.heap.size + 1 by simp)
  have hc0 := cells_at0 HS0.out
  have hc1 := cells_at1 HS0.out
  clear hl
  cases hok : okSet n l x
  · have HK := hide hok
    have hip : ipR n l x = false := by simp [ipR, hok]
    rw [eoR_no hip, hip]
    clear hok hip
    go_enter Tryd.func25, Tryd.ntmps25
    go_wp2_with (go_at_call 54; refine (spSet_c n v l x _ HL.out hlen).mono ?_; rw [HK.out]; rintro e w1 ⟨rfl, hb1⟩; have HB1 := hide (H0.out.trans (hb1.mono (by rw [HZ.out]; omega))); clear hb1)
    go_ret2
    exact ⟨rfl, HB1.out⟩
  · obtain ⟨hi0, hi1⟩ := okSet_in hok
    have hlo := low_lt n.toNat (by have := okSp_n (okSet_sp hok); omega)
    obtain ⟨s, rfl⟩ := Int.eq_ofNat_of_zero_le hi0
    have hs : s < 128 := by omega
    have HI := hide (okSp_inc (okSet_sp hok))
    have hip : ipR n l (s : Int) = pathSp l s := by simp [ipR, hok]
    have HK := hide hok
    cases hP : pathSp l s
    · have HP := hide hP
      rw [eoR_no (hip.trans hP), hip, hP]
      clear hok hi0 hi1 hlo hip hP
      go_enter Tryd.func25, Tryd.ntmps25
      go_wp2_with (first
        | (go_at_call 54; refine (spSet_c n v l (s : Int) _ HL.out hlen).mono ?_; rw [HK.out]; rintro e w1 ⟨rfl, hb1⟩; have HS1 := hide ((hb1.block w.heap.size (by rw [HZ.out]; omega)).trans HS0.out); have c0 := cells_at0 HS1.out; have c1 := cells_at1 HS1.out; have HL1 := hide ((HL.out.below hb1 (Nat.le_refl _)).mono hb1.size); have hz1 := hb1.size; rw [HZ.out] at hz1; have HB1 := hide (H0.out.trans (hb1.mono (by rw [HZ.out]; omega))); clear hb1)
        | (go_at_call 55; refine (paPath_c n v l s _ HL1.out HI.out hlen hs).mono ?_; rw [HP.out]; rintro e w2 ⟨rfl, hb2⟩; have HB2 := hide (HB1.out.trans (hb2.mono (by omega))); clear hb2))
      go_ret2
      exact ⟨rfl, HB2.out⟩
    · have HP := hide hP
      rw [eoR_yes (hip.trans hP), hip, hP, Int.toNat_natCast]
      clear hok hi0 hi1 hlo hip hP
      generalize hE : endSp l s = E
      have HE := hide hE
      clear hE
      go_enter Tryd.func25, Tryd.ntmps25
      go_wp2_with (first
        | (go_at_call 54; refine (spSet_c n v l (s : Int) _ HL.out hlen).mono ?_; rw [HK.out]; rintro e w1 ⟨rfl, hb1⟩; have HS1 := hide ((hb1.block w.heap.size (by rw [HZ.out]; omega)).trans HS0.out); have c0 := cells_at0 HS1.out; have c1 := cells_at1 HS1.out; have HL1 := hide ((HL.out.below hb1 (Nat.le_refl _)).mono hb1.size); have hz1 := hb1.size; rw [HZ.out] at hz1; have HB1 := hide (H0.out.trans (hb1.mono (by rw [HZ.out]; omega))); clear hb1)
        | (go_at_call 55; refine (paPath_c n v l s _ HL1.out HI.out hlen hs).mono ?_; rw [HP.out]; rintro e w2 ⟨rfl, hb2⟩; have HS2 := hide ((hb2.block w.heap.size (by omega)).trans HS1.out); have c20 := cells_at0 HS2.out; have c21 := cells_at1 HS2.out; have HL2 := hide ((HL1.out.below hb2 (Nat.le_refl _)).mono hb2.size); have hz2 := hb2.size; have HB2 := hide (HB1.out.trans (hb2.mono (by omega))); clear hb2)
        | (go_at_call 56; refine (paEnd_c n v l s _ HL2.out HI.out hlen hs HP.out).mono ?_; rw [HE.out]; rintro e w3 ⟨rfl, hb3⟩; have HB3 := hide (HB2.out.trans (hb3.mono (by omega))); clear hb3))
      go_ret2
      exact ⟨rfl, HB3.out⟩

set_option maxHeartbeats 1000000 in
theorem implEndOf_c (n : Int) (v : Value) (l : List Int) (x : Int) (w : World) (hl : ints w.heap.size w v l) (hlen : l.length < 1000000000) (hT : tab w) :
    Calls Tryd.prog 26 #[.agg #[.int .i64 n, v], .int .i64 x] w fun e w' => e = .returned (.tuple #[.int .i64 (eoR n l x), .bool (ipR n l x)]) ∧ Below w.heap.size w w' := by
  have HL := hide ((hl.alloc (.cells #[.int .i64 n, v] 29)).mono (show w.heap.size ≤ (w.alloc (.cells #[.int .i64 n, v] 29)).heap.size by simp))
  have H0 := hide ((Below.refl w.heap.size w).alloc (Nat.le_refl _) (.cells #[.int .i64 n, v] 29))
  have HZ := hide (show (w.alloc (.cells #[.int .i64 n, v] 29)).heap.size = w.heap.size + 1 by simp)
  have HT := hide hT
  clear hl hT
  cases hok : okSet n l x
  · have HK := hide hok
    have hip : ipR n l x = false := by simp [ipR, hok]
    rw [eoR_no hip, hip]
    clear hok hip
    go_enter Tryd.func26, Tryd.ntmps26
    go_wp2_with (first
      | (go_at_call 57; refine (familyAndSet_c n v l x _ HL.out hlen).mono ?_; rw [famVal2_no n l x HK.out]; rintro e w1 ⟨rfl, hb1⟩; have hz1 := hb1.size; rw [HZ.out] at hz1; have HB1 := hide (bl_row ((H0.out.trans (hb1.mono (by rw [HZ.out]; omega))).alloc (by omega) (.cells (fam 0 noSet) 55)) (show w.heap.size ≤ w1.heap.size by omega) (fam 0 noSet)); clear hb1)
      | (refine wpList_alloc_fam zeroT rfl rfl _ (by first | (simp only [World.size_alloc]; rfl) | rfl) ?_)
      | (refine wpList_store_fam sizeT rfl (.tmp _) (.tmp _) rfl _ _ _ rfl rfl _ _ (famAt.new _ _ _ _) ?_))
    go_ret2
    exact ⟨rfl, HB1.out⟩
  · obtain ⟨hi0, hi1⟩ := okSet_in hok
    have hn := okSp_n (okSet_sp hok)
    have hlo := low_lt n.toNat (by omega)
    have hpl := low_succ n.toNat
    obtain ⟨s, rfl⟩ := Int.eq_ofNat_of_zero_le hi0
    have hs : s < 128 := by omega
    have hs2 : s < 2 ^ n.toNat := by omega
    have hip : ipR n l (s : Int) = pathF (marksTo l l.length) n.toNat s := by rw [path_same (okSet_sp hok) s hs2]; simp [ipR, hok]
    have HK := hide hok
    have HES := hide (end_same (okSet_sp hok) s hs2)
    cases hP : pathF (marksTo l l.length) n.toNat s
    · have HP := hide hP
      rw [eoR_no (hip.trans hP), hip, hP]
      clear hok hi0 hi1 hlo hip hP hpl
      go_enter Tryd.func26, Tryd.ntmps26
      go_wp2_with (first
        | (go_at_call 57; refine (familyAndSet_c n v l (s : Int) _ HL.out hlen).mono ?_; rw [famVal2_yes n l s HK.out]; rintro e w1 ⟨rfl, hb1⟩; have hz1 := hb1.size; rw [HZ.out] at hz1; have HH := hide ((famAt.new 55 w1 0 noSet).row n (marksTo l l.length)); have HB1 := hide (bl_row ((H0.out.trans (hb1.mono (by rw [HZ.out]; omega))).alloc (by omega) (.cells (fam 0 noSet) 55)) (show w.heap.size ≤ w1.heap.size by omega) (fam n (marksTo l l.length))); clear hb1)
        | (refine wpList_alloc_fam zeroT rfl rfl _ (by first | (simp only [World.size_alloc]; rfl) | rfl) ?_)
        | (refine wpList_store_fam sizeT rfl (.tmp _) (.tmp _) rfl _ _ _ rfl rfl _ _ (famAt.new _ _ _ _) ?_)
        | (refine wpList_load_fam rowT sizeT rfl (.tmp _) rfl _ rfl n _ HH.out ?_)
        | (go_at_call 58; refine (isPath_c n _ s _ (by omega) (by omega) hs).mono ?_; rw [HP.out]; rintro e w2 ⟨rfl, hb2⟩; have HB2 := hide (HB1.out.trans (hb2.mono (by simp [World.setRow]; omega))); clear hb2))
      go_ret2
      exact ⟨rfl, HB2.out⟩
    · have HP := hide hP
      rw [eoR_yes (hip.trans hP), hip, hP, Int.toNat_natCast, ← HES.out]
      clear hok hi0 hi1 hlo hip hP hpl
      generalize hE : endF (marksTo l l.length) n.toNat s = E
      have HE := hide hE
      clear hE
      go_enter Tryd.func26, Tryd.ntmps26
      go_wp2_with (first
        | (go_at_call 57; refine (familyAndSet_c n v l (s : Int) _ HL.out hlen).mono ?_; rw [famVal2_yes n l s HK.out]; rintro e w1 ⟨rfl, hb1⟩; have hz1 := hb1.size; rw [HZ.out] at hz1; have HH := hide ((famAt.new 55 w1 0 noSet).row n (marksTo l l.length)); have HB1 := hide (bl_row ((H0.out.trans (hb1.mono (by rw [HZ.out]; omega))).alloc (by omega) (.cells (fam 0 noSet) 55)) (show w.heap.size ≤ w1.heap.size by omega) (fam n (marksTo l l.length))); clear hb1)
        | (refine wpList_alloc_fam zeroT rfl rfl _ (by first | (simp only [World.size_alloc]; rfl) | rfl) ?_)
        | (refine wpList_store_fam sizeT rfl (.tmp _) (.tmp _) rfl _ _ _ rfl rfl _ _ (famAt.new _ _ _ _) ?_)
        | (refine wpList_load_fam rowT sizeT rfl (.tmp 6) rfl _ rfl n _ HH.out ?_)
        | (go_at_call 58; refine (isPath_c n _ s _ (by omega) (by omega) hs).mono ?_; rw [HP.out]; rintro e w2 ⟨rfl, hb2⟩; have HB2 := hide (HB1.out.trans (hb2.mono (by simp [World.setRow]; omega))); have hz2 : w1.heap.size + 1 ≤ w2.heap.size := (by have := hb2.size; simpa [World.setRow] using this); have HH2 := hide (HH.out.below hb2 HH.out.lt); clear hb2)
        | (refine wpList_load_fam rowT sizeT rfl (.tmp 6) rfl _ rfl n _ HH2.out ?_)
        | (go_at_call 59; refine (endOf_c n _ s _ (by omega) (by omega) hs HP.out (HT.out.belowB HT.out HB2.out (Nat.le_refl _))).mono ?_; rw [HE.out]; rintro e w3 ⟨rfl, hb3⟩; have HB3 := hide (HB2.out.trans (hb3.mono (by omega))); clear hb3))
      go_ret2
      exact ⟨rfl, HB3.out⟩

set_option maxHeartbeats 1000000 in
theorem implPathsTo_c (n : Int) (v : Value) (l : List Int) (x : Int) (w : World) (hl : ints w.heap.size w v l) (hlen : l.length < 1000000000) (hT : tab w) :
    Calls Tryd.prog 28 #[.agg #[.int .i64 n, v], .int .i64 x] w fun e w' => ∃ v', e = .returned (.tuple #[v', .bool (ptB n l x)]) ∧ own 3 w' w.heap.size v' (ptL n l x) ∧ Below w.heap.size w w' := by
  have HL := hide ((hl.alloc (.cells #[.int .i64 n, v] 29)).mono (show w.heap.size ≤ (w.alloc (.cells #[.int .i64 n, v] 29)).heap.size by simp))
  have H0 := hide ((Below.refl w.heap.size w).alloc (Nat.le_refl _) (.cells #[.int .i64 n, v] 29))
  have HZ := hide (show (w.alloc (.cells #[.int .i64 n, v] 29)).heap.size = w.heap.size + 1 by simp)
  have HT := hide hT
  clear hl hT
  cases hok : okSp n l
  · have HK := hide hok
    have hip : ptB n l x = false := by simp [ptB, hok]
    rw [ptL_no hip, hip]
    clear hok hip
    go_enter Tryd.func28, Tryd.ntmps28
    go_wp2_with (first
      | (go_at_call 47; refine (familyOf_c n v l _ HL.out hlen).mono ?_; rw [famVal_no n l HK.out]; rintro e w1 ⟨rfl, hb1⟩; have hz1 := hb1.size; rw [HZ.out] at hz1; have HB1 := hide (bl_row ((H0.out.trans (hb1.mono (by rw [HZ.out]; omega))).alloc (by omega) (.cells (fam 0 noSet) 55)) (show w.heap.size ≤ w1.heap.size by omega) (fam 0 noSet)); clear hb1)
      | (refine wpList_alloc_fam zeroT rfl rfl _ (by first | (simp only [World.size_alloc]; rfl) | rfl) ?_)
      | (refine wpList_store_fam sizeT rfl (.tmp _) (.tmp _) rfl _ _ _ rfl rfl _ _ (famAt.new _ _ _ _) ?_))
    go_ret2
    exact ⟨_, rfl, own_nil _ _ _, HB1.out⟩
  · have hn := okSp_n hok
    have HK := hide hok
    have hip : ptB n l x = decide (0 ≤ x ∧ x < n) := by simp [ptB, hok]
    cases hx : decide (0 ≤ x ∧ x < n)
    · have HX := hide hx
      rw [ptL_no (hip.trans hx), hip, hx]
      clear hip hx hok
      go_enter Tryd.func28, Tryd.ntmps28
      go_wp2_with (first
        | (go_at_call 47; refine (familyOf_c n v l _ HL.out hlen).mono ?_; rw [famVal_yes n l HK.out]; rintro e w1 ⟨rfl, hb1⟩; have hz1 := hb1.size; rw [HZ.out] at hz1; have HH := hide ((famAt.new 55 w1 0 noSet).row n (marksTo l l.length)); have hg0 := HH.out.get0; have HB1 := hide (bl_row ((H0.out.trans (hb1.mono (by rw [HZ.out]; omega))).alloc (by omega) (.cells (fam 0 noSet) 55)) (show w.heap.size ≤ w1.heap.size by omega) (fam n (marksTo l l.length))); clear hb1)
        | (refine wpList_alloc_fam zeroT rfl rfl _ (by first | (simp only [World.size_alloc]; rfl) | rfl) ?_)
        | (refine wpList_store_fam sizeT rfl (.tmp _) (.tmp _) rfl _ _ _ rfl rfl _ _ (famAt.new _ _ _ _) ?_)
        | (go_at_call 62; refine (isItem_c x n _).mono ?_; rw [HX.out]; rintro e w2 ⟨rfl, rfl⟩))
      go_ret2
      exact ⟨_, rfl, own_nil _ _ _, HB1.out⟩
    · have HX := hide hx
      have hx2 : 0 ≤ x ∧ x < n := by simpa using hx
      rw [ptL_yes (hip.trans hx), hip, hx, ← where_end hok x.toNat]
      obtain ⟨i, rfl⟩ := Int.eq_ofNat_of_zero_le hx2.1
      rw [Int.toNat_natCast]
      clear hip hx hok hx2
      go_enter Tryd.func28, Tryd.ntmps28
      go_wp2_with (first
        | (go_at_call 47; refine (familyOf_c n v l _ HL.out hlen).mono ?_; rw [famVal_yes n l HK.out]; rintro e w1 ⟨rfl, hb1⟩; have hz1 := hb1.size; rw [HZ.out] at hz1; have HH := hide ((famAt.new 55 w1 0 noSet).row n (marksTo l l.length)); have hg0 := HH.out.get0; have HB1 := hide (bl_row ((H0.out.trans (hb1.mono (by rw [HZ.out]; omega))).alloc (by omega) (.cells (fam 0 noSet) 55)) (show w.heap.size ≤ w1.heap.size by omega) (fam n (marksTo l l.length))); clear hb1)
        | (refine wpList_alloc_fam zeroT rfl rfl _ (by first | (simp only [World.size_alloc]; rfl) | rfl) ?_)
        | (refine wpList_store_fam sizeT rfl (.tmp _) (.tmp _) rfl _ _ _ rfl rfl _ _ (famAt.new _ _ _ _) ?_)
        | (go_at_call 62; refine (isItem_c (i : Int) n _).mono ?_; rw [HX.out]; rintro e w2 ⟨rfl, rfl⟩)
        | (refine wpList_load_fam rowT sizeT rfl (.tmp _) rfl _ rfl n _ HH.out ?_)
        | (go_at_call 63; refine (pathsTo_c n (marksTo l l.length) i _ (by omega) (by omega) (HT.out.belowB HT.out HB1.out (Nat.le_refl _))).mono ?_; rintro e w3 ⟨v3, rfl, ho3, hb3⟩; have HB3 := hide (HB1.out.trans (hb3.mono (by simp [World.setRow]; omega))); have HO3 := hide (show own 3 w3 w.heap.size v3 _ from ho3.mono (by simp [World.setRow]; omega)); clear ho3 hb3))
      go_ret2
      exact ⟨_, rfl, HO3.out, HB3.out⟩

set_option maxHeartbeats 1000000 in
theorem specPathsTo_c (n : Int) (v : Value) (l : List Int) (x : Int) (w : World) (hl : ints w.heap.size w v l) (hlen : l.length < 1000000000) (_ : tab w) :
    Calls Tryd.prog 27 #[.agg #[.int .i64 n, v], .int .i64 x] w fun e w' => ∃ v', e = .returned (.tuple #[v', .bool (ptB n l x)]) ∧ own 3 w' w.heap.size v' (ptL n l x) ∧ Below w.heap.size w w' := by
  have HL := hide ((hl.alloc (.cells #[.int .i64 n, v] 29)).mono (show w.heap.size ≤ (w.alloc (.cells #[.int .i64 n, v] 29)).heap.size by simp))
  have H0 := hide ((Below.refl w.heap.size w).alloc (Nat.le_refl _) (.cells #[.int .i64 n, v] 29))
  have HS0 := hide (hp_last w (.cells #[.int .i64 n, v] 29))
  have HZ := hide (show (w.alloc (.cells #[.int .i64 n, v] 29)).heap.size = w.heap.size + 1 by simp)
  have hc0 := cells_at0 HS0.out
  have hc1 := cells_at1 HS0.out
  clear hl
  cases hok : okSp n l
  · have HG := hide (show goodB n l = false by rw [← ok_good]; exact hok)
    have hip : ptB n l x = false := by simp [ptB, hok]
    rw [ptL_no hip, hip]
    clear hok hip
    go_enter Tryd.func27, Tryd.ntmps27
    go_wp2_with (go_at_call 43; refine (spGood_c n v l _ HL.out hlen).mono ?_; rw [HG.out]; rintro e w1 ⟨rfl, hb1⟩; have HB1 := hide (H0.out.trans (hb1.mono (by rw [HZ.out]; omega))); clear hb1)
    go_ret2
    exact ⟨_, rfl, own_nil _ _ _, HB1.out⟩
  · have HG := hide (show goodB n l = true by rw [← ok_good]; exact hok)
    have hn := okSp_n hok
    have hip : ptB n l x = decide (0 ≤ x ∧ x < n) := by simp [ptB, hok]
    cases hx : decide (0 ≤ x ∧ x < n)
    · have HX := hide (show decide (0 ≤ x ∧ x ≤ n - 1) = false by rw [decide_eq_false_iff_not] at hx ⊢; omega)
      rw [ptL_no (hip.trans hx), hip, hx]
      clear hip hx hok
      go_enter Tryd.func27, Tryd.ntmps27
      go_wp2_with (first
        | (go_at_call 43; refine (spGood_c n v l _ HL.out hlen).mono ?_; rw [HG.out]; rintro e w1 ⟨rfl, hb1⟩; have HS1 := hide ((hb1.block w.heap.size (by rw [HZ.out]; omega)).trans HS0.out); have c0 := cells_at0 HS1.out; have c1 := cells_at1 HS1.out; have HB1 := hide (H0.out.trans (hb1.mono (by rw [HZ.out]; omega))); clear hb1)
        | (go_at_call 60; refine (l1In_c _ _ _ _).mono ?_; rw [HX.out]; rintro e w2 ⟨rfl, rfl⟩))
      go_ret2
      exact ⟨_, rfl, own_nil _ _ _, HB1.out⟩
    · have hx2 : 0 ≤ x ∧ x < n := by simpa using hx
      have HX := hide (show decide (0 ≤ x ∧ x ≤ n - 1) = true by rw [decide_eq_true_iff]; omega)
      rw [ptL_yes (hip.trans hx), hip, hx, ← paTo_paTo (pathSp l) (fun s => endSp l s == x.toNat) l]
      have HI := hide (okSp_inc hok)
      have HR := hide (okSp_r128 hok)
      have hl128 := okSp_len hok
      have HAT := hide (paTo_nth (pathSp l) l (okSp_r128 hok))
      have hpl := paTo_len (pathSp l) l l.length
      obtain ⟨t, rfl⟩ := Int.eq_ofNat_of_zero_le hx2.1
      rw [Int.toNat_natCast]
      clear hok hip hx
      generalize hP : paTo (pathSp l) l l.length = P at HAT hpl
      have HP := hide hP
      clear hP
      go_enter Tryd.func27, Tryd.ntmps27
      go_wp2_with (first
        | (go_at_call 43; refine (spGood_c n v l _ HL.out hlen).mono ?_; rw [HG.out]; rintro e w1 ⟨rfl, hb1⟩; have HS1 := hide ((hb1.block w.heap.size (by rw [HZ.out]; omega)).trans HS0.out); have c0 := cells_at0 HS1.out; have c1 := cells_at1 HS1.out; have HL1 := hide ((HL.out.below hb1 (Nat.le_refl _)).mono hb1.size); have hz1 := hb1.size; rw [HZ.out] at hz1; have HB1 := hide (H0.out.trans (hb1.mono (by rw [HZ.out]; omega))); clear hb1)
        | (go_at_call 60; refine (l1In_c _ _ _ _).mono ?_; rw [HX.out]; rintro e w2 ⟨rfl, rfl⟩)
        | (go_at_call 61; refine (paAll_c n v l _ HL1.out HI.out (by omega) HR.out).mono ?_; rw [HP.out]; rintro e w2 ⟨v2, rfl, ho2, hb2⟩; have HI2 := hide ho2.ints; have hz2 := hb2.size; have HS2 := hide ((hb2.block w.heap.size (by omega)).trans HS1.out); have HL2 := hide ((HL1.out.below hb2 (Nat.le_refl _)).mono hb2.size); have HB2 := hide (HB1.out.trans (hb2.mono (by omega))); clear ho2 hb2)
        | (refine wpList_len sliceT rfl (.tmp _) rfl _ rfl w2.heap.size P HI2.out ?_))
      go_loopw [6, 23] (fun o i wr => ∃ k : Nat, k ≤ P.length ∧ i = .int .i64 (k : Int) ∧ Hid (own 3 wr w2.heap.size o (paTo (fun a => endSp l a == t) P k)) ∧ Hid (Below w2.heap.size w2 wr)) (fun _ i _ => P.length - (intOf i).toNat)
      case atStart => exact ⟨0, by omega, rfl, own_nil _ _ _, Below.refl _ _⟩
      case round =>
        obtain ⟨j, hj, rfl, HO, HB⟩ := hrel
        have hsz := HB.out.size
        have HPW := hide (HI2.out.below HB.out (Nat.le_refl _))
        have HSW := hide ((HB.out.block w.heap.size (by omega)).trans HS2.out)
        have d0 := cells_at0 HSW.out
        have d1 := cells_at1 HSW.out
        have HLW := hide ((HL2.out.below HB.out (Nat.le_refl _)).mono HB.out.size)
        have hlen2 := paTo_len (fun a => endSp l a == t) P j
        clear hc0 hc1 c0 c1
        by_cases hlt : j < P.length
        · have hx := HAT.out j hlt
          have HN := hide (show paTo (fun a => endSp l a == t) P (j + 1) = if (endSp l (nth P j) == t) = true then paTo (fun a => endSp l a == t) P j ++ [P[j]?.getD 0] else paTo (fun a => endSp l a == t) P j from rfl)
          generalize paTo (fun a => endSp l a == t) P j = A at HO HN hlen2
          generalize nth P j = y at HN hx
          obtain ⟨hx1, hx2, hx3⟩ := hx
          have HXX := hide hx1
          have HPP := hide hx3
          clear hx1 hx3
          generalize hE : endSp l y = E at HN
          have HE := hide hE
          clear hE
          cases hp : (E == t)
          · have HQ := hide hp
            have hp2 : ((E : Int) == (t : Int)) = false := by
              rw [Bool.eq_false_iff] at hp ⊢
              simp at hp ⊢; omega
            clear hp
            go_wp2_with (first
              | (refine wpList_at sliceT intS rfl (.tmp _) (.tmp _) rfl _ rfl j rfl w2.heap.size P HPW.out hlt ?_; intro ad hcell hblk; rw [HXX.out] at hcell)
              | (go_at_call 56; refine (paEnd_c n v l y _ HLW.out HI.out hlen hx2 HPP.out).mono ?_; rw [HE.out]; rintro e w3 ⟨rfl, hb3⟩; have HB3 := hide (HB.out.trans (hb3.mono hsz)); have HO3 := hide (HO.out.kept hb3); clear hb3))
            go_roundw
            case rel => exact ⟨j + 1, by omega, by go_num, by rw [HN.out, HQ.out]; exact HO3.out, HB3.out⟩
            case measure => simp [intOf]; omega
          · have HQ := hide hp
            have hp2 : ((E : Int) == (t : Int)) = true := by
              simp at hp ⊢; omega
            clear hp
            go_wp2_with (first
              | (refine wpList_at sliceT intS rfl (.tmp _) (.tmp _) rfl _ rfl j rfl w2.heap.size P HPW.out hlt ?_; intro ad hcell hblk; rw [HXX.out] at hcell)
              | (go_at_call 56; refine (paEnd_c n v l y _ HLW.out HI.out hlen hx2 HPP.out).mono ?_; rw [HE.out]; rintro e w3 ⟨rfl, hb3⟩; have HB3 := hide (HB.out.trans (hb3.mono hsz)); have HO3 := hide (HO.out.kept hb3); have hz3 := hb3.size; clear hb3)
              | (at_builtin; refine wpList_append1 sliceT intI rfl _ _ rfl w2.heap.size _ _ rfl (HO3.out.alloc _) _ (y : Int) rfl (by simp [go_sem]) (by simp; omega) (by omega) ?_; intro v4 w4 ho4 hb4; have HO4 := hide ho4; have HB4 := hide ((HB3.out.alloc (by omega) _).trans hb4); clear ho4 hb4))
            go_roundw
            case rel => exact ⟨j + 1, by omega, by go_num, by rw [HN.out, HQ.out, HXX.out]; exact HO4.out, HB4.out⟩
            case measure => simp [intOf]; omega
        · have HJ := hide (show j = P.length by omega)
          have hlt' : ¬ ((j : Int) < (P.length : Int)) := by omega
          clear hlen2
          go_wp2
          go_ret2
          exact ⟨_, rfl, by rw [← HJ.out]; exact HO.out.mono (by omega), HB2.out.trans (HB.out.mono (by omega))⟩
end Go.Proofs.YtagahoaogfogkaaDoor
