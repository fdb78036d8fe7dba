/- Contracts: CostAt, both. -/
import Derived.Test.YtndnkefbilhgnaaDoorKi
namespace Go.Proofs.YtndnkefbilhgnaaDoor
open Go.RowKit
set_option maxRecDepth 100000
set_option linter.unusedSimpArgs false
theorem ent_hasK : enters Tryd.prog 64 := enters_of Tryd.func64 (by kernel_rfl) (by kernel_rfl)
def caB (n : Int) (l : List Int) (T : List Tsk) (x i : Int) : Bool := okOne n l x && (taB T n && (decide (0 ≤ i ∧ i < n) && (outerOf (marksTo l l.length) n.toNat x.toNat).testBit i.toNat))
def caR (n : Int) (l : List Int) (T : List Tsk) (x i : Int) : Int := if caB n l T x i then coT T x.toNat i.toNat else 0
theorem caR_no {n : Int} {l : List Int} {T : List Tsk} {x i : Int} (h : caB n l T x i = false) : caR n l T x i = 0 := by unfold caR; rw [h]; rfl
theorem caR_yes {n : Int} {l : List Int} {T : List Tsk} {x i : Int} (h : caB n l T x i = true) : caR n l T x i = coT T x.toNat i.toNat := by unfold caR; rw [h]; rfl
theorem okOne_lt {n : Int} {l : List Int} {x : Int} (h : okOne n l x = true) : 0 ≤ x ∧ x < 128 := by
  have h1 := okSet_in (okOne_set h)
  have h2 := low_lt n.toNat (by have := okSp_n (okOne_sp h); omega)
  omega
attribute [local irreducible] p2 low memB risB
set_option maxHeartbeats 2000000 in
theorem implCostAt_c (n : Int) (v : Value) (l : List Int) (u : Value) (T : List Tsk) (x i : Int) (w : World) (hl : ints w.heap.size w v l) (hlen : l.length < 1000000000) (ht : tks w.heap.size w u T) (hs : T.length < 1000000000) (hT : tab w) :
    Calls Tryd.prog 19 #[.agg #[.int .i64 n, v], u, .int .i64 x, .int .i64 i] w fun e w' => e = .returned (.tuple #[.int .i64 (caR n l T x i), .bool (caB n l T x i)]) ∧ Below w.heap.size w w' := by
  have HL := hide ((hl.alloc (.cells #[.int .i64 n, v] 30)).mono (show w.heap.size ≤ (w.alloc (.cells #[.int .i64 n, v] 30)).heap.size by simp))
  have H0 := hide ((Below.refl w.heap.size w).alloc (Nat.le_refl _) (.cells #[.int .i64 n, v] 30))
  have HZ := hide (show (w.alloc (.cells #[.int .i64 n, v] 30)).heap.size = w.heap.size + 1 by simp)
  have HTK := hide ht
  have HT := hide hT
  have HV := hide (show caB n l T x i = (okOne n l x && (taB T n && (decide (0 ≤ i ∧ i < n) && (outerOf (marksTo l l.length) n.toNat x.toNat).testBit i.toNat))) from rfl)
  have HNO := hide (fun h => caR_no (n := n) (l := l) (T := T) (x := x) (i := i) h)
  have HYES := hide (fun h => caR_yes (n := n) (l := l) (T := T) (x := x) (i := i) h)
  clear hl ht hT
  generalize caB n l T x i = ok at *
  generalize caR n l T x i = r at *
  cases hok : okOne n l x
  · have HK := hide hok
    rw [hok, Bool.false_and] at HV
    clear hok
    go_enter Tryd.func19, Tryd.ntmps19
    go_wp2_with (first
      | (go_at_call 60; refine (familyAndOwnSet_c n v l x _ HL.out hlen).mono ?_; rw [famVal3_no n l x HK.out]; rintro e w1 ⟨rfl, hb⟩; have hz := hb.size; rw [HZ.out] at hz; have HB := hide (bl_row ((H0.out.trans (hb.mono (by rw [HZ.out]; omega))).alloc (by omega) (.cells (fam 0 noSet) 73)) (show w.heap.size ≤ w1.heap.size by omega) (fam 0 noSet)); clear hb)
      | (refine wpList_alloc_fam zeroT rfl rfl _ (by first | (simp only [World.size_alloc]; rfl) | rfl) ?_)
      | (refine wpList_store_fam sizeT rfl (.tmp _) (.tmp _) rfl _ _ _ rfl rfl _ _ (famAt.new _ _ _ _) ?_))
    go_ret2
    exact ⟨by rw [HV.out, HNO.out HV.out]; rfl, HB.out⟩
  · obtain ⟨hx0, hx1⟩ := okOne_lt hok
    obtain ⟨hn1, hn7⟩ := okSp_n (okOne_sp hok)
    obtain ⟨s, rfl⟩ := Int.eq_ofNat_of_zero_le hx0
    obtain ⟨N, rfl⟩ := Int.eq_ofNat_of_zero_le (show 0 ≤ n by omega)
    have hs128 : s < 128 := by omega
    have HK := hide hok
    rw [hok, Bool.true_and, Int.toNat_natCast, Int.toNat_natCast] at HV
    rw [Int.toNat_natCast] at HYES
    have HTA := hide (fun w1 (h : Below w.heap.size w w1) => implAreTasks_c u T (N : Int) w1 (HTK.out.to h) hs)
    have HTB := hide (fun h => taB_is (T := T) (n := (N : Int)) h)
    clear hok hx0 hx1
    have HFV := hide (famVal3_yes (N : Int) l (s : Int) HK.out)
    generalize marksTo l l.length = F at HV HFV
    have HOF := hide (fun w1 => by have := outerFringe_c (N : Int) F (s : Int) w1 (by omega) (by omega) (by omega) (by omega); rw [Int.toNat_natCast, Int.toNat_natCast] at this; exact this)
    have ho128 := outer_lt F N s (by omega)
    generalize outerOf F N s = O at HV HOF ho128
    cases hta : taB T (N : Int)
    · rw [hta, Bool.false_and] at HV
      rw [hta] at HTA
      clear hta
      go_enter Tryd.func19, Tryd.ntmps19
      go_wp2_with (first
        | (go_at_call 60; refine (familyAndOwnSet_c (N : Int) v l (s : Int) _ HL.out hlen).mono ?_; rw [HFV.out]; rintro e w1 ⟨rfl, hb⟩; have hz := hb.size; rw [HZ.out] at hz; have hh1 := (famAt.new 73 w1 0 noSet).row (N : Int) F; have HH1 := hide hh1; have c0 := hh1.get0; have HB := hide (bl_row ((H0.out.trans (hb.mono (by rw [HZ.out]; omega))).alloc (by omega) (.cells (fam 0 noSet) 73)) (show w.heap.size ≤ w1.heap.size by omega) (fam (N : Int) F)); clear hb hh1)
        | (refine wpList_alloc_fam zeroT rfl rfl _ (by first | (simp only [World.size_alloc]; rfl) | rfl) ?_)
        | (refine wpList_store_fam sizeT rfl (.tmp _) (.tmp _) rfl _ _ _ rfl rfl _ _ (famAt.new _ _ _ _) ?_)
        | (go_at_call 61; refine (HTA.out _ HB.out).mono ?_; rintro e w3 ⟨rfl, hb3⟩; have hh3 := HH1.out.below hb3 HH1.out.lt; have HH3 := hide hh3; have c03 := hh3.get0; have HB3 := hide (HB.out.trans (hb3.mono HB.out.size)); clear hb3 hh3)
        )
      go_ret2
      exact ⟨by rw [HV.out, HNO.out HV.out]; rfl, HB3.out⟩
    · have HTAB := hide hta
      have htl := (taB_is hta).2.1
      rw [hta, Bool.true_and] at HV
      rw [hta] at HTA
      clear hta
      cases hit : decide (0 ≤ i ∧ i < (N : Int))
      · have HIT := hide hit
        rw [hit, Bool.false_and] at HV
        clear hit
        go_enter Tryd.func19, Tryd.ntmps19
        go_wp2_with (first
          | (go_at_call 60; refine (familyAndOwnSet_c (N : Int) v l (s : Int) _ HL.out hlen).mono ?_; rw [HFV.out]; rintro e w1 ⟨rfl, hb⟩; have hz := hb.size; rw [HZ.out] at hz; have hh1 := (famAt.new 73 w1 0 noSet).row (N : Int) F; have HH1 := hide hh1; have c0 := hh1.get0; have HB := hide (bl_row ((H0.out.trans (hb.mono (by rw [HZ.out]; omega))).alloc (by omega) (.cells (fam 0 noSet) 73)) (show w.heap.size ≤ w1.heap.size by omega) (fam (N : Int) F)); clear hb hh1)
          | (refine wpList_alloc_fam zeroT rfl rfl _ (by first | (simp only [World.size_alloc]; rfl) | rfl) ?_)
          | (refine wpList_store_fam sizeT rfl (.tmp _) (.tmp _) rfl _ _ _ rfl rfl _ _ (famAt.new _ _ _ _) ?_)
          | (go_at_call 61; refine (HTA.out _ HB.out).mono ?_; rintro e w3 ⟨rfl, hb3⟩; have hh3 := HH1.out.below hb3 HH1.out.lt; have HH3 := hide hh3; have c03 := hh3.get0; have HB3 := hide (HB.out.trans (hb3.mono HB.out.size)); clear hb3 hh3)
          | (go_at_call 62; refine (isItem_c _ _ _).mono ?_; rw [HIT.out]; rintro e w4 ⟨rfl, rfl⟩))
        go_ret2
        exact ⟨by rw [HV.out, HNO.out HV.out]; rfl, HB3.out⟩
      · have HIT := hide hit
        have hir := of_decide_eq_true hit
        obtain ⟨j, rfl⟩ := Int.eq_ofNat_of_zero_le hir.1
        rw [hit, Bool.true_and, Int.toNat_natCast] at HV
        rw [Int.toNat_natCast] at HYES
        clear hit
        have HHS := hide (fun w1 => by have := has_c (O : Int) (j : Int) w1 (by omega) (by omega) (by omega) (by omega); rw [Int.toNat_natCast, Int.toNat_natCast] at this; exact this)
        cases hbit : O.testBit j
        · rw [hbit] at HV HHS
          clear hbit
          go_enter Tryd.func19, Tryd.ntmps19
          go_wp2_with (first
            | (go_at_call 60; refine (familyAndOwnSet_c (N : Int) v l (s : Int) _ HL.out hlen).mono ?_; rw [HFV.out]; rintro e w1 ⟨rfl, hb⟩; have hz := hb.size; rw [HZ.out] at hz; have hh1 := (famAt.new 73 w1 0 noSet).row (N : Int) F; have HH1 := hide hh1; have c0 := hh1.get0; have HB := hide (bl_row ((H0.out.trans (hb.mono (by rw [HZ.out]; omega))).alloc (by omega) (.cells (fam 0 noSet) 73)) (show w.heap.size ≤ w1.heap.size by omega) (fam (N : Int) F)); clear hb hh1)
            | (refine wpList_alloc_fam zeroT rfl rfl _ (by first | (simp only [World.size_alloc]; rfl) | rfl) ?_)
            | (refine wpList_store_fam sizeT rfl (.tmp _) (.tmp _) rfl _ _ _ rfl rfl _ _ (famAt.new _ _ _ _) ?_)
            | (refine wpList_load_fam rowT sizeT rfl (.tmp _) rfl _ rfl _ _ HH3.out ?_)
            | (go_at_call 61; refine (HTA.out _ HB.out).mono ?_; rintro e w3 ⟨rfl, hb3⟩; have hh3 := HH1.out.below hb3 HH1.out.lt; have HH3 := hide hh3; have c03 := hh3.get0; have HB3 := hide (HB.out.trans (hb3.mono HB.out.size)); clear hb3 hh3)
            | (go_at_call 62; refine (isItem_c _ _ _).mono ?_; rw [HIT.out]; rintro e w4 ⟨rfl, rfl⟩)
            | (go_at_call 63; refine (HOF.out _).mono ?_; rintro e w5 ⟨rfl, hb5⟩; have HB5 := hide (HB3.out.trans (hb5.mono HB3.out.size)); clear hb5)
            | (go_at_call 64; refine (HHS.out _).mono ?_; rintro e w6 ⟨rfl, rfl⟩))
          go_ret2
          exact ⟨by rw [HV.out, HNO.out HV.out]; rfl, HB5.out⟩
        · rw [hbit] at HV HHS
          clear hbit
          go_enter Tryd.func19, Tryd.ntmps19
          go_wp2_with (first
            | (go_at_call 60; refine (familyAndOwnSet_c (N : Int) v l (s : Int) _ HL.out hlen).mono ?_; rw [HFV.out]; rintro e w1 ⟨rfl, hb⟩; have hz := hb.size; rw [HZ.out] at hz; have hh1 := (famAt.new 73 w1 0 noSet).row (N : Int) F; have HH1 := hide hh1; have c0 := hh1.get0; have HB := hide (bl_row ((H0.out.trans (hb.mono (by rw [HZ.out]; omega))).alloc (by omega) (.cells (fam 0 noSet) 73)) (show w.heap.size ≤ w1.heap.size by omega) (fam (N : Int) F)); clear hb hh1)
            | (refine wpList_alloc_fam zeroT rfl rfl _ (by first | (simp only [World.size_alloc]; rfl) | rfl) ?_)
            | (refine wpList_store_fam sizeT rfl (.tmp _) (.tmp _) rfl _ _ _ rfl rfl _ _ (famAt.new _ _ _ _) ?_)
            | (refine wpList_load_fam rowT sizeT rfl (.tmp _) rfl _ rfl _ _ HH3.out ?_)
            | (go_at_call 61; refine (HTA.out _ HB.out).mono ?_; rintro e w3 ⟨rfl, hb3⟩; have hh3 := HH1.out.below hb3 HH1.out.lt; have HH3 := hide hh3; have c03 := hh3.get0; have HB3 := hide (HB.out.trans (hb3.mono HB.out.size)); clear hb3 hh3)
            | (go_at_call 62; refine (isItem_c _ _ _).mono ?_; rw [HIT.out]; rintro e w4 ⟨rfl, rfl⟩)
            | (go_at_call 63; refine (HOF.out _).mono ?_; rintro e w5 ⟨rfl, hb5⟩; have HB5 := hide (HB3.out.trans (hb5.mono HB3.out.size)); clear hb5)
            | (go_at_call 64; refine (HHS.out _).mono ?_; rintro e w6 ⟨rfl, rfl⟩)
            | (go_at_call 65; refine (costsOf_c u T (N : Int) _ HTAB.out (HTK.out.to HB5.out) (HT.out.below HB5.out)).mono ?_; rintro e w7 ⟨g1, g2, rfl, hq1, hq2, hq3, hq4, hq5, hq6, hb7⟩; have HB7 := hide (HB5.out.trans (hb7.mono HB5.out.size)); have HCC := hide (And.intro hq5 hq6); clear hb7 hq5 hq6)
            | (go_at_call 106; refine (costs1_c u T (N : Int) s j g1 g2 _ HTAB.out (HTK.out.to HB7.out) hs128 (by omega) (HT.out.below HB7.out) HCC.out.1 hq3 HCC.out.2 hq4).mono ?_; rintro e w8 ⟨rfl, hb8⟩; have HB8 := hide (HB7.out.trans (hb8.mono HB7.out.size)); clear hb8))
          go_ret2
          exact ⟨by rw [HV.out, HYES.out HV.out]; rfl, HB8.out⟩
end Go.Proofs.YtndnkefbilhgnaaDoor
