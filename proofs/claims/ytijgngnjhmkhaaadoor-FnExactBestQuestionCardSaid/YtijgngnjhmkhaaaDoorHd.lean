/- Contracts: what is left, the program's and the specification's: SetsLeft, CountLeft, KnownOf. -/
import Derived.Test.YtijgngnjhmkhaaaDoorHb
import Derived.Test.YtijgngnjhmkhaaaDoorHc
namespace Go.Proofs.YtijgngnjhmkhaaaDoor
open Go.RowKit
set_option maxRecDepth 100000
set_option linter.unusedSimpArgs false
attribute [local irreducible] p2 low memB risB
theorem famL_no {n : Int} {l : List Int} {y z : Int} (h : asB n l y z = false) : famL n l y z = .tuple #[.agg (fam 0 noSet), .bool false] := by unfold famL lfN lfM; rw [h]; rfl
theorem famL_yes {n : Int} {l : List Int} {y z : Int} (h : asB n l y z = true) : famL n l y z = .tuple #[.agg (fam n (leF (marksTo l l.length) y.toNat z.toNat)), .bool true] := by unfold famL lfN lfM; rw [h]; rfl
set_option maxHeartbeats 4000000 in
theorem familyLeft_c (n : Int) (v : Value) (l : List Int) (y z : Int) (w : World) (hl : ints w.heap.size w v l) (hlen : l.length < 1000000000) :
    Calls Tryd.prog 51 #[.agg #[.int .i64 n, v], .int .i64 y, .int .i64 z] w fun e w' => e = .returned (famL n l y z) ∧ Below w.heap.size w w' := by
  have hf1 : famAt 46 ((w.alloc (.cells #[.int .i64 n, v] 28)).alloc (.cells (fam 0 noSet) 46)) (w.heap.size + 1) 0 noSet := by
    have := famAt.new 46 (w.alloc (.cells #[.int .i64 n, v] 28)) 0 noSet
    simpa using this
  have HB0 := hide (((Below.refl w.heap.size w).alloc (Nat.le_refl _) (.cells #[.int .i64 n, v] 28)).alloc (by simp) (.cells (fam 0 noSet) 46))
  have HL := hide (((hl.alloc (.cells #[.int .i64 n, v] 28)).alloc (.cells (fam 0 noSet) 46)).mono (show w.heap.size ≤ ((w.alloc (.cells #[.int .i64 n, v] 28)).alloc (.cells (fam 0 noSet) 46)).heap.size by simp <;> omega))
  have HF1 := hide hf1
  clear hl hf1
  cases hok : okSp n l
  · have HV := hide (famVal_no n l hok)
    have HNO := hide (famL_no (n := n) (l := l) (y := y) (z := z) (asB_no (by unfold asOk; rw [hok]; rfl)))
    clear hok
    rw [HNO.out]
    go_enter Tryd.func51, Tryd.ntmps51
    go_wp2_with (first
      | (refine wpList_alloc_fam zeroT rfl rfl _ (by first | (simp only [World.size_alloc]; rfl) | rfl) ?_)
      | (go_at_call 47; refine (familyOf_c n v l _ HL.out hlen).mono ?_; rw [HV.out]; rintro e w1 ⟨rfl, hb1⟩; have hz1 := hb1.size; simp at hz1; have hf2 := (HF1.out.below hb1 (by simp)).alloc (.cells (fam 0 noSet) 46); have HG2 := hide (hf2.rowO w1.heap.size (by omega) (fam 0 noSet)); have HB1 := hide (bl_row ((HB0.out.trans (hb1.mono (by simp <;> omega))).alloc (by omega) (.cells (fam 0 noSet) 46)) (show w.heap.size ≤ w1.heap.size by omega) (fam 0 noSet)); clear hb1 hf2)
      | (refine wpList_store_fam sizeT rfl (.tmp 8) (.tmp _) rfl _ _ _ rfl rfl _ _ (famAt.new _ _ _ _) ?_)
      | (refine wpList_build_fam0 built0 rfl rfl ?_)
      | (refine wpList_store_fam sizeT rfl (.tmp 6) (.tmp _) rfl _ 0 noSet rfl rfl _ _ HG2.out ?_))
    exact bodyPost_ret (v := .tuple #[.agg (fam 0 noSet), .bool false]) (results_fam2 (p := 6) (q := 7) rowT sizeT rfl _ _ (w.heap.size + 1) rfl _ _ (HG2.out.row _ _)) rfl ⟨rfl, bl_row HB1.out (by omega) _⟩
  · have HV := hide (famVal_yes n l hok)
    obtain ⟨hn1, hn2⟩ := okSp_n hok
    obtain ⟨m, rfl⟩ := Int.eq_ofNat_of_zero_le (show 0 ≤ n by omega)
    have hm7 : m ≤ 7 := by omega
    have HLO := hide (fun x hx => show x ≤ low m from by have := marks_low hok x hx; rwa [Int.toNat_natCast] at this)
    have HAB := hide (show asB (m : Int) l y z = (ansB m y z && decide (0 < (lfL l y.toNat z.toNat).length)) by unfold asB asOk; rw [hok, Int.toNat_natCast]; rfl)
    have HLF := hide (lf_sets hok)
    have hlo := low_lt m hm7
    clear hok
    generalize hFm : marksTo l l.length = F at *
    have HFM := hide hFm
    clear hFm
    have HAN := hide (fun w1 => areAnswers_c m F y z w1 hm7)
    cases ha : ansB m y z
    · have HNO := hide (famL_no (n := (m : Int)) (l := l) (y := y) (z := z) (by rw [HAB.out, ha]; rfl))
      rw [ha] at HAN
      clear ha
      rw [HNO.out]
      go_enter Tryd.func51, Tryd.ntmps51
      go_wp2_with (first
        | (refine wpList_alloc_fam zeroT rfl rfl _ (by first | (simp only [World.size_alloc]; rfl) | rfl) ?_)
        | (go_at_call 47; refine (familyOf_c _ v l _ HL.out hlen).mono ?_; rw [HV.out]; rintro e w1 ⟨rfl, hb1⟩; have hz1 := hb1.size; simp at hz1; have hf2 := (HF1.out.below hb1 (by simp)).alloc (.cells (fam 0 noSet) 46); have HG2 := hide (hf2.rowO w1.heap.size (by omega) (fam (m : Int) F)); have HH2 := hide ((famAt.new 46 w1 0 noSet).row (m : Int) F); have HZ2 := hide (show ((w1.alloc (.cells (fam 0 noSet) 46)).setRow w1.heap.size (fam (m : Int) F)).heap.size = w1.heap.size + 1 by simp [World.setRow]); have HB1 := hide (bl_row ((HB0.out.trans (hb1.mono (by simp <;> omega))).alloc (by omega) (.cells (fam 0 noSet) 46)) (show w.heap.size ≤ w1.heap.size by omega) (fam (m : Int) F)); clear hb1 hf2)
        | (refine wpList_store_fam sizeT rfl (.tmp 8) (.tmp _) rfl _ _ _ rfl rfl _ _ (famAt.new _ _ _ _) ?_)
        | (refine wpList_load_fam rowT sizeT rfl (.tmp 8) rfl _ rfl (m : Int) F HH2.out ?_)
        | (go_at_call 80; refine (HAN.out _).mono ?_; rintro e w3 ⟨rfl, hb3⟩; rw [HZ2.out] at hb3; have HG3 := hide (HG2.out.below hb3 (by omega)); have HB3 := hide (HB1.out.trans (hb3.mono (by omega))); clear hb3)
        | (refine wpList_build_fam0 built0 rfl rfl ?_)
        | (refine wpList_store_fam sizeT rfl (.tmp 6) (.tmp _) rfl _ 0 noSet rfl rfl _ _ HG3.out ?_))
      exact bodyPost_ret (v := .tuple #[.agg (fam 0 noSet), .bool false]) (results_fam2 (p := 6) (q := 7) rowT sizeT rfl _ _ (w.heap.size + 1) rfl _ _ (HG3.out.row _ _)) rfl ⟨rfl, bl_row HB3.out (by omega) _⟩
    · obtain ⟨hy1, hz1, _⟩ := ansB_in ha
      obtain ⟨y, rfl⟩ := Int.eq_ofNat_of_zero_le hy1.1
      obtain ⟨z, rfl⟩ := Int.eq_ofNat_of_zero_le hz1.1
      have hy8 : y < 128 := by omega
      have hz8 : z < 128 := by omega
      rw [ha] at HAN
      rw [Int.toNat_natCast, Int.toNat_natCast] at HAB
      have HLB := hide (fun w1 => leftBy_c m F y z w1 hm7 HLO.out hy8 hz8)
      have hcl : cntS (leF F y z) = (lfL l y z).length := by rw [HLF.out y z]; rfl
      by_cases hc : cntS (leF F y z) = 0
      · have HNO := hide (famL_no (n := (m : Int)) (l := l) (y := y) (z := z) (by rw [HAB.out, ha, ← hcl, hc]; rfl))
        have HCN := hide (fun w1 => count_c (m : Int) (leF F y z) w1)
        rw [hc] at HCN
        clear ha hcl hc hy1 hz1
        rw [HNO.out]
        generalize leF F y z = G at *
        go_enter Tryd.func51, Tryd.ntmps51
        go_wp2_with (first
          | (refine wpList_alloc_fam zeroT rfl rfl _ (by first | (simp only [World.size_alloc]; rfl) | rfl) ?_)
          | (go_at_call 47; refine (familyOf_c _ v l _ HL.out hlen).mono ?_; rw [HV.out]; rintro e w1 ⟨rfl, hb1⟩; have hz1 := hb1.size; simp at hz1; have hf2 := (HF1.out.below hb1 (by simp)).alloc (.cells (fam 0 noSet) 46); have HG2 := hide (hf2.rowO w1.heap.size (by omega) (fam (m : Int) F)); have HH2 := hide ((famAt.new 46 w1 0 noSet).row (m : Int) F); have HZ2 := hide (show ((w1.alloc (.cells (fam 0 noSet) 46)).setRow w1.heap.size (fam (m : Int) F)).heap.size = w1.heap.size + 1 by simp [World.setRow]); have HB1 := hide (bl_row ((HB0.out.trans (hb1.mono (by simp <;> omega))).alloc (by omega) (.cells (fam 0 noSet) 46)) (show w.heap.size ≤ w1.heap.size by omega) (fam (m : Int) F)); clear hb1 hf2)
          | (refine wpList_store_fam sizeT rfl (.tmp 8) (.tmp _) rfl w1.heap.size _ _ rfl rfl _ _ (famAt.new _ _ _ _) ?_)
          | (refine wpList_load_fam rowT sizeT rfl (.tmp 8) rfl _ rfl (m : Int) F (by first | exact HH3.out | exact HH2.out) ?_)
          | (go_at_call 80; refine (HAN.out _).mono ?_; rintro e w3 ⟨rfl, hb3⟩; rw [HZ2.out] at hb3; have hz3 := hb3.size; rw [HZ2.out] at hz3; have HG3 := hide (HG2.out.below hb3 (by omega)); have HH3 := hide (HH2.out.below hb3 (by omega)); have HB3 := hide (HB1.out.trans (hb3.mono (by omega))); clear hb3)
          | (go_at_call 81; refine (HLB.out _).mono ?_; rintro e w4 ⟨rfl, hb4⟩; have hz4 := hb4.size; have HG4 := hide (((HG3.out.below hb4 (by omega)).alloc (.cells (fam 0 noSet) 46)).rowO w4.heap.size (by omega) (fam (m : Int) G)); have HK4 := hide ((famAt.new 46 w4 0 noSet).row (m : Int) G); have HZ4 := hide (show ((w4.alloc (.cells (fam 0 noSet) 46)).setRow w4.heap.size (fam (m : Int) G)).heap.size = w4.heap.size + 1 by simp [World.setRow]); have HB4 := hide (bl_row ((HB3.out.trans (hb4.mono (by omega))).alloc (by omega) (.cells (fam 0 noSet) 46)) (show w.heap.size ≤ w4.heap.size by omega) (fam (m : Int) G)); clear hb4)
          | (refine wpList_store_fam sizeT rfl (.tmp 10) (.tmp _) rfl w4.heap.size _ _ rfl rfl _ _ (famAt.new _ _ _ _) ?_)
          | (refine wpList_load_fam rowT sizeT rfl (.tmp 10) rfl w4.heap.size rfl (m : Int) G HK4.out ?_)
          | (go_at_call 64; refine (HCN.out _).mono ?_; rintro e w5 ⟨rfl, hb5⟩; rw [HZ4.out] at hb5; have HG5 := hide (HG4.out.below hb5 (by omega)); have HB5 := hide (HB4.out.trans (hb5.mono (by omega))); clear hb5)
          | (refine wpList_build_fam0 built0 rfl rfl ?_)
          | (refine wpList_store_fam sizeT rfl (.tmp 6) (.tmp _) rfl _ 0 noSet rfl rfl _ _ HG5.out ?_))
        exact bodyPost_ret (v := .tuple #[.agg (fam 0 noSet), .bool false]) (results_fam2 (p := 6) (q := 7) rowT sizeT rfl _ _ (w.heap.size + 1) rfl _ _ (HG5.out.row _ _)) rfl ⟨rfl, bl_row HB5.out (by omega) _⟩
      · have HYES := hide (famL_yes (n := (m : Int)) (l := l) (y := y) (z := z) (by rw [HAB.out, ha, ← hcl]; simp; omega))
        have HCN := hide (fun w1 => count_c (m : Int) (leF F y z) w1)
        have hcz : ¬ ((cntS (leF F y z) : Int) = 0) := by omega
        have hcb : ((cntS (leF F y z) : Int) == 0) = false := by simp; omega
        clear ha hcl hc hy1 hz1
        rw [HYES.out, HFM.out, Int.toNat_natCast, Int.toNat_natCast]
        generalize leF F y z = G at *
        generalize cntS G = c at *
        go_enter Tryd.func51, Tryd.ntmps51
        go_wp2_with (first
          | (refine wpList_alloc_fam zeroT rfl rfl _ (by first | (simp only [World.size_alloc]; rfl) | rfl) ?_)
          | (go_at_call 47; refine (familyOf_c _ v l _ HL.out hlen).mono ?_; rw [HV.out]; rintro e w1 ⟨rfl, hb1⟩; have hz1 := hb1.size; simp at hz1; have hf2 := (HF1.out.below hb1 (by simp)).alloc (.cells (fam 0 noSet) 46); have HG2 := hide (hf2.rowO w1.heap.size (by omega) (fam (m : Int) F)); have HH2 := hide ((famAt.new 46 w1 0 noSet).row (m : Int) F); have HZ2 := hide (show ((w1.alloc (.cells (fam 0 noSet) 46)).setRow w1.heap.size (fam (m : Int) F)).heap.size = w1.heap.size + 1 by simp [World.setRow]); have HB1 := hide (bl_row ((HB0.out.trans (hb1.mono (by simp <;> omega))).alloc (by omega) (.cells (fam 0 noSet) 46)) (show w.heap.size ≤ w1.heap.size by omega) (fam (m : Int) F)); clear hb1 hf2)
          | (refine wpList_store_fam sizeT rfl (.tmp 8) (.tmp _) rfl w1.heap.size _ _ rfl rfl _ _ (famAt.new _ _ _ _) ?_)
          | (refine wpList_load_fam rowT sizeT rfl (.tmp 8) rfl _ rfl (m : Int) F (by first | exact HH3.out | exact HH2.out) ?_)
          | (go_at_call 80; refine (HAN.out _).mono ?_; rintro e w3 ⟨rfl, hb3⟩; rw [HZ2.out] at hb3; have hz3 := hb3.size; rw [HZ2.out] at hz3; have HG3 := hide (HG2.out.below hb3 (by omega)); have HH3 := hide (HH2.out.below hb3 (by omega)); have HB3 := hide (HB1.out.trans (hb3.mono (by omega))); clear hb3)
          | (go_at_call 81; refine (HLB.out _).mono ?_; rintro e w4 ⟨rfl, hb4⟩; have hz4 := hb4.size; have HG4 := hide (((HG3.out.below hb4 (by omega)).alloc (.cells (fam 0 noSet) 46)).rowO w4.heap.size (by omega) (fam (m : Int) G)); have HK4 := hide ((famAt.new 46 w4 0 noSet).row (m : Int) G); have HZ4 := hide (show ((w4.alloc (.cells (fam 0 noSet) 46)).setRow w4.heap.size (fam (m : Int) G)).heap.size = w4.heap.size + 1 by simp [World.setRow]); have HB4 := hide (bl_row ((HB3.out.trans (hb4.mono (by omega))).alloc (by omega) (.cells (fam 0 noSet) 46)) (show w.heap.size ≤ w4.heap.size by omega) (fam (m : Int) G)); clear hb4)
          | (refine wpList_store_fam sizeT rfl (.tmp 10) (.tmp _) rfl w4.heap.size _ _ rfl rfl _ _ (famAt.new _ _ _ _) ?_)
          | (refine wpList_load_fam rowT sizeT rfl (.tmp 10) rfl w4.heap.size rfl (m : Int) G HK4.out ?_)
          | (go_at_call 64; refine (HCN.out _).mono ?_; rintro e w5 ⟨rfl, hb5⟩; rw [HZ4.out] at hb5; have HG5 := hide (HG4.out.below hb5 (by omega)); have HK5 := hide (HK4.out.below hb5 (by omega)); have HB5 := hide (HB4.out.trans (hb5.mono (by omega))); clear hb5)
          | (refine wpList_load_fam rowT sizeT rfl (.tmp 10) rfl _ rfl (m : Int) G HK5.out ?_)
          | (refine wpList_store_fam sizeT rfl (.tmp 6) (.tmp _) rfl _ (m : Int) G rfl rfl _ _ HG5.out ?_))
        exact bodyPost_ret (v := .tuple #[.agg (fam (m : Int) G), .bool true]) (results_fam2 (p := 6) (q := 7) rowT sizeT rfl _ _ (w.heap.size + 1) rfl _ _ (HG5.out.row _ _)) rfl ⟨rfl, bl_row HB5.out (by omega) _⟩
end Go.Proofs.YtijgngnjhmkhaaaDoor
