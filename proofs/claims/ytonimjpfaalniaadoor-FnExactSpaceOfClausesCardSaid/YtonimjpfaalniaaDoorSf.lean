/- Contracts: SpaceOfClauses: the program's. -/
import Derived.Test.YtonimjpfaalniaaDoorSe
import Derived.Test.YtonimjpfaalniaaDoorUn
namespace Go.Proofs.YtonimjpfaalniaaDoor
open Go.RowKit
set_option maxRecDepth 100000
attribute [local irreducible] p2 low memB risB
theorem scB_noA {n : Int} {L : List (List Int)} (h : scA n L = false) : scN n L = 0 ∧ scL n L = [] ∧ scB n L = false := sc_no3 (scB_no1 h)
set_option maxHeartbeats 4000000 in
theorem implSpaceOfClauses_c (n : Int) (u : Value) (L : List (List Int)) (w : World) (hl : rows w.heap.size w u L) (hs : small2 L) (hT : tab w) :
    Calls Tryd.prog 45 #[.int .i64 n, u] w fun e w' => ∃ v', e = .returned (.tuple #[.agg #[.int .i64 (scN n L), v'], .bool (scB n L)]) ∧ own 3 w' w.heap.size v' (scL n L) ∧ Below w.heap.size w w' := by
  have HR0 := hide (hp_last w (.cells #[.int .i64 0, .slice none 0 0] 30))
  have HBZ := hide ((Below.refl w.heap.size w).alloc (Nat.le_refl _) (.cells #[.int .i64 0, .slice none 0 0] 30))
  have HL0 := hide (hl.alloc (.cells #[.int .i64 0, .slice none 0 0] 30))
  have HZ0 := hide (show (w.alloc (.cells #[.int .i64 0, .slice none 0 0] 30)).heap.size = w.heap.size + 1 by simp)
  have HSM := hide hs
  have HT := hide hT
  have hll := hs.1
  obtain ⟨q0, q1, q2, q3⟩ := zero_slotsQ HR0.out
  clear hl hs hT
  by_cases hn : 1 ≤ n ∧ n ≤ 7
  · have HN := hide hn
    by_cases h60 : 60 < L.length
    · have HBX := hide (scB_noA (n := n) (L := L) (by unfold scA; rw [decide_eq_false (show ¬ L.length ≤ 60 by omega)]; simp))
      have hgt : (60 : Int) < (L.length : Int) := by omega
      clear hn
      go_enter Tryd.func45, Tryd.ntmps45
      go_wp2_with (first
        | (go_at_call 105; refine (isItemCount_c _ _).mono ?_; rw [decide_eq_true HN.out]; rintro e w1 ⟨rfl, rfl⟩)
        | (refine wpList_len2 sliceT2 rfl (.tmp _) rfl u rfl w.heap.size L HL0.out ?_))
      refine bodyPost_ret (v := .tuple #[.agg #[.int .i64 0, .slice none 0 0], .bool false]) (by simp [results, Tryd.results45, go_sem, q0, q1]) rfl ⟨_, by rw [HBX.out.1, HBX.out.2.2], by rw [HBX.out.2.1]; exact own_nil _ _ _, ?_⟩
      first | exact HBZ.out | exact (HBZ.out.setCell (by show w.heap.size ≤ w.heap.size; omega) _).setCell (by show w.heap.size ≤ w.heap.size; omega) _
    · have hgt : ¬ ((60 : Int) < (L.length : Int)) := by omega
      obtain ⟨m, rfl⟩ := Int.eq_ofNat_of_zero_le (show 0 ≤ n by omega)
      have hm1 : 1 ≤ m := by omega
      have hm7 : m ≤ 7 := by omega
      have HA := hide (show scA (m : Int) L = rowsOk (m : Int) L L.length by unfold scA; rw [decide_eq_true (show 1 ≤ (m : Int) ∧ (m : Int) ≤ 7 by omega), decide_eq_true (show L.length ≤ 60 by omega)]; rfl)
      have HB1 := hide (show scB (m : Int) L = (rowsOk (m : Int) L L.length && scF m L (low m)) by unfold scB; rw [HA.out, Int.toNat_natCast])
      have HRC := hide (fun w1 h => readClauses_c m u L w1 h HSM.out (by omega) hm7)
      clear hn
      cases hok : rowsOk (m : Int) L L.length
      · have HBX := hide (scB_noA (n := (m : Int)) (L := L) (by rw [HA.out]; exact hok))
        rw [hok] at HRC
        clear hok
        go_enter Tryd.func45, Tryd.ntmps45
        go_wp2_with (first
          | (go_at_call 105; refine (isItemCount_c _ _).mono ?_; rw [decide_eq_true HN.out]; rintro e w1 ⟨rfl, rfl⟩)
          | (refine wpList_len2 sliceT2 rfl (.tmp _) rfl u rfl w.heap.size L HL0.out ?_)
          | (refine wpList_build_fam builtT rfl _ rfl _ rfl ?_)
          | (go_at_call 106; refine (HRC.out _ (HL0.out.mono (by simp))).mono ?_; rintro e w2 ⟨v2, rfl, _, hb2⟩; have HB2 := hide (HBZ.out.trans (hb2.mono (by simp))); have hr2 := (hb2.block w.heap.size (by simp)).trans HR0.out; clear q0 q1 q2 q3; obtain ⟨q0, q1, q2, q3⟩ := zero_slotsQ hr2; clear hr2 hb2))
        refine bodyPost_ret (v := .tuple #[.agg #[.int .i64 0, .slice none 0 0], .bool false]) (by simp [results, Tryd.results45, go_sem, q0, q1]) rfl ⟨_, by rw [HBX.out.1, HBX.out.2.2], by rw [HBX.out.2.1]; exact own_nil _ _ _, ?_⟩
        first | exact HB2.out | exact (HB2.out.setCell (by show w.heap.size ≤ w.heap.size; omega) _).setCell (by show w.heap.size ≤ w.heap.size; omega) _
      · have HOK := hide hok
        have hn128 := p2_le m 7 hm7
        have hls := low_succ m
        have hlo : low m < 128 := by omega
        rw [hok] at HRC
        have HLB := hide (fun v1 base w1 h hT1 => learntBy_c m v1 base L w1 h hm1 hm7 (by omega) HOK.out hT1)
        clear hok
        cases hfu : scF m L (low m)
        · have HFU := hide hfu
          have HBX := hide (sc_no3 (n := (m : Int)) (L := L) (by rw [HB1.out, HFU.out]; simp))
          clear hfu
          go_enter Tryd.func45, Tryd.ntmps45
          go_wp2_with (first
            | (go_at_call 105; refine (isItemCount_c _ _).mono ?_; rw [decide_eq_true HN.out]; rintro e w1 ⟨rfl, rfl⟩)
            | (refine wpList_len2 sliceT2 rfl (.tmp _) rfl u rfl w.heap.size L HL0.out ?_)
            | (refine wpList_build_fam builtT rfl _ rfl _ rfl ?_)
            | (go_at_call 106; refine (HRC.out _ (HL0.out.mono (by simp))).mono ?_; rintro e w2 ⟨v2, rfl, ho2, hb2⟩; have hoc2 := ho2 (by first | rfl | trivial); obtain ⟨a2, c2, hv2⟩ := hoc2.shape; subst hv2; have HO2 := hide hoc2; have HB2 := hide (HBZ.out.trans (hb2.mono (by simp))); have HR2 := hide ((hb2.block w.heap.size (by simp)).trans HR0.out); have hz2 := hb2.size; rw [HZ0.out] at hz2; clear q0 q1 q2 q3 ho2 hb2 hoc2)
            | (go_at_call 107; refine (HLB.out _ _ w2 HO2.out (HT.out.below HB2.out)).mono ?_; rintro e w3 ⟨rfl, hb3⟩; have HB3 := hide (HB2.out.trans (hb3.mono (by omega))); have HR3 := hide ((hb3.block w.heap.size (by omega)).trans HR2.out); have hz3 := hb3.size; clear hb3)
            | (refine wpList_alloc_fam zeroT rfl rfl _ (by first | (simp only [World.size_alloc]; rfl) | rfl) ?_)
            | (refine wpList_store_fam sizeT rfl (.tmp _) (.tmp _) rfl w3.heap.size (m : Int) (scF m L) rfl rfl _ _ (famAt.new _ _ _ _) ?_; have hf4 := (famAt.new 83 w3 0 noSet).row (m : Int) (scF m L); have HF4 := hide hf4; have HB4 := hide (bl_row (HB3.out.alloc (by omega) (.cells (fam 0 noSet) 83)) (show w.heap.size ≤ w3.heap.size by omega) (fam (m : Int) (scF m L))); have HR4 := hide ((hp_rowO (w3.alloc (.cells (fam 0 noSet) 83)) w3.heap.size w.heap.size (fam (m : Int) (scF m L)) (by omega)).trans ((hp_old w3 (.cells (fam 0 noSet) 83) w.heap.size (by omega)).trans HR3.out)); have hz4 : ((w3.alloc (.cells (fam 0 noSet) 83)).setRow w3.heap.size (fam (m : Int) (scF m L))).heap.size = w3.heap.size + 1 := (by simp [World.setRow]); clear hf4)
            | (refine wpList_load_fam rowT sizeT rfl (.tmp _) rfl _ rfl (m : Int) _ HF4.out ?_)
            | (go_at_call 97; refine (full_c _ _ _ (by omega) (by omega)).mono ?_; rw [Int.toNat_natCast]; rintro e w5 ⟨rfl, hb5⟩; rw [hz4] at hb5; have hf5 := HF4.out.below hb5 (by omega); have c5 := hf5.get (low m) hlo; rw [HFU.out] at c5; have HB5 := hide (HB4.out.trans (hb5.mono (by omega))); have hr5 := (hb5.block w.heap.size (by omega)).trans HR4.out; obtain ⟨q0, q1, q2, q3⟩ := zero_slotsQ hr5; clear hb5 hr5 hf5))
          refine bodyPost_ret (v := .tuple #[.agg #[.int .i64 0, .slice none 0 0], .bool false]) (by simp [results, Tryd.results45, go_sem, q0, q1]) rfl ⟨_, by rw [HBX.out.1, HBX.out.2.2], by rw [HBX.out.2.1]; exact own_nil _ _ _, ?_⟩
          first | exact HB5.out | exact (HB5.out.setCell (by show w.heap.size ≤ w.heap.size; omega) _).setCell (by show w.heap.size ≤ w.heap.size; omega) _
        · have HFU := hide hfu
          have HBX := hide (sc_yes3 (n := (m : Int)) (L := L) (by rw [HB1.out, HFU.out, HOK.out]; rfl))
          clear hfu
          go_enter Tryd.func45, Tryd.ntmps45
          go_wp2_with (first
            | (go_at_call 105; refine (isItemCount_c _ _).mono ?_; rw [decide_eq_true HN.out]; rintro e w1 ⟨rfl, rfl⟩)
            | (refine wpList_len2 sliceT2 rfl (.tmp _) rfl u rfl w.heap.size L HL0.out ?_)
            | (refine wpList_build_fam builtT rfl _ rfl _ rfl ?_)
            | (go_at_call 106; refine (HRC.out _ (HL0.out.mono (by simp))).mono ?_; rintro e w2 ⟨v2, rfl, ho2, hb2⟩; have hoc2 := ho2 (by first | rfl | trivial); obtain ⟨a2, c2, hv2⟩ := hoc2.shape; subst hv2; have HO2 := hide hoc2; have HB2 := hide (HBZ.out.trans (hb2.mono (by simp))); have HR2 := hide ((hb2.block w.heap.size (by simp)).trans HR0.out); have hz2 := hb2.size; rw [HZ0.out] at hz2; clear q0 q1 q2 q3 ho2 hb2 hoc2)
            | (go_at_call 107; refine (HLB.out _ _ w2 HO2.out (HT.out.below HB2.out)).mono ?_; rintro e w3 ⟨rfl, hb3⟩; have HB3 := hide (HB2.out.trans (hb3.mono (by omega))); have HR3 := hide ((hb3.block w.heap.size (by omega)).trans HR2.out); have hz3 := hb3.size; clear hb3)
            | (refine wpList_alloc_fam zeroT rfl rfl _ (by first | (simp only [World.size_alloc]; rfl) | rfl) ?_)
            | (refine wpList_store_fam sizeT rfl (.tmp _) (.tmp _) rfl w3.heap.size (m : Int) (scF m L) rfl rfl _ _ (famAt.new _ _ _ _) ?_; have hf4 := (famAt.new 83 w3 0 noSet).row (m : Int) (scF m L); have HF4 := hide hf4; have HB4 := hide (bl_row (HB3.out.alloc (by omega) (.cells (fam 0 noSet) 83)) (show w.heap.size ≤ w3.heap.size by omega) (fam (m : Int) (scF m L))); have HR4 := hide ((hp_rowO (w3.alloc (.cells (fam 0 noSet) 83)) w3.heap.size w.heap.size (fam (m : Int) (scF m L)) (by omega)).trans ((hp_old w3 (.cells (fam 0 noSet) 83) w.heap.size (by omega)).trans HR3.out)); have hz4 : ((w3.alloc (.cells (fam 0 noSet) 83)).setRow w3.heap.size (fam (m : Int) (scF m L))).heap.size = w3.heap.size + 1 := (by simp [World.setRow]); clear hf4)
            | (refine wpList_load_fam rowT sizeT rfl (.tmp _) rfl _ rfl (m : Int) _ HF4.out ?_)
            | (go_at_call 97; refine (full_c _ _ _ (by omega) (by omega)).mono ?_; rw [Int.toNat_natCast]; rintro e w5 ⟨rfl, hb5⟩; rw [hz4] at hb5; have hz5 := hb5.size; rw [hz4] at hz5; have hf5 := HF4.out.below hb5 (by omega); have c5 := hf5.get (low m) hlo; rw [HFU.out] at c5; have HF5 := hide hf5; clear HF4; have HB5 := hide (HB4.out.trans (hb5.mono (by omega))); have HR5 := hide ((hb5.block w.heap.size (by omega)).trans HR4.out); clear hb5 hf5)
            | (refine wpList_load_fam rowT sizeT rfl (.tmp _) rfl _ rfl (m : Int) _ HF5.out ?_)
            | (go_at_call 98; refine (space_c (m : Int) (scF m L) _).mono ?_; rintro e w6 ⟨v6, rfl, ho6, hb6⟩; obtain ⟨a6, c6, hv6⟩ := ho6.shape; subst hv6; have HO6 := hide ho6; have hr6 := (hb6.block w.heap.size (by omega)).trans HR5.out; obtain ⟨q0, q1, q2, q3⟩ := zero_slotsQ hr6; have HB6 := hide (HB5.out.trans (hb6.mono (by omega))); clear hb6 hr6 ho6))
          generalize hRE : setsTo (scF m L) 128 = R at HO6 ⊢
          have HRE := hide hRE
          clear hRE
          refine bodyPost_ret (v := .tuple #[.agg #[.int .i64 (m : Int), .slice a6 R.length c6], .bool true]) (by simp [results, Tryd.results45, go_sem, q0, q1]) rfl ⟨_, by rw [HBX.out.1, HBX.out.2.2], ?_, ?_⟩
          · rw [HBX.out.2.1, Int.toNat_natCast, HRE.out]
            have hfin := ((HO6.out.setLow ⟨w.heap.size, 0, none⟩ (show w.heap.size < w5.heap.size by omega) (.int .i64 (m : Int))).setLow ⟨w.heap.size, 1, none⟩ (show w.heap.size < w5.heap.size by omega) (.slice a6 R.length c6))
            exact hfin.mono (by omega)
          · exact (HB6.out.setCell (Nat.le_refl _) _).setCell (Nat.le_refl _) _
  · have HN := hide hn
    have HBX := hide (scB_noA (n := n) (L := L) (by unfold scA; rw [decide_eq_false hn]; rfl))
    clear hn
    go_enter Tryd.func45, Tryd.ntmps45
    go_wp2_with (first
      | (go_at_call 105; refine (isItemCount_c _ _).mono ?_; rw [decide_eq_false HN.out]; rintro e w1 ⟨rfl, rfl⟩))
    refine bodyPost_ret (v := .tuple #[.agg #[.int .i64 0, .slice none 0 0], .bool false]) (by simp [results, Tryd.results45, go_sem, q0, q1]) rfl ⟨_, by rw [HBX.out.1, HBX.out.2.2], by rw [HBX.out.2.1]; exact own_nil _ _ _, ?_⟩
    first | exact HBZ.out | exact (HBZ.out.setCell (by show w.heap.size ≤ w.heap.size; omega) _).setCell (by show w.heap.size ≤ w.heap.size; omega) _
end Go.Proofs.YtonimjpfaalniaaDoor
