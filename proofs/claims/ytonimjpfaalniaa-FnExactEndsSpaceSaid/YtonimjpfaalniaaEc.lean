/- Contracts: EndsSpace, the program's. -/
import Derived.Test.YtonimjpfaalniaaEb
namespace Go.Proofs.Ytonimjpfaalniaa
open Go.RowKit
set_option maxRecDepth 100000
set_option linter.unusedSimpArgs false
attribute [local irreducible] p2 low memB risB
set_option maxHeartbeats 2000000 in
theorem implEndsSpace_c (n : Int) (u : Value) (L : List (List Int)) (w : World) (hl : rows w.heap.size w u L) (hs : small2 L) :
    Calls Try.prog 52 #[.int .i64 n, u] w fun e w' => ∃ v', e = .returned (.tuple #[.agg #[.int .i64 (osN n L), v'], .bool (osB n L)]) ∧ own 3 w' w.heap.size v' (esL n L) ∧ Below w.heap.size w w' := by
  have HR0 := hide (hp_last w (.cells #[.int .i64 0, .slice none 0 0] 28))
  have H0 := hide ((Below.refl w.heap.size w).alloc (Nat.le_refl _) (.cells #[.int .i64 0, .slice none 0 0] 28))
  have HL0 := hide (hl.alloc (.cells #[.int .i64 0, .slice none 0 0] 28))
  have HZ0 := hide (show (w.alloc (.cells #[.int .i64 0, .slice none 0 0] 28)).heap.size = w.heap.size + 1 by simp)
  have HSM := hide hs
  clear hl hs
  cases hp : prA n L
  · have HP := hide hp
    have HX := hide (osNL_no (osB_no2 hp))
    clear hp
    rw [HX.out.1, HX.out.2.2, esL_no HX.out.2.2]
    go_enter Try.func52, Try.ntmps52
    go_wp2_with fail
    generalize (w.alloc (.cells #[.int .i64 0, .slice none 0 0] 28)) = W at HR0 H0 HL0 HZ0 ⊢
    refine (arePairs_c n u L W (HL0.out.mono (by rw [HZ0.out]; omega)) HSM.out).mono ?_
    rw [HP.out]
    rintro e w1 ⟨rfl, hb1⟩
    have hr1 := (hb1.block w.heap.size (by rw [HZ0.out]; omega)).trans HR0.out
    obtain ⟨q0, q1, q2, q3⟩ := zero_slotsQ hr1
    have HB1 := hide (H0.out.trans (hb1.mono (by rw [HZ0.out]; omega)))
    clear hb1 hr1
    go_wp2
    refine bodyPost_ret (v := .tuple #[.agg #[.int .i64 0, .slice none 0 0], .bool false]) (by simp [results, Try.results52, go_sem, q0, q1]) rfl ⟨_, rfl, own_nil _ _ _, ?_⟩
    exact (HB1.out.setCell (Nat.le_refl _) _).setCell (Nat.le_refl _) _
  · have HP := hide hp
    clear hp
    go_enter Try.func52, Try.ntmps52
    go_wp2_with fail
    generalize (w.alloc (.cells #[.int .i64 0, .slice none 0 0] 28)) = W at HR0 H0 HL0 HZ0 ⊢
    refine (arePairs_c n u L W (HL0.out.mono (by rw [HZ0.out]; omega)) HSM.out).mono ?_
    rw [HP.out]
    rintro e w1 ⟨rfl, hb1⟩
    have hz1 : w.heap.size + 1 ≤ w1.heap.size := by rw [← HZ0.out]; exact hb1.size
    have HR1 := hide ((hb1.block w.heap.size (by rw [HZ0.out]; omega)).trans HR0.out)
    have HB1 := hide (H0.out.trans (hb1.mono (by rw [HZ0.out]; omega)))
    have HL1 := hide (HL0.out.below hb1 (by rw [HZ0.out]; omega))
    clear hb1 HR0 H0 HL0 HZ0
    go_wp2_with fail
    refine (implOrderSpace_c n u L w1 (HL1.out.mono (by omega)) HSM.out).mono ?_
    rintro e w2 ⟨v2, rfl, ho2, hb2⟩
    obtain ⟨a2, c2, hv2⟩ := ho2.shape
    subst hv2
    have hz2 := hb2.size
    have HR2 := hide ((hb2.block w.heap.size (by omega)).trans HR1.out)
    have HB2 := hide (HB1.out.trans (hb2.mono (by omega)))
    have HL2 := hide (HL1.out.below hb2 (by omega))
    have HO2 := hide ho2
    clear hb2 HR1 HB1 HL1 ho2
    go_wp2_with fail
    have hx3 := hp_last w2 (.cells #[.int .i64 (osN n L), .slice a2 (osL n L).length c2] 28)
    have hb3 := (Below.refl w2.heap.size w2).alloc (Nat.le_refl _) (.cells #[.int .i64 (osN n L), .slice a2 (osL n L).length c2] 28)
    have hz3 : (w2.alloc (.cells #[.int .i64 (osN n L), .slice a2 (osL n L).length c2] 28)).heap.size = w2.heap.size + 1 := by simp
    generalize (w2.alloc (.cells #[.int .i64 (osN n L), .slice a2 (osL n L).length c2] 28)) = w3 at hx3 hb3 hz3 ⊢
    have HR3 := hide ((hb3.block w.heap.size (by omega)).trans HR2.out)
    have HB3 := hide (HB2.out.trans (hb3.mono (by omega)))
    have HL3 := hide (HL2.out.below hb3 (by omega))
    have HO3 := hide (HO2.out.kept hb3)
    have HX3 := hide hx3
    clear hx3 hb3 HR2 HB2 HL2 HO2
    refine (turnedPairs_c n u L w3 (HL3.out.mono (by omega)) HP.out).mono ?_
    rintro e w4 ⟨t4, rfl, ho4, hb4⟩
    have hz4 := hb4.size
    have HR4 := hide ((hb4.block w.heap.size (by omega)).trans HR3.out)
    have HB4 := hide (HB3.out.trans (hb4.mono (by omega)))
    have HO4 := hide (HO3.out.kept hb4)
    have HX4 := hide ((hb4.block w2.heap.size (by omega)).trans HX3.out)
    have HT4 := hide ho4
    clear hb4 HR3 HB3 HL3 HO3 HX3 ho4
    go_wp2_with fail
    refine (implOrderSpace_c n t4 (turnL L) w4 HT4.out.rows (turn_small HP.out)).mono ?_
    rintro e w5 ⟨v5, rfl, ho5, hb5⟩
    obtain ⟨a5, c5, hv5⟩ := ho5.shape
    subst hv5
    have hz5 := hb5.size
    have HR5 := hide ((hb5.block w.heap.size (by omega)).trans HR4.out)
    have HB5 := hide (HB4.out.trans (hb5.mono (by omega)))
    have HO5 := hide (HO4.out.kept hb5)
    have HX5 := hide ((hb5.block w2.heap.size (by omega)).trans HX4.out)
    have HV5 := hide ho5
    clear hb5 HR4 HB4 HO4 HX4 ho5 HT4
    cases hob : osB n L
    · have HX := hide (osNL_no hob)
      have HR6 := hide ((hp_old w5 (.cells #[.int .i64 (osN n (turnL L)), .slice a5 (osL n (turnL L)).length c5] 28) w.heap.size (by omega)).trans HR5.out)
      have HB6 := hide (HB5.out.alloc (show w.heap.size ≤ w5.heap.size by omega) (.cells #[.int .i64 (osN n (turnL L)), .slice a5 (osL n (turnL L)).length c5] 28))
      obtain ⟨q0, q1, q2, q3⟩ := zero_slotsQ HR6.out
      clear hob
      go_wp2
      refine bodyPost_ret (v := .tuple #[.agg #[.int .i64 0, .slice none 0 0], .bool false]) (by simp [results, Try.results52, go_sem, q0, q1]) rfl ⟨_, by rw [HX.out.1, HX.out.2.2], by rw [esL_no HX.out.2.2]; exact own_nil _ _ _, ?_⟩
      exact (HB6.out.setCell (Nat.le_refl _) _).setCell (Nat.le_refl _) _
    · have HOB := hide (es_us hob)
      have HOBB := hide hob
      have hob2 := es_both hob
      rw [hob2]
      have hx6 := hp_last w5 (.cells #[.int .i64 (osN n (turnL L)), .slice a5 (osL n (turnL L)).length c5] 28)
      have hb6 := (Below.refl w5.heap.size w5).alloc (Nat.le_refl _) (.cells #[.int .i64 (osN n (turnL L)), .slice a5 (osL n (turnL L)).length c5] 28)
      have hz6 : (w5.alloc (.cells #[.int .i64 (osN n (turnL L)), .slice a5 (osL n (turnL L)).length c5] 28)).heap.size = w5.heap.size + 1 := by simp
      have hc0 := cells_at0 ((hb6.block w2.heap.size (by omega)).trans HX5.out)
      have hc1 := cells_at1 ((hb6.block w2.heap.size (by omega)).trans HX5.out)
      have hc2 := cells_at0 hx6
      have hc3 := cells_at1 hx6
      have HR6 := hide ((hb6.block w.heap.size (by omega)).trans HR5.out)
      have HB6 := hide (HB5.out.trans (hb6.mono (by omega)))
      have HO6 := hide (HO5.out.kept hb6)
      have HV6 := hide (HV5.out.kept hb6)
      clear hb6 hx6 hob2 HR5 HB5 HO5 HV5 HX5
      go_wp2_with fail
      generalize (w5.alloc (.cells #[.int .i64 (osN n (turnL L)), .slice a5 (osL n (turnL L)).length c5] 28)) = w6 at HR6 HB6 HO6 HV6 hz6 hc0 hc1 hc2 hc3 ⊢
      refine (implUnionSpaces_c (osN n L) _ (osL n L) (osN n (turnL L)) _ (osL n (turnL L)) w6 HO6.out.ints (osL_len _ _) HV6.out.ints (osL_len _ _)).mono ?_
      rw [HOB.out.1, HOB.out.2.1, HOB.out.2.2]
      rintro e w7 ⟨v7, rfl, ho7, hb7⟩
      obtain ⟨a7, c7, hv7⟩ := ho7.shape
      subst hv7
      have HR7 := hide ((hb7.block w.heap.size (by omega)).trans HR6.out)
      have HB7 := hide (HB6.out.trans (hb7.mono (by omega)))
      have HO7 := hide ho7
      obtain ⟨q0, q1, q2, q3⟩ := zero_slotsQ HR7.out
      clear hb7 ho7 hc0 hc1 hc2 hc3
      go_wp2
      refine bodyPost_ret (v := .tuple #[.agg #[.int .i64 (osN n L), .slice a7 (esL n L).length c7], .bool true]) (by simp [results, Try.results52, go_sem, q0, q1]) rfl ⟨_, by rw [HOBB.out], ?_, ?_⟩
      · have hfin := ((HO7.out.setLow ⟨w.heap.size, 0, none⟩ (show w.heap.size < w6.heap.size by omega) (.int .i64 (osN n L))).setLow ⟨w.heap.size, 1, none⟩ (show w.heap.size < w6.heap.size by omega) (.slice a7 (esL n L).length c7))
        exact hfin.mono (by omega)
      · exact (HB7.out.setCell (Nat.le_refl _) _).setCell (Nat.le_refl _) _
end Go.Proofs.Ytonimjpfaalniaa
