/- Contracts: CanLearn: the specification's and the program's. -/
import Derived.Test.YtagahoaogfogkaaPk
namespace Go.Proofs.Ytagahoaogfogkaa
open Go.RowKit
set_option maxRecDepth 100000
theorem clB_yes {n : Int} {l : List Int} {x i : Int} (h : okOne n l x = true) : clB n l x i = (decide (0 ≤ i ∧ i < n) && !x.toNat.testBit i.toNat) := by simp [clB, h]
theorem clR_yes {n : Int} {l : List Int} {x i : Int} (h : clB n l x i = true) : clR n l x i = memB l ((x.toNat ||| p2 i.toNat : Nat) : Int) := by simp [clR, h]
attribute [local irreducible] p2 low memB risB
set_option maxHeartbeats 2000000 in
theorem specCanLearn_c (n : Int) (v : Value) (l : List Int) (x i : Int) (w : World) (hl : ints w.heap.size w v l) (hlen : l.length < 1000000000) :
    Calls Try.prog 42 #[.agg #[.int .i64 n, v], .int .i64 x, .int .i64 i] w fun e w' => e = .returned (.tuple #[.bool (clR n l x i), .bool (clB n l x i)]) ∧ Below w.heap.size w w' := by
  have HL := hide ((hl.alloc (.cells #[.int .i64 n, v] 26)).mono (show w.heap.size ≤ (w.alloc (.cells #[.int .i64 n, v] 26)).heap.size by simp))
  have H0 := hide ((Below.refl w.heap.size w).alloc (Nat.le_refl _) (.cells #[.int .i64 n, v] 26))
  have HS0 := hide (hp_last w (.cells #[.int .i64 n, v] 26))
  have HZ := hide (show (w.alloc (.cells #[.int .i64 n, v] 26)).heap.size = w.heap.size + 1 by simp)
  clear hl
  cases hok : okOne n l x
  · have HK := hide hok
    have hb := clB_no1 (x := x) (i := i) hok
    rw [clR_no hb, hb]
    clear hok hb
    go_enter Try.func42, Try.ntmps42
    go_wp2_with (go_at_call 77; refine (spOne_c n v l x _ HL.out hlen).mono ?_; rw [HK.out]; rintro e w1 ⟨rfl, hb1⟩; have HB1 := hide (H0.out.trans (hb1.mono (by rw [HZ.out]; omega))); clear hb1)
    go_ret2
    exact ⟨rfl, HB1.out⟩
  · obtain ⟨hi0, hi1⟩ := okSet_in (okOne_set hok)
    have hn := okSp_n (okOne_sp hok)
    have hlo := low_lt n.toNat (by omega)
    obtain ⟨s, rfl⟩ := Int.eq_ofNat_of_zero_le hi0
    have hs : s < 128 := by omega
    have HK := hide hok
    have HI := hide (okSp_inc (okOne_sp hok))
    have hb := clB_yes (i := i) hok
    rw [Int.toNat_natCast] at hb
    cases hx : decide (0 ≤ i ∧ i < n)
    · have HX := hide (show decide (0 ≤ i ∧ i ≤ n - 1) = false by rw [decide_eq_false_iff_not] at hx ⊢; omega)
      rw [hx, Bool.false_and] at hb
      rw [clR_no hb, hb]
      have HN : Hid (∀ (w1 : World), Calls Try.prog 49 #[.int .i64 (s : Int), .int .i64 0] w1 fun e w' => e = .returned (.bool (s.testBit 0)) ∧ w1 = w') := hide fun w1 => by
        have := spIn_c (s : Int) 0 w1 (by omega) (by omega) (by omega) (by omega)
        rw [Int.toNat_natCast] at this
        exact this
      clear hb hx hok hi0 hi1 hlo
      go_enter Try.func42, Try.ntmps42
      go_wp2_with (first
        | (go_at_call 77; refine (spOne_c n v l (s : Int) _ HL.out hlen).mono ?_; rw [HK.out]; rintro e w1 ⟨rfl, hb1⟩; have HS1 := hide ((hb1.block w.heap.size (by rw [HZ.out]; omega)).trans HS0.out); have c0 := cells_at0 HS1.out; have c1 := cells_at1 HS1.out; have HL1 := hide ((HL.out.below hb1 (Nat.le_refl _)).mono hb1.size); have hz1 := hb1.size; rw [HZ.out] at hz1; have HB1 := hide (H0.out.trans (hb1.mono (by rw [HZ.out]; omega))); clear hb1)
        | (go_at_call 81; refine (l1In_c _ _ _ _).mono ?_; rw [HX.out]; rintro e w2 ⟨rfl, rfl⟩)
        | (go_at_call 49; refine (HN.out _).mono ?_; rintro e w2 ⟨rfl, rfl⟩))
      go_ret2
      exact ⟨rfl, HB1.out⟩
    · have hx2 : 0 ≤ i ∧ i < n := by simpa using hx
      have HX := hide (show decide (0 ≤ i ∧ i ≤ n - 1) = true by rw [decide_eq_true_iff]; omega)
      rw [hx, Bool.true_and] at hb
      obtain ⟨t, rfl⟩ := Int.eq_ofNat_of_zero_le hx2.1
      rw [Int.toNat_natCast] at hb
      have ht7 : t < 7 := by omega
      have HN : Hid (∀ (w1 : World), Calls Try.prog 49 #[.int .i64 (s : Int), .int .i64 (t : Int)] w1 fun e w' => e = .returned (.bool (s.testBit t)) ∧ w1 = w') := hide fun w1 => by
        have := spIn_c (s : Int) (t : Int) w1 (by omega) (by omega) (by omega) (by omega)
        rw [Int.toNat_natCast, Int.toNat_natCast] at this
        exact this
      cases hst : s.testBit t
      · have HT := hide hst
        rw [hst] at hb HN
        rw [clR_yes (hb.trans rfl), hb, Int.toNat_natCast, Int.toNat_natCast]
        have hp := wrap_p2 t (by omega)
        have hp2 : IntKind.i64.wrap (2 ^ t) = (p2 t : Int) := by rw [IntWalk.i64_left]; exact hp
        have hpl := p2_lt128 t (by omega)
        have hor := i64_or s (p2 t) (by omega) (by omega)
        clear hb hx hok hi0 hi1 hlo hst hx2
        generalize hM : memB l ((s ||| p2 t : Nat) : Int) = m
        have HM := hide hM
        clear hM
        go_enter Try.func42, Try.ntmps42
        go_wp2_with (first
          | (go_at_call 77; refine (spOne_c n v l (s : Int) _ HL.out hlen).mono ?_; rw [HK.out]; rintro e w1 ⟨rfl, hb1⟩; have HS1 := hide ((hb1.block w.heap.size (by rw [HZ.out]; omega)).trans HS0.out); have c0 := cells_at0 HS1.out; have c1 := cells_at1 HS1.out; have HL1 := hide ((HL.out.below hb1 (Nat.le_refl _)).mono hb1.size); have hz1 := hb1.size; rw [HZ.out] at hz1; have HB1 := hide (H0.out.trans (hb1.mono (by rw [HZ.out]; omega))); clear hb1)
          | (go_at_call 81; refine (l1In_c _ _ _ _).mono ?_; rw [HX.out]; rintro e w2 ⟨rfl, rfl⟩)
          | (go_at_call 49; refine (HN.out _).mono ?_; rintro e w2 ⟨rfl, rfl⟩))
        refine wp_region_old (by kernel_rfl) (by kernel_rfl) ?_
        go_big_quiet_step ((first | exact fun _ => rfl | exact fun _ => ⟨rfl, rfl⟩))
        refine q_load_cell rowS rfl (.tmp _) rfl _ rfl v (fun w' h => (h.cell (p := ⟨w.heap.size, 1, none⟩) (by show w.heap.size < _; omega)).trans c1) ?_
        simp only [Act.put, List.setIfInBounds_toArray, List.set_cons_zero, List.set_cons_succ]
        go_big_quiet_step ((first | exact fun _ => rfl | exact fun _ => ⟨rfl, rfl⟩))
        go_big_quiet_step ((first | exact fun _ => rfl | exact fun _ => ⟨rfl, rfl⟩))
        go_big_quiet_step ((first | exact fun _ => rfl | exact fun _ => ⟨rfl, rfl⟩))
        go_big_quiet_step ((first | exact fun _ => rfl | exact fun _ => ⟨rfl, rfl⟩))
        refine q_pure rfl 85 ent_spHas _ _ rfl #[v, .int .i64 ((s ||| p2 t : Nat) : Int)] rfl (.bool m) (fun w' hb => by have := spHas_c v l ((s ||| p2 t : Nat) : Int) w' ((HL1.out.below hb (Nat.le_refl _)).mono hb.size) HI.out hlen; rw [HM.out] at this; exact this) ?_
        simp only [Act.put, List.setIfInBounds_toArray, List.set_cons_zero, List.set_cons_succ]
        go_big_quiet_step ((first | exact fun _ => rfl | exact fun _ => ⟨rfl, rfl⟩))
        go_big_quiet_step ((first | exact fun _ => rfl | exact fun _ => ⟨rfl, rfl⟩))
        refine wpQuiet_nil ?_
        intro w2 hb2
        have HB2 := hide (HB1.out.trans (hb2.mono (by omega)))
        clear hb2
        go_wp2
        go_ret2
        exact ⟨rfl, HB2.out⟩
      · rw [hst] at hb HN
        have hb2 : clB n l (s : Int) (t : Int) = false := hb
        rw [clR_no hb2, hb2]
        clear hb hb2 hx hok hi0 hi1 hlo hst hx2
        go_enter Try.func42, Try.ntmps42
        go_wp2_with (first
          | (go_at_call 77; refine (spOne_c n v l (s : Int) _ HL.out hlen).mono ?_; rw [HK.out]; rintro e w1 ⟨rfl, hb1⟩; have HS1 := hide ((hb1.block w.heap.size (by rw [HZ.out]; omega)).trans HS0.out); have c0 := cells_at0 HS1.out; have c1 := cells_at1 HS1.out; have HL1 := hide ((HL.out.below hb1 (Nat.le_refl _)).mono hb1.size); have hz1 := hb1.size; rw [HZ.out] at hz1; have HB1 := hide (H0.out.trans (hb1.mono (by rw [HZ.out]; omega))); clear hb1)
          | (go_at_call 81; refine (l1In_c _ _ _ _).mono ?_; rw [HX.out]; rintro e w2 ⟨rfl, rfl⟩)
          | (go_at_call 49; refine (HN.out _).mono ?_; rintro e w2 ⟨rfl, rfl⟩))
        go_ret2
        exact ⟨rfl, HB1.out⟩
set_option maxHeartbeats 2000000 in
theorem implCanLearn_c (n : Int) (v : Value) (l : List Int) (x i : Int) (w : World) (hl : ints w.heap.size w v l) (hlen : l.length < 1000000000) :
    Calls Try.prog 43 #[.agg #[.int .i64 n, v], .int .i64 x, .int .i64 i] w fun e w' => e = .returned (.tuple #[.bool (clR n l x i), .bool (clB n l x i)]) ∧ Below w.heap.size w w' := by
  have HL := hide ((hl.alloc (.cells #[.int .i64 n, v] 26)).mono (show w.heap.size ≤ (w.alloc (.cells #[.int .i64 n, v] 26)).heap.size by simp))
  have H0 := hide ((Below.refl w.heap.size w).alloc (Nat.le_refl _) (.cells #[.int .i64 n, v] 26))
  have HS0 := hide (hp_last w (.cells #[.int .i64 n, v] 26))
  have HZ := hide (show (w.alloc (.cells #[.int .i64 n, v] 26)).heap.size = w.heap.size + 1 by simp)
  clear hl
  cases hok : okOne n l x
  · have HK := hide hok
    have hb := clB_no1 (x := x) (i := i) hok
    rw [clR_no hb, hb]
    have HFV := hide (famVal3_no n l x hok)
    clear hok hb
    go_enter Try.func43, Try.ntmps43
    go_wp2_with (first
      | (go_at_call 78; refine (familyAndOwnSet_c n v l x _ HL.out hlen).mono ?_; rw [HFV.out]; rintro e w1 ⟨rfl, hb⟩; have hz1 := hb.size; rw [HZ.out] at hz1; have HB := hide (bl_row ((H0.out.trans (hb.mono (by rw [HZ.out]; omega))).alloc (by omega) (.cells (fam 0 noSet) 64)) (show w.heap.size ≤ w1.heap.size by omega) (fam 0 noSet)); clear hb)
      | (refine wpList_alloc_fam zeroT rfl rfl _ (by first | (simp only [World.size_alloc]; rfl) | rfl) ?_)
      | (refine wpList_store_fam sizeT rfl (.tmp _) (.tmp _) rfl _ _ _ rfl rfl _ _ (famAt.new _ _ _ _) ?_))
    go_ret2
    exact ⟨rfl, HB.out⟩
  · obtain ⟨hi0, hi1⟩ := okSet_in (okOne_set hok)
    have hn := okSp_n (okOne_sp hok)
    have hlo := low_lt n.toNat (by omega)
    have HFV := hide (famVal3_yes n l x hok)
    obtain ⟨s, rfl⟩ := Int.eq_ofNat_of_zero_le hi0
    have hs : s < 128 := by omega
    have hb := clB_yes (i := i) hok
    rw [Int.toNat_natCast] at hb
    cases hx : decide (0 ≤ i ∧ i < n)
    · have HX := hide hx
      rw [hx, Bool.false_and] at hb
      rw [clR_no hb, hb]
      clear hb hx hok hi0 hi1 hlo
      go_enter Try.func43, Try.ntmps43
      go_wp2_with (first
        | (go_at_call 78; refine (familyAndOwnSet_c n v l (s : Int) _ HL.out hlen).mono ?_; rw [HFV.out]; rintro e w1 ⟨rfl, hb⟩; have hz1 := hb.size; rw [HZ.out] at hz1; have HH := hide ((famAt.new 64 w1 0 noSet).row n (marksTo l l.length)); have hg0 := HH.out.get0; have HB := hide (bl_row ((H0.out.trans (hb.mono (by rw [HZ.out]; omega))).alloc (by omega) (.cells (fam 0 noSet) 64)) (show w.heap.size ≤ w1.heap.size by omega) (fam n (marksTo l l.length))); clear hb)
        | (refine wpList_alloc_fam zeroT rfl rfl _ (by first | (simp only [World.size_alloc]; rfl) | rfl) ?_)
        | (refine wpList_store_fam sizeT rfl (.tmp _) (.tmp _) rfl _ _ _ rfl rfl _ _ (famAt.new _ _ _ _) ?_)
        | (go_at_call 86; refine (isItem_c _ n _).mono ?_; rw [HX.out]; rintro e w2 ⟨rfl, rfl⟩))
      go_ret2
      exact ⟨rfl, HB.out⟩
    · have hx2 : 0 ≤ i ∧ i < n := by simpa using hx
      have HX := hide hx
      rw [hx, Bool.true_and] at hb
      obtain ⟨t, rfl⟩ := Int.eq_ofNat_of_zero_le hx2.1
      rw [Int.toNat_natCast] at hb
      have ht7 : t < 7 := by omega
      have HN : Hid (∀ (w1 : World), Calls Try.prog 87 #[.int .i64 (s : Int), .int .i64 (t : Int)] w1 fun e w' => e = .returned (.bool (s.testBit t)) ∧ w1 = w') := hide fun w1 => by
        have := has_c (s : Int) (t : Int) w1 (by omega) (by omega) (by omega) (by omega)
        rw [Int.toNat_natCast, Int.toNat_natCast] at this
        exact this
      have HOU : Hid (∀ (w1 : World), Calls Try.prog 88 #[.agg (fam n (marksTo l l.length)), .int .i64 (s : Int)] w1 fun e w' => e = .returned (.int .i64 (outerOf (marksTo l l.length) n.toNat s : Int)) ∧ Below w1.heap.size w1 w') := hide fun w1 => by
        have := outerFringe_c n (marksTo l l.length) (s : Int) w1 (by omega) (by omega) (by omega) (by omega)
        rw [Int.toNat_natCast] at this
        exact this
      have ho128 : outerOf (marksTo l l.length) n.toNat s < 128 := by
        have h1 : outerOf (marksTo l l.length) n.toNat s < 2 ^ n.toNat := itemsOf_lt _ _
        have h2 := p2_le n.toNat 7 (by omega)
        omega
      cases hst : s.testBit t
      · rw [hst] at hb HN
        rw [clR_yes (hb.trans rfl), hb, Int.toNat_natCast, Int.toNat_natCast, ← okSp_marks (okOne_sp hok), ← outer_has (marksTo l l.length) n.toNat s t (by omega) hst]
        have HN2 : Hid (∀ (w1 : World), Calls Try.prog 87 #[.int .i64 (outerOf (marksTo l l.length) n.toNat s : Int), .int .i64 (t : Int)] w1 fun e w' => e = .returned (.bool ((outerOf (marksTo l l.length) n.toNat s).testBit t)) ∧ w1 = w') := hide fun w1 => by
          have := has_c (outerOf (marksTo l l.length) n.toNat s : Int) (t : Int) w1 (by omega) (by omega) (by omega) (by omega)
          rw [Int.toNat_natCast, Int.toNat_natCast] at this
          exact this
        clear hb hx hok hi0 hi1 hlo hst hx2
        generalize (outerOf (marksTo l l.length) n.toNat s).testBit t = r at HN2 ⊢
        generalize outerOf (marksTo l l.length) n.toNat s = O at HN2 HOU
        go_enter Try.func43, Try.ntmps43
        go_wp2_with (first
          | (go_at_call 78; refine (familyAndOwnSet_c n v l (s : Int) _ HL.out hlen).mono ?_; rw [HFV.out]; rintro e w1 ⟨rfl, hb⟩; have hz1 := hb.size; rw [HZ.out] at hz1; have HH := hide ((famAt.new 64 w1 0 noSet).row n (marksTo l l.length)); have hg0 := HH.out.get0; have HB := hide (bl_row ((H0.out.trans (hb.mono (by rw [HZ.out]; omega))).alloc (by omega) (.cells (fam 0 noSet) 64)) (show w.heap.size ≤ w1.heap.size by omega) (fam n (marksTo l l.length))); clear hb)
          | (refine wpList_alloc_fam zeroT rfl rfl _ (by first | (simp only [World.size_alloc]; rfl) | rfl) ?_)
          | (refine wpList_store_fam sizeT rfl (.tmp _) (.tmp _) rfl _ _ _ rfl rfl _ _ (famAt.new _ _ _ _) ?_)
          | (go_at_call 86; refine (isItem_c _ n _).mono ?_; rw [HX.out]; rintro e w2 ⟨rfl, rfl⟩)
          | (go_at_call 87; refine (HN.out _).mono ?_; rintro e w2 ⟨rfl, rfl⟩)
          | (refine wpList_load_fam rowT sizeT rfl (.tmp _) rfl _ rfl n _ HH.out ?_)
          | (go_at_call 88; refine (HOU.out _).mono ?_; rintro e w3 ⟨rfl, hb3⟩; have HB3 := hide (HB.out.trans (hb3.mono (by simp [World.setRow]; omega))); clear hb3)
          | (go_at_call 87; refine (HN2.out _).mono ?_; rintro e w4 ⟨rfl, rfl⟩))
        go_ret2
        exact ⟨rfl, HB3.out⟩
      · rw [hst] at hb HN
        have hb2 : clB n l (s : Int) (t : Int) = false := hb
        rw [clR_no hb2, hb2]
        clear hb hb2 hx hok hi0 hi1 hlo hst hx2
        go_enter Try.func43, Try.ntmps43
        go_wp2_with (first
          | (go_at_call 78; refine (familyAndOwnSet_c n v l (s : Int) _ HL.out hlen).mono ?_; rw [HFV.out]; rintro e w1 ⟨rfl, hb⟩; have hz1 := hb.size; rw [HZ.out] at hz1; have HH := hide ((famAt.new 64 w1 0 noSet).row n (marksTo l l.length)); have hg0 := HH.out.get0; have HB := hide (bl_row ((H0.out.trans (hb.mono (by rw [HZ.out]; omega))).alloc (by omega) (.cells (fam 0 noSet) 64)) (show w.heap.size ≤ w1.heap.size by omega) (fam n (marksTo l l.length))); clear hb)
          | (refine wpList_alloc_fam zeroT rfl rfl _ (by first | (simp only [World.size_alloc]; rfl) | rfl) ?_)
          | (refine wpList_store_fam sizeT rfl (.tmp _) (.tmp _) rfl _ _ _ rfl rfl _ _ (famAt.new _ _ _ _) ?_)
          | (go_at_call 86; refine (isItem_c _ n _).mono ?_; rw [HX.out]; rintro e w2 ⟨rfl, rfl⟩)
          | (go_at_call 87; refine (HN.out _).mono ?_; rintro e w2 ⟨rfl, rfl⟩))
        go_ret2
        exact ⟨rfl, HB.out⟩
end Go.Proofs.Ytagahoaogfogkaa
