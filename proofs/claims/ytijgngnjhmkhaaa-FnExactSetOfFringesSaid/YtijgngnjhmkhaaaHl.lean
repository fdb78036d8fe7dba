/- Contracts: ProofOf, the program's and the specification's. -/
import Derived.Test.YtijgngnjhmkhaaaHb
import Derived.Test.YtijgngnjhmkhaaaOu
import Derived.Test.YtijgngnjhmkhaaaHar
import Derived.Test.YtijgngnjhmkhaaaBx
namespace Go.Proofs.Ytijgngnjhmkhaaa
open Go.RowKit
set_option maxRecDepth 100000
set_option linter.unusedSimpArgs false
theorem pf_prog (n : Int) (l : List Int) (x : Int) : ∃ (N : Nat) (F : Nat → Bool) (S : Nat) (b : Bool), famVal3 n l x = .tuple #[.agg (fam (N : Int) F), .int .i64 (S : Int), .bool b] ∧ N ≤ 7 ∧ S < 128 ∧ okOne n l x = b ∧
    innerR n l x = (innerOf F N S : Int) ∧ outerR n l x = (outerOf F N S : Int) ∧ (b = true → (S : Int) = x ∧ (N : Int) = n ∧ F = marksTo l l.length) ∧ (∀ y, F y = true → y ≤ low N) := by
  cases hok : okOne n l x
  · exact ⟨0, noSet, 0, false, famVal3_no n l x hok, by omega, by omega, rfl, by rw [innerR_no hok]; rfl, by rw [outerR_no hok]; rfl, fun h => by (cases h), fun y h => by (cases h)⟩
  · obtain ⟨hi0, hi1⟩ := okSet_in (okOne_set hok)
    obtain ⟨hn1, hn2⟩ := okSp_n (okOne_sp hok)
    have hlo := low_lt n.toNat (by omega)
    have hpl := low_succ n.toNat
    obtain ⟨N, rfl⟩ := Int.eq_ofNat_of_zero_le (show 0 ≤ n by omega)
    obtain ⟨S, rfl⟩ := Int.eq_ofNat_of_zero_le hi0
    rw [Int.toNat_natCast] at hlo hpl hi1
    refine ⟨N, marksTo l l.length, S, true, famVal3_yes _ l _ hok, by omega, by omega, rfl, ?_, ?_, fun _ => ⟨rfl, rfl, rfl⟩, fun y h => ?_⟩
    · rw [innerR_yes hok, Int.toNat_natCast, inner_same _ l N S (by omega) (by omega) (fun y _ => okSp_marks (okOne_sp hok) y)]
    · rw [outerR_yes hok, Int.toNat_natCast, Int.toNat_natCast, outer_same _ l N S (by omega) (by omega) (fun y _ => okSp_marks (okOne_sp hok) y)]
    · have := marks_low (okOne_sp hok) y h; rwa [Int.toNat_natCast] at this
attribute [local irreducible] p2 low memB risB
theorem ent_innerL : enters Try.prog 59 := enters_of Try.func59 (by kernel_rfl) (by kernel_rfl)
theorem ent_outerL : enters Try.prog 60 := enters_of Try.func60 (by kernel_rfl) (by kernel_rfl)
theorem ent_spInner : enters Try.prog 56 := enters_of Try.func56 (by kernel_rfl) (by kernel_rfl)
theorem ent_spOuter : enters Try.prog 57 := enters_of Try.func57 (by kernel_rfl) (by kernel_rfl)
set_option maxHeartbeats 2000000 in
theorem implProofOf_c (n : Int) (v : Value) (l : List Int) (x : Int) (w : World) (hl : ints w.heap.size w v l) (hlen : l.length < 1000000000) :
    Calls Try.prog 29 #[.agg #[.int .i64 n, v], .int .i64 x] w fun e w' => e = .returned (.tuple #[.int .i64 (innerR n l x), .int .i64 (outerR n l x), .bool (okOne n l x)]) ∧ Below w.heap.size w w' := by
  have HL := hide ((hl.alloc (.cells #[.int .i64 n, v] 28)).mono (show w.heap.size ≤ (w.alloc (.cells #[.int .i64 n, v] 28)).heap.size by simp))
  have H0 := hide ((Below.refl w.heap.size w).alloc (Nat.le_refl _) (.cells #[.int .i64 n, v] 28))
  have HZ := hide (show (w.alloc (.cells #[.int .i64 n, v] 28)).heap.size = w.heap.size + 1 by simp)
  obtain ⟨N, F, S, b, hv, hN, hS, hb, hi, ho, _, _⟩ := pf_prog n l x
  have HV := hide hv
  rw [hi, ho, hb]
  have HIN := hide (fun w1 => by have h := innerFringe_c (N : Int) F (S : Int) w1 (by omega) (by omega) (by omega) (by omega); rw [Int.toNat_natCast, Int.toNat_natCast] at h; exact h)
  have HOU := hide (fun w1 => by have h := outerFringe_c (N : Int) F (S : Int) w1 (by omega) (by omega) (by omega) (by omega); rw [Int.toNat_natCast, Int.toNat_natCast] at h; exact h)
  clear hl hv hi ho hb
  generalize innerOf F N S = A at *
  generalize outerOf F N S = B at *
  go_enter Try.func29, Try.ntmps29
  go_wp2_with (first
    | (go_at_call 58; refine (familyAndOwnSet_c n v l x _ HL.out hlen).mono ?_; rw [HV.out]; rintro e w1 ⟨rfl, hb⟩; have hz1 := hb.size; rw [HZ.out] at hz1; have HH := hide ((famAt.new 56 w1 0 noSet).row (N : Int) F); have HB := hide (bl_row ((H0.out.trans (hb.mono (by rw [HZ.out]; omega))).alloc (by omega) (.cells (fam 0 noSet) 56)) (show w.heap.size ≤ w1.heap.size by omega) (fam (N : Int) F)); clear hb)
    | (refine wpList_alloc_fam zeroT rfl rfl _ (by first | (simp only [World.size_alloc]; rfl) | rfl) ?_)
    | (refine wpList_store_fam sizeT rfl (.tmp _) (.tmp _) rfl _ _ _ rfl rfl _ _ (famAt.new _ _ _ _) ?_))
  generalize (w1.alloc (.cells (fam 0 noSet) 56)).setRow w1.heap.size (fam (N : Int) F) = W at *
  refine wp_region_old (by kernel_rfl) (by kernel_rfl) ?_
  refine q_load_fam rowT sizeT rfl (.tmp _) rfl w1.heap.size rfl (N : Int) F (fun w' h => HH.out.below h HH.out.lt) ?_
  simp only [Act.put, List.setIfInBounds_toArray, List.set_cons_zero, List.set_cons_succ]
  go_big_quiet_step ((first | exact fun _ => rfl | exact fun _ => ⟨rfl, rfl⟩))
  refine q_callH rfl 59 ent_innerL _ _ rfl #[.agg (fam (N : Int) F), .int .i64 (S : Int)] rfl (.int .i64 (A : Int)) (fun w' _ => HIN.out w') ?_
  simp only [Act.put, List.setIfInBounds_toArray, List.set_cons_zero, List.set_cons_succ]
  refine q_load_fam rowT sizeT rfl (.tmp _) rfl w1.heap.size rfl (N : Int) F (fun w' h => HH.out.below h HH.out.lt) ?_
  simp only [Act.put, List.setIfInBounds_toArray, List.set_cons_zero, List.set_cons_succ]
  go_big_quiet_step ((first | exact fun _ => rfl | exact fun _ => ⟨rfl, rfl⟩))
  refine q_callH rfl 60 ent_outerL _ _ rfl #[.agg (fam (N : Int) F), .int .i64 (S : Int)] rfl (.int .i64 (B : Int)) (fun w' _ => HOU.out w') ?_
  simp only [Act.put, List.setIfInBounds_toArray, List.set_cons_zero, List.set_cons_succ]
  repeat (first | go_big_quiet_skip | go_big_quiet_step ((first | exact fun _ => rfl | exact fun _ => ⟨rfl, rfl⟩)))
  refine wpQuiet_nil ?_
  intro w2 hb2
  have HB2 := hide (HB.out.trans (hb2.mono HB.out.size))
  clear hb2
  go_wp2
  go_ret3
  exact ⟨rfl, HB2.out⟩
set_option maxHeartbeats 2000000 in
theorem specProofOf_c (n : Int) (v : Value) (l : List Int) (x : Int) (w : World) (hl : ints w.heap.size w v l) (hlen : l.length < 1000000000) :
    Calls Try.prog 28 #[.agg #[.int .i64 n, v], .int .i64 x] w fun e w' => e = .returned (.tuple #[.int .i64 (innerR n l x), .int .i64 (outerR n l x), .bool (okOne n l x)]) ∧ Below w.heap.size w w' := by
  have HL := hide ((hl.alloc (.cells #[.int .i64 n, v] 28)).mono (show w.heap.size ≤ (w.alloc (.cells #[.int .i64 n, v] 28)).heap.size by simp))
  have H0 := hide ((Below.refl w.heap.size w).alloc (Nat.le_refl _) (.cells #[.int .i64 n, v] 28))
  have HS0 := hide (hp_last w (.cells #[.int .i64 n, v] 28))
  have HZ := hide (show (w.alloc (.cells #[.int .i64 n, v] 28)).heap.size = w.heap.size + 1 by simp)
  clear hl
  cases hok : okOne n l x
  · have HG := hide hok
    rw [innerR_no hok, outerR_no hok]
    clear hok
    go_enter Try.func28, Try.ntmps28
    go_wp2_with (go_at_call 55; refine (spOne_c n v l x _ HL.out hlen).mono ?_; rw [HG.out]; rintro e w1 ⟨rfl, hb1⟩; have HB1 := hide (H0.out.trans (hb1.mono (by rw [HZ.out]; omega))); clear hb1)
    go_ret3
    exact ⟨rfl, HB1.out⟩
  · have HG := hide hok
    have hsp := okOne_sp hok
    obtain ⟨hi0, hi1⟩ := okSet_in (okOne_set hok)
    have hn := okSp_n hsp
    have hlo := low_lt n.toNat (by omega)
    have HI := hide (okSp_inc hsp)
    have HIN := hide (fun w1 (h : ints w1.heap.size w1 v l) => spInner_c v l x w1 h HI.out hlen (by omega) (by omega))
    have HOU := hide (fun w1 (h : ints w1.heap.size w1 v l) => spOuter_c n v l x w1 h HI.out hlen (by omega) (by omega) (by omega) (by omega))
    rw [← innerR_yes hok] at HIN
    rw [← outerR_yes hok] at HOU
    clear hok hsp hi0 hi1 hlo
    generalize innerR n l x = A at *
    generalize outerR n l x = B at *
    go_enter Try.func28, Try.ntmps28
    go_wp2_with (go_at_call 55; refine (spOne_c n v l x _ HL.out hlen).mono ?_; rw [HG.out]; rintro e w1 ⟨rfl, hb1⟩; have HS1 := hide ((hb1.block w.heap.size (by rw [HZ.out]; omega)).trans HS0.out); have HL1 := hide (HL.out.below hb1 (Nat.le_refl _)); have hz1 := hb1.size; have HB1 := hide (H0.out.trans (hb1.mono (by rw [HZ.out]; omega))); clear hb1)
    have hz2 := HZ.out
    have HLW := hide (show ∀ w', Below w1.heap.size w1 w' → ints w'.heap.size w' v l from fun w' h => (HL1.out.below h (by omega)).mono (by have := h.size; omega))
    have HC0 := hide (show ∀ w', Below w1.heap.size w1 w' → w'.cell? ⟨w.heap.size, 0, none⟩ = some (.int .i64 n) from fun w' h => (h.cell (p := ⟨w.heap.size, 0, none⟩) (by show w.heap.size < _; omega)).trans (cells_at0 HS1.out))
    have HC1 := hide (show ∀ w', Below w1.heap.size w1 w' → w'.cell? ⟨w.heap.size, 1, none⟩ = some v from fun w' h => (h.cell (p := ⟨w.heap.size, 1, none⟩) (by show w.heap.size < _; omega)).trans (cells_at1 HS1.out))
    clear hz2
    refine wp_region_old (by kernel_rfl) (by kernel_rfl) ?_
    go_big_quiet_step ((first | exact fun _ => rfl | exact fun _ => ⟨rfl, rfl⟩))
    refine q_load_cell rowS rfl (.tmp _) rfl ⟨w.heap.size, 1, none⟩ rfl v HC1.out ?_
    simp only [Act.put, List.setIfInBounds_toArray, List.set_cons_zero, List.set_cons_succ]
    go_big_quiet_step ((first | exact fun _ => rfl | exact fun _ => ⟨rfl, rfl⟩))
    refine q_callH rfl 56 ent_spInner _ _ rfl #[v, .int .i64 x] rfl (.int .i64 A) (fun w' h => (HIN.out w' (HLW.out w' h)).mono fun e w2 ⟨he, hw⟩ => ⟨he, by rw [← hw]; exact Below.refl _ _⟩) ?_
    simp only [Act.put, List.setIfInBounds_toArray, List.set_cons_zero, List.set_cons_succ]
    refine q_load_two rowSp sizeSp rfl (.tmp _) rfl w.heap.size 0 rfl (.int .i64 n) v HC0.out HC1.out ?_
    simp only [Act.put, List.setIfInBounds_toArray, List.set_cons_zero, List.set_cons_succ]
    go_big_quiet_step ((first | exact fun _ => rfl | exact fun _ => ⟨rfl, rfl⟩))
    refine q_callH rfl 57 ent_spOuter _ _ rfl #[.agg #[.int .i64 n, v], .int .i64 x] rfl (.int .i64 B) (fun w' h => HOU.out w' (HLW.out w' h)) ?_
    simp only [Act.put, List.setIfInBounds_toArray, List.set_cons_zero, List.set_cons_succ]
    repeat (first | go_big_quiet_skip | go_big_quiet_step ((first | exact fun _ => rfl | exact fun _ => ⟨rfl, rfl⟩)))
    refine wpQuiet_nil ?_
    intro w2 hb2
    have HB2 := hide (HB1.out.trans (hb2.mono HB1.out.size))
    clear hb2
    go_wp2
    go_ret3
    exact ⟨rfl, HB2.out⟩
end Go.Proofs.Ytijgngnjhmkhaaa
