/- Contracts: slices.Equal; IsProof, the program's and the specification's. -/
import Derived.Test.YtijgngnjhmkhaaaHb
import Derived.Test.YtijgngnjhmkhaaaHc
import Derived.Test.YtijgngnjhmkhaaaFr
namespace Go.Proofs.Ytijgngnjhmkhaaa
open Go.RowKit
set_option maxRecDepth 100000
set_option linter.unusedSimpArgs false
theorem list_eq_of {A B : List Int} (hl : A.length = B.length) (h : ∀ k, k < A.length → A[k]?.getD 0 = B[k]?.getD 0) : A = B := by
  apply List.ext_getElem hl
  intro i h1 h2
  have := h i h1
  rwa [List.getElem?_eq_getElem h1, List.getElem?_eq_getElem h2, Option.getD_some, Option.getD_some] at this
def isF (l : List Int) (y z : Int) : List Int := lfL l y.toNat z.toNat
def isB (n : Int) (l : List Int) (x y z : Int) : Bool := okOne n l x && ansB n.toNat y z
def isR (n : Int) (l : List Int) (x y z : Int) : Bool := isB n l x y z && decide (isF l y z = [x])
theorem is_no {n : Int} {l : List Int} {x y z : Int} (h : isB n l x y z = false) : isR n l x y z = false := by unfold isR; rw [h]; rfl
theorem is_yes {n : Int} {l : List Int} {x y z : Int} (h : isB n l x y z = true) : isR n l x y z = decide (isF l y z = [x]) := by unfold isR; rw [h]; rfl
theorem is_one {L : List Int} {x : Int} : decide (L = [x]) = (decide ((L.length : Int) = 1) && decide (L[0]?.getD 0 = x)) := by
  rw [Bool.eq_iff_iff, Bool.and_eq_true, decide_eq_true_eq, decide_eq_true_eq, decide_eq_true_eq]
  constructor
  · rintro rfl; simp
  · rintro ⟨h1, h2⟩
    match L, h1, h2 with
    | [], h1, _ => simp at h1
    | [a], _, h2 => simp at h2; rw [h2]
    | a :: b :: r, h1, _ => simp at h1; omega
theorem ints_one (w : World) (x : Int) (T : TypeId) : ints (w.alloc (.cells #[.int .i64 x] T)).heap.size (w.alloc (.cells #[.int .i64 x] T)) (.slice (some ⟨w.heap.size, 0, none⟩) 1 1) [x] := by
  refine .inr ⟨w.heap.size, 0, 1, rfl, by simp, by simp, fun j hj => ?_⟩
  have : j = 0 := by simp at hj; omega
  subst this
  rw [hp_cell (hp_last w (.cells #[.int .i64 x] T))]
  rfl
attribute [local irreducible] p2 low memB risB famAt own
set_option maxHeartbeats 2000000 in
theorem equalS_c (u v : Value) (A B : List Int) (w : World) (hA : ints w.heap.size w u A) (hB : ints w.heap.size w v B) (hAl : A.length < 1000000000) (_ : B.length < 1000000000) :
    Calls Try.prog 63 #[u, v] w fun e w' => e = .returned (.bool (decide (A = B))) ∧ Below w.heap.size w w' := by
  have HA := hide hA
  have HB := hide hB
  clear hA hB
  by_cases hl : A.length = B.length
  · have hlb : ((A.length : Int) != (B.length : Int)) = false := by simp [hl]
    have hl2 : (A.length : Int) = (B.length : Int) := by omega
    have HL := hide hl
    clear hl
    go_enter Try.func63, Try.ntmps63
    go_wp2_with (first
      | (refine wpList_len sliceT rfl (.tmp 6) rfl u rfl w.heap.size A HA.out ?_)
      | (refine wpList_len sliceT rfl (.tmp 8) rfl v rfl w.heap.size B HB.out ?_)
      | (refine wpList_len sliceT rfl (.tmp 11) rfl u rfl w.heap.size A HA.out ?_))
    clear hlb hl2
    go_loopw [13] (fun i wr => ∃ k : Nat, k ≤ A.length ∧ i = .int .i64 (k : Int) ∧ Hid (∀ j, j < k → A[j]?.getD 0 = B[j]?.getD 0) ∧ Hid (Below w.heap.size w wr)) (fun i _ => A.length - (intOf i).toNat)
    case atStart => exact ⟨0, Nat.zero_le _, rfl, fun j hj => absurd hj (by omega), Below.refl _ _⟩
    case round =>
      obtain ⟨k, hk, rfl, HE, HW⟩ := hrel
      by_cases hlt : k < A.length
      · have hlt2 : k < B.length := by rw [← HL.out]; exact hlt
        have HAW := hide (HA.out.below HW.out (Nat.le_refl _))
        have HBW := hide (HB.out.below HW.out (Nat.le_refl _))
        have hsz := HW.out.size
        by_cases he : A[k]?.getD 0 = B[k]?.getD 0
        · have HEQ := hide he
          have hne : (A[k]?.getD 0 != B[k]?.getD 0) = false := by simp [he]
          clear he
          generalize hxx : A[k]?.getD 0 = x at *
          generalize hyy : B[k]?.getD 0 = y at *
          have HXX := hide hxx
          have HYY := hide hyy
          clear hxx hyy
          go_wp2_with fail
          refine wp_region_old (by kernel_rfl) (by kernel_rfl) ?_
          go_big_quiet_step ((first | exact fun _ => rfl | exact fun _ => ⟨rfl, rfl⟩))
          go_big_quiet_step ((first | exact fun _ => rfl | exact fun _ => ⟨rfl, rfl⟩))
          refine q_at sliceT intS rfl (.tmp _) (.tmp _) rfl _ rfl _ rfl k rfl w.heap.size A wr HAW.out hlt ?_
          intro ad1 hcell1 hblk1
          rw [HXX.out] at hcell1
          simp only [Act.put, List.setIfInBounds_toArray, List.set_cons_zero, List.set_cons_succ]
          refine q_load_cell rowI rfl (.tmp _) rfl ad1 rfl (.int .i64 x) (fun w' h => (h.cell (p := ad1) (by omega)).trans hcell1) ?_
          simp only [Act.put, List.setIfInBounds_toArray, List.set_cons_zero, List.set_cons_succ]
          go_big_quiet_step ((first | exact fun _ => rfl | exact fun _ => ⟨rfl, rfl⟩))
          go_big_quiet_step ((first | exact fun _ => rfl | exact fun _ => ⟨rfl, rfl⟩))
          refine q_at sliceT intS rfl (.tmp _) (.tmp _) rfl _ rfl _ rfl k rfl w.heap.size B wr HBW.out hlt2 ?_
          intro ad2 hcell2 hblk2
          rw [HYY.out] at hcell2
          simp only [Act.put, List.setIfInBounds_toArray, List.set_cons_zero, List.set_cons_succ]
          refine q_load_cell rowI rfl (.tmp _) rfl ad2 rfl (.int .i64 y) (fun w' h => (h.cell (p := ad2) (by omega)).trans hcell2) ?_
          simp only [Act.put, List.setIfInBounds_toArray, List.set_cons_zero, List.set_cons_succ]
          refine q_valH rfl (.bool (x != y)) (fun w' => by simp [execOp, go_sem, bne]) ?_
          simp only [Act.put, List.setIfInBounds_toArray, List.set_cons_zero, List.set_cons_succ]
          rw [hne]
          refine wpQuiet_nil ?_
          intro w3 hb3
          clear hcell1 hcell2 hblk1 hblk2
          have HW3 := hide (HW.out.trans (hb3.mono hsz))
          clear hb3
          go_wp2
          go_roundw
          case rel => exact ⟨k + 1, by omega, by go_num, hide (fun j hj => by rcases Nat.lt_or_ge j k with h | h; exact HE.out j h; rw [show j = k by omega, HXX.out, HYY.out, HEQ.out]), HW3⟩
          case measure => (simp [intOf] <;> omega)
        · have HNE := hide (show decide (A = B) = false from decide_eq_false fun h => he (by rw [h]))
          have hne : (A[k]?.getD 0 != B[k]?.getD 0) = true := by simp [he]
          clear he
          generalize hxx : A[k]?.getD 0 = x at *
          generalize hyy : B[k]?.getD 0 = y at *
          have HXX := hide hxx
          have HYY := hide hyy
          clear hxx hyy
          go_wp2_with fail
          refine wp_region_old (by kernel_rfl) (by kernel_rfl) ?_
          go_big_quiet_step ((first | exact fun _ => rfl | exact fun _ => ⟨rfl, rfl⟩))
          go_big_quiet_step ((first | exact fun _ => rfl | exact fun _ => ⟨rfl, rfl⟩))
          refine q_at sliceT intS rfl (.tmp _) (.tmp _) rfl _ rfl _ rfl k rfl w.heap.size A wr HAW.out hlt ?_
          intro ad1 hcell1 hblk1
          rw [HXX.out] at hcell1
          simp only [Act.put, List.setIfInBounds_toArray, List.set_cons_zero, List.set_cons_succ]
          refine q_load_cell rowI rfl (.tmp _) rfl ad1 rfl (.int .i64 x) (fun w' h => (h.cell (p := ad1) (by omega)).trans hcell1) ?_
          simp only [Act.put, List.setIfInBounds_toArray, List.set_cons_zero, List.set_cons_succ]
          go_big_quiet_step ((first | exact fun _ => rfl | exact fun _ => ⟨rfl, rfl⟩))
          go_big_quiet_step ((first | exact fun _ => rfl | exact fun _ => ⟨rfl, rfl⟩))
          refine q_at sliceT intS rfl (.tmp _) (.tmp _) rfl _ rfl _ rfl k rfl w.heap.size B wr HBW.out hlt2 ?_
          intro ad2 hcell2 hblk2
          rw [HYY.out] at hcell2
          simp only [Act.put, List.setIfInBounds_toArray, List.set_cons_zero, List.set_cons_succ]
          refine q_load_cell rowI rfl (.tmp _) rfl ad2 rfl (.int .i64 y) (fun w' h => (h.cell (p := ad2) (by omega)).trans hcell2) ?_
          simp only [Act.put, List.setIfInBounds_toArray, List.set_cons_zero, List.set_cons_succ]
          refine q_valH rfl (.bool (x != y)) (fun w' => by simp [execOp, go_sem, bne]) ?_
          simp only [Act.put, List.setIfInBounds_toArray, List.set_cons_zero, List.set_cons_succ]
          rw [hne]
          refine wpQuiet_nil ?_
          intro w3 hb3
          clear hcell1 hcell2 hblk1 hblk2
          have HW3 := hide (HW.out.trans (hb3.mono hsz))
          clear hb3
          go_wp2
          go_ret
          exact ⟨ret_b (by rw [HNE.out]), HW3.out⟩
      · have HEQ := hide (show decide (A = B) = true from decide_eq_true (list_eq_of HL.out fun j hj => HE.out j (by omega)))
        have hlt' : ¬ ((k : Int) < (B.length : Int)) := by have := HL.out; omega
        go_wp2
        go_ret
        exact ⟨ret_b (by rw [HEQ.out]), HW.out⟩
  · have HNE := hide (show decide (A = B) = false from decide_eq_false fun h => hl (by rw [h]))
    have hlb : ((A.length : Int) != (B.length : Int)) = true := by simp; omega
    have hl2 : ¬ (A.length : Int) = (B.length : Int) := by omega
    clear hl
    go_enter Try.func63, Try.ntmps63
    go_wp2_with (first
      | (refine wpList_len sliceT rfl (.tmp 6) rfl u rfl w.heap.size A HA.out ?_)
      | (refine wpList_len sliceT rfl (.tmp 8) rfl v rfl w.heap.size B HB.out ?_))
    go_ret
    exact ⟨ret_b (by rw [HNE.out]), Below.refl _ _⟩
theorem is_prog (n : Int) (l : List Int) (x y z : Int) : ∃ (N : Nat) (F : Nat → Bool) (S : Nat) (b : Bool), famVal3 n l x = .tuple #[.agg (fam (N : Int) F), .int .i64 (S : Int), .bool b] ∧ N ≤ 7 ∧ (∀ y, F y = true → y ≤ low N) ∧
    isB n l x y z = (b && ansB N y z) ∧ (b = true → (S : Int) = x ∧ setsTo (leF F y.toNat z.toNat) 128 = isF l y z) := by
  cases hok : okOne n l x
  · exact ⟨0, noSet, 0, false, famVal3_no n l x hok, by omega, fun y h => by (cases h), by unfold isB; rw [hok]; rfl, fun h => by (cases h)⟩
  · obtain ⟨hi0, hi1⟩ := okSet_in (okOne_set hok)
    have hsp := okOne_sp hok
    obtain ⟨hn1, hn2⟩ := okSp_n hsp
    obtain ⟨N, rfl⟩ := Int.eq_ofNat_of_zero_le (show 0 ≤ n by omega)
    obtain ⟨S, rfl⟩ := Int.eq_ofNat_of_zero_le hi0
    refine ⟨N, marksTo l l.length, S, true, famVal3_yes _ l _ hok, by omega, fun y h => ?_, by unfold isB; rw [hok, Int.toNat_natCast], fun _ => ⟨rfl, ?_⟩⟩
    · have := marks_low hsp y h; rwa [Int.toNat_natCast] at this
    · unfold isF; rw [lf_sets hsp]
set_option maxHeartbeats 4000000 in
theorem implIsProof_c (n : Int) (v : Value) (l : List Int) (x y z : Int) (w : World) (hl : ints w.heap.size w v l) (hlen : l.length < 1000000000) :
    Calls Try.prog 31 #[.agg #[.int .i64 n, v], .int .i64 x, .int .i64 y, .int .i64 z] w fun e w' => e = .returned (.tuple #[.bool (isR n l x y z), .bool (isB n l x y z)]) ∧ Below w.heap.size w w' := by
  have HL := hide ((hl.alloc (.cells #[.int .i64 n, v] 28)).mono (show w.heap.size ≤ (w.alloc (.cells #[.int .i64 n, v] 28)).heap.size by simp))
  have H0 := hide ((Below.refl w.heap.size w).alloc (Nat.le_refl _) (.cells #[.int .i64 n, v] 28))
  have HZ := hide (show (w.alloc (.cells #[.int .i64 n, v] 28)).heap.size = w.heap.size + 1 by simp)
  obtain ⟨N, F, S, b, hv, hN, hF, hb, hy⟩ := is_prog n l x y z
  have HV := hide hv
  have HFF := hide hF
  have HAN := hide (fun w1 => areAnswers_c N F y z w1 hN)
  have hlo := low_lt N hN
  clear hl hv hF
  cases b
  · have hbb : isB n l x y z = false := by rw [hb]; rfl
    rw [is_no hbb, hbb]
    clear hb hy hbb
    go_enter Try.func31, Try.ntmps31
    go_wp2_with (first
      | (go_at_call 58; refine (familyAndOwnSet_c n v l _ _ HL.out hlen).mono ?_; rw [HV.out]; rintro e w1 ⟨rfl, hb⟩; have hz1 := hb.size; rw [HZ.out] at hz1; have HH := hide ((famAt.new 56 w1 0 noSet).row (N : Int) F); have HZ2 := hide (show ((w1.alloc (.cells (fam 0 noSet) 56)).setRow w1.heap.size (fam (N : Int) F)).heap.size = w1.heap.size + 1 by simp [World.setRow]); have HB := hide (bl_row ((H0.out.trans (hb.mono (by rw [HZ.out]; omega))).alloc (by omega) (.cells (fam 0 noSet) 56)) (show w.heap.size ≤ w1.heap.size by omega) (fam (N : Int) F)); clear hb)
      | (refine wpList_alloc_fam zeroT rfl rfl _ (by first | (simp only [World.size_alloc]; rfl) | rfl) ?_)
      | (refine wpList_store_fam sizeT rfl (.tmp _) (.tmp _) rfl w1.heap.size _ _ rfl rfl _ _ (famAt.new _ _ _ _) ?_)
      | (refine wpList_load_fam rowT sizeT rfl (.tmp _) rfl w1.heap.size rfl (N : Int) F (by first | exact HH3.out | exact HH.out) ?_)
      | (go_at_call 62; refine (HAN.out _).mono ?_; rintro e w3 ⟨rfl, hb3⟩; rw [HZ2.out] at hb3; have hz3 := hb3.size; rw [HZ2.out] at hz3; have HH3 := hide (HH.out.below hb3 (by omega)); have HB3 := hide (HB.out.trans (hb3.mono (by omega))); clear hb3)
      )
    go_ret2
    exact ⟨rfl, HB.out⟩
  · cases ha : ansB N y z
    · have hbb : isB n l x y z = false := by rw [hb, ha]; rfl
      rw [is_no hbb, hbb]
      rw [ha] at HAN
      clear hb hy hbb ha
      go_enter Try.func31, Try.ntmps31
      go_wp2_with (first
        | (go_at_call 58; refine (familyAndOwnSet_c n v l _ _ HL.out hlen).mono ?_; rw [HV.out]; rintro e w1 ⟨rfl, hb⟩; have hz1 := hb.size; rw [HZ.out] at hz1; have HH := hide ((famAt.new 56 w1 0 noSet).row (N : Int) F); have HZ2 := hide (show ((w1.alloc (.cells (fam 0 noSet) 56)).setRow w1.heap.size (fam (N : Int) F)).heap.size = w1.heap.size + 1 by simp [World.setRow]); have HB := hide (bl_row ((H0.out.trans (hb.mono (by rw [HZ.out]; omega))).alloc (by omega) (.cells (fam 0 noSet) 56)) (show w.heap.size ≤ w1.heap.size by omega) (fam (N : Int) F)); clear hb)
        | (refine wpList_alloc_fam zeroT rfl rfl _ (by first | (simp only [World.size_alloc]; rfl) | rfl) ?_)
        | (refine wpList_store_fam sizeT rfl (.tmp _) (.tmp _) rfl w1.heap.size _ _ rfl rfl _ _ (famAt.new _ _ _ _) ?_)
        | (refine wpList_load_fam rowT sizeT rfl (.tmp _) rfl w1.heap.size rfl (N : Int) F (by first | exact HH3.out | exact HH.out) ?_)
        | (go_at_call 62; refine (HAN.out _).mono ?_; rintro e w3 ⟨rfl, hb3⟩; rw [HZ2.out] at hb3; have hz3 := hb3.size; rw [HZ2.out] at hz3; have HH3 := hide (HH.out.below hb3 (by omega)); have HB3 := hide (HB.out.trans (hb3.mono (by omega))); clear hb3)
        )
      go_ret2
      exact ⟨rfl, HB3.out⟩
    · have hbb : isB n l x y z = true := by rw [hb, ha]; rfl
      rw [is_yes hbb, hbb]
      rw [ha] at HAN
      obtain ⟨e1, e2⟩ := hy rfl
      rw [← e1, ← e2]
      obtain ⟨hy1, hz1, _⟩ := ansB_in ha
      obtain ⟨y, rfl⟩ := Int.eq_ofNat_of_zero_le hy1.1
      obtain ⟨z, rfl⟩ := Int.eq_ofNat_of_zero_le hz1.1
      have hy8 : y < 128 := by omega
      have hz8 : z < 128 := by omega
      rw [Int.toNat_natCast, Int.toNat_natCast]
      have HLB := hide (fun w1 => leftBy_c N F y z w1 hN HFF.out hy8 hz8)
      have HSE := hide (fun w1 => sets_c (N : Int) (leF F y z) w1)
      have hLn := setsTo_len (leF F y z) 128
      have HE1 := hide e1
      rw [← e1] at HV
      clear hb hy hbb ha hy1 hz1 e1 e2
      generalize leF F y z = G at *
      generalize setsTo G 128 = L at *
      go_enter Try.func31, Try.ntmps31
      go_wp2_with (first
        | (go_at_call 58; refine (familyAndOwnSet_c n v l _ _ HL.out hlen).mono ?_; rw [HV.out]; rintro e w1 ⟨rfl, hb⟩; have hz1 := hb.size; rw [HZ.out] at hz1; have HH := hide ((famAt.new 56 w1 0 noSet).row (N : Int) F); have HZ2 := hide (show ((w1.alloc (.cells (fam 0 noSet) 56)).setRow w1.heap.size (fam (N : Int) F)).heap.size = w1.heap.size + 1 by simp [World.setRow]); have HB := hide (bl_row ((H0.out.trans (hb.mono (by rw [HZ.out]; omega))).alloc (by omega) (.cells (fam 0 noSet) 56)) (show w.heap.size ≤ w1.heap.size by omega) (fam (N : Int) F)); clear hb)
        | (refine wpList_alloc_fam zeroT rfl rfl _ (by first | (simp only [World.size_alloc]; rfl) | rfl) ?_)
        | (refine wpList_store_fam sizeT rfl (.tmp _) (.tmp _) rfl w1.heap.size _ _ rfl rfl _ _ (famAt.new _ _ _ _) ?_)
        | (refine wpList_load_fam rowT sizeT rfl (.tmp _) rfl w1.heap.size rfl (N : Int) F (by first | exact HH3.out | exact HH.out) ?_)
        | (go_at_call 62; refine (HAN.out _).mono ?_; rintro e w3 ⟨rfl, hb3⟩; rw [HZ2.out] at hb3; have hz3 := hb3.size; rw [HZ2.out] at hz3; have HH3 := hide (HH.out.below hb3 (by omega)); have HB3 := hide (HB.out.trans (hb3.mono (by omega))); clear hb3)
        | (go_at_call 64; refine (HLB.out _).mono ?_; rintro e w4 ⟨rfl, hb4⟩; have hz4 := hb4.size; have HB4 := hide (HB3.out.trans (hb4.mono (by omega))); clear hb4)
        | (go_at_call 48; refine (HSE.out _).mono ?_; rintro e w5 ⟨v5, rfl, ho5, hb5⟩; have hz5 := hb5.size; have HI5 := hide ((ho5.ints.alloc (.cells #[.int .i64 (S : Int)] 3)).mono (show w5.heap.size ≤ (w5.alloc (.cells #[.int .i64 (S : Int)] 3)).heap.size by simp)); have HJ5 := hide (ints_one w5 (S : Int) 3); have HB5 := hide ((HB4.out.trans (hb5.mono (by omega))).alloc (by omega) (.cells #[.int .i64 (S : Int)] 3)); clear ho5 hb5)
        | (go_at_call 63; refine (equalS_c _ _ L [(S : Int)] _ HI5.out HJ5.out (by omega) (by simp)).mono ?_; rintro e w6 ⟨rfl, hb6⟩; have HB6 := hide (HB5.out.trans (hb6.mono HB5.out.size)); clear hb6))
      go_ret2
      exact ⟨rfl, HB6.out⟩
set_option maxHeartbeats 4000000 in
theorem specIsProof_c (n : Int) (v : Value) (l : List Int) (x y z : Int) (w : World) (hl : ints w.heap.size w v l) (hlen : l.length < 1000000000) :
    Calls Try.prog 30 #[.agg #[.int .i64 n, v], .int .i64 x, .int .i64 y, .int .i64 z] w fun e w' => e = .returned (.tuple #[.bool (isR n l x y z), .bool (isB n l x y z)]) ∧ Below w.heap.size w w' := by
  have HL := hide ((hl.alloc (.cells #[.int .i64 n, v] 28)).mono (show w.heap.size ≤ (w.alloc (.cells #[.int .i64 n, v] 28)).heap.size by simp))
  have H0 := hide ((Below.refl w.heap.size w).alloc (Nat.le_refl _) (.cells #[.int .i64 n, v] 28))
  have HS0 := hide (hp_last w (.cells #[.int .i64 n, v] 28))
  have HZ := hide (show (w.alloc (.cells #[.int .i64 n, v] 28)).heap.size = w.heap.size + 1 by simp)
  clear hl
  cases hok : okOne n l x
  · have hbb : isB n l x y z = false := by unfold isB; rw [hok]; rfl
    have HG := hide hok
    have H1 := HG
    have H2 := HG
    rw [is_no hbb, hbb]
    clear hok hbb
    go_enter Try.func30, Try.ntmps30
    go_wp2_with (first
      | (go_at_call 55; refine (spOne_c _ v l x _ HL.out hlen).mono ?_; rw [HG.out]; rintro e w1 ⟨rfl, hb1⟩; have HS1 := hide ((hb1.block w.heap.size (by rw [HZ.out]; omega)).trans HS0.out); have d0 := cells_at0 HS1.out; have d1 := cells_at1 HS1.out; have HL1 := hide ((HL.out.below hb1 (Nat.le_refl _)).mono hb1.size); have hz1 := hb1.size; rw [HZ.out] at hz1; have HB1 := hide (H0.out.trans (hb1.mono (by rw [HZ.out]; omega))); clear hb1)
      | (go_at_call 61; refine (l1In_c _ _ _ _).mono ?_; rw [H1.out]; rintro e w' ⟨rfl, rfl⟩)
      | (go_at_call 61; refine (l1In_c _ _ _ _).mono ?_; rw [H2.out]; rintro e w' ⟨rfl, rfl⟩)
      )
    go_ret2
    exact ⟨rfl, HB1.out⟩
  · have hsp := okOne_sp hok
    obtain ⟨hn1, hn2⟩ := okSp_n hsp
    obtain ⟨m, rfl⟩ := Int.eq_ofNat_of_zero_le (show 0 ≤ n by omega)
    have HG := hide hok
    have hbd : isB (m : Int) l x y z = ansB m y z := by unfold isB; rw [hok, Int.toNat_natCast]; rfl
    have HR := hide (sp_r128 hsp)
    have hp1 := wrap_p2 m (by omega)
    have hp2 : IntKind.i64.wrap (2 ^ m) = (p2 m : Int) := by rw [IntWalk.i64_left]; exact hp1
    have hp3 := wrap_low m (by omega)
    have hp4 : (p2 m : Int) - 1 = (low m : Int) := by have := p2_pos m; unfold p2 low; omega
    have hlo := low_lt m (by omega)
    clear hok hsp
    by_cases h1 : 0 ≤ y ∧ y ≤ (low m : Int)
    · have H1 := hide (decide_eq_true h1)
      by_cases h2 : 0 ≤ z ∧ z ≤ (low m : Int)
      · have H2 := hide (decide_eq_true h2)
        obtain ⟨y, rfl⟩ := Int.eq_ofNat_of_zero_le h1.1
        obtain ⟨z, rfl⟩ := Int.eq_ofNat_of_zero_le h2.1
        have hy8 : y < 128 := by omega
        have hz8 : z < 128 := by omega
        have hand := i64_and y z (Nat.lt_trans hy8 (by decide)) (Nat.lt_trans hz8 (by decide))
        rw [ansB_is (n := m) (show y ≤ low m by omega) (show z ≤ low m by omega)] at hbd
        have HLF := hide (fun w1 h => asLeft_c (m : Int) v l y z w1 h hlen HR.out hy8 hz8)
        have hle := lfL_le l y z
        have hFd : isF l (y : Int) (z : Int) = lfL l y z := by unfold isF; rw [Int.toNat_natCast, Int.toNat_natCast]
        generalize hd : (y &&& z) = d at *
        cases hb : (d == 0)
        · have hbb : isB (m : Int) l x (y : Int) (z : Int) = false := by rw [hbd, hb]
          have hb2 : ((d : Int) != 0) = true := by simp at hb ⊢; exact hb
          have hb3 : ((d : Int) == 0) = false := zbS hb
          rw [is_no hbb, hbb]
          clear hb hd h1 h2 hbd hbb hFd hle
          go_enter Try.func30, Try.ntmps30
          go_wp2_with (first
            | (go_at_call 55; refine (spOne_c _ v l x _ HL.out hlen).mono ?_; rw [HG.out]; rintro e w1 ⟨rfl, hb1⟩; have HS1 := hide ((hb1.block w.heap.size (by rw [HZ.out]; omega)).trans HS0.out); have d0 := cells_at0 HS1.out; have d1 := cells_at1 HS1.out; have HL1 := hide ((HL.out.below hb1 (Nat.le_refl _)).mono hb1.size); have hz1 := hb1.size; rw [HZ.out] at hz1; have HB1 := hide (H0.out.trans (hb1.mono (by rw [HZ.out]; omega))); clear hb1)
            | (go_at_call 61; refine (l1In_c _ _ _ _).mono ?_; rw [H1.out]; rintro e w' ⟨rfl, rfl⟩)
            | (go_at_call 61; refine (l1In_c _ _ _ _).mono ?_; rw [H2.out]; rintro e w' ⟨rfl, rfl⟩)
            )
          go_ret2
          exact ⟨rfl, HB1.out⟩
        · have hbb : isB (m : Int) l x (y : Int) (z : Int) = true := by rw [hbd, hb]
          have hd0 : d = 0 := by simpa using hb
          have hRR : isR (m : Int) l x (y : Int) (z : Int) = (decide (((lfL l y z).length : Int) = 1) && decide ((lfL l y z)[0]?.getD 0 = x)) := by rw [is_yes hbb, hFd, is_one]
          rw [hRR, hbb]
          subst hd0
          clear hb hd h1 h2 hbd hbb hFd hRR
          generalize lfL l y z = L at *
          by_cases hl1 : (L.length : Int) = 1
          · have h0 : 0 < L.length := by omega
            rw [decide_eq_true hl1, Bool.true_and]
            have hl1b : ((L.length : Int) == 1) = true := by simp [hl1]
            generalize hx0 : L[0]?.getD 0 = a0 at *
            have HX := hide hx0
            clear hx0
            have HRR := hide (show decide (a0 = x) = (a0 == x) by rw [Bool.eq_iff_iff]; simp)
            rw [HRR.out]
            generalize hq : (a0 == x) = q at *
            go_enter Try.func30, Try.ntmps30
            go_wp2_with (first
              | (go_at_call 55; refine (spOne_c _ v l x _ HL.out hlen).mono ?_; rw [HG.out]; rintro e w1 ⟨rfl, hb1⟩; have HS1 := hide ((hb1.block w.heap.size (by rw [HZ.out]; omega)).trans HS0.out); have d0 := cells_at0 HS1.out; have d1 := cells_at1 HS1.out; have HL1 := hide ((HL.out.below hb1 (Nat.le_refl _)).mono hb1.size); have hz1 := hb1.size; rw [HZ.out] at hz1; have HB1 := hide (H0.out.trans (hb1.mono (by rw [HZ.out]; omega))); clear hb1)
              | (go_at_call 61; refine (l1In_c _ _ _ _).mono ?_; rw [H1.out]; rintro e w' ⟨rfl, rfl⟩)
              | (go_at_call 61; refine (l1In_c _ _ _ _).mono ?_; rw [H2.out]; rintro e w' ⟨rfl, rfl⟩)
              | (go_at_call 45; refine (HLF.out _ HL1.out).mono ?_; rintro e w2 ⟨v2, rfl, ho2, hb2⟩; have HO2 := hide ho2.ints; have HB2 := hide (HB1.out.trans (hb2.mono (by omega))); clear ho2 hb2)
              | (refine wpList_len sliceT rfl (.tmp _) rfl _ rfl w2.heap.size L HO2.out ?_)
              | (refine wpList_at sliceT intS rfl (.tmp _) _ rfl _ rfl 0 rfl w2.heap.size L HO2.out h0 ?_; intro ad hcell hblk; rw [HX.out] at hcell))
            go_ret2
            exact ⟨rfl, HB2.out⟩
          · have hl1b : ((L.length : Int) == 1) = false := by simp [hl1]
            rw [decide_eq_false hl1, Bool.false_and]
            go_enter Try.func30, Try.ntmps30
            go_wp2_with (first
              | (go_at_call 55; refine (spOne_c _ v l x _ HL.out hlen).mono ?_; rw [HG.out]; rintro e w1 ⟨rfl, hb1⟩; have HS1 := hide ((hb1.block w.heap.size (by rw [HZ.out]; omega)).trans HS0.out); have d0 := cells_at0 HS1.out; have d1 := cells_at1 HS1.out; have HL1 := hide ((HL.out.below hb1 (Nat.le_refl _)).mono hb1.size); have hz1 := hb1.size; rw [HZ.out] at hz1; have HB1 := hide (H0.out.trans (hb1.mono (by rw [HZ.out]; omega))); clear hb1)
              | (go_at_call 61; refine (l1In_c _ _ _ _).mono ?_; rw [H1.out]; rintro e w' ⟨rfl, rfl⟩)
              | (go_at_call 61; refine (l1In_c _ _ _ _).mono ?_; rw [H2.out]; rintro e w' ⟨rfl, rfl⟩)
              | (go_at_call 45; refine (HLF.out _ HL1.out).mono ?_; rintro e w2 ⟨v2, rfl, ho2, hb2⟩; have HO2 := hide ho2.ints; have HB2 := hide (HB1.out.trans (hb2.mono (by omega))); clear ho2 hb2)
              | (refine wpList_len sliceT rfl (.tmp _) rfl _ rfl w2.heap.size L HO2.out ?_)
              )
            go_ret2
            exact ⟨rfl, HB2.out⟩
      · have H2 := hide (decide_eq_false h2)
        have hbb : isB (m : Int) l x y z = false := by rw [hbd, ansB_no2 h2]
        rw [is_no hbb, hbb]
        clear h1 h2 hbd hbb
        go_enter Try.func30, Try.ntmps30
        go_wp2_with (first
          | (go_at_call 55; refine (spOne_c _ v l x _ HL.out hlen).mono ?_; rw [HG.out]; rintro e w1 ⟨rfl, hb1⟩; have HS1 := hide ((hb1.block w.heap.size (by rw [HZ.out]; omega)).trans HS0.out); have d0 := cells_at0 HS1.out; have d1 := cells_at1 HS1.out; have HL1 := hide ((HL.out.below hb1 (Nat.le_refl _)).mono hb1.size); have hz1 := hb1.size; rw [HZ.out] at hz1; have HB1 := hide (H0.out.trans (hb1.mono (by rw [HZ.out]; omega))); clear hb1)
          | (go_at_call 61; refine (l1In_c _ _ _ _).mono ?_; rw [H1.out]; rintro e w' ⟨rfl, rfl⟩)
          | (go_at_call 61; refine (l1In_c _ _ _ _).mono ?_; rw [H2.out]; rintro e w' ⟨rfl, rfl⟩)
          )
        go_ret2
        exact ⟨rfl, HB1.out⟩
    · have H1 := hide (decide_eq_false h1)
      have H2 := H1
      have hbb : isB (m : Int) l x y z = false := by rw [hbd, ansB_no1 h1]
      rw [is_no hbb, hbb]
      clear h1 hbd hbb
      go_enter Try.func30, Try.ntmps30
      go_wp2_with (first
        | (go_at_call 55; refine (spOne_c _ v l x _ HL.out hlen).mono ?_; rw [HG.out]; rintro e w1 ⟨rfl, hb1⟩; have HS1 := hide ((hb1.block w.heap.size (by rw [HZ.out]; omega)).trans HS0.out); have d0 := cells_at0 HS1.out; have d1 := cells_at1 HS1.out; have HL1 := hide ((HL.out.below hb1 (Nat.le_refl _)).mono hb1.size); have hz1 := hb1.size; rw [HZ.out] at hz1; have HB1 := hide (H0.out.trans (hb1.mono (by rw [HZ.out]; omega))); clear hb1)
        | (go_at_call 61; refine (l1In_c _ _ _ _).mono ?_; rw [H1.out]; rintro e w' ⟨rfl, rfl⟩)
        | (go_at_call 61; refine (l1In_c _ _ _ _).mono ?_; rw [H2.out]; rintro e w' ⟨rfl, rfl⟩)
        )
      go_ret2
      exact ⟨rfl, HB1.out⟩
end Go.Proofs.Ytijgngnjhmkhaaa
