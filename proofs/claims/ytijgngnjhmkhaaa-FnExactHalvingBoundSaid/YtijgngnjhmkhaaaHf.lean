/- Contracts: HalvingBound, the program's and the specification's. -/
import Derived.Test.YtijgngnjhmkhaaaHb
import Derived.Test.YtijgngnjhmkhaaaHar
namespace Go.Proofs.Ytijgngnjhmkhaaa
open Go.RowKit
set_option maxRecDepth 100000
set_option linter.unusedSimpArgs false
theorem hv_ltP {c k : Nat} (hc : c ≤ 128) (hk : k ≤ 7) : p2 k < c ↔ k < hvN c := hv_lt hc hk
attribute [local irreducible] p2 low memB risB
theorem halvings_c (c : Nat) (w : World) (hc : c ≤ 128) :
    Calls Try.prog 54 #[.int .i64 (c : Int)] w fun e w' => e = .returned (.int .i64 (hvN c : Int)) ∧ w = w' := by
  have HV := hide (fun k (h : k ≤ 7) => hv_ltP hc h)
  have h7 := hv_le c
  generalize hvN c = h at *
  go_enter Try.func54, Try.ntmps54
  go_wp2
  go_loopw [3] (fun i wr => ∃ k : Nat, k ≤ h ∧ i = .int .i64 (k : Int) ∧ wr = w) (fun i _ => h - (intOf i).toNat)
  case atStart => exact ⟨0, Nat.zero_le _, rfl, rfl⟩
  case round =>
    obtain ⟨k, hk, rfl, rfl⟩ := hrel
    have hp1 := wrap_p2 k (by omega)
    have hp2 : IntKind.i64.wrap (2 ^ k) = (p2 k : Int) := by rw [IntWalk.i64_left]; exact hp1
    have hv := HV.out k (by omega)
    by_cases hlt : k < h
    · have hlt' : (p2 k : Int) < (c : Int) := by have := hv.2 hlt; omega
      generalize p2 k = P at *
      go_wp2
      go_roundw
      case rel => exact ⟨k + 1, by omega, by go_num, trivial⟩
      case measure => (simp [intOf] <;> omega)
    · have hlt' : ¬ (p2 k : Int) < (c : Int) := by intro h2; exact hlt (hv.1 (by omega))
      generalize p2 k = P at *
      have hke : k = h := by omega
      subst hke
      go_wp2
      go_ret
      exact ⟨rfl, rfl⟩
theorem ent_count : enters Try.prog 49 := enters_of Try.func49 (by kernel_rfl) (by kernel_rfl)
theorem hb_prog (n : Int) (l : List Int) : ∃ N F b, famVal n l = .tuple #[.agg (fam N F), .bool b] ∧ okSp n l = b ∧ hbR n l = (hvN (cntS F) : Int) := by
  cases h : okSp n l
  · refine ⟨0, noSet, false, famVal_no n l h, rfl, ?_⟩
    unfold hbR cntS
    rw [h, sets_noneH]; rfl
  · refine ⟨n, _, true, famVal_yes n l h, rfl, ?_⟩
    unfold hbR cntS
    rw [if_pos h, ← okSp_list h]
set_option maxHeartbeats 2000000 in
theorem implHalvingBound_c (n : Int) (v : Value) (l : List Int) (w : World) (hl : ints w.heap.size w v l) (hlen : l.length < 1000000000) :
    Calls Try.prog 27 #[.agg #[.int .i64 n, v]] w fun e w' => e = .returned (.tuple #[.int .i64 (hbR n l), .bool (okSp n l)]) ∧ Below w.heap.size w w' := by
  have HL := hide ((hl.alloc (.cells #[.int .i64 n, v] 28)).mono (show w.heap.size ≤ (w.alloc (.cells #[.int .i64 n, v] 28)).heap.size by simp))
  have H0 := hide ((Below.refl w.heap.size w).alloc (Nat.le_refl _) (.cells #[.int .i64 n, v] 28))
  have HZ := hide (show (w.alloc (.cells #[.int .i64 n, v] 28)).heap.size = w.heap.size + 1 by simp)
  obtain ⟨N, F, b, hv, hb, hr⟩ := hb_prog n l
  have HV := hide hv
  rw [hr, hb]
  clear hl hv hr hb
  have hc := cntS_le F
  go_enter Try.func27, Try.ntmps27
  go_wp2_with (first
    | (go_at_call 53; refine (familyOf_c n v l _ HL.out hlen).mono ?_; rw [HV.out]; rintro e w1 ⟨rfl, hb⟩; have hz1 := hb.size; rw [HZ.out] at hz1; have HH := hide ((famAt.new 56 w1 0 noSet).row N F); have HZ2 := hide (show ((w1.alloc (.cells (fam 0 noSet) 56)).setRow w1.heap.size (fam N F)).heap.size = w1.heap.size + 1 by simp [World.setRow]); have HB := hide (bl_row ((H0.out.trans (hb.mono (by rw [HZ.out]; omega))).alloc (by omega) (.cells (fam 0 noSet) 56)) (show w.heap.size ≤ w1.heap.size by omega) (fam N F)); clear hb)
    | (refine wpList_alloc_fam zeroT rfl rfl _ (by first | (simp only [World.size_alloc]; rfl) | rfl) ?_)
    | (refine wpList_store_fam sizeT rfl (.tmp _) (.tmp _) rfl w1.heap.size _ _ rfl rfl _ _ (famAt.new _ _ _ _) ?_)
    | (refine wpList_load_fam rowT sizeT rfl (.tmp _) rfl w1.heap.size rfl N F HH.out ?_)
    | (go_at_call 49; refine (count_c N F _).mono ?_; rintro e w3 ⟨rfl, hb3⟩; rw [HZ2.out] at hb3; have HB3 := hide (HB.out.trans (hb3.mono (by omega))); clear hb3)
    | (go_at_call 54; refine (halvings_c _ _ hc).mono ?_; rintro e w4 ⟨rfl, rfl⟩))
  go_ret2
  exact ⟨rfl, HB3.out⟩
set_option maxHeartbeats 2000000 in
theorem specHalvingBound_c (n : Int) (v : Value) (l : List Int) (w : World) (hl : ints w.heap.size w v l) (hlen : l.length < 1000000000) :
    Calls Try.prog 26 #[.agg #[.int .i64 n, v]] w fun e w' => e = .returned (.tuple #[.int .i64 (hbR n l), .bool (okSp n l)]) ∧ Below w.heap.size w w' := by
  have HL := hide ((hl.alloc (.cells #[.int .i64 n, v] 28)).mono (show w.heap.size ≤ (w.alloc (.cells #[.int .i64 n, v] 28)).heap.size by simp))
  have H0 := hide ((Below.refl w.heap.size w).alloc (Nat.le_refl _) (.cells #[.int .i64 n, v] 28))
  have HS0 := hide (hp_last w (.cells #[.int .i64 n, v] 28))
  have HZ := hide (show (w.alloc (.cells #[.int .i64 n, v] 28)).heap.size = w.heap.size + 1 by simp)
  clear hl
  cases hok : okSp n l
  · have HG := hide (show goodB n l = false by rw [← ok_good]; exact hok)
    have HR := hide (show hbR n l = 0 by unfold hbR; rw [hok]; rfl)
    rw [HR.out]
    clear hok
    go_enter Try.func26, Try.ntmps26
    go_wp2_with (go_at_call 52; refine (spGood_c n v l _ HL.out hlen).mono ?_; rw [HG.out]; rintro e w1 ⟨rfl, hb1⟩; have HB1 := hide (H0.out.trans (hb1.mono (by rw [HZ.out]; omega))); clear hb1)
    go_ret2
    exact ⟨rfl, HB1.out⟩
  · have HG := hide (show goodB n l = true by rw [← ok_good]; exact hok)
    have HR := hide (show hbR n l = (hvN l.length : Int) by unfold hbR; rw [if_pos hok])
    have hc : l.length ≤ 128 := by rw [okSp_list hok]; exact setsTo_len _ _
    have HV := hide (fun k (h : k ≤ 7) => hv_ltP hc h)
    have h7 := hv_le l.length
    rw [HR.out]
    clear hok
    generalize hvN l.length = h at *
    go_enter Try.func26, Try.ntmps26
    go_wp2_with (go_at_call 52; refine (spGood_c n v l _ HL.out hlen).mono ?_; rw [HG.out]; rintro e w1 ⟨rfl, hb1⟩; have HS1 := hide ((hb1.block w.heap.size (by rw [HZ.out]; omega)).trans HS0.out); have d1 := cells_at1 HS1.out; have HL1 := hide ((HL.out.below hb1 (Nat.le_refl _)).mono hb1.size); have hz1 := hb1.size; rw [HZ.out] at hz1; have HB1 := hide (H0.out.trans (hb1.mono (by rw [HZ.out]; omega))); clear hb1)
    go_loopw [4] (fun i wr => ∃ k : Nat, k ≤ h ∧ i = .int .i64 (k : Int) ∧ Hid (Below w1.heap.size w1 wr)) (fun i _ => h - (intOf i).toNat)
    case atStart => exact ⟨0, Nat.zero_le _, rfl, Below.refl _ _⟩
    case round =>
      obtain ⟨k, hk, rfl, HB⟩ := hrel
      have hp1 := wrap_p2 k (by omega)
      have hp2 : IntKind.i64.wrap (2 ^ k) = (p2 k : Int) := by rw [IntWalk.i64_left]; exact hp1
      have hv := HV.out k (by omega)
      have hsz := HB.out.size
      have HCV := hide (show ∀ w', Below wr.heap.size wr w' → w'.cell? ⟨w.heap.size, 1, none⟩ = some v from fun w' h => (h.cell (p := ⟨w.heap.size, 1, none⟩) (by show w.heap.size < _; omega)).trans ((HB.out.cell (p := ⟨w.heap.size, 1, none⟩) (by show w.heap.size < _; omega)).trans (cells_at1 HS1.out)))
      have HSH := hide HL1.out.shape
      clear d1
      generalize p2 k = P at *
      by_cases hlt : k < h
      · have hlt' : (P : Int) < (l.length : Int) := by have := hv.2 hlt; omega
        have hltb : decide ((P : Int) < (l.length : Int)) = true := decide_eq_true hlt'
        go_wp2_with fail
        refine wp_region_old (by kernel_rfl) (by kernel_rfl) ?_
        go_big_quiet_step ((first | exact fun _ => rfl | exact fun _ => ⟨rfl, rfl⟩))
        refine q_valH rfl (.int .i64 (P : Int)) (fun w' => by simp [execOp, go_sem, hp1, hp2]) ?_
        simp only [Act.put, List.setIfInBounds_toArray, List.set_cons_zero, List.set_cons_succ]
        go_big_quiet_step ((first | exact fun _ => rfl | exact fun _ => ⟨rfl, rfl⟩))
        refine q_load_cell rowS rfl (.tmp _) rfl ⟨w.heap.size, 1, none⟩ rfl v HCV.out ?_
        simp only [Act.put, List.setIfInBounds_toArray, List.set_cons_zero, List.set_cons_succ]
        refine q_len sliceT rfl (.tmp _) rfl v rfl l.length HSH.out ?_
        simp only [Act.put, List.setIfInBounds_toArray, List.set_cons_zero, List.set_cons_succ]
        refine q_valH rfl (.bool (decide ((P : Int) < (l.length : Int)))) (fun w' => by simp [execOp, go_sem]) ?_
        simp only [Act.put, List.setIfInBounds_toArray, List.set_cons_zero, List.set_cons_succ]
        rw [hltb]
        refine wpQuiet_nil ?_
        intro w2 hb2
        go_wp2
        go_roundw
        case rel => exact ⟨k + 1, by omega, by go_num, HB.out.trans (hb2.mono hsz)⟩
        case measure => (simp [intOf] <;> omega)
      · have hlt' : ¬ (P : Int) < (l.length : Int) := by intro h2; exact hlt (hv.1 (by omega))
        have hltb : decide ((P : Int) < (l.length : Int)) = false := decide_eq_false hlt'
        have hke : k = h := by omega
        subst hke
        go_wp2_with fail
        refine wp_region_old (by kernel_rfl) (by kernel_rfl) ?_
        go_big_quiet_step ((first | exact fun _ => rfl | exact fun _ => ⟨rfl, rfl⟩))
        refine q_valH rfl (.int .i64 (P : Int)) (fun w' => by simp [execOp, go_sem, hp1, hp2]) ?_
        simp only [Act.put, List.setIfInBounds_toArray, List.set_cons_zero, List.set_cons_succ]
        go_big_quiet_step ((first | exact fun _ => rfl | exact fun _ => ⟨rfl, rfl⟩))
        refine q_load_cell rowS rfl (.tmp _) rfl ⟨w.heap.size, 1, none⟩ rfl v HCV.out ?_
        simp only [Act.put, List.setIfInBounds_toArray, List.set_cons_zero, List.set_cons_succ]
        refine q_len sliceT rfl (.tmp _) rfl v rfl l.length HSH.out ?_
        simp only [Act.put, List.setIfInBounds_toArray, List.set_cons_zero, List.set_cons_succ]
        refine q_valH rfl (.bool (decide ((P : Int) < (l.length : Int)))) (fun w' => by simp [execOp, go_sem]) ?_
        simp only [Act.put, List.setIfInBounds_toArray, List.set_cons_zero, List.set_cons_succ]
        rw [hltb]
        refine wpQuiet_nil ?_
        intro w2 hb2
        have HB3 := hide (HB1.out.trans ((HB.out.trans (hb2.mono hsz)).mono (by omega)))
        go_wp2
        go_ret2
        exact ⟨rfl, HB3.out⟩
end Go.Proofs.Ytijgngnjhmkhaaa
