/- Contracts: SpaceOfPaths, the program's. -/
import Derived.Test.YtagahoaogfogkaaSpp
namespace Go.Proofs.Ytagahoaogfogkaa
open Go.RowKit
set_option maxRecDepth 100000
theorem shTo_next (F : Nat → Bool) (n : Nat) (l : List Int) (k : Nat) : shTo F n l (k + 1) = (shTo F n l k && !(innerOf F n (nth l k) == 0)) := rfl
attribute [local irreducible] p2 low memB risB
set_option maxHeartbeats 1000000 in
theorem areSets_c (n : Int) (F : Nat → Bool) (u : Value) (l : List Int) (w : World) (hl : ints w.heap.size w u l) (hlen : l.length < 1000000000) (h0 : 0 ≤ n) (h7 : n ≤ 7) :
    Calls Try.prog 79 #[.agg (fam n F), u] w fun e w' => e = .returned (.bool (allTo 0 (low n.toNat) l l.length)) ∧ Below w.heap.size w w' := by
  have HL := hide (hl.alloc (.cells (fam n F) 64))
  have H0 := hide ((Below.refl w.heap.size w).alloc (Nat.le_refl _) (.cells (fam n F) 64))
  have HF := hide (famAt.new 64 w n F)
  have HZ := hide (show (w.alloc (.cells (fam n F) 64)).heap.size = w.heap.size + 1 by simp)
  have HIS := hide (fun (s : Int) (w1 : World) => isSet_c n F s w1 h0 h7)
  have HAI := hide (allTo_iff 0 (low n.toNat) l l.length)
  clear hl
  generalize low n.toNat = L at HIS HAI ⊢
  go_enter Try.func79, Try.ntmps79
  go_wp2_with (refine wpList_len sliceT rfl (.tmp _) rfl u rfl w.heap.size l HL.out ?_)
  go_loopw [9] (fun i wr => ∃ k : Nat, k ≤ l.length ∧ i = .int .i64 (k : Int) ∧ Hid (∀ j, j < k → 0 ≤ l[j]?.getD 0 ∧ l[j]?.getD 0 ≤ (L : Int)) ∧ Hid (Below (w.heap.size + 1) (w.alloc (.cells (fam n F) 64)) wr)) (fun i _ => l.length - (intOf i).toNat)
  case atStart => exact ⟨0, Nat.zero_le _, rfl, fun j hj => by omega, Below.refl _ _⟩
  case round =>
    obtain ⟨k, hk, rfl, HJ, HB⟩ := hrel
    have hsz := HB.out.size
    rw [HZ.out] at hsz
    have HLW := hide (HL.out.below HB.out (by omega))
    have HFW := hide (HF.out.below HB.out (by omega))
    by_cases hlt : k < l.length
    · generalize hx : l[k]?.getD 0 = x
      have HX := hide hx
      clear hx
      by_cases hin : 0 ≤ x ∧ x ≤ (L : Int)
      · have HIN := hide hin
        clear hin
        go_wp2_with (first
          | (refine wpList_at sliceT intS rfl (.tmp _) (.tmp _) rfl u rfl k rfl w.heap.size l HLW.out hlt ?_; intro ad hcell hblk; rw [HX.out] at hcell)
          | (refine wpList_load_fam rowT sizeT rfl (.tmp _) rfl _ rfl n F HFW.out ?_)
          | (go_at_call 96; refine (HIS.out x _).mono ?_; rw [decide_eq_true HIN.out]; rintro e w3 ⟨rfl, hb3⟩; have HB3 := hide (HB.out.trans (hb3.mono hsz)); clear hb3))
        go_roundw
        case rel => exact ⟨k + 1, by omega, by go_num, hide (fun j hj => by
          rcases Nat.lt_or_ge j k with h | h
          · exact HJ.out j h
          · rw [show j = k by omega, HX.out]; exact HIN.out), HB3⟩
        case measure => simp [intOf]; omega
      · have HIN := hide hin
        have HNO := hide (show allTo 0 (L : Int) l l.length = false by
          rw [← Bool.not_eq_true, HAI.out]
          intro h
          exact hin (by rw [← HX.out]; exact h k hlt))
        clear hin
        go_wp2_with (first
          | (refine wpList_at sliceT intS rfl (.tmp _) (.tmp _) rfl u rfl k rfl w.heap.size l HLW.out hlt ?_; intro ad hcell hblk; rw [HX.out] at hcell)
          | (refine wpList_load_fam rowT sizeT rfl (.tmp _) rfl _ rfl n F HFW.out ?_)
          | (go_at_call 96; refine (HIS.out x _).mono ?_; rw [decide_eq_false HIN.out]; rintro e w3 ⟨rfl, hb3⟩; have HB3 := hide (HB.out.trans (hb3.mono hsz)); clear hb3))
        go_ret
        exact ⟨ret_b HNO.out.symm, H0.out.trans (HB3.out.mono (by omega))⟩
    · have HKE := hide (show k = l.length by omega)
      have HYES := hide (show allTo 0 (L : Int) l l.length = true by rw [HAI.out]; exact fun j hj => HJ.out j (by rw [HKE.out]; exact hj))
      have hlt' : ¬ ((k : Int) < (l.length : Int)) := by omega
      go_wp2
      go_ret
      exact ⟨ret_b HYES.out.symm, H0.out.trans (HB.out.mono (by omega))⟩

set_option maxHeartbeats 1000000 in
theorem canShrink_c (n : Int) (F : Nat → Bool) (u : Value) (l : List Int) (w : World) (hl : ints w.heap.size w u l) (hlen : l.length < 1000000000) (h0 : 0 ≤ n) (h7 : n ≤ 7) (hn : ∀ j, j < l.length → l[j]?.getD 0 = (nth l j : Int)) (h128 : ∀ j, j < l.length → nth l j < 128) :
    Calls Try.prog 80 #[.agg (fam n F), u] w fun e w' => e = .returned (.bool (shTo F n.toNat l l.length)) ∧ Below w.heap.size w w' := by
  have HL := hide (hl.alloc (.cells (fam n F) 64))
  have H0 := hide ((Below.refl w.heap.size w).alloc (Nat.le_refl _) (.cells (fam n F) 64))
  have HF := hide (famAt.new 64 w n F)
  have HZ := hide (show (w.alloc (.cells (fam n F) 64)).heap.size = w.heap.size + 1 by simp)
  have HIN : Hid (∀ (s : Nat) (w1 : World), s < 128 → Calls Try.prog 103 #[.agg (fam n F), .int .i64 (s : Int)] w1 fun e w' => e = .returned (.int .i64 (innerOf F n.toNat s : Int)) ∧ Below w1.heap.size w1 w') := hide fun s w1 hs => by
    have := innerFringe_c n F (s : Int) w1 h0 h7 (by omega) (by omega)
    rw [Int.toNat_natCast] at this
    exact this
  have HN := hide hn
  have H128 := hide h128
  clear hl hn h128
  go_enter Try.func80, Try.ntmps80
  go_wp2_with (refine wpList_len sliceT rfl (.tmp _) rfl u rfl w.heap.size l HL.out ?_)
  go_loopw [9] (fun i wr => ∃ k : Nat, k ≤ l.length ∧ i = .int .i64 (k : Int) ∧ Hid (shTo F n.toNat l k = true) ∧ Hid (Below (w.heap.size + 1) (w.alloc (.cells (fam n F) 64)) wr)) (fun i _ => l.length - (intOf i).toNat)
  case atStart => exact ⟨0, Nat.zero_le _, rfl, rfl, Below.refl _ _⟩
  case round =>
    obtain ⟨k, hk, rfl, HJ, HB⟩ := hrel
    have hsz := HB.out.size
    rw [HZ.out] at hsz
    have HLW := hide (HL.out.below HB.out (by omega))
    have HFW := hide (HF.out.below HB.out (by omega))
    by_cases hlt : k < l.length
    · have HX := hide (HN.out k hlt)
      have hs := H128.out k hlt
      have HNX := hide (shTo_next F n.toNat l k)
      have HFA := hide (fun h => shTo_false (F := F) (n := n.toNat) (l := l) (k := k + 1) h l.length hlt)
      have HII := hide (fun w1 => HIN.out (nth l k) w1 hs)
      generalize innerOf F n.toNat (nth l k) = I at HNX HII
      generalize nth l k = s at HX hs HII
      by_cases hi0 : I = 0
      · subst hi0
        go_wp2_with (first
          | (refine wpList_at sliceT intS rfl (.tmp _) (.tmp _) rfl u rfl k rfl w.heap.size l HLW.out hlt ?_; intro ad hcell hblk; rw [HX.out] at hcell)
          | (refine wpList_load_fam rowT sizeT rfl (.tmp _) rfl _ rfl n F HFW.out ?_)
          | (go_at_call 103; refine (HII.out _).mono ?_; rintro e w3 ⟨rfl, hb3⟩; have HB3 := hide (HB.out.trans (hb3.mono hsz)); clear hb3))
        go_ret
        exact ⟨ret_b (HFA.out (by rw [HNX.out]; simp)).symm, H0.out.trans (HB3.out.mono (by omega))⟩
      · have hne : ((I : Int) == 0) = false := by simp; omega
        have HI0 := hide hi0
        clear hi0
        go_wp2_with (first
          | (refine wpList_at sliceT intS rfl (.tmp _) (.tmp _) rfl u rfl k rfl w.heap.size l HLW.out hlt ?_; intro ad hcell hblk; rw [HX.out] at hcell)
          | (refine wpList_load_fam rowT sizeT rfl (.tmp _) rfl _ rfl n F HFW.out ?_)
          | (go_at_call 103; refine (HII.out _).mono ?_; rintro e w3 ⟨rfl, hb3⟩; have HB3 := hide (HB.out.trans (hb3.mono hsz)); clear hb3))
        go_roundw
        case rel => exact ⟨k + 1, by omega, by go_num, hide (by rw [HNX.out, HJ.out]; have := HI0.out; simp [this]), HB3⟩
        case measure => simp [intOf]; omega
    · have HKE := hide (show k = l.length by omega)
      have hlt' : ¬ ((k : Int) < (l.length : Int)) := by omega
      go_wp2
      go_ret
      exact ⟨ret_b (by rw [← HKE.out, HJ.out]), H0.out.trans (HB.out.mono (by omega))⟩
set_option maxHeartbeats 4000000 in
theorem implSpaceOfPaths_c (n : Int) (u : Value) (l : List Int) (w : World) (hl : ints w.heap.size w u l) (hlen : l.length < 1000000000) :
    Calls Try.prog 39 #[.int .i64 n, u] w fun e w' => ∃ v', e = .returned (.tuple #[.agg #[.int .i64 (spN n l), v'], .bool (spB n l)]) ∧ own 3 w' w.heap.size v' (spL n l) ∧ Below w.heap.size w w' := by
  have HR0 := hide (hp_last w (.cells #[.int .i64 0, .slice none 0 0] 26))
  have H0 := hide ((Below.refl w.heap.size w).alloc (Nat.le_refl _) (.cells #[.int .i64 0, .slice none 0 0] 26))
  have HL0 := hide (hl.alloc (.cells #[.int .i64 0, .slice none 0 0] 26))
  have HZ0 := hide (show (w.alloc (.cells #[.int .i64 0, .slice none 0 0] 26)).heap.size = w.heap.size + 1 by simp)
  obtain ⟨q0, q1, q2, q3⟩ := zero_slotsQ HR0.out
  clear hl
  by_cases hn : 1 ≤ n ∧ n ≤ 7
  · obtain ⟨m, rfl⟩ := Int.eq_ofNat_of_zero_le (show 0 ≤ n by omega)
    have HN := hide hn
    have hm1 : 0 ≤ (m : Int) := by omega
    have hm7 : (m : Int) ≤ 7 := hn.2
    by_cases h60 : 60 < l.length
    · have HB := hide (spB_no1 (n := (m : Int)) (l := l) (by unfold spA; rw [decide_eq_false (show ¬ l.length ≤ 60 by omega)]; simp))
      have hgt : (60 : Int) < (l.length : Int) := by omega
      rw [spN_no HB.out, spL_no HB.out, HB.out]
      clear hn
      go_enter Try.func39, Try.ntmps39
      go_wp2_with (first
        | (go_at_call 51; refine (isItemCount_c _ _).mono ?_; rw [decide_eq_true HN.out]; rintro e w1 ⟨rfl, rfl⟩)
        | (refine wpList_len sliceT rfl (.tmp _) rfl u rfl w.heap.size l HL0.out ?_))
      refine bodyPost_ret (v := .tuple #[.agg #[.int .i64 0, .slice none 0 0], .bool false]) (by simp [results, Try.results39, go_sem, q0, q1]) rfl ⟨_, rfl, own_nil _ _ _, ?_⟩
      first | exact H0.out | exact (H0.out.setCell (by show w.heap.size ≤ w.heap.size; omega) _).setCell (by show w.heap.size ≤ w.heap.size; omega) _
    · have hgt : ¬ ((60 : Int) < (l.length : Int)) := by omega
      have hgt2 : ¬ (60 < l.length) := h60
      have hf2 : famAt 64 ((w.alloc (.cells #[.int .i64 0, .slice none 0 0] 26)).alloc (.cells (fam 0 noSet) 64)) (w.heap.size + 1) 0 noSet := by have h := famAt.new 64 (w.alloc (.cells #[.int .i64 0, .slice none 0 0] 26)) 0 noSet; rw [HZ0.out] at h; exact h
      have HF2 := hide hf2
      have HF3 := hide (hf2.row (m : Int) noSet)
      have HR1 := hide (show (((w.alloc (.cells #[.int .i64 0, .slice none 0 0] 26)).alloc (.cells (fam 0 noSet) 64)).setRow (w.heap.size + 1) (fam (m : Int) noSet)).heap[w.heap.size]? = some (.cells #[.int .i64 0, .slice none 0 0] 26) from (hp_rowO _ _ _ _ (by omega)).trans ((hp_old _ _ _ (by rw [HZ0.out]; omega)).trans HR0.out))
      have HB1 := hide (bl_row (H0.out.alloc (by rw [HZ0.out]; omega) (.cells (fam 0 noSet) 64)) (show w.heap.size ≤ w.heap.size + 1 by omega) (fam (m : Int) noSet))
      have HL1 := hide ((HL0.out.alloc (.cells (fam 0 noSet) 64)).below (bl_row (Below.refl w.heap.size _) (show w.heap.size ≤ w.heap.size + 1 by omega) (fam (m : Int) noSet)) (Nat.le_refl _))
      have HZ1 := hide (show (((w.alloc (.cells #[.int .i64 0, .slice none 0 0] 26)).alloc (.cells (fam 0 noSet) 64)).setRow (w.heap.size + 1) (fam (m : Int) noSet)).heap.size = w.heap.size + 2 by simp [World.setRow])
      have HAD := hide (show spA (m : Int) l = allTo 0 (low m) l l.length by unfold spA; rw [decide_eq_true hn, decide_eq_true (show l.length ≤ 60 by omega), Int.toNat_natCast]; rfl)
      have hlo := low_lt m (by omega)
      have HAS : Hid (∀ (w1 : World), ints w1.heap.size w1 u l → Calls Try.prog 79 #[.agg (fam (m : Int) noSet), u] w1 fun e w' => e = .returned (.bool (spA (m : Int) l)) ∧ Below w1.heap.size w1 w') := hide fun w1 h1 => by
        have := areSets_c (m : Int) noSet u l w1 h1 hlen hm1 hm7
        rw [Int.toNat_natCast, ← HAD.out] at this
        exact this
      clear hn hf2
      cases ha : spA (m : Int) l
      · have HA := hide ha
        have HB := hide (spB_no1 ha)
        rw [spN_no HB.out, spL_no HB.out, HB.out]
        clear ha
        go_enter Try.func39, Try.ntmps39
        go_wp2_with (first
          | (go_at_call 51; refine (isItemCount_c _ _).mono ?_; rw [decide_eq_true HN.out]; rintro e w1 ⟨rfl, rfl⟩)
          | (refine wpList_len sliceT rfl (.tmp _) rfl u rfl w.heap.size l HL0.out ?_)
          | (refine wpList_alloc_fam zeroT rfl rfl _ (by first | (simp only [World.size_alloc]; rfl) | rfl) ?_)
          | (refine wpList_build_fam builtT rfl _ rfl _ rfl ?_)
          | (refine wpList_store_fam sizeT rfl (.tmp _) (.tmp _) rfl _ (m : Int) noSet rfl rfl _ _ HF2.out ?_)
          | (refine wpList_load_fam rowT sizeT rfl (.tmp _) rfl _ rfl (m : Int) noSet HF3.out ?_)
          | (go_at_call 79; refine (HAS.out _ (HL1.out.mono (by rw [HZ1.out]; omega))).mono ?_; rw [HA.out]; rintro e w3 ⟨rfl, hb3⟩; have hr3 := (hb3.block w.heap.size (by rw [HZ1.out]; omega)).trans HR1.out; obtain ⟨z0, z1, z2, z3⟩ := zero_slotsQ hr3; have HBZ := hide (HB1.out.trans (hb3.mono (by rw [HZ1.out]; omega))); clear hb3 hr3))
        refine bodyPost_ret (v := .tuple #[.agg #[.int .i64 0, .slice none 0 0], .bool false]) (by simp [results, Try.results39, go_sem, z0, z1]) rfl ⟨_, rfl, own_nil _ _ _, ?_⟩
        exact (HBZ.out.setCell (by show w.heap.size ≤ w.heap.size; omega) _).setCell (by show w.heap.size ≤ w.heap.size; omega) _
      · have HA := hide ha
        have HN128 := hide (fun j hj => spA_128 ha j hj)
        have HNL := hide (fun j hj => (spA_lt ha j hj).2)
        have HRG := hide (fun j (hj : j < l.length) => show 0 ≤ l[j]?.getD 0 ∧ l[j]?.getD 0 < 128 by have h1 := (spA_lt ha j hj).2; have h2 := spA_128 ha j hj; omega)
        have HSH := hide (show shTo (unionsF l) m l l.length = spG (m : Int) l by unfold spG; rw [Int.toNat_natCast]; exact sh_same (fun j hj => spA_128 ha j hj) m l.length)
        have HUU := hide (show spU (m : Int) l = unionsF l (low m) by unfold spU; rw [Int.toNat_natCast])
        clear ha
        have HFU : Hid (∀ (w1 : World), Calls Try.prog 53 #[.agg (fam (m : Int) (unionsF l))] w1 fun e w' => e = .returned (.int .i64 (low m : Int)) ∧ Below w1.heap.size w1 w') := hide fun w1 => by
          have := full_c (m : Int) (unionsF l) w1 hm1 hm7
          rw [Int.toNat_natCast] at this
          exact this
        have HCS : Hid (∀ (w1 : World), ints w1.heap.size w1 u l → Calls Try.prog 80 #[.agg (fam (m : Int) (unionsF l)), u] w1 fun e w' => e = .returned (.bool (spG (m : Int) l)) ∧ Below w1.heap.size w1 w') := hide fun w1 h1 => by
          have := canShrink_c (m : Int) (unionsF l) u l w1 h1 hlen hm1 hm7 HNL.out HN128.out
          rw [Int.toNat_natCast, HSH.out] at this
          exact this
        cases hu : unionsF l (low m)
        · have HU := hide hu
          have HBX := hide (spNL_no (spB_no3 (HUU.out.trans hu)))
          clear hu
          go_enter Try.func39, Try.ntmps39
          go_wp2_with (first
            | (go_at_call 51; refine (isItemCount_c _ _).mono ?_; rw [decide_eq_true HN.out]; rintro e w1 ⟨rfl, rfl⟩)
            | (refine wpList_len sliceT rfl (.tmp _) rfl u rfl w.heap.size l HL0.out ?_)
            | (refine wpList_build_fam builtT rfl _ rfl _ rfl ?_)
            | (refine wpList_store_fam sizeT rfl (.tmp 6) (.tmp 18) rfl _ (m : Int) noSet rfl rfl _ _ HF2.out ?_)
            | (refine wpList_load_fam rowT sizeT rfl (.tmp 6) rfl _ rfl (m : Int) noSet HF3.out ?_)
            | (go_at_call 79; refine (HAS.out _ (HL1.out.mono (by rw [HZ1.out]; omega))).mono ?_; rw [HA.out]; rintro e w3 ⟨rfl, hb3⟩; have hz3 := hb3.size; rw [HZ1.out] at hz3; have HR3 := hide ((hb3.block w.heap.size (by rw [HZ1.out]; omega)).trans HR1.out); have HB3 := hide (HB1.out.trans (hb3.mono (by rw [HZ1.out]; omega))); have HL3 := hide ((HL1.out.below hb3 (by rw [HZ1.out]; omega)).mono (show w.heap.size ≤ w3.heap.size by omega)); clear hb3)
            | (go_at_call 69; refine (unionsOf_c (m : Int) u l w3 HL3.out HRG.out hlen).mono ?_; rintro e w4 ⟨rfl, hb4⟩; have hz4 := hb4.size; have HR4 := hide ((hb4.block w.heap.size (by omega)).trans HR3.out); have HB4 := hide (HB3.out.trans (hb4.mono (by omega))); have HL4 := hide ((HL3.out.below hb4 (Nat.le_refl _)).mono hb4.size); have HF4 := hide (famAt.new 64 w4 0 noSet); clear hb4; have HF5 := hide (HF4.out.row (m : Int) (unionsF l)); have HR5 := hide (show ((w4.alloc (.cells (fam 0 noSet) 64)).setRow w4.heap.size (fam (m : Int) (unionsF l))).heap[w.heap.size]? = some (.cells #[.int .i64 0, .slice none 0 0] 26) from (hp_rowO _ _ _ _ (by omega)).trans ((hp_old _ _ _ (by omega)).trans HR4.out)); have HB5 := hide (bl_row (HB4.out.alloc (by omega) (.cells (fam 0 noSet) 64)) (show w.heap.size ≤ w4.heap.size by omega) (fam (m : Int) (unionsF l))); have HL5 := hide ((HL4.out.alloc (.cells (fam 0 noSet) 64)).below (bl_row (Below.refl w4.heap.size _) (Nat.le_refl _) (fam (m : Int) (unionsF l))) (Nat.le_refl _)); have HZ5 := hide (show ((w4.alloc (.cells (fam 0 noSet) 64)).setRow w4.heap.size (fam (m : Int) (unionsF l))).heap.size = w4.heap.size + 1 by simp [World.setRow]))
            | (refine wpList_alloc_fam zeroT rfl rfl _ (by first | (simp only [World.size_alloc]; rfl) | rfl) ?_)
            | (refine wpList_store_fam sizeT rfl (.tmp 7) (.tmp _) rfl _ (m : Int) (unionsF l) rfl rfl _ _ HF4.out ?_)
            | (refine wpList_load_fam rowT sizeT rfl (.tmp 7) rfl _ rfl (m : Int) (unionsF l) HF5.out ?_)
            | (go_at_call 53; refine (HFU.out _).mono ?_; rintro e w6 ⟨rfl, hb6⟩; have hz6 := hb6.size; rw [HZ5.out] at hz6; have HF6 := hide (HF5.out.below hb6 (by rw [HZ5.out]; omega)); have hc6 := HF6.out.get (low m) hlo; rw [HU.out] at hc6; have HR6 := hide ((hb6.block w.heap.size (by rw [HZ5.out]; omega)).trans HR5.out); have hr6 := HR6.out; obtain ⟨z0, z1, z2, z3⟩ := zero_slotsQ hr6; have HB6 := hide (HB5.out.trans (hb6.mono (by rw [HZ5.out]; omega))); have HL6 := hide ((HL5.out.below hb6 (by rw [HZ5.out]; omega)).mono (show w4.heap.size ≤ w6.heap.size by omega)); clear hb6 hr6)
            | fail)
          refine bodyPost_ret (v := .tuple #[.agg #[.int .i64 0, .slice none 0 0], .bool false]) (by simp [results, Try.results39, go_sem, z0, z1]) rfl ⟨_, by rw [HBX.out.1, HBX.out.2.2], by rw [HBX.out.2.1]; exact own_nil _ _ _, ?_⟩
          exact (HB6.out.setCell (by show w.heap.size ≤ w.heap.size; omega) _).setCell (by show w.heap.size ≤ w.heap.size; omega) _
        · have HU := hide hu
          cases hg : spG (m : Int) l
          · have HG := hide hg
            have HBX := hide (spNL_no (spB_no2 hg))
            clear hu hg
            go_enter Try.func39, Try.ntmps39
            go_wp2_with (first
              | (go_at_call 51; refine (isItemCount_c _ _).mono ?_; rw [decide_eq_true HN.out]; rintro e w1 ⟨rfl, rfl⟩)
              | (refine wpList_len sliceT rfl (.tmp _) rfl u rfl w.heap.size l HL0.out ?_)
              | (refine wpList_build_fam builtT rfl _ rfl _ rfl ?_)
              | (refine wpList_store_fam sizeT rfl (.tmp 6) (.tmp 18) rfl _ (m : Int) noSet rfl rfl _ _ HF2.out ?_)
              | (refine wpList_load_fam rowT sizeT rfl (.tmp 6) rfl _ rfl (m : Int) noSet HF3.out ?_)
              | (go_at_call 79; refine (HAS.out _ (HL1.out.mono (by rw [HZ1.out]; omega))).mono ?_; rw [HA.out]; rintro e w3 ⟨rfl, hb3⟩; have hz3 := hb3.size; rw [HZ1.out] at hz3; have HR3 := hide ((hb3.block w.heap.size (by rw [HZ1.out]; omega)).trans HR1.out); have HB3 := hide (HB1.out.trans (hb3.mono (by rw [HZ1.out]; omega))); have HL3 := hide ((HL1.out.below hb3 (by rw [HZ1.out]; omega)).mono (show w.heap.size ≤ w3.heap.size by omega)); clear hb3)
              | (go_at_call 69; refine (unionsOf_c (m : Int) u l w3 HL3.out HRG.out hlen).mono ?_; rintro e w4 ⟨rfl, hb4⟩; have hz4 := hb4.size; have HR4 := hide ((hb4.block w.heap.size (by omega)).trans HR3.out); have HB4 := hide (HB3.out.trans (hb4.mono (by omega))); have HL4 := hide ((HL3.out.below hb4 (Nat.le_refl _)).mono hb4.size); have HF4 := hide (famAt.new 64 w4 0 noSet); clear hb4; have HF5 := hide (HF4.out.row (m : Int) (unionsF l)); have HR5 := hide (show ((w4.alloc (.cells (fam 0 noSet) 64)).setRow w4.heap.size (fam (m : Int) (unionsF l))).heap[w.heap.size]? = some (.cells #[.int .i64 0, .slice none 0 0] 26) from (hp_rowO _ _ _ _ (by omega)).trans ((hp_old _ _ _ (by omega)).trans HR4.out)); have HB5 := hide (bl_row (HB4.out.alloc (by omega) (.cells (fam 0 noSet) 64)) (show w.heap.size ≤ w4.heap.size by omega) (fam (m : Int) (unionsF l))); have HL5 := hide ((HL4.out.alloc (.cells (fam 0 noSet) 64)).below (bl_row (Below.refl w4.heap.size _) (Nat.le_refl _) (fam (m : Int) (unionsF l))) (Nat.le_refl _)); have HZ5 := hide (show ((w4.alloc (.cells (fam 0 noSet) 64)).setRow w4.heap.size (fam (m : Int) (unionsF l))).heap.size = w4.heap.size + 1 by simp [World.setRow]))
              | (refine wpList_alloc_fam zeroT rfl rfl _ (by first | (simp only [World.size_alloc]; rfl) | rfl) ?_)
              | (refine wpList_store_fam sizeT rfl (.tmp 7) (.tmp _) rfl _ (m : Int) (unionsF l) rfl rfl _ _ HF4.out ?_)
              | (refine wpList_load_fam rowT sizeT rfl (.tmp 7) rfl _ rfl (m : Int) (unionsF l) HF5.out ?_)
              | (go_at_call 53; refine (HFU.out _).mono ?_; rintro e w6 ⟨rfl, hb6⟩; have hz6 := hb6.size; rw [HZ5.out] at hz6; have HF6 := hide (HF5.out.below hb6 (by rw [HZ5.out]; omega)); have hc6 := HF6.out.get (low m) hlo; rw [HU.out] at hc6; have HR6 := hide ((hb6.block w.heap.size (by rw [HZ5.out]; omega)).trans HR5.out); have hr6 := HR6.out; obtain ⟨z0, z1, z2, z3⟩ := zero_slotsQ hr6; have HB6 := hide (HB5.out.trans (hb6.mono (by rw [HZ5.out]; omega))); have HL6 := hide ((HL5.out.below hb6 (by rw [HZ5.out]; omega)).mono (show w4.heap.size ≤ w6.heap.size by omega)); clear hb6 hr6)
              | (refine wpList_load_fam rowT sizeT rfl (.tmp 7) rfl _ rfl (m : Int) (unionsF l) HF6.out ?_)
              | (go_at_call 80; refine (HCS.out _ HL6.out).mono ?_; rw [HG.out]; rintro e w7 ⟨rfl, hb7⟩; have hr7 := (hb7.block w.heap.size (by omega)).trans HR6.out; obtain ⟨y0, y1, y2, y3⟩ := zero_slotsQ hr7; have HBZ := hide (HB6.out.trans (hb7.mono (by omega))); clear hb7 hr7))
            refine bodyPost_ret (v := .tuple #[.agg #[.int .i64 0, .slice none 0 0], .bool false]) (by simp [results, Try.results39, go_sem, y0, y1]) rfl ⟨_, by rw [HBX.out.1, HBX.out.2.2], by rw [HBX.out.2.1]; exact own_nil _ _ _, ?_⟩
            exact (HBZ.out.setCell (by show w.heap.size ≤ w.heap.size; omega) _).setCell (by show w.heap.size ≤ w.heap.size; omega) _
          · have HG := hide hg
            have HBX := hide (spNL_yes (spB_yes HA.out hg (HUU.out.trans hu)))
            clear hu hg
            go_enter Try.func39, Try.ntmps39
            go_wp2_with (first
              | (go_at_call 51; refine (isItemCount_c _ _).mono ?_; rw [decide_eq_true HN.out]; rintro e w1 ⟨rfl, rfl⟩)
              | (refine wpList_len sliceT rfl (.tmp _) rfl u rfl w.heap.size l HL0.out ?_)
              | (refine wpList_build_fam builtT rfl _ rfl _ rfl ?_)
              | (refine wpList_store_fam sizeT rfl (.tmp 6) (.tmp 18) rfl _ (m : Int) noSet rfl rfl _ _ HF2.out ?_)
              | (refine wpList_load_fam rowT sizeT rfl (.tmp 6) rfl _ rfl (m : Int) noSet HF3.out ?_)
              | (go_at_call 79; refine (HAS.out _ (HL1.out.mono (by rw [HZ1.out]; omega))).mono ?_; rw [HA.out]; rintro e w3 ⟨rfl, hb3⟩; have hz3 := hb3.size; rw [HZ1.out] at hz3; have HR3 := hide ((hb3.block w.heap.size (by rw [HZ1.out]; omega)).trans HR1.out); have HB3 := hide (HB1.out.trans (hb3.mono (by rw [HZ1.out]; omega))); have HL3 := hide ((HL1.out.below hb3 (by rw [HZ1.out]; omega)).mono (show w.heap.size ≤ w3.heap.size by omega)); clear hb3)
              | (go_at_call 69; refine (unionsOf_c (m : Int) u l w3 HL3.out HRG.out hlen).mono ?_; rintro e w4 ⟨rfl, hb4⟩; have hz4 := hb4.size; have HR4 := hide ((hb4.block w.heap.size (by omega)).trans HR3.out); have HB4 := hide (HB3.out.trans (hb4.mono (by omega))); have HL4 := hide ((HL3.out.below hb4 (Nat.le_refl _)).mono hb4.size); have HF4 := hide (famAt.new 64 w4 0 noSet); clear hb4; have HF5 := hide (HF4.out.row (m : Int) (unionsF l)); have HR5 := hide (show ((w4.alloc (.cells (fam 0 noSet) 64)).setRow w4.heap.size (fam (m : Int) (unionsF l))).heap[w.heap.size]? = some (.cells #[.int .i64 0, .slice none 0 0] 26) from (hp_rowO _ _ _ _ (by omega)).trans ((hp_old _ _ _ (by omega)).trans HR4.out)); have HB5 := hide (bl_row (HB4.out.alloc (by omega) (.cells (fam 0 noSet) 64)) (show w.heap.size ≤ w4.heap.size by omega) (fam (m : Int) (unionsF l))); have HL5 := hide ((HL4.out.alloc (.cells (fam 0 noSet) 64)).below (bl_row (Below.refl w4.heap.size _) (Nat.le_refl _) (fam (m : Int) (unionsF l))) (Nat.le_refl _)); have HZ5 := hide (show ((w4.alloc (.cells (fam 0 noSet) 64)).setRow w4.heap.size (fam (m : Int) (unionsF l))).heap.size = w4.heap.size + 1 by simp [World.setRow]))
              | (refine wpList_alloc_fam zeroT rfl rfl _ (by first | (simp only [World.size_alloc]; rfl) | rfl) ?_)
              | (refine wpList_store_fam sizeT rfl (.tmp 7) (.tmp _) rfl _ (m : Int) (unionsF l) rfl rfl _ _ HF4.out ?_)
              | (refine wpList_load_fam rowT sizeT rfl (.tmp 7) rfl _ rfl (m : Int) (unionsF l) HF5.out ?_)
              | (go_at_call 53; refine (HFU.out _).mono ?_; rintro e w6 ⟨rfl, hb6⟩; have hz6 := hb6.size; rw [HZ5.out] at hz6; have HF6 := hide (HF5.out.below hb6 (by rw [HZ5.out]; omega)); have hc6 := HF6.out.get (low m) hlo; rw [HU.out] at hc6; have HR6 := hide ((hb6.block w.heap.size (by rw [HZ5.out]; omega)).trans HR5.out); have hr6 := HR6.out; obtain ⟨z0, z1, z2, z3⟩ := zero_slotsQ hr6; have HB6 := hide (HB5.out.trans (hb6.mono (by rw [HZ5.out]; omega))); have HL6 := hide ((HL5.out.below hb6 (by rw [HZ5.out]; omega)).mono (show w4.heap.size ≤ w6.heap.size by omega)); clear hb6 hr6)
              | (refine wpList_load_fam rowT sizeT rfl (.tmp 7) rfl _ rfl (m : Int) (unionsF l) HF6.out ?_)
              | (go_at_call 80; refine (HCS.out _ HL6.out).mono ?_; rw [HG.out]; rintro e w7 ⟨rfl, hb7⟩; have hz7 := hb7.size; have HF7 := hide (HF6.out.below hb7 (by omega)); have HR7 := hide ((hb7.block w.heap.size (by omega)).trans HR6.out); have HB7 := hide (HB6.out.trans (hb7.mono (by omega))); clear hb7)
              | (refine wpList_load_fam rowT sizeT rfl (.tmp 7) rfl _ rfl (m : Int) (unionsF l) HF7.out ?_)
              | (go_at_call 56; refine (space_c (m : Int) (unionsF l) _).mono ?_; rintro e w8 ⟨v8, rfl, ho8, hb8⟩; obtain ⟨ua, uc, huv⟩ := ho8.shape; subst huv; have hr8 := (hb8.block w.heap.size (by omega)).trans HR7.out; obtain ⟨y0, y1, y2, y3⟩ := zero_slotsQ hr8; have HB8 := hide (HB7.out.trans (hb8.mono (by omega))); have HO8 := hide ho8; clear hb8 hr8 ho8))
            refine bodyPost_ret (v := .tuple #[.agg #[.int .i64 (m : Int), .slice ua (setsTo (unionsF l) 128).length uc], .bool true]) (by simp [results, Try.results39, go_sem, y0, y1]) rfl ⟨_, by rw [HBX.out.1, HBX.out.2.2], ?_, ?_⟩
            · rw [HBX.out.2.1]
              have hfin := ((HO8.out.setLow ⟨w.heap.size, 0, none⟩ (show w.heap.size < w7.heap.size by omega) (.int .i64 (m : Int))).setLow ⟨w.heap.size, 1, none⟩ (show w.heap.size < w7.heap.size by omega) (.slice ua (setsTo (unionsF l) 128).length uc))
              exact hfin.mono (show w.heap.size ≤ w7.heap.size by omega)
            · exact (HB8.out.setCell (by show w.heap.size ≤ w.heap.size; omega) _).setCell (by show w.heap.size ≤ w.heap.size; omega) _
  · have HN := hide hn
    have HB := hide (spB_no1 (n := n) (l := l) (by unfold spA; rw [decide_eq_false hn]; rfl))
    rw [spN_no HB.out, spL_no HB.out, HB.out]
    clear hn
    go_enter Try.func39, Try.ntmps39
    go_wp2_with (first
      | (go_at_call 51; refine (isItemCount_c _ _).mono ?_; rw [decide_eq_false HN.out]; rintro e w1 ⟨rfl, rfl⟩))
    refine bodyPost_ret (v := .tuple #[.agg #[.int .i64 0, .slice none 0 0], .bool false]) (by simp [results, Try.results39, go_sem, q0, q1]) rfl ⟨_, rfl, own_nil _ _ _, ?_⟩
    first | exact H0.out | exact (H0.out.setCell (by show w.heap.size ≤ w.heap.size; omega) _).setCell (by show w.heap.size ≤ w.heap.size; omega) _
end Go.Proofs.Ytagahoaogfogkaa
