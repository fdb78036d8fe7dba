/- Contracts: SetOfFringes, the program's and the specification's. -/
import Derived.Test.YtijgngnjhmkhaaaHn
namespace Go.Proofs.Ytijgngnjhmkhaaa
open Go.RowKit
set_option maxRecDepth 100000
set_option linter.unusedSimpArgs false
theorem sfTo_no {P : Nat → Bool} {l : List Int} {k : Nat} (h0 : paTo P l k = []) (h : P (nth l k) = false) : paTo P l (k + 1) = [] := by rw [paTo, if_neg (by rw [h]; simp), h0]
attribute [local irreducible] p2 low memB risB famAt own
set_option maxHeartbeats 4000000 in
theorem implSetOfFringes_c (n : Int) (v : Value) (l : List Int) (y z : Int) (w : World) (hl : ints w.heap.size w v l) (hlen : l.length < 1000000000) :
    Calls Try.prog 33 #[.agg #[.int .i64 n, v], .int .i64 y, .int .i64 z] w fun e w' => e = .returned (.tuple #[.int .i64 (sfR n l y z), .bool (sfB n l y z)]) ∧ Below w.heap.size w w' := by
  have HL := hide ((hl.alloc (.cells #[.int .i64 n, v] 28)).mono (show w.heap.size ≤ (w.alloc (.cells #[.int .i64 n, v] 28)).heap.size by simp))
  have H0 := hide ((Below.refl w.heap.size w).alloc (Nat.le_refl _) (.cells #[.int .i64 n, v] 28))
  have HZ := hide (show (w.alloc (.cells #[.int .i64 n, v] 28)).heap.size = w.heap.size + 1 by simp)
  obtain ⟨N, F, b, hv, hN, hb, _, ht, hf, hat⟩ := lg_prog n l
  have HV := hide hv
  have HSE := hide (fun w1 => sets_c (N : Int) F w1)
  have hL := setsTo_len F 128
  have HAT := hide hat
  have HEND := hide (show paTo (sfP n.toNat l y z) l (setsTo F 128).length = [] → sfR n l y z = 0 ∧ sfB n l y z = false from fun h => sf_none fun hs => by
    rw [hb] at hs
    rw [(ht hs).1] at h
    exact h)
  have HFO := hide (show ∀ k, k < (setsTo F 128).length → paTo (sfP n.toNat l y z) l k = [] → sfP n.toNat l y z (nth l k) = true → sfR n l y z = l[k]?.getD 0 ∧ sfB n l y z = true from fun k hk h0 hP => by
    cases b
    · rw [hf rfl] at hk; exact absurd hk (by simp)
    · rw [(ht rfl).1] at hk; exact sf_found hb hk h0 hP)
  have HTN := hide (show ∀ k, k < (setsTo F 128).length → n.toNat = N ∧ l[k]?.getD 0 = (nth l k : Int) from fun k hk => by
    cases b
    · rw [hf rfl] at hk; exact absurd hk (by simp)
    · have h := (hat k hk).2.1
      rw [(ht rfl).1] at h
      exact ⟨by rw [← (ht rfl).2, Int.toNat_natCast], h⟩)
  have HPD := hide (fun s => show sfP n.toNat l y z s = (decide ((itemsOf (innerSp l s) 7 : Int) = y) && decide ((itemsOf (outerSp l s) n.toNat : Int) = z)) from rfl)
  have HNO := hide (fun k h0 h => sfTo_no (P := sfP n.toNat l y z) (l := l) (k := k) h0 h)
  clear hl hv hb hat ht hf
  generalize setsTo F 128 = L at *
  generalize sfR n l y z = R at *
  generalize sfB n l y z = ok at *
  go_enter Try.func33, Try.ntmps33
  go_wp2_with (first
    | (go_at_call 53; refine (familyOf_c n v l _ HL.out hlen).mono ?_; rw [HV.out]; rintro e w1 ⟨rfl, hb⟩; have hz1 := hb.size; rw [HZ.out] at hz1; have HH := hide ((famAt.new 56 w1 0 noSet).row (N : Int) F); have HZ2 := hide (show ((w1.alloc (.cells (fam 0 noSet) 56)).setRow w1.heap.size (fam (N : Int) F)).heap.size = w1.heap.size + 1 by simp [World.setRow]); have HB := hide (bl_row ((H0.out.trans (hb.mono (by rw [HZ.out]; omega))).alloc (by omega) (.cells (fam 0 noSet) 56)) (show w.heap.size ≤ w1.heap.size by omega) (fam (N : Int) F)); clear hb)
    | (refine wpList_alloc_fam zeroT rfl rfl _ (by first | (simp only [World.size_alloc]; rfl) | rfl) ?_)
    | (refine wpList_store_fam sizeT rfl (.tmp _) (.tmp _) rfl w1.heap.size _ _ rfl rfl _ _ (famAt.new _ _ _ _) ?_)
    | (refine wpList_load_fam rowT sizeT rfl (.tmp _) rfl w1.heap.size rfl (N : Int) F HH.out ?_)
    | (go_at_call 48; refine (HSE.out _).mono ?_; rintro e w2 ⟨v2, rfl, ho2, hb2⟩; rw [HZ2.out] at hb2 ho2; have hz2 := hb2.size; rw [HZ2.out] at hz2; have HI2 := hide ho2.ints; have HH2 := hide (HH.out.below hb2 (by omega)); have HB2 := hide (HB.out.trans (hb2.mono (by omega))); clear ho2 hb2)
    | (refine wpList_len sliceT rfl (.tmp _) rfl _ rfl w2.heap.size L HI2.out ?_)
    )
  go_loopw [20] (fun i wr => ∃ k : Nat, k ≤ L.length ∧ i = .int .i64 (k : Int) ∧ Hid (paTo (sfP n.toNat l y z) l k = []) ∧ Hid (Below w2.heap.size w2 wr)) (fun i _ => L.length - (intOf i).toNat)
  case atStart => exact ⟨0, Nat.zero_le _, rfl, rfl, Below.refl _ _⟩
  case round =>
    obtain ⟨k, hk, rfl, HE, HB⟩ := hrel
    have hsz := HB.out.size
    by_cases hlt : k < L.length
    · obtain ⟨e0, hx, hx8, ei, eo⟩ := HAT.out k hlt
      have HX := hide hx
      have HLW := hide (HI2.out.below HB.out (Nat.le_refl _))
      have HHW := hide (HH2.out.below HB.out (by omega))
      obtain ⟨e1, e2⟩ := HTN.out k hlt
      have HP0 := hide (HPD.out (nth l k))
      have HIN := hide (fun w1 => by have h := innerFringe_c (N : Int) F (nth l k : Int) w1 (by omega) (by omega) (by omega) (by omega); rw [Int.toNat_natCast, Int.toNat_natCast, ei] at h; exact h)
      have HOU := hide (fun w1 => by have h := outerFringe_c (N : Int) F (nth l k : Int) w1 (by omega) (by omega) (by omega) (by omega); rw [Int.toNat_natCast, Int.toNat_natCast, eo] at h; exact h)
      have HNN := hide (HNO.out k HE.out)
      have HYY := hide (HFO.out k hlt HE.out)
      rw [e1] at HP0 HNN HYY HE ⊢
      rw [e2] at HYY
      have HRW := hide e1
      clear e0 hx ei eo e1 e2
      generalize itemsOf (innerSp l (nth l k)) 7 = A at *
      generalize itemsOf (outerSp l (nth l k)) N = B at *
      by_cases h1 : (A : Int) = y
      · by_cases h2 : (B : Int) = z
        · have hE := HYY.out (by rw [HP0.out, decide_eq_true h1, decide_eq_true h2]; rfl)
          have HE1 := hide hE.1
          have HE2 := hide hE.2
          have hb1 : ((A : Int) == y) = true := by simp [h1]
          have hb2 : ((B : Int) == z) = true := by simp [h2]
          clear hE h1 h2
          generalize nth l k = s at *
          go_wp2_with (first
            | (refine wpList_at sliceT intS rfl (.tmp _) (.tmp _) rfl _ rfl k rfl w2.heap.size L HLW.out hlt ?_; intro ad hcell hblk; rw [HX.out] at hcell)
            | (refine wpList_load_fam rowT sizeT rfl (.tmp _) rfl w1.heap.size rfl (N : Int) F (by first | exact HH3.out | exact HHW.out) ?_)
            | (go_at_call 59; refine (HIN.out _).mono ?_; rintro e w3 ⟨rfl, hb3⟩; have hz3 := hb3.size; have HH3 := hide (HHW.out.below hb3 (by omega)); have HB3 := hide (HB.out.trans (hb3.mono hsz)); clear hb3)
            | (go_at_call 60; refine (HOU.out _).mono ?_; rintro e w4 ⟨rfl, hb4⟩; have HB4 := hide (HB3.out.trans (hb4.mono HB3.out.size)); clear hb4))
          go_ret2
          exact ⟨by rw [HE1.out, HE2.out]; rfl, HB2.out.trans (HB4.out.mono (by omega))⟩
        · have HNX := hide (HNN.out (by rw [HP0.out, decide_eq_false h2]; simp))
          have hb1 : ((A : Int) == y) = true := by simp [h1]
          have hb2 : ((B : Int) == z) = false := by simp [h2]
          clear h1 h2
          generalize nth l k = s at *
          go_wp2_with (first
            | (refine wpList_at sliceT intS rfl (.tmp _) (.tmp _) rfl _ rfl k rfl w2.heap.size L HLW.out hlt ?_; intro ad hcell hblk; rw [HX.out] at hcell)
            | (refine wpList_load_fam rowT sizeT rfl (.tmp _) rfl w1.heap.size rfl (N : Int) F (by first | exact HH3.out | exact HHW.out) ?_)
            | (go_at_call 59; refine (HIN.out _).mono ?_; rintro e w3 ⟨rfl, hb3⟩; have hz3 := hb3.size; have HH3 := hide (HHW.out.below hb3 (by omega)); have HB3 := hide (HB.out.trans (hb3.mono hsz)); clear hb3)
            | (go_at_call 60; refine (HOU.out _).mono ?_; rintro e w4 ⟨rfl, hb4⟩; have HB4 := hide (HB3.out.trans (hb4.mono HB3.out.size)); clear hb4))
          go_roundw
          case rel => exact ⟨k + 1, by omega, by go_num, HNX, HB4⟩
          case measure => (simp [intOf] <;> omega)
      · have HNX := hide (HNN.out (by rw [HP0.out, decide_eq_false h1]; simp))
        have hb1 : ((A : Int) == y) = false := by simp [h1]
        clear h1
        generalize nth l k = s at *
        go_wp2_with (first
          | (refine wpList_at sliceT intS rfl (.tmp _) (.tmp _) rfl _ rfl k rfl w2.heap.size L HLW.out hlt ?_; intro ad hcell hblk; rw [HX.out] at hcell)
          | (refine wpList_load_fam rowT sizeT rfl (.tmp _) rfl w1.heap.size rfl (N : Int) F (by first | exact HH3.out | exact HHW.out) ?_)
          | (go_at_call 59; refine (HIN.out _).mono ?_; rintro e w3 ⟨rfl, hb3⟩; have hz3 := hb3.size; have HH3 := hide (HHW.out.below hb3 (by omega)); have HB3 := hide (HB.out.trans (hb3.mono hsz)); clear hb3)
          | (go_at_call 60; refine (HOU.out _).mono ?_; rintro e w4 ⟨rfl, hb4⟩; have HB4 := hide (HB3.out.trans (hb4.mono HB3.out.size)); clear hb4))
        go_roundw
        case rel => exact ⟨k + 1, by omega, by go_num, HNX, HB3⟩
        case measure => (simp [intOf] <;> omega)
    · have HJ := hide (show k = L.length by omega)
      have hE := HEND.out (by rw [← HJ.out]; exact HE.out)
      have hlt' : ¬ ((k : Int) < (L.length : Int)) := by omega
      have HE1 := hide hE.1
      have HE2 := hide hE.2
      clear hE
      go_wp2
      go_ret2
      exact ⟨by rw [HE1.out, HE2.out]; rfl, HB2.out.trans (HB.out.mono (by omega))⟩
set_option maxHeartbeats 4000000 in
theorem specSetOfFringes_c (n : Int) (v : Value) (l : List Int) (y z : Int) (w : World) (hl : ints w.heap.size w v l) (hlen : l.length < 1000000000) :
    Calls Try.prog 32 #[.agg #[.int .i64 n, v], .int .i64 y, .int .i64 z] w fun e w' => e = .returned (.tuple #[.int .i64 (sfR n l y z), .bool (sfB n l y z)]) ∧ Below w.heap.size w w' := by
  have HL := hide ((hl.alloc (.cells #[.int .i64 n, v] 28)).mono (show w.heap.size ≤ (w.alloc (.cells #[.int .i64 n, v] 28)).heap.size by simp))
  have H0 := hide ((Below.refl w.heap.size w).alloc (Nat.le_refl _) (.cells #[.int .i64 n, v] 28))
  have HS0 := hide (hp_last w (.cells #[.int .i64 n, v] 28))
  have HZ := hide (show (w.alloc (.cells #[.int .i64 n, v] 28)).heap.size = w.heap.size + 1 by simp)
  clear hl
  cases hok : okSp n l
  · have HG := hide (show goodB n l = false by rw [← ok_good]; exact hok)
    obtain ⟨e1, e2⟩ := sf_none (n := n) (l := l) (y := y) (z := z) (fun h => by rw [hok] at h; cases h)
    have H1 := HG
    have H2 := HG
    rw [e1, e2]
    clear hok e1 e2
    go_enter Try.func32, Try.ntmps32
    go_wp2_with (go_at_call 52; refine (spGood_c n v l _ HL.out hlen).mono ?_; rw [HG.out]; rintro e w1 ⟨rfl, hb1⟩; have HB1 := hide (H0.out.trans (hb1.mono (by rw [HZ.out]; omega))); clear hb1)
    go_ret2
    exact ⟨rfl, HB1.out⟩
  · obtain ⟨hn1, hn2⟩ := okSp_n hok
    obtain ⟨m, rfl⟩ := Int.eq_ofNat_of_zero_le (show 0 ≤ n by omega)
    have HG := hide (show goodB (m : Int) l = true by rw [← ok_good]; exact hok)
    have hp1 := wrap_p2 m (by omega)
    have hp2 : IntKind.i64.wrap (2 ^ m) = (p2 m : Int) := by rw [IntWalk.i64_left]; exact hp1
    have hp3 := wrap_low m (by omega)
    have hp4 : (p2 m : Int) - 1 = (low m : Int) := by have := p2_pos m; unfold p2 low; omega
    have hlo := low_lt m (by omega)
    have HOUT := hide (fun h => sf_out (y := y) (z := z) hok h)
    rw [Int.toNat_natCast] at HOUT
    by_cases h1 : 0 ≤ y ∧ y ≤ (low m : Int)
    · have H1 := hide (decide_eq_true h1)
      by_cases h2 : 0 ≤ z ∧ z ≤ (low m : Int)
      · have H2 := hide (decide_eq_true h2)
        have HI := hide (okSp_inc hok)
        have HRG := hide (sp_r128 hok)
        have HEND := hide (show paTo (sfP m l y z) l l.length = [] → sfR (m : Int) l y z = 0 ∧ sfB (m : Int) l y z = false from fun h => sf_none fun _ => by rw [Int.toNat_natCast]; exact h)
        have HFO := hide (show ∀ k, k < l.length → paTo (sfP m l y z) l k = [] → sfP m l y z (nth l k) = true → sfR (m : Int) l y z = l[k]?.getD 0 ∧ sfB (m : Int) l y z = true from fun k hk h0 hP => sf_found hok hk (by rw [Int.toNat_natCast]; exact h0) (by rw [Int.toNat_natCast]; exact hP))
        have HPD := hide (fun s => show sfP m l y z s = (decide ((itemsOf (innerSp l s) 7 : Int) = y) && decide ((itemsOf (outerSp l s) m : Int) = z)) from rfl)
        have HNO := hide (fun k h0 h => sfTo_no (P := sfP m l y z) (l := l) (k := k) h0 h)
        clear hok h1 h2 HOUT
        generalize sfR (m : Int) l y z = R at *
        generalize sfB (m : Int) l y z = ok at *
        go_enter Try.func32, Try.ntmps32
        go_wp2_with (first
          | (go_at_call 52; refine (spGood_c _ v l _ HL.out hlen).mono ?_; rw [HG.out]; rintro e w1 ⟨rfl, hb1⟩; have HS1 := hide ((hb1.block w.heap.size (by rw [HZ.out]; omega)).trans HS0.out); have d0 := cells_at0 HS1.out; have d1 := cells_at1 HS1.out; have HL1 := hide ((HL.out.below hb1 (Nat.le_refl _)).mono hb1.size); have hz1 := hb1.size; rw [HZ.out] at hz1; have HB1 := hide (H0.out.trans (hb1.mono (by rw [HZ.out]; omega))); clear hb1)
          | (go_at_call 61; refine (l1In_c _ _ _ _).mono ?_; rw [H1.out]; rintro e w' ⟨rfl, rfl⟩)
          | (go_at_call 61; refine (l1In_c _ _ _ _).mono ?_; rw [H2.out]; rintro e w' ⟨rfl, rfl⟩)
          | (refine wpList_len sliceT rfl (.tmp _) rfl _ rfl w1.heap.size l HL1.out ?_)
          )
        clear d0 d1 hp1 hp2 hp3 hp4
        go_loopw [34] (fun i wr => ∃ k : Nat, k ≤ l.length ∧ i = .int .i64 (k : Int) ∧ Hid (paTo (sfP m l y z) l k = []) ∧ Hid (Below w1.heap.size w1 wr)) (fun i _ => l.length - (intOf i).toNat)
        case atStart => exact ⟨0, Nat.zero_le _, rfl, rfl, Below.refl _ _⟩
        case round =>
          obtain ⟨k, hk, rfl, HE, HB⟩ := hrel
          have hsz := HB.out.size
          by_cases hlt : k < l.length
          · have hr := HRG.out k hlt
            have hx : l[k]?.getD 0 = (nth l k : Int) := by unfold nth; rw [Int.toNat_of_nonneg hr.1]
            have HX := hide hx
            have hx8 : nth l k < 128 := by omega
            have HLW := hide (HL1.out.below HB.out (Nat.le_refl _))
            have HLF := hide (show ints wr.heap.size wr v l from HLW.out.mono (by omega))
            have HSW := hide ((HB.out.block w.heap.size (by omega)).trans HS1.out)
            have d0 := cells_at0 HSW.out
            have d1 := cells_at1 HSW.out
            have HP0 := hide (HPD.out (nth l k))
            have HNN := hide (HNO.out k HE.out)
            have HYY := hide (HFO.out k hlt HE.out)
            have HIN := hide (fun w' (h : ints w'.heap.size w' v l) => by have h2 := spInner_c v l (nth l k : Int) w' h HI.out hlen (by omega) (by omega); rw [Int.toNat_natCast] at h2; exact h2)
            have HOU := hide (fun w' (h : ints w'.heap.size w' v l) => by have h2 := spOuter_c (m : Int) v l (nth l k : Int) w' h HI.out hlen (by omega) (by omega) (by omega) (by omega); rw [Int.toNat_natCast, Int.toNat_natCast] at h2; exact h2)
            rw [hx] at HYY
            clear hx hr
            generalize itemsOf (innerSp l (nth l k)) 7 = A at *
            generalize itemsOf (outerSp l (nth l k)) m = B at *
            by_cases h1 : (A : Int) = y
            · by_cases h2 : (B : Int) = z
              · have hE := HYY.out (by rw [HP0.out, decide_eq_true h1, decide_eq_true h2]; rfl)
                have HE1 := hide hE.1
                have HE2 := hide hE.2
                have hb1 : ((A : Int) == y) = true := by simp [h1]
                have hb2 : ((B : Int) == z) = true := by simp [h2]
                clear hE h1 h2
                generalize nth l k = s at *
                go_wp2_with (first
                  | (refine wpList_at sliceT intS rfl (.tmp _) (.tmp _) rfl _ rfl k rfl w1.heap.size l HLW.out hlt ?_; intro ad hcell hblk; rw [HX.out] at hcell)
                  | (go_at_call 56; refine (HIN.out _ HLF.out).mono ?_; rintro e w3 ⟨rfl, rfl⟩)
                  | (go_at_call 57; refine (HOU.out _ HLF.out).mono ?_; rintro e w4 ⟨rfl, hb4⟩; have HB4 := hide (HB.out.trans (hb4.mono hsz)); clear hb4))
                go_ret2
                exact ⟨by rw [HE1.out, HE2.out]; rfl, HB1.out.trans (HB4.out.mono (by omega))⟩
              · have HNX := hide (HNN.out (by rw [HP0.out, decide_eq_false h2]; simp))
                have hb1 : ((A : Int) == y) = true := by simp [h1]
                have hb2 : ((B : Int) == z) = false := by simp [h2]
                clear h1 h2
                generalize nth l k = s at *
                go_wp2_with (first
                  | (refine wpList_at sliceT intS rfl (.tmp _) (.tmp _) rfl _ rfl k rfl w1.heap.size l HLW.out hlt ?_; intro ad hcell hblk; rw [HX.out] at hcell)
                  | (go_at_call 56; refine (HIN.out _ HLF.out).mono ?_; rintro e w3 ⟨rfl, rfl⟩)
                  | (go_at_call 57; refine (HOU.out _ HLF.out).mono ?_; rintro e w4 ⟨rfl, hb4⟩; have HB4 := hide (HB.out.trans (hb4.mono hsz)); clear hb4))
                go_roundw
                case rel => exact ⟨k + 1, by omega, by go_num, HNX, HB4⟩
                case measure => (simp [intOf] <;> omega)
            · have HNX := hide (HNN.out (by rw [HP0.out, decide_eq_false h1]; simp))
              have hb1 : ((A : Int) == y) = false := by simp [h1]
              clear h1
              generalize nth l k = s at *
              go_wp2_with (first
                | (refine wpList_at sliceT intS rfl (.tmp _) (.tmp _) rfl _ rfl k rfl w1.heap.size l HLW.out hlt ?_; intro ad hcell hblk; rw [HX.out] at hcell)
                | (go_at_call 56; refine (HIN.out _ HLF.out).mono ?_; rintro e w3 ⟨rfl, rfl⟩)
                | (go_at_call 57; refine (HOU.out _ HLF.out).mono ?_; rintro e w4 ⟨rfl, hb4⟩; have HB4 := hide (HB.out.trans (hb4.mono hsz)); clear hb4))
              go_roundw
              case rel => exact ⟨k + 1, by omega, by go_num, HNX, HB⟩
              case measure => (simp [intOf] <;> omega)
          · have HJ := hide (show k = l.length by omega)
            have hE := HEND.out (by rw [← HJ.out]; exact HE.out)
            have hlt' : ¬ ((k : Int) < (l.length : Int)) := by omega
            have HE1 := hide hE.1
            have HE2 := hide hE.2
            clear hE
            go_wp2
            go_ret2
            exact ⟨by rw [HE1.out, HE2.out]; rfl, HB1.out.trans (HB.out.mono (by omega))⟩
      · have H2 := hide (decide_eq_false h2)
        obtain ⟨e1, e2⟩ := HOUT.out (.inr h2)
        rw [e1, e2]
        clear hok h1 h2 e1 e2 HOUT
        go_enter Try.func32, Try.ntmps32
        go_wp2_with (first
          | (go_at_call 52; refine (spGood_c _ v l _ HL.out hlen).mono ?_; rw [HG.out]; rintro e w1 ⟨rfl, hb1⟩; have HS1 := hide ((hb1.block w.heap.size (by rw [HZ.out]; omega)).trans HS0.out); have d0 := cells_at0 HS1.out; have d1 := cells_at1 HS1.out; have HL1 := hide ((HL.out.below hb1 (Nat.le_refl _)).mono hb1.size); have hz1 := hb1.size; rw [HZ.out] at hz1; have HB1 := hide (H0.out.trans (hb1.mono (by rw [HZ.out]; omega))); clear hb1)
          | (go_at_call 61; refine (l1In_c _ _ _ _).mono ?_; rw [H1.out]; rintro e w' ⟨rfl, rfl⟩)
          | (go_at_call 61; refine (l1In_c _ _ _ _).mono ?_; rw [H2.out]; rintro e w' ⟨rfl, rfl⟩)
          | (refine wpList_len sliceT rfl (.tmp _) rfl _ rfl w1.heap.size l HL1.out ?_)
          )
        go_ret2
        exact ⟨rfl, HB1.out⟩
    · have H1 := hide (decide_eq_false h1)
      have H2 := H1
      obtain ⟨e1, e2⟩ := HOUT.out (.inl h1)
      rw [e1, e2]
      clear hok h1 e1 e2 HOUT
      go_enter Try.func32, Try.ntmps32
      go_wp2_with (first
        | (go_at_call 52; refine (spGood_c _ v l _ HL.out hlen).mono ?_; rw [HG.out]; rintro e w1 ⟨rfl, hb1⟩; have HS1 := hide ((hb1.block w.heap.size (by rw [HZ.out]; omega)).trans HS0.out); have d0 := cells_at0 HS1.out; have d1 := cells_at1 HS1.out; have HL1 := hide ((HL.out.below hb1 (Nat.le_refl _)).mono hb1.size); have hz1 := hb1.size; rw [HZ.out] at hz1; have HB1 := hide (H0.out.trans (hb1.mono (by rw [HZ.out]; omega))); clear hb1)
        | (go_at_call 61; refine (l1In_c _ _ _ _).mono ?_; rw [H1.out]; rintro e w' ⟨rfl, rfl⟩)
        | (go_at_call 61; refine (l1In_c _ _ _ _).mono ?_; rw [H2.out]; rintro e w' ⟨rfl, rfl⟩)
        | (refine wpList_len sliceT rfl (.tmp _) rfl _ rfl w1.heap.size l HL1.out ?_)
        )
      go_ret2
      exact ⟨rfl, HB1.out⟩
end Go.Proofs.Ytijgngnjhmkhaaa
