/- Contracts: CriticalOf: the specification's and the program's. -/
import Derived.Test.YtagahoaogfogkaaDoorCr
namespace Go.Proofs.YtagahoaogfogkaaDoor
open Go.RowKit
set_option maxRecDepth 100000
theorem crTo_next (l : List Int) (n k : Nat) : crTo l n (k + 1) = crTo l n k ++ (paTo (criSp l n k) l l.length).map fun b => [(k : Int), b] := rfl
theorem criSp_no1 {l : List Int} {n i s : Nat} (h : s.testBit i = true) : criSp l n i s = false := by simp [criSp, h]
theorem criSp_no2 {l : List Int} {n i s : Nat} (h : (itemsOf (outerSp l s) n).testBit i = true) : criSp l n i s = false := by simp [criSp, h]
theorem criSp_yes {l : List Int} {n i s : Nat} (h : s.testBit i = false) (h2 : (itemsOf (outerSp l s) n).testBit i = false) : criSp l n i s = alN (itemsOf (outerSp l s) n) (fun j => memB l ((s ||| p2 j ||| p2 i : Nat) : Int)) n := by simp [criSp, h, h2]
attribute [local irreducible] p2 low memB risB
set_option maxHeartbeats 2000000 in
theorem implCriticalOf_c (n : Int) (v : Value) (l : List Int) (w : World) (hl : ints w.heap.size w v l) (hlen : l.length < 1000000000) (hT : tab w) :
    Calls Tryd.prog 39 #[.agg #[.int .i64 n, v]] w fun e w' => ∃ v', e = .returned (.tuple #[v', .bool (okSp n l)]) ∧ own2 22 3 w' w.heap.size v' (crL n l) ∧ Below w.heap.size w w' := by
  have HL := hide ((hl.alloc (.cells #[.int .i64 n, v] 29)).mono (show w.heap.size ≤ (w.alloc (.cells #[.int .i64 n, v] 29)).heap.size by simp))
  have H0 := hide ((Below.refl w.heap.size w).alloc (Nat.le_refl _) (.cells #[.int .i64 n, v] 29))
  have HS0 := hide (hp_last w (.cells #[.int .i64 n, v] 29))
  have HZ := hide (show (w.alloc (.cells #[.int .i64 n, v] 29)).heap.size = w.heap.size + 1 by simp)
  clear hl
  have HT := hide hT
  clear hT
  cases hok : okSp n l
  · have HK := hide hok
    rw [crL_no hok]
    clear hok
    go_enter Tryd.func39, Tryd.ntmps39
    go_wp2_with (first
      | (go_at_call 47; refine (familyOf_c n v l _ HL.out hlen).mono ?_; rw [famVal_no n l HK.out]; rintro e w1 ⟨rfl, hb1⟩; have hz1 := hb1.size; rw [HZ.out] at hz1; have HB1 := hide (bl_row ((H0.out.trans (hb1.mono (by rw [HZ.out]; omega))).alloc (by omega) (.cells (fam 0 noSet) 55)) (show w.heap.size ≤ w1.heap.size by omega) (fam 0 noSet)); clear hb1)
      | (refine wpList_alloc_fam zeroT rfl rfl _ (by first | (simp only [World.size_alloc]; rfl) | rfl) ?_)
      | (refine wpList_store_fam sizeT rfl (.tmp _) (.tmp _) rfl _ _ _ rfl rfl _ _ (famAt.new _ _ _ _) ?_))
    go_ret2
    exact ⟨_, rfl, own2_nil _ _ _ _, HB1.out⟩
  · have HK := hide hok
    have hn := okSp_n hok
    rw [crL_yes hok]
    have HR := hide (okSp_r128 hok)
    have hl128 := okSp_len hok
    have HLI := hide (okSp_list hok)
    have HLTN := hide (fun j (hj : j < l.length) => okSp_lt hok (nth l j) ((okSp_has hok _).2 ⟨j, hj, rfl⟩))
    have HCS := hide (fun i s hi hs => cri_same hok i s hi hs)
    obtain ⟨N, rfl⟩ := Int.eq_ofNat_of_zero_le (show 0 ≤ n by omega)
    rw [Int.toNat_natCast] at *
    clear hok
    go_enter Tryd.func39, Tryd.ntmps39
    go_wp2_with (first
      | (go_at_call 47; refine (familyOf_c (N : Int) v l _ HL.out hlen).mono ?_; rw [famVal_yes (N : Int) l HK.out]; rintro e w1 ⟨rfl, hb1⟩; have hz1 := hb1.size; rw [HZ.out] at hz1; have HH := hide ((famAt.new 55 w1 0 noSet).row (N : Int) (marksTo l l.length)); have hg0 := HH.out.get0; have HB1 := hide (bl_row ((H0.out.trans (hb1.mono (by rw [HZ.out]; omega))).alloc (by omega) (.cells (fam 0 noSet) 55)) (show w.heap.size ≤ w1.heap.size by omega) (fam (N : Int) (marksTo l l.length))); clear hb1)
      | (refine wpList_alloc_fam zeroT rfl rfl _ (by first | (simp only [World.size_alloc]; rfl) | rfl) ?_)
      | (refine wpList_store_fam sizeT rfl (.tmp _) (.tmp _) rfl _ _ _ rfl rfl _ _ (famAt.new _ _ _ _) ?_))
    have hzX : ((w1.alloc (.cells (fam 0 noSet) 55)).setRow w1.heap.size (fam (N : Int) (marksTo l l.length))).heap.size = w1.heap.size + 1 := by simp [World.setRow]
    clear hg0
    generalize (w1.alloc (.cells (fam 0 noSet) 55)).setRow w1.heap.size (fam (N : Int) (marksTo l l.length)) = W at HH HB1 hzX ⊢
    go_loopw [6, 19] (fun o i wr => ∃ k : Nat, k ≤ N ∧ i = .int .i64 (k : Int) ∧ Hid (own2 22 3 wr W.heap.size o (crTo l N k)) ∧ Hid (Below W.heap.size W wr)) (fun _ i _ => N - (intOf i).toNat)
    case atStart => exact ⟨0, by omega, rfl, own2_nil _ _ _ _, Below.refl _ _⟩
    case round =>
      obtain ⟨i, hi, rfl, HO, HB⟩ := hrel
      have hsz := HB.out.size
      have HFW := hide (HH.out.below HB.out HH.out.lt)
      have hcl := crTo_len l N i
      by_cases hlt : i < N
      · have hlt2 : (i : Int) < (N : Int) := by omega
        have HN := hide (crTo_next l N i)
        have hcl2 : i * l.length ≤ 7 * 128 := Nat.mul_le_mul (by omega) hl128
        generalize hA : crTo l N i = A at HO HN hcl
        have hAl : A.length ≤ 7 * 128 := by omega
        clear hcl hcl2 hA
        go_wp2_with (first
          | (refine wpList_load_fam rowT sizeT rfl (.tmp _) rfl _ rfl (N : Int) _ HFW.out ?_)
          | (go_at_call 69; refine (sets_c (N : Int) (marksTo l l.length) _).mono ?_; rw [← HLI.out]; rintro e w4 ⟨v4, rfl, ho4, hb4⟩; have HI4 := hide ho4.ints; have HW4 := hide (show own 3 w4 wr.heap.size v4 l from ho4); have hz4 := hb4.size; have HB4 := hide (HB.out.trans (hb4.mono hsz)); have HO4 := hide (HO.out.kept hb4); have HLT := hide (fun g hg => (HO.out.lt g hg).2); clear ho4 hb4)
          | (refine wpList_len sliceT rfl (.tmp _) rfl _ rfl w4.heap.size l HI4.out ?_))
        have hwr := hsz
        go_loopw [25, 6] (fun t o wq => ∃ k : Nat, k ≤ l.length ∧ t = .int .i64 (k : Int) ∧ Hid (own2 22 3 wq W.heap.size o (A ++ (paTo (criSp l N i) l k).map fun b => [(i : Int), b])) ∧ Hid (Below W.heap.size W wq ∧ own 3 wq W.heap.size v4 l ∧ w4.heap.size ≤ wq.heap.size ∧ ∀ g, v4.ownBlock = some g → o.ownBlock ≠ some g)) (fun t _ _ => l.length - (intOf t).toNat)
        case atStart => exact ⟨0, by omega, rfl, hide (by simpa [paTo] using HO4.out), hide ⟨HB4.out, HW4.out.mono hwr, Nat.le_refl _, fun g hg e => by have h1 := HLT.out g e; have h2 := HW4.out.base g hg; omega⟩⟩
        case round =>
          obtain ⟨j, hj, rfl, HOQ, HBQ⟩ := hrel
          have hszq := HBQ.out.1.size
          have HIQ := hide HBQ.out.2.1.ints
          have HWQ := hide HBQ.out.2.1
          have hszq4 := HBQ.out.2.2.1
          have HNE := hide HBQ.out.2.2.2
          have HFQ := hide (HH.out.below HBQ.out.1 HH.out.lt)
          have hlen2 := paTo_len (criSp l N i) l j
          by_cases hlj : j < l.length
          · have hx := HR.out j hlj
            have hnx : l[j]?.getD 0 = (nth l j : Int) := by unfold nth; omega
            have hx128 : nth l j < 128 := by unfold nth; omega
            have HN2 := hide (paTo_map (criSp l N i) l (fun b => [(i : Int), b]) j)
            have hmapl : ((paTo (criSp l N i) l j).map fun b => [(i : Int), b]).length ≤ j := by rw [List.length_map]; exact hlen2
            generalize ((paTo (criSp l N i) l j).map fun b => [(i : Int), b]) = B at HOQ HN2 hmapl
            have HCV := hide (HCS.out i (nth l j) hlt (HLTN.out j hlj))
            have HCC := hide (fun (w1 : World) (h1 : tab w1) => isCritical_c (N : Int) (marksTo l l.length) i (nth l j) w1 (by omega) (by omega) (by omega) hx128 h1)
            rw [Int.toNat_natCast] at HCC
            generalize nth l j = a at HN2 hnx hx128 HCV HCC
            have HXX := hide hnx
            clear hnx hx hlen2
            generalize hq : criSp l N i a = q at HN2 HCV
            rw [HCV.out] at HCC
            have HQ := hide hq
            clear hq
            cases q
            · go_wp2_with (first
                | (refine wpList_at sliceT intS rfl (.tmp _) (.tmp _) rfl _ rfl j rfl wr.heap.size l HIQ.out hlj ?_; intro ad hcell hblk; rw [HXX.out] at hcell)
                | (refine wpList_load_fam rowT sizeT rfl (.tmp _) rfl _ rfl (N : Int) _ HFQ.out ?_)
                | (go_at_call 76; refine (HCC.out _ (HT.out.belowB HT.out (HB1.out.trans (HBQ.out.1.mono (by omega))) (Nat.le_refl _))).mono ?_; rintro e w5 ⟨rfl, hb5⟩; have hz5 := hb5.size; have HB5 := hide (HBQ.out.1.trans (hb5.mono (by omega))); have HO5 := hide (HOQ.out.kept hb5); have HW5 := hide (HWQ.out.kept hb5); clear hb5))
              go_roundw
              case rel => exact ⟨j + 1, by omega, by go_num, hide (by rw [HN2.out]; exact HO5.out), hide ⟨HB5.out, HW5.out, by omega, HNE.out⟩⟩
              case measure => simp [intOf]; omega
            · go_wp2_with (first
                | (refine wpList_at sliceT intS rfl (.tmp _) (.tmp _) rfl _ rfl j rfl wr.heap.size l HIQ.out hlj ?_; intro ad hcell hblk; rw [HXX.out] at hcell)
                | (refine wpList_load_fam rowT sizeT rfl (.tmp _) rfl _ rfl (N : Int) _ HFQ.out ?_)
                | (go_at_call 76; refine (HCC.out _ (HT.out.belowB HT.out (HB1.out.trans (HBQ.out.1.mono (by omega))) (Nat.le_refl _))).mono ?_; rintro e w5 ⟨rfl, hb5⟩; have hz5 := hb5.size; have HB5 := hide (HBQ.out.1.trans (hb5.mono (by omega))); have HO5 := hide (HOQ.out.kept hb5); have HW5 := hide (HWQ.out.kept hb5); clear hb5)
                | (at_builtin; refine wpList_append2 sliceT2 rowI2 (by decide) rfl (.tmp 33) (.tmp 37) rfl W.heap.size _ (A ++ B) rfl w5 HO5.out (((Below.refl _ _).alloc (Nat.le_refl _) _).alloc (by simp) _) _ (.slice (some ⟨w5.heap.size, 0, none⟩) 2 2) [(i : Int), (a : Int)] rfl (by simp [go_sem]) ((own_pair 3 w5 i a).alloc _) (by omega) (by simp; omega) ?_; intro v6 w6 ho6 hb6 hoth6 hlie6; have HO6 := hide ho6; have HB6 := hide (((HB5.out.alloc (by omega) _).alloc (by simp; omega) _).trans hb6); have HW6 := hide (((HW5.out.alloc _).alloc _).other hoth6 fun g hg e => HNE.out g hg e); have hz6 := hoth6.size; have HL6 := hide hlie6; clear ho6 hb6 hoth6 hlie6))
              go_roundw
              case rel =>
                refine ⟨j + 1, by omega, by go_num, hide (by rw [HN2.out]; simp only [if_true]; rw [HXX.out, ← List.append_assoc]; exact HO6.out), hide ⟨HB6.out, HW6.out, by simp at hz6; omega, fun g hg e => ?_⟩⟩
                have h1 := HWQ.out.blockLt g hg
                rcases HL6.out with h2 | h2
                · exact HNE.out g hg (h2.symm.trans e)
                · rw [h2] at e
                  simp at e
                  omega
              case measure => simp [intOf]; omega
          · have HJ := hide (show j = l.length by omega)
            have hlj' : ¬ ((j : Int) < (l.length : Int)) := by omega
            clear hlen2
            go_wp2
            go_roundw
            case rel => exact ⟨i + 1, by omega, by go_num, hide (by rw [HN.out, ← HJ.out]; exact HOQ.out), hide HBQ.out.1⟩
            case measure => simp [intOf]; omega
      · have HJ := hide (show i = N by omega)
        have hlt' : ¬ ((i : Int) < (N : Int)) := by omega
        clear hcl
        go_wp2
        go_ret2
        exact ⟨_, rfl, by have h := HO.out; rw [HJ.out] at h; exact h.mono (by omega), HB1.out.trans (HB.out.mono (by omega))⟩
set_option maxHeartbeats 4000000 in
theorem specCriticalOf_c (n : Int) (v : Value) (l : List Int) (w : World) (hl : ints w.heap.size w v l) (hlen : l.length < 1000000000) (_ : tab w) :
    Calls Tryd.prog 38 #[.agg #[.int .i64 n, v]] w fun e w' => ∃ v', e = .returned (.tuple #[v', .bool (okSp n l)]) ∧ own2 22 3 w' w.heap.size v' (crL n l) ∧ Below w.heap.size w w' := by
  have HL := hide ((hl.alloc (.cells #[.int .i64 n, v] 29)).mono (show w.heap.size ≤ (w.alloc (.cells #[.int .i64 n, v] 29)).heap.size by simp))
  have H0 := hide ((Below.refl w.heap.size w).alloc (Nat.le_refl _) (.cells #[.int .i64 n, v] 29))
  have HS0 := hide (hp_last w (.cells #[.int .i64 n, v] 29))
  have HZ := hide (show (w.alloc (.cells #[.int .i64 n, v] 29)).heap.size = w.heap.size + 1 by simp)
  clear hl
  have hc0 := cells_at0 HS0.out
  have hc1 := cells_at1 HS0.out
  cases hok : okSp n l
  · have HG := hide (show goodB n l = false by rw [← ok_good]; exact hok)
    rw [crL_no hok]
    clear hok
    go_enter Tryd.func38, Tryd.ntmps38
    go_wp2_with (go_at_call 43; refine (spGood_c n v l _ HL.out hlen).mono ?_; rw [HG.out]; rintro e w1 ⟨rfl, hb1⟩; have HB1 := hide (H0.out.trans (hb1.mono (by rw [HZ.out]; omega))); clear hb1)
    go_ret2
    exact ⟨_, rfl, own2_nil _ _ _ _, HB1.out⟩
  · have HG := hide (show goodB n l = true by rw [← ok_good]; exact hok)
    have hn := okSp_n hok
    rw [crL_yes hok]
    have HR := hide (okSp_r128 hok)
    have HI := hide (okSp_inc hok)
    have hl128 := okSp_len hok
    obtain ⟨N, rfl⟩ := Int.eq_ofNat_of_zero_le (show 0 ≤ n by omega)
    rw [Int.toNat_natCast] at *
    clear hok
    go_enter Tryd.func38, Tryd.ntmps38
    go_wp2_with (go_at_call 43; refine (spGood_c (N : Int) v l _ HL.out hlen).mono ?_; rw [HG.out]; rintro e w1 ⟨rfl, hb1⟩; have HS1 := hide ((hb1.block w.heap.size (by rw [HZ.out]; omega)).trans HS0.out); have HL1 := hide ((HL.out.below hb1 (Nat.le_refl _)).mono hb1.size); have hz1 := hb1.size; rw [HZ.out] at hz1; have HB1 := hide (H0.out.trans (hb1.mono (by rw [HZ.out]; omega))); clear hb1)
    clear hc0 hc1
    go_loopw [4, 5] (fun o i wr => ∃ k : Nat, k ≤ N ∧ i = .int .i64 (k : Int) ∧ Hid (own2 22 3 wr w1.heap.size o (crTo l N k)) ∧ Hid (Below w1.heap.size w1 wr)) (fun _ i _ => N - (intOf i).toNat)
    case atStart => exact ⟨0, by omega, rfl, own2_nil _ _ _ _, Below.refl _ _⟩
    case round =>
      obtain ⟨i, hi, rfl, HO, HB⟩ := hrel
      have hsz := HB.out.size
      have HLW := hide ((HL1.out.below HB.out (Nat.le_refl _)).mono HB.out.size)
      have HSW := hide ((HB.out.block w.heap.size (by omega)).trans HS1.out)
      have d0 := cells_at0 HSW.out
      have d1 := cells_at1 HSW.out
      have hcl := crTo_len l N i
      by_cases hlt : i < N
      · have hlt2 : (i : Int) < (N : Int) := by omega
        have HN := hide (crTo_next l N i)
        have hcl2 : i * l.length ≤ 7 * 128 := Nat.mul_le_mul (by omega) hl128
        generalize hA : crTo l N i = A at HO HN hcl
        have hAl : A.length ≤ 7 * 128 := by omega
        clear hcl hcl2 hA
        go_wp2_with (refine wpList_len sliceT rfl (.tmp _) rfl v rfl wr.heap.size l HLW.out ?_)
        clear d0 d1
        have hwr := hsz
        go_loopw [23, 4] (fun t o wq => ∃ k : Nat, k ≤ l.length ∧ t = .int .i64 (k : Int) ∧ Hid (own2 22 3 wq w1.heap.size o (A ++ (paTo (criSp l N i) l k).map fun b => [(i : Int), b])) ∧ Hid (Below w1.heap.size w1 wq)) (fun t _ _ => l.length - (intOf t).toNat)
        case atStart => exact ⟨0, by omega, rfl, hide (by simpa [paTo] using HO.out), HB⟩
        case round =>
          obtain ⟨j, hj, rfl, HOQ, HBQ⟩ := hrel
          have hszq := HBQ.out.size
          have HLQ := hide ((HL1.out.below HBQ.out (Nat.le_refl _)).mono HBQ.out.size)
          have HSQ := hide ((HBQ.out.block w.heap.size (by omega)).trans HS1.out)
          have e0 := cells_at0 HSQ.out
          have e1 := cells_at1 HSQ.out
          have hlen2 := paTo_len (criSp l N i) l j
          by_cases hlj : j < l.length
          · have hx := HR.out j hlj
            have hnx : l[j]?.getD 0 = (nth l j : Int) := by unfold nth; omega
            have hx128 : nth l j < 128 := by unfold nth; omega
            have HN2 := hide (paTo_map (criSp l N i) l (fun b => [(i : Int), b]) j)
            have hmapl : ((paTo (criSp l N i) l j).map fun b => [(i : Int), b]).length ≤ j := by rw [List.length_map]; exact hlen2
            generalize ((paTo (criSp l N i) l j).map fun b => [(i : Int), b]) = B at HOQ HN2 hmapl
            generalize nth l j = a at HN2 hnx hx128
            have HXX := hide hnx
            clear hnx hx hlen2
            have HOU : Hid (∀ (w2 : World), ints w2.heap.size w2 v l → Calls Tryd.prog 73 #[.agg #[.int .i64 (N : Int), v], .int .i64 (a : Int)] w2 fun e w' => e = .returned (.int .i64 (itemsOf (outerSp l a) N : Int)) ∧ Below w2.heap.size w2 w') := hide fun w2 h2 => by
              have := spOuter_c (N : Int) v l (a : Int) w2 h2 HI.out hlen (by omega) (by omega) (by omega) (by omega)
              rw [Int.toNat_natCast, Int.toNat_natCast] at this
              exact this
            have hO128 : itemsOf (outerSp l a) N < 128 := by
              have h1 : itemsOf (outerSp l a) N < 2 ^ N := itemsOf_lt _ N
              have h2 := p2_le N 7 (by omega)
              omega
            have HSI : Hid (∀ (x k : Nat) (w2 : World), x < 128 → k < 7 → Calls Tryd.prog 74 #[.int .i64 (x : Int), .int .i64 (k : Int)] w2 fun e w' => e = .returned (.bool (x.testBit k)) ∧ w2 = w') := hide fun x k w2 hx hk => by
              have := spIn_c (x : Int) (k : Int) w2 (by omega) (by omega) (by omega) (by omega)
              rw [Int.toNat_natCast, Int.toNat_natCast] at this
              exact this
            have HC1 := hide (@criSp_no1 l N i a)
            have HC2 := hide (@criSp_no2 l N i a)
            have HC3 := hide (@criSp_yes l N i a)
            cases h1 : a.testBit i
            · have H1 := hide h1
              cases h2 : (itemsOf (outerSp l a) N).testBit i
              · have H2 := hide h2
                have HCY := hide (HC3.out h1 h2)
                clear h1 h2
                generalize itemsOf (outerSp l a) N = O at HOU hO128 H2 HCY
                go_wp2_with (first
                  | (refine wpList_at sliceT intS rfl (.tmp 21) (.tmp _) rfl v rfl j rfl wr.heap.size l HLQ.out hlj ?_; intro ad hcell hblk; rw [HXX.out] at hcell)
                  | (go_at_call 73; refine (HOU.out _ HLQ.out).mono ?_; rintro e w5 ⟨rfl, hb5⟩; have hz5 := hb5.size; have HB5 := hide (HBQ.out.trans (hb5.mono (by omega))); have HO5 := hide (HOQ.out.kept hb5); clear hb5)
                  | (go_at_call 74; refine (HSI.out _ _ _ (by omega) (by omega)).mono ?_; (first | rw [H1.out] | rw [H2.out]); rintro e w6 ⟨rfl, rfl⟩))
                clear e0 e1
                go_loopw [9, 10] (fun al t wz => ∃ k : Nat, k ≤ N ∧ t = .int .i64 (k : Int) ∧ al = .bool (alN O (fun j => memB l ((a ||| p2 j ||| p2 i : Nat) : Int)) k) ∧ Hid (own2 22 3 wz w1.heap.size (u4) (A ++ B)) ∧ Hid (Below w1.heap.size w1 wz)) (fun _ t _ => N - (intOf t).toNat)
                case atStart => exact ⟨0, by omega, rfl, rfl, HO5, HB5⟩
                case round =>
                  obtain ⟨t, ht, rfl, rfl, HOZ, HBZ⟩ := hrel
                  have hszz := HBZ.out.size
                  have HLZ := hide ((HL1.out.below HBZ.out (Nat.le_refl _)).mono HBZ.out.size)
                  have HSZ := hide ((HBZ.out.block w.heap.size (by omega)).trans HS1.out)
                  have f0 := cells_at0 HSZ.out
                  have f1 := cells_at1 HSZ.out
                  by_cases hlt3 : t < N
                  · have hlt4 : (t : Int) < (N : Int) := by omega
                    have HNX := hide (show alN O (fun j => memB l ((a ||| p2 j ||| p2 i : Nat) : Int)) (t + 1) = if O.testBit t then alN O (fun j => memB l ((a ||| p2 j ||| p2 i : Nat) : Int)) t && memB l ((a ||| p2 t ||| p2 i : Nat) : Int) else alN O (fun j => memB l ((a ||| p2 j ||| p2 i : Nat) : Int)) t from rfl)
                    generalize alN O (fun j => memB l ((a ||| p2 j ||| p2 i : Nat) : Int)) t = al at HNX ⊢
                    have hp := wrap_p2 t (by omega)
                    have hp2 : IntKind.i64.wrap (2 ^ t) = (p2 t : Int) := by rw [IntWalk.i64_left]; exact hp
                    have hpi := wrap_p2 i (by omega)
                    have hpi2 : IntKind.i64.wrap (2 ^ i) = (p2 i : Int) := by rw [IntWalk.i64_left]; exact hpi
                    have hpl := p2_lt128 t (by omega)
                    have hpl2 := p2_lt128 i (by omega)
                    have hor := i64_or a (p2 t) (by omega) (by omega)
                    have hb128 := or_lt128 a (p2 t) hx128 hpl
                    have hor2 := i64_or (a ||| p2 t) (p2 i) (by omega) (by omega)
                    cases hb : O.testBit t
                    · have HBT := hide hb
                      clear hb
                      go_wp2_with (go_at_call 74; refine (HSI.out _ _ _ (by omega) (by omega)).mono ?_; rw [HBT.out]; rintro e w6 ⟨rfl, rfl⟩)
                      go_roundw
                      case rel => exact ⟨t + 1, by omega, by go_num, by rw [HNX.out, HBT.out]; rfl, HOZ, HBZ⟩
                      case measure => simp [intOf]; omega
                    · have HBT := hide hb
                      clear hb
                      cases al
                      · go_wp2_with (go_at_call 74; refine (HSI.out _ _ _ (by omega) (by omega)).mono ?_; rw [HBT.out]; rintro e w6 ⟨rfl, rfl⟩)
                        refine wp_region_old (by kernel_rfl) (by kernel_rfl) ?_
                        repeat (first | go_big_quiet_skip | go_big_quiet_step ((first | exact fun _ => rfl | exact fun _ => ⟨rfl, rfl⟩)))
                        refine wpQuiet_nil ?_
                        intro w7 hb7
                        have HB7 := hide (HBZ.out.trans (hb7.mono (by omega)))
                        have HO7 := hide (HOZ.out.kept hb7)
                        clear hb7
                        go_wp2
                        go_roundw
                        case rel => exact ⟨t + 1, by omega, by go_num, by rw [HNX.out, HBT.out]; rfl, HO7, HB7⟩
                        case measure => simp [intOf]; omega
                      · generalize hM : memB l ((a ||| p2 t ||| p2 i : Nat) : Int) = m at HNX
                        have HM := hide hM
                        clear hM
                        go_wp2_with (go_at_call 74; refine (HSI.out _ _ _ (by omega) (by omega)).mono ?_; rw [HBT.out]; rintro e w6 ⟨rfl, rfl⟩)
                        refine wp_region_old (by kernel_rfl) (by kernel_rfl) ?_
                        go_big_quiet_step ((first | exact fun _ => rfl | exact fun _ => ⟨rfl, rfl⟩))
                        go_big_quiet_step ((first | exact fun _ => rfl | exact fun _ => ⟨rfl, rfl⟩))
                        go_big_quiet_step ((first | exact fun _ => rfl | exact fun _ => ⟨rfl, rfl⟩))
                        refine q_load_cell rowS rfl (.tmp _) rfl _ rfl v (fun w' h => (h.cell (p := ⟨w.heap.size, 1, none⟩) (by show w.heap.size < _; omega)).trans f1) ?_
                        simp only [Act.put, List.setIfInBounds_toArray, List.set_cons_zero, List.set_cons_succ]
                        go_big_quiet_step ((first | exact fun _ => rfl | exact fun _ => ⟨rfl, rfl⟩))
                        go_big_quiet_step ((first | exact fun _ => rfl | exact fun _ => ⟨rfl, rfl⟩))
                        go_big_quiet_step ((first | exact fun _ => rfl | exact fun _ => ⟨rfl, rfl⟩))
                        go_big_quiet_step ((first | exact fun _ => rfl | exact fun _ => ⟨rfl, rfl⟩))
                        go_big_quiet_step ((first | exact fun _ => rfl | exact fun _ => ⟨rfl, rfl⟩))
                        go_big_quiet_step ((first | exact fun _ => rfl | exact fun _ => ⟨rfl, rfl⟩))
                        go_big_quiet_step ((first | exact fun _ => rfl | exact fun _ => ⟨rfl, rfl⟩))
                        refine q_pure rfl 75 ent_spHas _ _ rfl #[v, .int .i64 ((a ||| p2 t ||| p2 i : Nat) : Int)] rfl (.bool m) (fun w' hb => by have := spHas_c v l ((a ||| p2 t ||| p2 i : Nat) : Int) w' ((HLZ.out.below hb (Nat.le_refl _)).mono hb.size) HI.out hlen; rw [HM.out] at this; exact this) ?_
                        simp only [Act.put, List.setIfInBounds_toArray, List.set_cons_zero, List.set_cons_succ]
                        go_big_quiet_step ((first | exact fun _ => rfl | exact fun _ => ⟨rfl, rfl⟩))
                        go_big_quiet_step ((first | exact fun _ => rfl | exact fun _ => ⟨rfl, rfl⟩))
                        refine wpQuiet_nil ?_
                        intro w7 hb7
                        have HB7 := hide (HBZ.out.trans (hb7.mono (by omega)))
                        have HO7 := hide (HOZ.out.kept hb7)
                        clear hb7
                        go_wp2
                        go_roundw
                        case rel => exact ⟨t + 1, by omega, by go_num, by rw [HNX.out, HBT.out]; simp, HO7, HB7⟩
                        case measure => simp [intOf]; omega
                  · have hlt4 : ¬ ((t : Int) < (N : Int)) := by omega
                    have hj3 : t = N := by omega
                    have HQ := hide (show criSp l N i a = alN O (fun j => memB l ((a ||| p2 j ||| p2 i : Nat) : Int)) t by rw [hj3]; exact HCY.out)
                    clear hj3
                    generalize alN O (fun j => memB l ((a ||| p2 j ||| p2 i : Nat) : Int)) t = al at HQ ⊢
                    cases al
                    · go_wp2
                      go_roundw
                      case rel => exact ⟨j + 1, by omega, by go_num, hide (by rw [HN2.out, HQ.out]; exact HOZ.out), HBZ⟩
                      case measure => simp [intOf]; omega
                    · go_wp2_with (at_builtin; refine wpList_append2 sliceT2 rowI2 (by decide) rfl (.tmp 61) (.tmp 65) rfl w1.heap.size _ (A ++ B) rfl wr HOZ.out (((Below.refl _ _).alloc (Nat.le_refl _) _).alloc (by simp) _) _ (.slice (some ⟨wr.heap.size, 0, none⟩) 2 2) [(i : Int), (a : Int)] rfl (by simp [go_sem]) ((own_pair 3 wr i a).alloc _) (by omega) (by simp; omega) ?_; intro v6 w6 ho6 hb6 _ _; have HO6 := hide ho6; have HB6 := hide (((HBZ.out.alloc (by omega) _).alloc (by simp; omega) _).trans hb6); clear ho6 hb6)
                      go_roundw
                      case rel => exact ⟨j + 1, by omega, by go_num, hide (by rw [HN2.out, HQ.out]; simp only [if_true]; rw [HXX.out, ← List.append_assoc]; exact HO6.out), HB6⟩
                      case measure => simp [intOf]; omega
              · have H2 := hide h2
                have HCN := hide (HC2.out h2)
                clear h1 h2
                generalize itemsOf (outerSp l a) N = O at HOU hO128 H2
                go_wp2_with (first
                  | (refine wpList_at sliceT intS rfl (.tmp 21) (.tmp _) rfl v rfl j rfl wr.heap.size l HLQ.out hlj ?_; intro ad hcell hblk; rw [HXX.out] at hcell)
                  | (go_at_call 73; refine (HOU.out _ HLQ.out).mono ?_; rintro e w5 ⟨rfl, hb5⟩; have hz5 := hb5.size; have HB5 := hide (HBQ.out.trans (hb5.mono (by omega))); have HO5 := hide (HOQ.out.kept hb5); clear hb5)
                  | (go_at_call 74; refine (HSI.out _ _ _ (by omega) (by omega)).mono ?_; (first | rw [H1.out] | rw [H2.out]); rintro e w6 ⟨rfl, rfl⟩))
                go_roundw
                case rel => exact ⟨j + 1, by omega, by go_num, hide (by rw [HN2.out, HCN.out]; exact HO5.out), HB5⟩
                case measure => simp [intOf]; omega
            · have H1 := hide h1
              have HCN := hide (HC1.out h1)
              clear h1
              generalize itemsOf (outerSp l a) N = O at HOU hO128
              go_wp2_with (first
                | (refine wpList_at sliceT intS rfl (.tmp 21) (.tmp _) rfl v rfl j rfl wr.heap.size l HLQ.out hlj ?_; intro ad hcell hblk; rw [HXX.out] at hcell)
                | (go_at_call 73; refine (HOU.out _ HLQ.out).mono ?_; rintro e w5 ⟨rfl, hb5⟩; have hz5 := hb5.size; have HB5 := hide (HBQ.out.trans (hb5.mono (by omega))); have HO5 := hide (HOQ.out.kept hb5); clear hb5)
                | (go_at_call 74; refine (HSI.out _ _ _ (by omega) (by omega)).mono ?_; rw [H1.out]; rintro e w6 ⟨rfl, rfl⟩))
              go_roundw
              case rel => exact ⟨j + 1, by omega, by go_num, hide (by rw [HN2.out, HCN.out]; exact HO5.out), HB5⟩
              case measure => simp [intOf]; omega
          · have HJ := hide (show j = l.length by omega)
            have hlj' : ¬ ((j : Int) < (l.length : Int)) := by omega
            clear hlen2
            go_wp2
            go_roundw
            case rel => exact ⟨i + 1, by omega, by go_num, hide (by rw [HN.out, ← HJ.out]; exact HOQ.out), HBQ⟩
            case measure => simp [intOf]; omega
      · have HJ := hide (show i = N by omega)
        have hlt' : ¬ ((i : Int) < (N : Int)) := by omega
        clear hcl
        go_wp2
        go_ret2
        exact ⟨_, rfl, by have h := HO.out; rw [HJ.out] at h; exact h.mono (by omega), HB1.out.trans (HB.out.mono (by omega))⟩
end Go.Proofs.YtagahoaogfogkaaDoor
