/- Contracts: CoversOf: the specification's and the program's. -/
import Derived.Test.YtagahoaogfogkaaDoorCv
import Derived.Test.YtagahoaogfogkaaDoorPt
namespace Go.Proofs.YtagahoaogfogkaaDoor
open Go.RowKit
set_option maxRecDepth 100000
theorem cvTo_next (l : List Int) (k : Nat) : cvTo l (k + 1) = cvTo l k ++ (paTo (cov (nth l k)) l l.length).map fun b => [(nth l k : Int), b] := rfl
theorem paTo_map (P : Nat → Bool) (l : List Int) (f : Int → List Int) (j : Nat) : (paTo P l (j + 1)).map f = if P (nth l j) = true then (paTo P l j).map f ++ [f (l[j]?.getD 0)] else (paTo P l j).map f := by
  rw [paTo]
  split <;> simp
attribute [local irreducible] p2 low memB risB
set_option maxHeartbeats 2000000 in
theorem specCoversOf_c (n : Int) (v : Value) (l : List Int) (w : World) (hl : ints w.heap.size w v l) (hlen : l.length < 1000000000) (_ : tab w) :
    Calls Tryd.prog 36 #[.agg #[.int .i64 n, v]] w fun e w' => ∃ v', e = .returned (.tuple #[v', .bool (okSp n l)]) ∧ own2 22 3 w' w.heap.size v' (cvL n l) ∧ Below w.heap.size w w' := by
  have HL := hide ((hl.alloc (.cells #[.int .i64 n, v] 29)).mono (show w.heap.size ≤ (w.alloc (.cells #[.int .i64 n, v] 29)).heap.size by simp))
  have H0 := hide ((Below.refl w.heap.size w).alloc (Nat.le_refl _) (.cells #[.int .i64 n, v] 29))
  have HS0 := hide (hp_last w (.cells #[.int .i64 n, v] 29))
  have HZ := hide (show (w.alloc (.cells #[.int .i64 n, v] 29)).heap.size = w.heap.size + 1 by simp)
  have hc0 := cells_at0 HS0.out
  have hc1 := cells_at1 HS0.out
  clear hl
  cases hok : okSp n l
  · have HG := hide (show goodB n l = false by rw [← ok_good]; exact hok)
    rw [cvL_no hok]
    clear hok
    go_enter Tryd.func36, Tryd.ntmps36
    go_wp2_with (go_at_call 43; refine (spGood_c n v l _ HL.out hlen).mono ?_; rw [HG.out]; rintro e w1 ⟨rfl, hb1⟩; have HB1 := hide (H0.out.trans (hb1.mono (by rw [HZ.out]; omega))); clear hb1)
    go_ret2
    exact ⟨_, rfl, own2_nil _ _ _ _, HB1.out⟩
  · have HG := hide (show goodB n l = true by rw [← ok_good]; exact hok)
    rw [cvL_yes hok]
    have HR := hide (okSp_r128 hok)
    have hl128 := okSp_len hok
    clear hok
    go_enter Tryd.func36, Tryd.ntmps36
    go_wp2_with (first
      | (go_at_call 43; refine (spGood_c n v l _ HL.out hlen).mono ?_; rw [HG.out]; rintro e w1 ⟨rfl, hb1⟩; have HS1 := hide ((hb1.block w.heap.size (by rw [HZ.out]; omega)).trans HS0.out); have c0 := cells_at0 HS1.out; have c1 := cells_at1 HS1.out; have HL1 := hide ((HL.out.below hb1 (Nat.le_refl _)).mono hb1.size); have hz1 := hb1.size; rw [HZ.out] at hz1; have HB1 := hide (H0.out.trans (hb1.mono (by rw [HZ.out]; omega))); clear hb1)
      | (refine wpList_len sliceT rfl (.tmp 13) rfl v rfl w1.heap.size l HL1.out ?_))
    clear hc0 hc1 c0 c1
    have HC : Hid (∀ (x : Nat) (w1 : World), x < 128 → Calls Tryd.prog 68 #[.int .i64 (x : Int)] w1 fun e w' => e = .returned (.int .i64 (pc x : Int)) ∧ w1 = w') := hide fun x w1 hx => by
      have := spCount_c (x : Int) w1 (by omega) (by omega)
      rw [Int.toNat_natCast] at this
      exact this
    go_loopw [4, 15] (fun o i wr => ∃ k : Nat, k ≤ l.length ∧ i = .int .i64 (k : Int) ∧ Hid (own2 22 3 wr w1.heap.size o (cvTo l k)) ∧ Hid (Below w1.heap.size w1 wr)) (fun _ i _ => l.length - (intOf i).toNat)
    case atStart => exact ⟨0, by omega, rfl, own2_nil _ _ _ _, Below.refl _ _⟩
    case round =>
      obtain ⟨i, hi, rfl, HO, HB⟩ := hrel
      have hsz := HB.out.size
      have HLW := hide ((HL1.out.below HB.out (Nat.le_refl _)).mono HB.out.size)
      have HSW := hide ((HB.out.block w.heap.size (by omega)).trans HS1.out)
      have d0 := cells_at0 HSW.out
      have d1 := cells_at1 HSW.out
      have hcl := cvTo_len l i
      by_cases hlt : i < l.length
      · have hx := HR.out i hlt
        have hnx : l[i]?.getD 0 = (nth l i : Int) := by unfold nth; omega
        have hx128 : nth l i < 128 := by unfold nth; omega
        have HN := hide (cvTo_next l i)
        have hcl2 : i * l.length ≤ 128 * 128 := Nat.mul_le_mul (by omega) hl128
        have hpcA := pc_le (nth l i)
        generalize hA : cvTo l i = A at HO HN hcl
        generalize hX : nth l i = a at HN hnx hx128 hpcA
        have HXX := hide hnx
        have HX := hide hX
        clear hnx hX hA hx
        have hAl : A.length ≤ 128 * 128 := by omega
        clear hcl hcl2
        go_wp2_with (first
          | (refine wpList_at sliceT intS rfl (.tmp 13) (.tmp _) rfl v rfl i rfl wr.heap.size l HLW.out hlt ?_; intro ad hcell hblk; rw [HXX.out] at hcell)
          | (refine wpList_len sliceT rfl (.tmp 20) rfl v rfl wr.heap.size l HLW.out ?_))
        clear d0 d1
        have hwr := hsz
        go_loopw [22, 4] (fun t o wq => ∃ k : Nat, k ≤ l.length ∧ t = .int .i64 (k : Int) ∧ Hid (own2 22 3 wq w1.heap.size o (A ++ (paTo (cov a) l k).map fun b => [(a : Int), b])) ∧ Hid (Below w1.heap.size w1 wq)) (fun t _ _ => l.length - (intOf t).toNat)
        case atStart => exact ⟨0, by omega, rfl, hide (by simpa [paTo] using HO.out), HB⟩
        case round =>
          obtain ⟨j, hj, rfl, HOQ, HBQ⟩ := hrel
          have hszq := HBQ.out.size
          have HLQ := hide ((HL1.out.below HBQ.out (Nat.le_refl _)).mono HBQ.out.size)
          have hlen2 := paTo_len (cov a) l j
          by_cases hlj : j < l.length
          · have hy := HR.out j hlj
            have hny : l[j]?.getD 0 = (nth l j : Int) := by unfold nth; omega
            have hy128 : nth l j < 128 := by unfold nth; omega
            have HN2 := hide (paTo_map (cov a) l (fun b => [(a : Int), b]) j)
            have hmapl : ((paTo (cov a) l j).map fun b => [(a : Int), b]).length ≤ j := by rw [List.length_map]; exact hlen2
            generalize ((paTo (cov a) l j).map fun b => [(a : Int), b]) = B at HOQ HN2 hmapl
            have hcov : cov a (nth l j) = ((andNot a (nth l j) == 0) && (pc (nth l j) == pc a + 1)) := rfl
            have hand := i64_andNot a (nth l j) (by omega)
            have hpcB := pc_le (nth l j)
            generalize hY : nth l j = b at HN2 hny hy128 hcov hand hpcB
            have HY := hide hny
            clear hny hY hy hlen2
            generalize hcb : pc b = cb at hcov hpcB
            generalize hca : pc a = ca at hcov hpcA
            have HPA := hide hca
            have HPB := hide hcb
            clear hca hcb
            generalize andNot a b = ab at hcov hand
            by_cases h1 : ab = 0
            · subst h1
              by_cases h2 : cb = ca + 1
              · have HCV := hide (show cov a b = true by rw [hcov]; simp [h2])
                have h3 : (cb : Int) = (ca : Int) + 1 := by omega
                have h4 : ((cb : Int) == (ca : Int) + 1) = true := by simp [h3]
                have H2 := hide h2
                clear hcov h2
                go_wp2_with (first
                  | (refine wpList_at sliceT intS rfl (.tmp 20) (.tmp _) rfl v rfl j rfl wr.heap.size l HLQ.out hlj ?_; intro ad hcell hblk; rw [HY.out] at hcell)
                  | (go_at_call 68; refine (HC.out _ _ (by omega)).mono ?_; (first | rw [HPA.out] | rw [HPB.out]); rintro e w3 ⟨rfl, rfl⟩)
                  | (at_builtin; refine wpList_append2 sliceT2 rowI2 (by decide) rfl (.tmp 38) (.tmp 42) rfl w1.heap.size _ (A ++ B) rfl wr HOQ.out (((Below.refl _ _).alloc (Nat.le_refl _) _).alloc (by simp) _) _ (.slice (some ⟨wr.heap.size, 0, none⟩) 2 2) [(a : Int), (b : Int)] rfl (by simp [go_sem]) ((own_pair 3 wr a b).alloc _) (by omega) (by simp; omega) ?_; intro v4 w4 ho4 hb4 _ _; have HO4 := hide ho4; have HB4 := hide (((HBQ.out.alloc (by omega) _).alloc (by simp; omega) _).trans hb4); clear ho4 hb4))
                go_roundw
                case rel => exact ⟨j + 1, by omega, by go_num, hide (by rw [HN2.out, HCV.out, HY.out, if_pos rfl, ← List.append_assoc]; exact HO4.out), HB4⟩
                case measure => simp [intOf]; omega
              · have HCV := hide (show cov a b = false by rw [hcov]; simp [h2])
                have h4 : ((cb : Int) == (ca : Int) + 1) = false := by rw [beq_eq_false_iff_ne]; omega
                clear hcov h2
                go_wp2_with (first
                  | (refine wpList_at sliceT intS rfl (.tmp 20) (.tmp _) rfl v rfl j rfl wr.heap.size l HLQ.out hlj ?_; intro ad hcell hblk; rw [HY.out] at hcell)
                  | (go_at_call 68; refine (HC.out _ _ (by omega)).mono ?_; (first | rw [HPA.out] | rw [HPB.out]); rintro e w3 ⟨rfl, rfl⟩))
                go_roundw
                case rel => exact ⟨j + 1, by omega, by go_num, hide (by rw [HN2.out, HCV.out]; exact HOQ.out), HBQ⟩
                case measure => simp [intOf]; omega
            · have HCV := hide (show cov a b = false by rw [hcov]; simp [h1])
              have h4 : ((ab : Int) == 0) = false := by rw [beq_eq_false_iff_ne]; omega
              clear hcov h1
              go_wp2_with (first
                | (refine wpList_at sliceT intS rfl (.tmp 20) (.tmp _) rfl v rfl j rfl wr.heap.size l HLQ.out hlj ?_; intro ad hcell hblk; rw [HY.out] at hcell))
              go_roundw
              case rel => exact ⟨j + 1, by omega, by go_num, hide (by rw [HN2.out, HCV.out]; exact HOQ.out), HBQ⟩
              case measure => simp [intOf]; omega
          · have HJ := hide (show j = l.length by omega)
            have hlj' : ¬ ((j : Int) < (l.length : Int)) := by omega
            clear hlen2
            go_wp2
            go_roundw
            case rel => exact ⟨i + 1, by omega, by go_num, hide (by rw [HN.out, ← HJ.out]; exact HOQ.out), HBQ⟩
            case measure => simp [intOf]; omega
      · have HJ := hide (show i = l.length by omega)
        have hlt' : ¬ ((i : Int) < (l.length : Int)) := by omega
        clear hcl
        go_wp2
        go_ret2
        exact ⟨_, rfl, by rw [← HJ.out]; exact HO.out.mono (by omega), HB1.out.trans (HB.out.mono (by omega))⟩
theorem items_at (x : Nat) (j : Nat) (hj : j < (itemsL x).length) : ∃ t : Nat, t < 7 ∧ (itemsL x)[j]?.getD 0 = (t : Int) := by
  unfold itemsL at hj ⊢
  rw [List.length_map] at hj
  rw [List.getElem?_map, List.getElem?_eq_getElem hj]
  refine ⟨(itemsN x)[j], ?_, rfl⟩
  have := List.getElem_mem hj
  unfold itemsN at this
  rw [List.mem_filter, List.mem_range] at this
  exact this.1
theorem cvTo_impl {n : Int} {l : List Int} (h : okSp n l = true) (k : Nat) (hk : nth l k < 128) :
    cvTo l (k + 1) = cvTo l k ++ (itemsL (outerOf (marksTo l l.length) n.toNat (nth l k))).map fun i => [(nth l k : Int), ((nth l k ||| p2 i.toNat : Nat) : Int)] := by
  rw [cvTo_next, ← cov_same h (nth l k) hk, List.map_map]
  rfl
set_option maxHeartbeats 2000000 in
theorem implCoversOf_c (n : Int) (v : Value) (l : List Int) (w : World) (hl : ints w.heap.size w v l) (hlen : l.length < 1000000000) (hT : tab w) :
    Calls Tryd.prog 37 #[.agg #[.int .i64 n, v]] w fun e w' => ∃ v', e = .returned (.tuple #[v', .bool (okSp n l)]) ∧ own2 22 3 w' w.heap.size v' (cvL n l) ∧ Below w.heap.size w w' := by
  have HL := hide ((hl.alloc (.cells #[.int .i64 n, v] 29)).mono (show w.heap.size ≤ (w.alloc (.cells #[.int .i64 n, v] 29)).heap.size by simp))
  have H0 := hide ((Below.refl w.heap.size w).alloc (Nat.le_refl _) (.cells #[.int .i64 n, v] 29))
  have HS0 := hide (hp_last w (.cells #[.int .i64 n, v] 29))
  have HZ := hide (show (w.alloc (.cells #[.int .i64 n, v] 29)).heap.size = w.heap.size + 1 by simp)
  have hc0 := cells_at0 HS0.out
  have hc1 := cells_at1 HS0.out
  clear hl
  have HT := hide hT
  clear hT hc0 hc1
  cases hok : okSp n l
  · have HK := hide hok
    rw [cvL_no hok]
    clear hok
    go_enter Tryd.func37, Tryd.ntmps37
    go_wp2_with (first
      | (go_at_call 47; refine (familyOf_c n v l _ HL.out hlen).mono ?_; rw [famVal_no n l HK.out]; rintro e w1 ⟨rfl, hb1⟩; have hz1 := hb1.size; rw [HZ.out] at hz1; have HB1 := hide (bl_row ((H0.out.trans (hb1.mono (by rw [HZ.out]; omega))).alloc (by omega) (.cells (fam 0 noSet) 55)) (show w.heap.size ≤ w1.heap.size by omega) (fam 0 noSet)); clear hb1)
      | (refine wpList_alloc_fam zeroT rfl rfl _ (by first | (simp only [World.size_alloc]; rfl) | rfl) ?_)
      | (refine wpList_store_fam sizeT rfl (.tmp _) (.tmp _) rfl _ _ _ rfl rfl _ _ (famAt.new _ _ _ _) ?_))
    go_ret2
    exact ⟨_, rfl, own2_nil _ _ _ _, HB1.out⟩
  · have HK := hide hok
    have hn := okSp_n hok
    rw [cvL_yes hok]
    have HR := hide (okSp_r128 hok)
    have hl128 := okSp_len hok
    have HLI := hide (okSp_list hok)
    have HCV := hide (fun k hk => cvTo_impl hok k hk)
    clear hok
    go_enter Tryd.func37, Tryd.ntmps37
    go_wp2_with (first
      | (go_at_call 47; refine (familyOf_c n v l _ HL.out hlen).mono ?_; rw [famVal_yes n l HK.out]; rintro e w1 ⟨rfl, hb1⟩; have hz1 := hb1.size; rw [HZ.out] at hz1; have HH := hide ((famAt.new 55 w1 0 noSet).row n (marksTo l l.length)); have HB1 := hide (bl_row ((H0.out.trans (hb1.mono (by rw [HZ.out]; omega))).alloc (by omega) (.cells (fam 0 noSet) 55)) (show w.heap.size ≤ w1.heap.size by omega) (fam n (marksTo l l.length))); clear hb1)
      | (refine wpList_alloc_fam zeroT rfl rfl _ (by first | (simp only [World.size_alloc]; rfl) | rfl) ?_)
      | (refine wpList_store_fam sizeT rfl (.tmp _) (.tmp _) rfl _ _ _ rfl rfl _ _ (famAt.new _ _ _ _) ?_)
      | (refine wpList_load_fam rowT sizeT rfl (.tmp _) rfl _ rfl n _ HH.out ?_)
      | (go_at_call 69; refine (sets_c n (marksTo l l.length) _).mono ?_; rw [← HLI.out]; rintro e w2 ⟨v2, rfl, ho2, hb2⟩; have HI2 := hide ho2.ints; have hz2 : w1.heap.size + 1 ≤ w2.heap.size := (by have := hb2.size; simpa [World.setRow] using this); have HH2 := hide (HH.out.below hb2 HH.out.lt); have HB2 := hide (HB1.out.trans (hb2.mono (by simp [World.setRow]; omega))); clear ho2 hb2)
      | (refine wpList_len sliceT rfl (.tmp _) rfl _ rfl w2.heap.size l HI2.out ?_))
    go_loopw [6, 21] (fun o i wr => ∃ k : Nat, k ≤ l.length ∧ i = .int .i64 (k : Int) ∧ Hid (own2 22 3 wr w2.heap.size o (cvTo l k)) ∧ Hid (Below w2.heap.size w2 wr)) (fun _ i _ => l.length - (intOf i).toNat)
    case atStart => exact ⟨0, by omega, rfl, own2_nil _ _ _ _, Below.refl _ _⟩
    case round =>
      obtain ⟨i, hi, rfl, HO, HB⟩ := hrel
      have hsz := HB.out.size
      have HIW := hide ((HI2.out.below HB.out (Nat.le_refl _)).mono HB.out.size)
      have HFW := hide (HH2.out.below HB.out HH2.out.lt)
      have hcl := cvTo_len l i
      by_cases hlt : i < l.length
      · have hx := HR.out i hlt
        have hnx : l[i]?.getD 0 = (nth l i : Int) := by unfold nth; omega
        have hx128 : nth l i < 128 := by unfold nth; omega
        have HN := hide (HCV.out i hx128)
        have hcl2 : i * l.length ≤ 128 * 128 := Nat.mul_le_mul (by omega) hl128
        have HOU : Hid (∀ (w1 : World), Calls Tryd.prog 70 #[.agg (fam n (marksTo l l.length)), .int .i64 (nth l i : Int)] w1 fun e w' => e = .returned (.int .i64 (outerOf (marksTo l l.length) n.toNat (nth l i) : Int)) ∧ Below w1.heap.size w1 w') := hide fun w1 => by
          have := outerFringe_c n (marksTo l l.length) (nth l i : Int) w1 (by omega) (by omega) (by omega) (by omega)
          rw [Int.toNat_natCast] at this
          exact this
        have ho128 := outer_ltC (marksTo l l.length) n.toNat (nth l i) (by omega)
        generalize hA : cvTo l i = A at HO HN hcl
        generalize outerOf (marksTo l l.length) n.toNat (nth l i) = O at HN HOU ho128
        generalize hX : nth l i = a at HN hnx hx128 HOU
        have HIT := hide (fun (w1 : World) (h1 : tab w1) => items_c O w1 ho128 h1)
        have HAT := hide (items_at O)
        have hit : (itemsL O).length ≤ 7 := by unfold itemsL; rw [List.length_map]; exact items_len O ho128
        generalize itemsL O = it at HN HIT HAT hit
        have HXX := hide hnx
        clear hnx hX hA hx
        have hAl : A.length ≤ 128 * 128 := by omega
        clear hcl hcl2
        go_wp2_with (first
          | (refine wpList_at sliceT intS rfl (.tmp 19) (.tmp _) rfl _ rfl i rfl wr.heap.size l HIW.out hlt ?_; intro ad hcell hblk; rw [HXX.out] at hcell)
          | (refine wpList_load_fam rowT sizeT rfl (.tmp _) rfl _ rfl n _ HFW.out ?_)
          | (go_at_call 70; refine (HOU.out _).mono ?_; rintro e w3 ⟨rfl, hb3⟩; have hz3 := hb3.size; have HB3 := hide (HB.out.trans (hb3.mono hsz)); have HO3 := hide (HO.out.kept hb3); clear hb3)
          | (go_at_call 71; refine (HIT.out _ (HT.out.belowB HT.out (HB2.out.trans (HB3.out.mono (by omega))) (Nat.le_refl _))).mono ?_; rintro e w4 ⟨v4, rfl, ho4, hb4⟩; have HI4 := hide ho4.ints; have HW4 := hide ho4; have hz4 := hb4.size; have HB4 := hide (HB3.out.trans (hb4.mono (by omega))); have HO4 := hide (HO3.out.kept hb4); have HLT := hide (fun g hg => (HO3.out.lt g hg).2); clear ho4 hb4)
          | (refine wpList_len sliceT rfl (.tmp 28) rfl _ rfl w4.heap.size it HI4.out ?_))
        go_loopw [30, 6] (fun t o wq => ∃ k : Nat, k ≤ it.length ∧ t = .int .i64 (k : Int) ∧ Hid (own2 22 3 wq w2.heap.size o (A ++ (it.take k).map fun i => [(a : Int), ((a ||| p2 i.toNat : Nat) : Int)])) ∧ Hid (Below w2.heap.size w2 wq ∧ own 3 wq w3.heap.size v4 it ∧ w4.heap.size ≤ wq.heap.size ∧ ∀ g, v4.ownBlock = some g → o.ownBlock ≠ some g)) (fun t _ _ => it.length - (intOf t).toNat)
        case atStart => exact ⟨0, by omega, rfl, hide (by simpa using HO4.out), hide ⟨HB4.out, HW4.out, Nat.le_refl _, fun g hg e => by have h1 := HLT.out g e; have h2 := HW4.out.base g hg; omega⟩⟩
        case round =>
          obtain ⟨j, hj, rfl, HOQ, HBQ⟩ := hrel
          have hszq := HBQ.out.1.size
          have HIQ := hide HBQ.out.2.1.ints
          have HWQ := hide HBQ.out.2.1
          have hszq4 := HBQ.out.2.2.1
          have HNE := hide HBQ.out.2.2.2
          by_cases hlj : j < it.length
          · obtain ⟨t, ht7, hti⟩ := HAT.out j hlj
            have HN2 := hide (take_map_next (fun i => [(a : Int), ((a ||| p2 i.toNat : Nat) : Int)]) it j hlj)
            have hmapl : ((it.take j).map fun i => [(a : Int), ((a ||| p2 i.toNat : Nat) : Int)]).length ≤ j := by rw [List.length_map, List.length_take]; omega
            rw [hti] at HN2
            simp only [Int.toNat_natCast] at HN2
            generalize ((it.take j).map fun i => [(a : Int), ((a ||| p2 i.toNat : Nat) : Int)]) = B at HOQ HN2 hmapl
            have HTI := hide hti
            have HW : Hid (∀ (w1 : World), Calls Tryd.prog 72 #[.int .i64 (a : Int), .int .i64 (t : Int)] w1 fun e w' => e = .returned (.int .i64 ((a ||| p2 t : Nat) : Int)) ∧ w1 = w') := hide fun w1 => by
              have := with_c (a : Int) (t : Int) w1 (by omega) (by omega) (by omega) (by omega)
              rw [Int.toNat_natCast, Int.toNat_natCast] at this
              exact this
            clear hti
            generalize a ||| p2 t = b at HN2 HW
            go_wp2_with (first
              | (refine wpList_at sliceT intS rfl (.tmp 28) (.tmp _) rfl _ rfl j rfl wr.heap.size it HIQ.out hlj ?_; intro ad hcell hblk; rw [HTI.out] at hcell)
              | (go_at_call 72; refine (HW.out _).mono ?_; rintro e w5 ⟨rfl, rfl⟩)
              | (at_builtin; refine wpList_append2 sliceT2 rowI2 (by decide) rfl (.tmp 34) (.tmp 40) rfl w2.heap.size _ (A ++ B) rfl wr HOQ.out (((Below.refl _ _).alloc (Nat.le_refl _) _).alloc (by simp) _) _ (.slice (some ⟨wr.heap.size, 0, none⟩) 2 2) [(a : Int), (b : Int)] rfl (by simp [go_sem]) ((own_pair 3 wr a b).alloc _) (by omega) (by simp; omega) ?_; intro v6 w6 ho6 hb6 hoth6 hlie6; have HO6 := hide ho6; have HB6 := hide (((HBQ.out.1.alloc (by omega) _).alloc (by simp; omega) _).trans hb6); have HW6 := hide (((HWQ.out.alloc _).alloc _).other hoth6 fun g hg e => HNE.out g hg e); have hz6 := hoth6.size; have HL6 := hide hlie6; clear ho6 hb6 hoth6 hlie6))
            go_roundw
            case rel =>
              refine ⟨j + 1, by omega, by go_num, hide (by rw [HN2.out, ← List.append_assoc]; exact HO6.out), hide ⟨HB6.out, HW6.out, by simp at hz6; omega, fun g hg e => ?_⟩⟩
              have h1 := HWQ.out.blockLt g hg
              rcases HL6.out with h2 | h2
              · exact HNE.out g hg (h2.symm.trans e)
              · rw [h2] at e
                simp at e
                omega
            case measure => simp [intOf]; omega
          · have HJ := hide (show j = it.length by omega)
            have hlj' : ¬ ((j : Int) < (it.length : Int)) := by omega
            go_wp2
            go_roundw
            case rel => exact ⟨i + 1, by omega, by go_num, hide (by rw [HN.out]; have := HOQ.out; rw [HJ.out, List.take_length] at this; exact this), hide HBQ.out.1⟩
            case measure => simp [intOf]; omega
      · have HJ := hide (show i = l.length by omega)
        have hlt' : ¬ ((i : Int) < (l.length : Int)) := by omega
        clear hcl
        go_wp2
        go_ret2
        exact ⟨_, rfl, by rw [← HJ.out]; exact HO.out.mono (by omega), HB2.out.trans (HB.out.mono (by omega))⟩
end Go.Proofs.YtagahoaogfogkaaDoor
