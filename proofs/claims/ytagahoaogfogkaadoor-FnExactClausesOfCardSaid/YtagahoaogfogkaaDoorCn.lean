/- Contracts: ClausesOf: the specification's and the program's. -/
import Derived.Test.YtagahoaogfogkaaDoorCm
namespace Go.Proofs.YtagahoaogfogkaaDoor
open Go.RowKit
set_option maxRecDepth 100000
theorem take_next {β : Type} (L : List β) (j : Nat) (hj : j < L.length) : L.take (j + 1) = L.take j ++ [L[j]] := by
  rw [List.take_add_one, List.getElem?_eq_getElem hj]; rfl
attribute [local irreducible] p2 low memB risB
set_option maxHeartbeats 2000000 in
theorem implClausesOf_c (n : Int) (v : Value) (l : List Int) (w : World) (hl : ints w.heap.size w v l) (hlen : l.length < 1000000000) (hT : tab w) :
    Calls Tryd.prog 33 #[.agg #[.int .i64 n, v]] w fun e w' => ∃ v', e = .returned (.tuple #[v', .bool (okSp n l)]) ∧ own2 22 3 w' w.heap.size v' (clL n l) ∧ Below w.heap.size w w' := by
  have HL := hide ((hl.alloc (.cells #[.int .i64 n, v] 29)).mono (show w.heap.size ≤ (w.alloc (.cells #[.int .i64 n, v] 29)).heap.size by simp))
  have H0 := hide ((Below.refl w.heap.size w).alloc (Nat.le_refl _) (.cells #[.int .i64 n, v] 29))
  have HS0 := hide (hp_last w (.cells #[.int .i64 n, v] 29))
  have HZ := hide (show (w.alloc (.cells #[.int .i64 n, v] 29)).heap.size = w.heap.size + 1 by simp)
  clear hl
  have HT := hide hT
  clear hT
  cases hok : okSp n l
  · have HK := hide hok
    rw [clL_no hok]
    clear hok
    go_enter Tryd.func33, Tryd.ntmps33
    go_wp2_with (first
      | (go_at_call 47; refine (familyOf_c n v l _ HL.out hlen).mono ?_; rw [famVal_no n l HK.out]; rintro e w1 ⟨rfl, hb1⟩; have hz1 := hb1.size; rw [HZ.out] at hz1; have HB1 := hide (bl_row ((H0.out.trans (hb1.mono (by rw [HZ.out]; omega))).alloc (by omega) (.cells (fam 0 noSet) 55)) (show w.heap.size ≤ w1.heap.size by omega) (fam 0 noSet)); clear hb1)
      | (refine wpList_alloc_fam zeroT rfl rfl _ (by first | (simp only [World.size_alloc]; rfl) | rfl) ?_)
      | (refine wpList_store_fam sizeT rfl (.tmp _) (.tmp _) rfl _ _ _ rfl rfl _ _ (famAt.new _ _ _ _) ?_))
    go_ret2
    exact ⟨_, rfl, own2_nil _ _ _ _, HB1.out⟩
  · have HK := hide hok
    rw [clL_yes hok]
    have HCL := hide (fun (w1 : World) (h1 : tab w1) => clauses_c n l w1 hok h1)
    have HTW := hide (clTo_two l n.toNat)
    have hcl := clTo_len l n.toNat
    have h2 := okSp_len hok
    have h4 := okSp_n hok
    have h3 : n.toNat * l.length ≤ 7 * 128 := Nat.mul_le_mul (by omega) h2
    have hll : (clTo l n.toNat).length < 1000 := by omega
    clear hok h2 h3 h4 hcl
    generalize clTo l n.toNat = L at HCL HTW hll
    go_enter Tryd.func33, Tryd.ntmps33
    go_wp2_with (first
      | (go_at_call 47; refine (familyOf_c n v l _ HL.out hlen).mono ?_; rw [famVal_yes n l HK.out]; rintro e w1 ⟨rfl, hb1⟩; have hz1 := hb1.size; rw [HZ.out] at hz1; have HH := hide ((famAt.new 55 w1 0 noSet).row n (marksTo l l.length)); have HB1 := hide (bl_row ((H0.out.trans (hb1.mono (by rw [HZ.out]; omega))).alloc (by omega) (.cells (fam 0 noSet) 55)) (show w.heap.size ≤ w1.heap.size by omega) (fam n (marksTo l l.length))); clear hb1)
      | (refine wpList_alloc_fam zeroT rfl rfl _ (by first | (simp only [World.size_alloc]; rfl) | rfl) ?_)
      | (refine wpList_store_fam sizeT rfl (.tmp _) (.tmp _) rfl _ _ _ rfl rfl _ _ (famAt.new _ _ _ _) ?_)
      | (refine wpList_load_fam rowT sizeT rfl (.tmp _) rfl _ rfl n _ HH.out ?_)
      | (go_at_call 64; refine (HCL.out _ (HT.out.belowB HT.out HB1.out (Nat.le_refl _))).mono ?_; rintro e w2 ⟨v2, rfl, ho2, hb2⟩; have HC2 := hide ho2; have HB2 := hide (HB1.out.trans (hb2.mono (by simp [World.setRow]; omega))); have hz2 : w1.heap.size + 1 ≤ w2.heap.size := (by have := hb2.size; simpa [World.setRow] using this); obtain ⟨ca, cc, hcv⟩ := ho2.shape; subst hcv; clear ho2 hb2))
    go_loopw [6, 19] (fun o i wr => ∃ k : Nat, k ≤ L.length ∧ i = .int .i64 (k : Int) ∧ Hid (own2 22 3 wr w2.heap.size o (L.take k)) ∧ Hid (Below w2.heap.size w2 wr)) (fun _ i _ => L.length - (intOf i).toNat)
    case atStart => exact ⟨0, by omega, rfl, own2_nil _ _ _ _, Below.refl _ _⟩
    case round =>
      obtain ⟨j, hj, rfl, HO, HB⟩ := hrel
      have hsz := HB.out.size
      have HCW := hide (HC2.out.below HB.out (fun g hg => (HC2.out.lt g hg).2))
      by_cases hlt : j < L.length
      · obtain ⟨b, c, hbv, hcell⟩ := HCW.out.at j hlt
        have hmem := List.getElem_mem hlt
        obtain ⟨i, s, hr⟩ := HTW.out _ hmem
        have HN := hide (take_next L j hlt)
        rw [hr] at HN
        have hr2 : L[j]?.getD [] = [(i : Int), (s : Int)] := by rw [List.getElem?_eq_getElem hlt, Option.getD_some, hr]
        rw [hr2, clR_pair] at hcell
        have hml : (L.take j).length ≤ 1000 := by rw [List.length_take]; omega
        generalize L.take j = A at HO HN hml
        have HBV := hide hbv
        clear hr hr2 hmem hbv
        go_wp2_with (first
          | (refine wpList_atB sliceC infoC1 rfl (.tmp _) (.tmp _) rfl b L.length c (Eq.trans rfl HBV.out) _ rfl j rfl hlt ?_)
          | (go_at_call 65; refine (clauseList_c i s _).mono ?_; rintro e w5 ⟨v5, rfl, ho5, hb5⟩; obtain ⟨ra, rc, hrv⟩ := ho5.shape; subst hrv; have hz5 := hb5.size; have HR5 := hide ho5; have HB5 := hide hb5; clear ho5 hb5)
          | (at_builtin; refine wpList_append2 sliceT2 rowI2 (by decide) rfl (.tmp 23) (.tmp 26) rfl w2.heap.size _ A rfl wr HO.out (HB5.out.alloc (by omega) _) _ (.slice ra [(i : Int), (s : Int)].length rc) [(i : Int), (s : Int)] rfl (by simp [go_sem]) (HR5.out.alloc _) (by omega) (by omega) ?_; intro v6 w6 ho6 hb6 _ _; have HO6 := hide ho6; have HB6 := hide ((HB.out.trans ((HB5.out.alloc (by omega) _).mono hsz)).trans hb6); clear ho6 hb6))
        go_roundw
        case rel => exact ⟨j + 1, by omega, by go_num, hide (by rw [HN.out]; exact HO6.out), HB6⟩
        case measure => simp [intOf]; omega
      · have HJ := hide (show j = L.length by omega)
        have hlt' : ¬ ((j : Int) < (L.length : Int)) := by omega
        go_wp2
        go_ret2
        exact ⟨_, rfl, by have h := HO.out; rw [HJ.out, List.take_length] at h; exact h.mono (by omega), HB2.out.trans (HB.out.mono (by omega))⟩

set_option maxHeartbeats 4000000 in
theorem specClausesOf_c (n : Int) (v : Value) (l : List Int) (w : World) (hl : ints w.heap.size w v l) (hlen : l.length < 1000000000) (_ : tab w) :
    Calls Tryd.prog 32 #[.agg #[.int .i64 n, v]] w fun e w' => ∃ v', e = .returned (.tuple #[v', .bool (okSp n l)]) ∧ own2 22 3 w' w.heap.size v' (clL n l) ∧ Below w.heap.size w w' := by
  have HL := hide ((hl.alloc (.cells #[.int .i64 n, v] 29)).mono (show w.heap.size ≤ (w.alloc (.cells #[.int .i64 n, v] 29)).heap.size by simp))
  have H0 := hide ((Below.refl w.heap.size w).alloc (Nat.le_refl _) (.cells #[.int .i64 n, v] 29))
  have HS0 := hide (hp_last w (.cells #[.int .i64 n, v] 29))
  have HZ := hide (show (w.alloc (.cells #[.int .i64 n, v] 29)).heap.size = w.heap.size + 1 by simp)
  clear hl
  have hc0 := cells_at0 HS0.out
  have hc1 := cells_at1 HS0.out
  cases hok : okSp n l
  · have HG := hide (show goodB n l = false by rw [← ok_good]; exact hok)
    rw [clL_no hok]
    clear hok
    go_enter Tryd.func32, Tryd.ntmps32
    go_wp2_with (go_at_call 43; refine (spGood_c n v l _ HL.out hlen).mono ?_; rw [HG.out]; rintro e w1 ⟨rfl, hb1⟩; have HB1 := hide (H0.out.trans (hb1.mono (by rw [HZ.out]; omega))); clear hb1)
    go_ret2
    exact ⟨_, rfl, own2_nil _ _ _ _, HB1.out⟩
  · have HG := hide (show goodB n l = true by rw [← ok_good]; exact hok)
    have hn := okSp_n hok
    rw [clL_yes hok]
    have HR := hide (okSp_r128 hok)
    have HI := hide (okSp_inc hok)
    have hl128 := okSp_len hok
    have HAT := hide (paTo_nth (pathSp l) l (okSp_r128 hok))
    have hpl := paTo_len (pathSp l) l l.length
    have HCN := hide (fun k => show clTo l (k + 1) = clTo l k ++ (paTo (fun s => endSp l s == k) (paTo (pathSp l) l l.length) (paTo (pathSp l) l l.length).length).map (clF k) by rw [paTo_paTo]; exact clTo_next l k)
    obtain ⟨N, rfl⟩ := Int.eq_ofNat_of_zero_le (show 0 ≤ n by omega)
    rw [Int.toNat_natCast] at *
    clear hok
    generalize hP : paTo (pathSp l) l l.length = P at HAT hpl HCN
    have HP := hide hP
    clear hP
    go_enter Tryd.func32, Tryd.ntmps32
    go_wp2_with (go_at_call 43; refine (spGood_c (N : Int) v l _ HL.out hlen).mono ?_; rw [HG.out]; rintro e w1 ⟨rfl, hb1⟩; have HS1 := hide ((hb1.block w.heap.size (by rw [HZ.out]; omega)).trans HS0.out); have HL1 := hide ((HL.out.below hb1 (Nat.le_refl _)).mono hb1.size); have hz1 := hb1.size; rw [HZ.out] at hz1; have HB1 := hide (H0.out.trans (hb1.mono (by rw [HZ.out]; omega))); clear hb1)
    clear hc0 hc1
    go_loopw [4, 5] (fun o i wr => ∃ k : Nat, k ≤ N ∧ i = .int .i64 (k : Int) ∧ Hid (own2 22 3 wr w1.heap.size o (clTo l k)) ∧ Hid (Below w1.heap.size w1 wr)) (fun _ i _ => N - (intOf i).toNat)
    case atStart => exact ⟨0, by omega, rfl, own2_nil _ _ _ _, Below.refl _ _⟩
    case round =>
      obtain ⟨i, hi, rfl, HO, HB⟩ := hrel
      have hsz := HB.out.size
      have HLW := hide ((HL1.out.below HB.out (Nat.le_refl _)).mono HB.out.size)
      have HSW := hide ((HB.out.block w.heap.size (by omega)).trans HS1.out)
      have d0 := cells_at0 HSW.out
      have d1 := cells_at1 HSW.out
      have hcl := clTo_len l i
      by_cases hlt : i < N
      · have hlt2 : (i : Int) < (N : Int) := by omega
        have HN := hide (HCN.out i)
        have hcl2 : i * l.length ≤ 7 * 128 := Nat.mul_le_mul (by omega) hl128
        have hp := wrap_p2 i (by omega)
        have hp2 : IntKind.i64.wrap (2 ^ i) = (p2 i : Int) := by rw [IntWalk.i64_left]; exact hp
        generalize hA : clTo l i = A at HO HN hcl
        have hAl : A.length ≤ 7 * 128 := by omega
        clear hcl hcl2 hA
        go_wp2_with (first
          | (go_at_call 61; refine (paAll_c (N : Int) v l _ HLW.out HI.out (by omega) HR.out).mono ?_; rw [HP.out]; rintro e w4 ⟨v4, rfl, ho4, hb4⟩; have HI4 := hide ho4.ints; have HW4 := hide (show own 3 w4 wr.heap.size v4 P from ho4); have hz4 := hb4.size; have HB4 := hide (HB.out.trans (hb4.mono hsz)); have HO4 := hide (HO.out.kept hb4); have HLT := hide (fun g hg => (HO.out.lt g hg).2); clear ho4 hb4)
          | (refine wpList_len sliceT rfl (.tmp _) rfl _ rfl w4.heap.size P HI4.out ?_))
        clear d0 d1
        have hwr := hsz
        go_loopw [20, 4] (fun t o wq => ∃ k : Nat, k ≤ P.length ∧ t = .int .i64 (k : Int) ∧ Hid (own2 22 3 wq w1.heap.size o (A ++ (paTo (fun s => endSp l s == i) P k).map (clF i))) ∧ Hid (Below w1.heap.size w1 wq ∧ own 3 wq w1.heap.size v4 P ∧ w4.heap.size ≤ wq.heap.size ∧ ∀ g, v4.ownBlock = some g → o.ownBlock ≠ some g)) (fun t _ _ => P.length - (intOf t).toNat)
        case atStart => exact ⟨0, by omega, rfl, hide (by simpa [paTo] using HO4.out), hide ⟨HB4.out, HW4.out.mono hwr, Nat.le_refl _, fun g hg e => by have h1 := HLT.out g e; have h2 := HW4.out.base g hg; omega⟩⟩
        case round =>
          obtain ⟨j, hj, rfl, HOQ, HBQ⟩ := hrel
          have hszq := HBQ.out.1.size
          have HIQ := hide HBQ.out.2.1.ints
          have HWQ := hide HBQ.out.2.1
          have hszq4 := HBQ.out.2.2.1
          have HNE := hide HBQ.out.2.2.2
          have HLQ := hide ((HL1.out.below HBQ.out.1 (Nat.le_refl _)).mono HBQ.out.1.size)
          have HSQ := hide ((HBQ.out.1.block w.heap.size (by omega)).trans HS1.out)
          have e0 := cells_at0 HSQ.out
          have e1 := cells_at1 HSQ.out
          have hlen2 := paTo_len (fun s => endSp l s == i) P j
          by_cases hlj : j < P.length
          · have hx := HAT.out j hlj
            have HN2 := hide (paTo_map (fun s => endSp l s == i) P (clF i) j)
            have hmapl : ((paTo (fun s => endSp l s == i) P j).map (clF i)).length ≤ j := by rw [List.length_map]; exact hlen2
            generalize ((paTo (fun s => endSp l s == i) P j).map (clF i)) = B at HOQ HN2 hmapl
            have HCF := hide (show clF i (P[j]?.getD 0) = [(i : Int), ((andNot (nth P j) (p2 i) : Nat) : Int)] by rw [hx.1]; simp [clF])
            generalize nth P j = y at hx HN2 HCF
            obtain ⟨hx1, hx2, hx3⟩ := hx
            have HXX := hide hx1
            have HPP := hide hx3
            clear hx1 hx3 hlen2
            generalize hE : endSp l y = E at HN2
            have HE := hide hE
            clear hE
            have hal := i64_andNot y (p2 i) (by omega)
            generalize andNot y (p2 i) = s at hal HCF
            rw [HCF.out] at HN2
            cases hp3 : (E == i)
            · have HQ := hide hp3
              have hp4 : ((E : Int) == (i : Int)) = false := (show ((E : Int) == (i : Int)) = (E == i) by rw [Bool.eq_iff_iff]; simp; try omega).trans hp3
              clear hp3
              go_wp2_with (first
                | (refine wpList_at sliceT intS rfl (.tmp _) (.tmp _) rfl _ rfl j rfl wr.heap.size P HIQ.out hlj ?_; intro ad hcell hblk; rw [HXX.out] at hcell)
                | (go_at_call 56; refine (paEnd_c (N : Int) v l y _ HLQ.out HI.out hlen hx2 HPP.out).mono ?_; rw [HE.out]; rintro e w5 ⟨rfl, hb5⟩; have hz5 := hb5.size; have HB5 := hide (HBQ.out.1.trans (hb5.mono (by omega))); have HO5 := hide (HOQ.out.kept hb5); have HW5 := hide (HWQ.out.kept hb5); clear hb5))
              go_roundw
              case rel => exact ⟨j + 1, by omega, by go_num, hide (by rw [HN2.out, HQ.out]; exact HO5.out), hide ⟨HB5.out, HW5.out, by omega, HNE.out⟩⟩
              case measure => simp [intOf]; omega
            · have HQ := hide hp3
              have hp4 : ((E : Int) == (i : Int)) = true := (show ((E : Int) == (i : Int)) = (E == i) by rw [Bool.eq_iff_iff]; simp; try omega).trans hp3
              clear hp3
              go_wp2_with (first
                | (refine wpList_at sliceT intS rfl (.tmp _) (.tmp _) rfl _ rfl j rfl wr.heap.size P HIQ.out hlj ?_; intro ad hcell hblk; rw [HXX.out] at hcell)
                | (go_at_call 56; refine (paEnd_c (N : Int) v l y _ HLQ.out HI.out hlen hx2 HPP.out).mono ?_; rw [HE.out]; rintro e w5 ⟨rfl, hb5⟩; have hz5 := hb5.size; have HB5 := hide (HBQ.out.1.trans (hb5.mono (by omega))); have HO5 := hide (HOQ.out.kept hb5); have HW5 := hide (HWQ.out.kept hb5); clear hb5)
                | (at_builtin; refine wpList_append2 sliceT2 rowI2 (by decide) rfl (.tmp 29) (.tmp 36) rfl w1.heap.size _ (A ++ B) rfl w5 HO5.out (((Below.refl _ _).alloc (Nat.le_refl _) _).alloc (by simp) _) _ (.slice (some ⟨w5.heap.size, 0, none⟩) 2 2) [(i : Int), (s : Int)] rfl (by simp [go_sem]) ((own_pair 3 w5 i s).alloc _) (by omega) (by simp; omega) ?_; intro v6 w6 ho6 hb6 hoth6 hlie6; have HO6 := hide ho6; have HB6 := hide (((HB5.out.alloc (by omega) _).alloc (by simp; omega) _).trans hb6); have HW6 := hide (((HW5.out.alloc _).alloc _).other hoth6 fun g hg e => HNE.out g hg e); have hz6 := hoth6.size; have HL6 := hide hlie6; clear ho6 hb6 hoth6 hlie6))
              go_roundw
              case rel =>
                refine ⟨j + 1, by omega, by go_num, hide (by rw [HN2.out, HQ.out]; simp only [if_true]; rw [← List.append_assoc]; exact HO6.out), hide ⟨HB6.out, HW6.out, by simp at hz6; omega, fun g hg e => ?_⟩⟩
                have h1 := HWQ.out.blockLt g hg
                rcases HL6.out with h2 | h2
                · exact HNE.out g hg (h2.symm.trans e)
                · rw [h2] at e
                  simp at e
                  omega
              case measure => simp [intOf]; omega
          · have HJ := hide (show j = P.length by omega)
            have hlj' : ¬ ((j : Int) < (P.length : Int)) := by omega
            clear hlen2
            go_wp2
            go_roundw
            case rel => exact ⟨i + 1, by omega, by go_num, hide (by rw [HN.out, ← HJ.out]; exact HOQ.out), hide HBQ.out.1⟩
            case measure => simp [intOf]; omega
      · have HJ := hide (show i = N by omega)
        have hlt' : ¬ ((i : Int) < (N : Int)) := by omega
        clear hcl
        go_wp2
        go_ret2
        exact ⟨_, rfl, by have h := HO.out; rw [HJ.out] at h; exact h.mono (by omega), HB1.out.trans (HB.out.mono (by omega))⟩
end Go.Proofs.YtagahoaogfogkaaDoor
