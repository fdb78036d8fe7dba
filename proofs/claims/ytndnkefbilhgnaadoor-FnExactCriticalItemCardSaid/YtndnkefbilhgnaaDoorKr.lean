/- Contracts: CriticalItem, both. -/
import Derived.Test.YtndnkefbilhgnaaDoorKq
namespace Go.Proofs.YtndnkefbilhgnaaDoor
open Go.RowKit
set_option maxRecDepth 100000
set_option linter.unusedSimpArgs false
attribute [local irreducible] p2 low memB risB grW outerOf
set_option maxHeartbeats 2000000 in
theorem implCriticalItem_c (n : Int) (v : Value) (l : List Int) (u : Value) (T : List Tsk) (w : World) (hl : ints w.heap.size w v l) (hlen : l.length < 1000000000) (ht : tks w.heap.size w u T) (hs : T.length < 1000000000) (hT : tab w) :
    Calls Tryd.prog 39 #[.agg #[.int .i64 n, v], u] w fun e w' => e = .returned (.tuple #[.int .i64 (ciI n l T), .int .i64 (ciS n l T), .bool (gvB n l T)]) ∧ Below w.heap.size w w' := by
  have HL := hide ((hl.alloc (.cells #[.int .i64 n, v] 30)).mono (show w.heap.size ≤ (w.alloc (.cells #[.int .i64 n, v] 30)).heap.size by simp))
  have HTK := hide ((ht.alloc (.cells #[.int .i64 n, v] 30)).mono (show w.heap.size ≤ (w.alloc (.cells #[.int .i64 n, v] 30)).heap.size by simp))
  have HT := hide hT
  have HTA := hide (hT.alloc (.cells #[.int .i64 n, v] 30))
  have H0 := hide ((Below.refl w.heap.size w).alloc (Nat.le_refl _) (.cells #[.int .i64 n, v] 30))
  have HZ := hide (show (w.alloc (.cells #[.int .i64 n, v] 30)).heap.size = w.heap.size + 1 by simp)
  clear hl ht hT
  cases hg : gvB n l T
  case false =>
    have HR := hide (ci_no hg)
    have HFC := hide (familyAndCosts_no n v l u T _ HL.out hlen HTK.out hs hg)
    clear hg
    go_enter Tryd.func39, Tryd.ntmps39
    go_wp2_with (first
      | (go_at_call 69; refine HFC.out.mono ?_; rintro e w1 ⟨rfl, hb⟩; have hz := hb.size; rw [HZ.out] at hz; have HB := hide (bl_row ((H0.out.trans (hb.mono (by rw [HZ.out]; omega))).alloc (by omega) (.cells (fam 0 noSet) 73)) (show w.heap.size ≤ w1.heap.size by omega) (fam 0 noSet)); clear hb)
      | (refine wpList_alloc_fam zeroT rfl rfl _ (by first | (simp only [World.size_alloc]; rfl) | rfl) ?_)
      | (refine wpList_store_fam sizeT rfl (.tmp _) (.tmp _) rfl _ _ _ rfl rfl _ _ (famAt.new _ _ _ _) ?_)
    )
    go_ret3
    exact ⟨by rw [HR.out.1, HR.out.2]; rfl, HB.out⟩
  case true =>
    have HLN := hide (gwL_len n l T)
    obtain ⟨j, hj, hjat, hjno, hjI, hjS⟩ := ci_yes hg
    have HJ := hide hj
    have HJA := hide hjat
    have HJN := hide hjno
    have HCI := hide (And.intro hjI hjS)
    clear hj hjat hjno hjI hjS
    obtain ⟨hsp, hta⟩ := gv_in hg
    obtain ⟨hn1, hn7⟩ := okSp_n hsp
    have HYES := hide (gw_yes hg)
    have HWO := hide (gw_wOk hg)
    obtain ⟨N, rfl⟩ := Int.eq_ofNat_of_zero_le (show 0 ≤ n by omega)
    have HFC := hide (familyAndCosts_yes (N : Int) v l u T _ HL.out hlen HTK.out hs HTA.out hg)
    rw [Int.toNat_natCast] at HFC
    have HSP := hide (okSp_spc hsp)
    have HCA := hide (co_all hta)
    have HMX := hide (fun m h1 h2 => mx_start (T := T) (n := (N : Int)) (m := m) hta h1 h2)
    have HNT := hide (show T.length = N by have := (taB_is hta).2.1; omega)
    rw [Int.toNat_natCast] at HYES HWO HSP HCA
    clear hg hsp hta
    generalize marksTo l l.length = F at HFC HYES HSP
    have HR := hide (HMX.out (gwL (N : Int) l T) (by rw [HNT.out]; exact HWO.out.2) (by rw [HNT.out]; exact HWO.out.1))
    have HY1 := hide HYES.out.1
    have HY2 := hide HYES.out.2
    have HWK := hide HWO.out.2
    clear HYES HWO HMX
    generalize gwL (N : Int) l T = G at *
    generalize bcR (N : Int) l T = B at *
    generalize ciI (N : Int) l T = CI at *
    generalize ciS (N : Int) l T = CS at *
    go_enter Tryd.func39, Tryd.ntmps39
    go_wp2_with (first
      | (go_at_call 69; refine HFC.out.mono ?_; rintro e w1 ⟨caps, rfl, hic, hb⟩; have hz := hb.size; rw [HZ.out] at hz; have hb2 := (Below.refl w1.heap.size w1).alloc (Nat.le_refl _) (.cells (fam 0 noSet) 73); have hb3 := bl_row hb2 (Nat.le_refl _) (fam (N : Int) F); have HIC := hide (hic.below hb3); have HH1 := hide ((famAt.new 73 w1 0 noSet).row (N : Int) F); have HB := hide (bl_row ((H0.out.trans (hb.mono (by rw [HZ.out]; omega))).alloc (by omega) (.cells (fam 0 noSet) 73)) (show w.heap.size ≤ w1.heap.size by omega) (fam (N : Int) F)); clear hb hb2 hb3 hic)
      | (refine wpList_alloc_fam zeroT rfl rfl _ (by first | (simp only [World.size_alloc]; rfl) | rfl) ?_)
      | (refine wpList_store_fam sizeT rfl (.tmp _) (.tmp _) rfl _ _ _ rfl rfl _ _ (famAt.new _ _ _ _) ?_)
      | (refine wpList_load_fam rowT sizeT rfl (.tmp _) rfl _ rfl _ _ HH1.out ?_)
      | (go_at_call 73; refine (greedyWord_c 106 caps (coT T) N F _ (by omega) HSP.out ent_costs1 HIC.out HCA.out (HT.out.below HB.out)).mono ?_; rintro e w3 ⟨v3, rfl, ho3, hb3⟩; obtain ⟨ga, gc, hgv⟩ := ho3.shape; subst hgv; have HO3 := hide ho3; have HIC3 := hide (HIC.out.below hb3); have HB3 := hide (HB.out.trans (hb3.mono HB.out.size)); have hz3 := HB.out.size; clear hb3 ho3)
      | (go_at_call 71; refine (ofWord_c 106 caps (coT T) N _ G _ (by omega) ent_costs1 HIC3.out (by rw [HY1.out]; exact HO3.out.ints) HLN.out HWK.out).mono ?_; rw [HR.out, ← HY2.out]; rintro e w4 ⟨rfl, hb4⟩; have HIC4 := hide (HIC3.out.below hb4); have HO4 := hide (HO3.out.kept hb4); have HB4 := hide (HB3.out.trans (hb4.mono HB3.out.size)); clear hb4)
      | (go_at_call 79; refine (firstWith_c 106 caps (coT T) N j B _ G _ (by omega) ent_costs1 HIC4.out (by rw [HY1.out]; exact HO4.out.ints) HLN.out HWK.out HJ.out HJA.out HJN.out).mono ?_; rintro e w5 ⟨rfl, hb5⟩; have HB5 := hide (HB4.out.trans (hb5.mono HB4.out.size)); clear hb5)
    )
    go_ret3
    exact ⟨by rw [HCI.out.1, HCI.out.2]; rfl, HB5.out⟩
set_option maxHeartbeats 2000000 in
theorem specCriticalItem_c (n : Int) (v : Value) (l : List Int) (u : Value) (T : List Tsk) (w : World) (hl : ints w.heap.size w v l) (hlen : l.length < 1000000000) (ht : tks w.heap.size w u T) (hs : T.length < 1000000000) (_hT : tab w) :
    Calls Tryd.prog 38 #[.agg #[.int .i64 n, v], u] w fun e w' => e = .returned (.tuple #[.int .i64 (ciI n l T), .int .i64 (ciS n l T), .bool (gvB n l T)]) ∧ Below w.heap.size w w' := by
  have HL := hide (hl.alloc (.cells #[.int .i64 n, v] 30))
  have HTK := hide (ht.alloc (.cells #[.int .i64 n, v] 30))
  have H0 := hide ((Below.refl w.heap.size w).alloc (Nat.le_refl _) (.cells #[.int .i64 n, v] 30))
  have HX := hide (hp_last w (.cells #[.int .i64 n, v] 30))
  have HZ := hide (show (w.alloc (.cells #[.int .i64 n, v] 30)).heap.size = w.heap.size + 1 by simp)
  have HG := hide (grGiven_c n v l u T (w.alloc (.cells #[.int .i64 n, v] 30)) (HL.out.mono (by rw [HZ.out]; omega)) hlen (HTK.out.mono (by rw [HZ.out]; omega)) hs)
  have hb0 := cells_at0 HX.out
  have hb1 := cells_at1 HX.out
  have HW := hide (fun (w1 : World) (h : Below (w.alloc (.cells #[.int .i64 n, v] 30)).heap.size (w.alloc (.cells #[.int .i64 n, v] 30)) w1) => show Below w.heap.size w w1 ∧ ints w1.heap.size w1 v l ∧ tks w1.heap.size w1 u T ∧ w1.cell? ⟨w.heap.size, 0, none⟩ = some (.int .i64 n) ∧ w1.cell? ⟨w.heap.size, 1, none⟩ = some v from by
    have hz := HZ.out
    have hsz := h.size
    have hbk := (h.block w.heap.size (by omega)).trans HX.out
    exact ⟨H0.out.trans (h.mono (by omega)), (HL.out.below h (by omega)).mono (by omega), (HTK.out.below h (by omega)).mono (by omega), cells_at0 hbk, cells_at1 hbk⟩)
  clear hl ht
  cases hg : gvB n l T
  case false =>
    have HR := hide (ci_no hg)
    rw [hg] at HG
    clear hg
    go_enter Tryd.func38, Tryd.ntmps38
    go_wp2_with (first
      | (go_at_call 53; refine HG.out.mono ?_; rintro e w1 ⟨rfl, hb⟩; have HB1 := hide hb; have c0 := (HW.out _ hb).2.2.2.1; have c1 := (HW.out _ hb).2.2.2.2; have hz1 := hb.size; rw [HZ.out] at hz1; clear hb)
    )
    go_ret3
    exact ⟨by rw [HR.out.1, HR.out.2]; rfl, (HW.out _ HB1.out).1⟩
  case true =>
    obtain ⟨hsp, hta⟩ := gv_in hg
    obtain ⟨hn1, hn7⟩ := okSp_n hsp
    have HYES := hide (gw_yes hg)
    have HLN := hide (gwL_len n l T)
    have HTN := hide (show T.length = n.toNat by have h1 := (taB_is hta).2.1; omega)
    have HWK := hide (show wOk T.length (gwL n l T) by rw [HTN.out]; exact (gw_wOk hg).2)
    obtain ⟨j, hj, hjat, hjno, hjI, hjS⟩ := ci_yes hg
    have HJA := hide hjat
    have HJN := hide hjno
    have HCI := hide (And.intro hjI hjS)
    clear hjat hjno hjI hjS
    obtain ⟨N, rfl⟩ := Int.eq_ofNat_of_zero_le (show 0 ≤ n by omega)
    have HY1 := hide HYES.out.1
    have HY2 := hide HYES.out.2
    rw [Int.toNat_natCast] at HY1
    rw [hg] at HG
    have HTAB := hide hta
    have HGG := hide (fun w1 h => grGreedy_c N v l u T w1 (HW.out w1 h).2.1 hlen (HW.out w1 h).2.2.1 hsp hta)
    clear hg hsp hta HYES
    generalize gwL (N : Int) l T = G at *
    generalize bcR (N : Int) l T = B at *
    generalize ciI (N : Int) l T = CI at *
    generalize ciS (N : Int) l T = CS at *
    have HST := hide (setTo_ltK (n := T.length) (by rw [HTN.out]; omega) HWK.out)
    go_enter Tryd.func38, Tryd.ntmps38
    go_wp2_with (first
      | (go_at_call 53; refine HG.out.mono ?_; rintro e w1 ⟨rfl, hb⟩; have HB1 := hide hb; have c0 := (HW.out _ hb).2.2.2.1; have c1 := (HW.out _ hb).2.2.2.2; have hz1 := hb.size; rw [HZ.out] at hz1; clear hb)
      | (go_at_call 72; refine (HGG.out _ HB1.out).mono ?_; rw [← HY1.out]; rintro e w2 ⟨v2, rfl, ho2, hb⟩; obtain ⟨ga, gc, hgv⟩ := ho2.shape; subst hgv; have HO2 := hide ho2; have HB2 := hide (HB1.out.trans (hb.mono HB1.out.size)); clear hb ho2)
      | (go_at_call 68; refine (grOf_c u T (N : Int) _ G _ HTAB.out (HW.out _ HB2.out).2.2.1 HO2.out.ints HLN.out HWK.out).mono ?_; rw [← HY2.out]; rintro e w3 ⟨rfl, hb⟩; have HO3 := hide (HO2.out.kept hb); have HB3 := hide (HB2.out.trans (hb.mono HB2.out.size)); clear hb))
    have HTK3 := hide (HW.out _ HB3.out).2.2.1
    have HBB3 := hide (HW.out _ HB3.out).1
    clear HW HG HB1 HB2 HB3 HGG c0 c1 hb0 hb1
    go_loopw [9, 10, 25] (fun sv mv iv wr => ∃ k : Nat, k ≤ j ∧ iv = .int .i64 (k : Int) ∧ sv = .int .i64 (setTo G k : Int) ∧ mv = .int .i64 (-1) ∧ Hid (Below w3.heap.size w3 wr)) (fun _ _ iv _ => G.length - (intOf iv).toNat)
    case atStart => exact ⟨0, Nat.zero_le _, rfl, rfl, rfl, Below.refl _ _⟩
    case round =>
      obtain ⟨k, hk2, rfl, rfl, rfl, HB⟩ := hrel
      have hgl := HLN.out
      have HSN := hide (setTo_next G k)
      have HLW := hide (HO3.out.kept HB.out).ints
      have hlt : k < G.length := by omega
      have hlt' : (k : Int) < (G.length : Int) := by omega
      have hs128 := HST.out k (by omega)
      have hx := HWK.out k hlt
      obtain ⟨i, hi⟩ := Int.eq_ofNat_of_zero_le hx.1
      have HXI := hide hi
      have hin : i < T.length := by omega
      have hi7 : i < 7 := by have := HTN.out; omega
      clear hx
      have HCC := hide (grCost_c u T (N : Int) (setTo G k) i wr HTAB.out (HTK3.out.to HB.out) hs128 hin)
      by_cases hkj : k = j
      · subst hkj
        have HA2 := hide (show coT T (setTo G k) i = B by have := HJA.out; rw [hi, Int.toNat_natCast] at this; exact this)
        rw [HA2.out] at HCC
        clear hi
        generalize hs : setTo G k = s at *
        have HSS := hide hs
        clear hs
        have hgg : (B == B) = true := by simp
        go_wp2_with (first
          | (refine wpList_at sliceT intS rfl (.tmp 23) (.tmp _) rfl _ rfl k rfl _ G HLW.out hlt ?_; intro ad hcell hblk; rw [HXI.out] at hcell)
          | (go_at_call 58; refine HCC.out.mono ?_; rintro e w5 ⟨rfl, hb5⟩; have HB5 := hide (HB.out.trans (hb5.mono HB.out.size)); clear hb5))
        go_ret3
        exact ⟨by rw [HCI.out.1, HCI.out.2, HXI.out]; rfl, HBB3.out.trans (HB5.out.mono HBB3.out.size)⟩
      · have HN2 := hide (show ¬ coT T (setTo G k) i = B by have := HJN.out k (by omega); rw [hi, Int.toNat_natCast] at this; exact this)
        rw [hi, Int.toNat_natCast] at HSN
        clear hi
        generalize hs : setTo G k = s at *
        clear hs
        generalize coT T s i = co at HCC HN2
        have hgg : (co == B) = false := by have := HN2.out; simp; exact this
        have hp1 := wrap_p2 i (by omega)
        have hp2 : IntKind.i64.wrap (2 ^ i) = (p2 i : Int) := by rw [IntWalk.i64_left]; exact hp1
        have hpk := p2_lt128 i hi7
        have hor := i64_or s (p2 i) (Nat.lt_trans hs128 (by decide)) (Nat.lt_trans hpk (by decide))
        go_wp2_with (first
          | (refine wpList_at sliceT intS rfl (.tmp 23) (.tmp _) rfl _ rfl k rfl _ G HLW.out hlt ?_; intro ad hcell hblk; rw [HXI.out] at hcell)
          | (go_at_call 58; refine HCC.out.mono ?_; rintro e w5 ⟨rfl, hb5⟩; have HB5 := hide (HB.out.trans (hb5.mono HB.out.size)); clear hb5))
        go_roundw
        case rel => exact ⟨k + 1, by omega, by go_num, by rw [HSN.out], rfl, HB5⟩
        case measure => (simp [intOf] <;> omega)
end Go.Proofs.YtndnkefbilhgnaaDoor
