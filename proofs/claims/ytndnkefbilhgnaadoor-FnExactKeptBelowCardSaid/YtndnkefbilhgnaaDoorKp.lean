/- Contracts: GreedyWord, BestCost, CriticalItem. -/
import Derived.Test.YtndnkefbilhgnaaDoorKn
import Derived.Test.YtndnkefbilhgnaaDoorKo
import Derived.Test.YtndnkefbilhgnaaDoorKm
namespace Go.Proofs.YtndnkefbilhgnaaDoor
open Go.RowKit
set_option maxRecDepth 100000
set_option linter.unusedSimpArgs false
def gwL (n : Int) (l : List Int) (T : List Tsk) : List Int := if gvB n l T then grW (coT T) (outerOf (marksTo l l.length) n.toNat) n.toNat else []
def bcR (n : Int) (l : List Int) (T : List Tsk) : Int := if gvB n l T then mxW (coT T) (-10000) (gwL n l T) (gwL n l T).length else 0
theorem gw_no {n : Int} {l : List Int} {T : List Tsk} (h : gvB n l T = false) : gwL n l T = [] ∧ bcR n l T = 0 := by unfold bcR gwL; rw [h]; exact ⟨rfl, rfl⟩
theorem gw_yes {n : Int} {l : List Int} {T : List Tsk} (h : gvB n l T = true) : gwL n l T = grW (coT T) (outerOf (marksTo l l.length) n.toNat) n.toNat ∧ bcR n l T = mxW (coT T) (-10000) (gwL n l T) (gwL n l T).length := by
  unfold bcR
  rw [h]
  refine ⟨?_, rfl⟩
  unfold gwL
  rw [h]; rfl
theorem gwL_len (n : Int) (l : List Int) (T : List Tsk) : (gwL n l T).length < 1000000000 := by
  unfold gwL
  split
  · rename_i h
    rw [grW_len]
    have := okSp_n (gv_in h).1
    omega
  · simp
theorem gw_wOk {n : Int} {l : List Int} {T : List Tsk} (h : gvB n l T = true) : (gwL n l T).length = n.toNat ∧ wOk n.toNat (gwL n l T) := by
  have h7 : n.toNat ≤ 7 := by have := okSp_n (gv_in h).1; omega
  have hsp := okSp_spc (gv_in h).1
  rw [(gw_yes h).1]
  refine ⟨grW_len _ _ _, fun k hk => ?_⟩
  rw [grW_len] at hk
  rw [grW_at _ _ _ k hk]
  have := (gi_in (coT T) hsp h7 hk).1
  omega
theorem co_all {T : List Tsk} {n : Int} (h : taB T n = true) : ∀ s i, i < n.toNat → -10000 ≤ coT T s i ∧ coT T s i ≤ 10000 := fun s i hi => by
  have := co_bd h s (i := i) (by have := (taB_is h).2.1; omega)
  omega
attribute [local irreducible] p2 low memB risB grW outerOf
set_option maxHeartbeats 2000000 in
theorem implGreedyWord_c (n : Int) (v : Value) (l : List Int) (u : Value) (T : List Tsk) (w : World) (hl : ints w.heap.size w v l) (hlen : l.length < 1000000000) (ht : tks w.heap.size w u T) (hs : T.length < 1000000000) (hT : tab w) :
    Calls Tryd.prog 27 #[.agg #[.int .i64 n, v], u] w fun e w' => ∃ v', e = .returned (.tuple #[v', .bool (gvB n l T)]) ∧ own 3 w' w.heap.size v' (gwL n l T) ∧ Below w.heap.size w w' := by
  have HL := hide ((hl.alloc (.cells #[.int .i64 n, v] 30)).mono (show w.heap.size ≤ (w.alloc (.cells #[.int .i64 n, v] 30)).heap.size by simp))
  have HTK := hide ((ht.alloc (.cells #[.int .i64 n, v] 30)).mono (show w.heap.size ≤ (w.alloc (.cells #[.int .i64 n, v] 30)).heap.size by simp))
  have HT := hide hT
  have HTA := hide (hT.alloc (.cells #[.int .i64 n, v] 30))
  have H0 := hide ((Below.refl w.heap.size w).alloc (Nat.le_refl _) (.cells #[.int .i64 n, v] 30))
  have HZ := hide (show (w.alloc (.cells #[.int .i64 n, v] 30)).heap.size = w.heap.size + 1 by simp)
  clear hl ht hT
  cases hg : gvB n l T
  case false =>
    have HR := hide (gw_no hg).1
    have HFC := hide (familyAndCosts_no n v l u T _ HL.out hlen HTK.out hs hg)
    clear hg
    go_enter Tryd.func27, Tryd.ntmps27
    go_wp2_with (first
      | (go_at_call 69; refine HFC.out.mono ?_; rintro e w1 ⟨rfl, hb⟩; have hz := hb.size; rw [HZ.out] at hz; have HB := hide (bl_row ((H0.out.trans (hb.mono (by rw [HZ.out]; omega))).alloc (by omega) (.cells (fam 0 noSet) 73)) (show w.heap.size ≤ w1.heap.size by omega) (fam 0 noSet)); clear hb)
      | (refine wpList_alloc_fam zeroT rfl rfl _ (by first | (simp only [World.size_alloc]; rfl) | rfl) ?_)
      | (refine wpList_store_fam sizeT rfl (.tmp _) (.tmp _) rfl _ _ _ rfl rfl _ _ (famAt.new _ _ _ _) ?_)
    )
    go_ret2
    exact ⟨_, rfl, by rw [HR.out]; exact own_nil _ _ _, HB.out⟩
  case true =>
    obtain ⟨hsp, hta⟩ := gv_in hg
    obtain ⟨hn1, hn7⟩ := okSp_n hsp
    have HYES := hide (gw_yes hg)
    have HWO := hide (gw_wOk hg)
    obtain ⟨N, rfl⟩ := Int.eq_ofNat_of_zero_le (show 0 ≤ n by omega)
    have HFC := hide (familyAndCosts_yes (N : Int) v l u T _ HL.out hlen HTK.out hs HTA.out hg)
    rw [Int.toNat_natCast] at HFC
    have HSP := hide (okSp_spc hsp)
    have HCA := hide (co_all hta)
    have HMX := hide (fun m h1 h2 => mx_start (T := T) (n := (N : Int)) (m := m) hta h1 h2)
    have HNT := hide (show T.length = N by have := (taB_is hta).2.1; omega)
    rw [Int.toNat_natCast] at HYES HWO HSP HCA
    clear hg hsp hta
    generalize marksTo l l.length = F at HFC HYES HSP
    go_enter Tryd.func27, Tryd.ntmps27
    go_wp2_with (first
      | (go_at_call 69; refine HFC.out.mono ?_; rintro e w1 ⟨caps, rfl, hic, hb⟩; have hz := hb.size; rw [HZ.out] at hz; have hb2 := (Below.refl w1.heap.size w1).alloc (Nat.le_refl _) (.cells (fam 0 noSet) 73); have hb3 := bl_row hb2 (Nat.le_refl _) (fam (N : Int) F); have HIC := hide (hic.below hb3); have HH1 := hide ((famAt.new 73 w1 0 noSet).row (N : Int) F); have HB := hide (bl_row ((H0.out.trans (hb.mono (by rw [HZ.out]; omega))).alloc (by omega) (.cells (fam 0 noSet) 73)) (show w.heap.size ≤ w1.heap.size by omega) (fam (N : Int) F)); clear hb hb2 hb3 hic)
      | (refine wpList_alloc_fam zeroT rfl rfl _ (by first | (simp only [World.size_alloc]; rfl) | rfl) ?_)
      | (refine wpList_store_fam sizeT rfl (.tmp _) (.tmp _) rfl _ _ _ rfl rfl _ _ (famAt.new _ _ _ _) ?_)
      | (refine wpList_load_fam rowT sizeT rfl (.tmp _) rfl _ rfl _ _ HH1.out ?_)
      | (go_at_call 73; refine (greedyWord_c 106 caps (coT T) N F _ (by omega) HSP.out ent_costs1 HIC.out HCA.out (HT.out.below HB.out)).mono ?_; rintro e w3 ⟨v3, rfl, ho3, hb3⟩; obtain ⟨ga, gc, hgv⟩ := ho3.shape; subst hgv; have HO3 := hide ho3; have HIC3 := hide (HIC.out.below hb3); have HB3 := hide (HB.out.trans (hb3.mono HB.out.size)); have hz3 := HB.out.size; clear hb3 ho3)
    )
    go_ret2
    exact ⟨_, rfl, by rw [HYES.out.1]; exact HO3.out.mono hz3, HB3.out⟩
set_option maxHeartbeats 2000000 in
theorem implBestCost_c (n : Int) (v : Value) (l : List Int) (u : Value) (T : List Tsk) (w : World) (hl : ints w.heap.size w v l) (hlen : l.length < 1000000000) (ht : tks w.heap.size w u T) (hs : T.length < 1000000000) (hT : tab w) :
    Calls Tryd.prog 33 #[.agg #[.int .i64 n, v], u] w fun e w' => e = .returned (.tuple #[.int .i64 (bcR n l T), .bool (gvB n l T)]) ∧ Below w.heap.size w w' := by
  have HL := hide ((hl.alloc (.cells #[.int .i64 n, v] 30)).mono (show w.heap.size ≤ (w.alloc (.cells #[.int .i64 n, v] 30)).heap.size by simp))
  have HTK := hide ((ht.alloc (.cells #[.int .i64 n, v] 30)).mono (show w.heap.size ≤ (w.alloc (.cells #[.int .i64 n, v] 30)).heap.size by simp))
  have HT := hide hT
  have HTA := hide (hT.alloc (.cells #[.int .i64 n, v] 30))
  have H0 := hide ((Below.refl w.heap.size w).alloc (Nat.le_refl _) (.cells #[.int .i64 n, v] 30))
  have HZ := hide (show (w.alloc (.cells #[.int .i64 n, v] 30)).heap.size = w.heap.size + 1 by simp)
  clear hl ht hT
  cases hg : gvB n l T
  case false =>
    have HR := hide (gw_no hg).2
    have HFC := hide (familyAndCosts_no n v l u T _ HL.out hlen HTK.out hs hg)
    clear hg
    go_enter Tryd.func33, Tryd.ntmps33
    go_wp2_with (first
      | (go_at_call 69; refine HFC.out.mono ?_; rintro e w1 ⟨rfl, hb⟩; have hz := hb.size; rw [HZ.out] at hz; have HB := hide (bl_row ((H0.out.trans (hb.mono (by rw [HZ.out]; omega))).alloc (by omega) (.cells (fam 0 noSet) 73)) (show w.heap.size ≤ w1.heap.size by omega) (fam 0 noSet)); clear hb)
      | (refine wpList_alloc_fam zeroT rfl rfl _ (by first | (simp only [World.size_alloc]; rfl) | rfl) ?_)
      | (refine wpList_store_fam sizeT rfl (.tmp _) (.tmp _) rfl _ _ _ rfl rfl _ _ (famAt.new _ _ _ _) ?_)
    )
    go_ret2
    exact ⟨by rw [HR.out]; rfl, HB.out⟩
  case true =>
    have HLN := hide (gwL_len n l T)
    obtain ⟨hsp, hta⟩ := gv_in hg
    obtain ⟨hn1, hn7⟩ := okSp_n hsp
    have HYES := hide (gw_yes hg)
    have HWO := hide (gw_wOk hg)
    obtain ⟨N, rfl⟩ := Int.eq_ofNat_of_zero_le (show 0 ≤ n by omega)
    have HFC := hide (familyAndCosts_yes (N : Int) v l u T _ HL.out hlen HTK.out hs HTA.out hg)
    rw [Int.toNat_natCast] at HFC
    have HSP := hide (okSp_spc hsp)
    have HCA := hide (co_all hta)
    have HMX := hide (fun m h1 h2 => mx_start (T := T) (n := (N : Int)) (m := m) hta h1 h2)
    have HNT := hide (show T.length = N by have := (taB_is hta).2.1; omega)
    rw [Int.toNat_natCast] at HYES HWO HSP HCA
    clear hg hsp hta
    generalize marksTo l l.length = F at HFC HYES HSP
    have HR := hide (HMX.out (gwL (N : Int) l T) (by rw [HNT.out]; exact HWO.out.2) (by rw [HNT.out]; exact HWO.out.1))
    have HY1 := hide HYES.out.1
    have HY2 := hide HYES.out.2
    have HWK := hide HWO.out.2
    clear HYES HWO HMX
    generalize gwL (N : Int) l T = G at *
    generalize bcR (N : Int) l T = B at *
    go_enter Tryd.func33, Tryd.ntmps33
    go_wp2_with (first
      | (go_at_call 69; refine HFC.out.mono ?_; rintro e w1 ⟨caps, rfl, hic, hb⟩; have hz := hb.size; rw [HZ.out] at hz; have hb2 := (Below.refl w1.heap.size w1).alloc (Nat.le_refl _) (.cells (fam 0 noSet) 73); have hb3 := bl_row hb2 (Nat.le_refl _) (fam (N : Int) F); have HIC := hide (hic.below hb3); have HH1 := hide ((famAt.new 73 w1 0 noSet).row (N : Int) F); have HB := hide (bl_row ((H0.out.trans (hb.mono (by rw [HZ.out]; omega))).alloc (by omega) (.cells (fam 0 noSet) 73)) (show w.heap.size ≤ w1.heap.size by omega) (fam (N : Int) F)); clear hb hb2 hb3 hic)
      | (refine wpList_alloc_fam zeroT rfl rfl _ (by first | (simp only [World.size_alloc]; rfl) | rfl) ?_)
      | (refine wpList_store_fam sizeT rfl (.tmp _) (.tmp _) rfl _ _ _ rfl rfl _ _ (famAt.new _ _ _ _) ?_)
      | (refine wpList_load_fam rowT sizeT rfl (.tmp _) rfl _ rfl _ _ HH1.out ?_)
      | (go_at_call 73; refine (greedyWord_c 106 caps (coT T) N F _ (by omega) HSP.out ent_costs1 HIC.out HCA.out (HT.out.below HB.out)).mono ?_; rintro e w3 ⟨v3, rfl, ho3, hb3⟩; obtain ⟨ga, gc, hgv⟩ := ho3.shape; subst hgv; have HO3 := hide ho3; have HIC3 := hide (HIC.out.below hb3); have HB3 := hide (HB.out.trans (hb3.mono HB.out.size)); have hz3 := HB.out.size; clear hb3 ho3)
      | (go_at_call 71; refine (ofWord_c 106 caps (coT T) N _ G _ (by omega) ent_costs1 HIC3.out (by rw [HY1.out]; exact HO3.out.ints) HLN.out HWK.out).mono ?_; rw [HR.out]; rintro e w4 ⟨rfl, hb4⟩; have HB4 := hide (HB3.out.trans (hb4.mono HB3.out.size)); clear hb4)
    )
    go_ret2
    exact ⟨by rw [HY2.out]; rfl, HB4.out⟩
set_option maxHeartbeats 2000000 in
theorem specGreedyWord_c (n : Int) (v : Value) (l : List Int) (u : Value) (T : List Tsk) (w : World) (hl : ints w.heap.size w v l) (hlen : l.length < 1000000000) (ht : tks w.heap.size w u T) (hs : T.length < 1000000000) (_hT : tab w) :
    Calls Tryd.prog 26 #[.agg #[.int .i64 n, v], u] w fun e w' => ∃ v', e = .returned (.tuple #[v', .bool (gvB n l T)]) ∧ own 3 w' w.heap.size v' (gwL n l T) ∧ Below w.heap.size w w' := by
  have HL := hide (hl.alloc (.cells #[.int .i64 n, v] 30))
  have HTK := hide (ht.alloc (.cells #[.int .i64 n, v] 30))
  have H0 := hide ((Below.refl w.heap.size w).alloc (Nat.le_refl _) (.cells #[.int .i64 n, v] 30))
  have HX := hide (hp_last w (.cells #[.int .i64 n, v] 30))
  have HZ := hide (show (w.alloc (.cells #[.int .i64 n, v] 30)).heap.size = w.heap.size + 1 by simp)
  have HG := hide (grGiven_c n v l u T (w.alloc (.cells #[.int .i64 n, v] 30)) (HL.out.mono (by rw [HZ.out]; omega)) hlen (HTK.out.mono (by rw [HZ.out]; omega)) hs)
  have hb0 := cells_at0 HX.out
  have hb1 := cells_at1 HX.out
  have HW := hide (fun (w1 : World) (h : Below (w.alloc (.cells #[.int .i64 n, v] 30)).heap.size (w.alloc (.cells #[.int .i64 n, v] 30)) w1) => show Below w.heap.size w w1 ∧ ints w1.heap.size w1 v l ∧ tks w1.heap.size w1 u T ∧ w1.cell? ⟨w.heap.size, 0, none⟩ = some (.int .i64 n) ∧ w1.cell? ⟨w.heap.size, 1, none⟩ = some v from by
    have hz := HZ.out
    have hsz := h.size
    have hbk := (h.block w.heap.size (by omega)).trans HX.out
    exact ⟨H0.out.trans (h.mono (by omega)), (HL.out.below h (by omega)).mono (by omega), (HTK.out.below h (by omega)).mono (by omega), cells_at0 hbk, cells_at1 hbk⟩)
  clear hl ht
  cases hg : gvB n l T
  case false =>
    have HR := hide (gw_no hg).1
    rw [hg] at HG
    clear hg
    go_enter Tryd.func26, Tryd.ntmps26
    go_wp2_with (first
      | (go_at_call 53; refine HG.out.mono ?_; rintro e w1 ⟨rfl, hb⟩; have HB1 := hide hb; have c0 := (HW.out _ hb).2.2.2.1; have c1 := (HW.out _ hb).2.2.2.2; have hz1 := hb.size; rw [HZ.out] at hz1; clear hb)
    )
    go_ret2
    exact ⟨_, rfl, by rw [HR.out]; exact own_nil _ _ _, (HW.out _ HB1.out).1⟩
  case true =>
    obtain ⟨hsp, hta⟩ := gv_in hg
    obtain ⟨hn1, hn7⟩ := okSp_n hsp
    have HYES := hide (gw_yes hg).1
    obtain ⟨N, rfl⟩ := Int.eq_ofNat_of_zero_le (show 0 ≤ n by omega)
    rw [Int.toNat_natCast] at HYES
    rw [hg] at HG
    have HGG := hide (fun w1 h => grGreedy_c N v l u T w1 (HW.out w1 h).2.1 hlen (HW.out w1 h).2.2.1 hsp hta)
    clear hg hsp hta
    go_enter Tryd.func26, Tryd.ntmps26
    go_wp2_with (first
      | (go_at_call 53; refine HG.out.mono ?_; rintro e w1 ⟨rfl, hb⟩; have HB1 := hide hb; have c0 := (HW.out _ hb).2.2.2.1; have c1 := (HW.out _ hb).2.2.2.2; have hz1 := hb.size; rw [HZ.out] at hz1; clear hb)
      | (go_at_call 72; refine (HGG.out _ HB1.out).mono ?_; rw [← HYES.out]; rintro e w2 ⟨v2, rfl, ho2, hb⟩; have HO2 := hide ho2; have HB2 := hide (HB1.out.trans (hb.mono HB1.out.size)); clear hb ho2))
    go_ret2
    exact ⟨_, rfl, HO2.out.mono (by omega), (HW.out _ HB2.out).1⟩
set_option maxHeartbeats 2000000 in
theorem specBestCost_c (n : Int) (v : Value) (l : List Int) (u : Value) (T : List Tsk) (w : World) (hl : ints w.heap.size w v l) (hlen : l.length < 1000000000) (ht : tks w.heap.size w u T) (hs : T.length < 1000000000) (_hT : tab w) :
    Calls Tryd.prog 32 #[.agg #[.int .i64 n, v], u] w fun e w' => e = .returned (.tuple #[.int .i64 (bcR n l T), .bool (gvB n l T)]) ∧ Below w.heap.size w w' := by
  have HL := hide (hl.alloc (.cells #[.int .i64 n, v] 30))
  have HTK := hide (ht.alloc (.cells #[.int .i64 n, v] 30))
  have H0 := hide ((Below.refl w.heap.size w).alloc (Nat.le_refl _) (.cells #[.int .i64 n, v] 30))
  have HX := hide (hp_last w (.cells #[.int .i64 n, v] 30))
  have HZ := hide (show (w.alloc (.cells #[.int .i64 n, v] 30)).heap.size = w.heap.size + 1 by simp)
  have HG := hide (grGiven_c n v l u T (w.alloc (.cells #[.int .i64 n, v] 30)) (HL.out.mono (by rw [HZ.out]; omega)) hlen (HTK.out.mono (by rw [HZ.out]; omega)) hs)
  have hb0 := cells_at0 HX.out
  have hb1 := cells_at1 HX.out
  have HW := hide (fun (w1 : World) (h : Below (w.alloc (.cells #[.int .i64 n, v] 30)).heap.size (w.alloc (.cells #[.int .i64 n, v] 30)) w1) => show Below w.heap.size w w1 ∧ ints w1.heap.size w1 v l ∧ tks w1.heap.size w1 u T ∧ w1.cell? ⟨w.heap.size, 0, none⟩ = some (.int .i64 n) ∧ w1.cell? ⟨w.heap.size, 1, none⟩ = some v from by
    have hz := HZ.out
    have hsz := h.size
    have hbk := (h.block w.heap.size (by omega)).trans HX.out
    exact ⟨H0.out.trans (h.mono (by omega)), (HL.out.below h (by omega)).mono (by omega), (HTK.out.below h (by omega)).mono (by omega), cells_at0 hbk, cells_at1 hbk⟩)
  clear hl ht
  cases hg : gvB n l T
  case false =>
    have HR := hide (gw_no hg).2
    rw [hg] at HG
    clear hg
    go_enter Tryd.func32, Tryd.ntmps32
    go_wp2_with (first
      | (go_at_call 53; refine HG.out.mono ?_; rintro e w1 ⟨rfl, hb⟩; have HB1 := hide hb; have c0 := (HW.out _ hb).2.2.2.1; have c1 := (HW.out _ hb).2.2.2.2; have hz1 := hb.size; rw [HZ.out] at hz1; clear hb)
    )
    go_ret2
    exact ⟨by rw [HR.out]; rfl, (HW.out _ HB1.out).1⟩
  case true =>
    obtain ⟨hsp, hta⟩ := gv_in hg
    obtain ⟨hn1, hn7⟩ := okSp_n hsp
    have HYES := hide (gw_yes hg)
    have HLN := hide (gwL_len n l T)
    have HWK := hide (show wOk T.length (gwL n l T) by have h1 := (taB_is hta).2.1; rw [show T.length = n.toNat by omega]; exact (gw_wOk hg).2)
    obtain ⟨N, rfl⟩ := Int.eq_ofNat_of_zero_le (show 0 ≤ n by omega)
    have HY1 := hide HYES.out.1
    have HY2 := hide HYES.out.2
    rw [Int.toNat_natCast] at HY1
    rw [hg] at HG
    have HTAB := hide hta
    have HGG := hide (fun w1 h => grGreedy_c N v l u T w1 (HW.out w1 h).2.1 hlen (HW.out w1 h).2.2.1 hsp hta)
    clear hg hsp hta HYES
    generalize gwL (N : Int) l T = G at *
    generalize bcR (N : Int) l T = B at *
    go_enter Tryd.func32, Tryd.ntmps32
    go_wp2_with (first
      | (go_at_call 53; refine HG.out.mono ?_; rintro e w1 ⟨rfl, hb⟩; have HB1 := hide hb; have c0 := (HW.out _ hb).2.2.2.1; have c1 := (HW.out _ hb).2.2.2.2; have hz1 := hb.size; rw [HZ.out] at hz1; clear hb)
      | (go_at_call 72; refine (HGG.out _ HB1.out).mono ?_; rw [← HY1.out]; rintro e w2 ⟨v2, rfl, ho2, hb⟩; have HO2 := hide ho2; have HB2 := hide (HB1.out.trans (hb.mono HB1.out.size)); clear hb ho2)
      | (go_at_call 68; refine (grOf_c u T (N : Int) _ G _ HTAB.out (HW.out _ HB2.out).2.2.1 HO2.out.ints HLN.out HWK.out).mono ?_; rintro e w3 ⟨rfl, hb⟩; have HB3 := hide (HB2.out.trans (hb.mono HB2.out.size)); clear hb))
    go_ret2
    exact ⟨by rw [HY2.out]; rfl, (HW.out _ HB3.out).1⟩
end Go.Proofs.YtndnkefbilhgnaaDoor
