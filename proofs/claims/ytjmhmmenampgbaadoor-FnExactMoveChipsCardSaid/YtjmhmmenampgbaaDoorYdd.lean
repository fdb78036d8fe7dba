/- Contracts: MoveChips, both. -/
import Derived.Test.YtjmhmmenampgbaaDoorYcc
namespace Go.Proofs.YtjmhmmenampgbaaDoor
open Go.RowKit
set_option maxRecDepth 100000
set_option linter.unusedSimpArgs false
theorem irB_one (M : List (List Int)) (A : List Int) (x : Int) : irB M A [x] = cpB M A := by unfold irB; simp
theorem irR_one_no {M : List (List Int)} {A : List Int} {x : Int} (h : cpB M A = true) (hx : ¬ x ∈ opL A.length (plL M A) (atN A)) : irR M A [x] = false ∧ rcA M A [x] = [] := by
  have h1 : rsF A.length (plL M A) [x] (atN A) 1 = none := by rw [rsF, rsF, Option.bind_some, if_neg (by simpa using hx)]
  have hb : irB M A [x] = true := by rw [irB_one]; exact h
  refine ⟨by rw [irR_yes hb]; show (rsF A.length (plL M A) [x] (atN A) 1).isSome = false; rw [h1]; rfl, ?_⟩
  unfold rcA
  rw [if_pos hb]
  show rsA A.length (plL M A) [x] (atN A) 1 = []
  exact rsA_none h1
theorem irR_one_yes {M : List (List Int)} {A : List Int} {i : Nat} (h : cpB M A = true) (hi : i < A.length) (hx : canB (plL M A) (atN A) i = true) : irR M A [(i : Int)] = true ∧ rcA M A [(i : Int)] = toL A.length (mvF (plL M A) i (atN A)) := by
  have h1 : rsF A.length (plL M A) [(i : Int)] (atN A) 1 = some (mvF (plL M A) i (atN A)) := by rw [rsF, rsF, Option.bind_some, if_pos (by simpa using (opL_cast hi).2 hx)]; simp
  have hb : irB M A [(i : Int)] = true := by rw [irB_one]; exact h
  refine ⟨by rw [irR_yes hb]; show (rsF A.length (plL M A) [(i : Int)] (atN A) 1).isSome = true; rw [h1]; rfl, ?_⟩
  unfold rcA
  rw [if_pos hb]
  show rsA A.length (plL M A) [(i : Int)] (atN A) 1 = _
  exact rsA_some h1
attribute [local irreducible] p2 low memB risB
set_option maxHeartbeats 4000000 in
theorem implMoveChips_c (v u : Value) (M : List (List Int)) (A : List Int) (x : Int) (w : World) (hl : rows w.heap.size w v M) (hs : small2 M) (hu : ints w.heap.size w u A) (hlen : A.length < 1000000000) (hT : tab w) :
    Calls Tryd.prog 22 #[.agg #[v, u], .int .i64 x] w fun e w' => ∃ v' u', e = .returned (.tuple #[.agg #[v', u'], .bool (irR M A [x])]) ∧ chpO w' w.heap.size v' u' (rcM (irR M A [x]) M) (rcA M A [x]) ∧ Below w.heap.size w w' := by
  have hb0 := ((Below.refl w.heap.size w).alloc (Nat.le_refl _) (.cells #[v, u] 29)).alloc (by simp) (.cells #[.slice none 0 0, .slice none 0 0] 29)
  have HB0 := hide hb0
  have hz0 : ((w.alloc (.cells #[v, u] 29)).alloc (.cells #[.slice none 0 0, .slice none 0 0] 29)).heap.size = w.heap.size + 2 := by simp
  have HR0 := hide (show ((w.alloc (.cells #[v, u] 29)).alloc (.cells #[.slice none 0 0, .slice none 0 0] 29)).heap[w.heap.size + 1]? = some (.cells #[.slice none 0 0, .slice none 0 0] 29) by have h := hp_last (w.alloc (.cells #[v, u] 29)) (.cells #[.slice none 0 0, .slice none 0 0] 29); simpa using h)
  have HV0 := hide (show ((w.alloc (.cells #[v, u] 29)).alloc (.cells #[.slice none 0 0, .slice none 0 0] 29)).heap[w.heap.size]? = some (.cells #[v, u] 29) from (hp_old _ _ _ (by simp)).trans (hp_last w (.cells #[v, u] 29)))
  have HL := hide hl
  have HU := hide hu
  have hb1 := hb0.alloc (by simp; omega) (.cells #[.int .i64 x] 3)
  have hz1 : (((w.alloc (.cells #[v, u] 29)).alloc (.cells #[.slice none 0 0, .slice none 0 0] 29)).alloc (.cells #[.int .i64 x] 3)).heap.size = w.heap.size + 3 := by simp
  have HX1 := hide (show ints (w.heap.size + 3) (((w.alloc (.cells #[v, u] 29)).alloc (.cells #[.slice none 0 0, .slice none 0 0] 29)).alloc (.cells #[.int .i64 x] 3)) (.slice (some ⟨w.heap.size + 2, 0, none⟩) 1 1) [x] from
    .inr ⟨w.heap.size + 2, 0, 1, rfl, by omega, by rw [hz1]; omega, fun j hj => by
      have hj0 : j = 0 := by simpa using hj
      subst hj0
      have h := hp_last ((w.alloc (.cells #[v, u] 29)).alloc (.cells #[.slice none 0 0, .slice none 0 0] 29)) (.cells #[.int .i64 x] 3)
      rw [hz0] at h
      rw [hp_cell h]; rfl⟩)
  have HRU := hide (implRunChips_c v u M A (.slice (some ⟨w.heap.size + 2, 0, none⟩) 1 1) [x] (((w.alloc (.cells #[v, u] 29)).alloc (.cells #[.slice none 0 0, .slice none 0 0] 29)).alloc (.cells #[.int .i64 x] 3)) ((((hl.alloc _).alloc _).alloc _).mono (by rw [hz1]; omega)) hs ((((hu.alloc _).alloc _).alloc _).mono (by rw [hz1]; omega)) hlen (by rw [hz1]; exact HX1.out) (by simp) (((hT.alloc _).alloc _).alloc _))
  have HB1 := hide hb1
  have HR1 := hide ((hp_old _ (.cells #[.int .i64 x] 3) (w.heap.size + 1) (by rw [hz0]; omega)).trans HR0.out)
  have c0 := cells_at0 HV0.out
  have c1 := cells_at1 HV0.out
  clear hl hu hb0 hb1 hT
  generalize hir : irR M A [x] = ir at *
  generalize hra : rcA M A [x] = ra at *
  generalize hrm : rcM ir M = rm at *
  clear hir hra hrm
  go_enter Tryd.func22, Tryd.ntmps22
  go_wp2_with (first
    | (go_at_call 26; refine HRU.out.mono ?_; rintro e w2 ⟨v2, u2, rfl, hc2, hb2⟩; obtain ⟨ya, yc, xa, xc, hyv, hxv⟩ := chp_shape hc2; subst hyv; subst hxv; rw [hz1] at hc2 hb2; have hz2 := hb2.size; rw [hz1] at hz2; have HR2 := hide ((hb2.block (w.heap.size + 1) (by omega)).trans HR1.out); have HC2 := hide hc2; have HB2 := hide (HB1.out.trans (hb2.mono (by omega))); clear hb2 hc2 c0 c1)
    | (refine wpList_store_csY (cs := #[.slice ya rm.length yc, .slice xa ra.length xc]) sizeCZ rfl (.tmp 4) (.tmp _) rfl (w.heap.size + 1) rfl rfl _ HR2.out rfl (one2 _ _ _ _ _ _) ?_))
  refine (show bodyPost _ _ _ Exit.ret _ _ from ?_)
  exact bodyPost_ret (v := .tuple #[.agg #[.slice ya rm.length yc, .slice xa ra.length xc], .bool ir]) (results_cs2Y (cs := #[.slice ya rm.length yc, .slice xa ra.length xc]) rowCZ sizeCZ (fn := Tryd.f22) (p := 4) (q := 5) rfl _ _ (w.heap.size + 1) rfl (hp_row _ _ _ _ _ HR2.out)) rfl ⟨_, _, rfl, (HC2.out.rowLow (by omega) _).mono (by omega), bl_row HB2.out (by omega) _⟩
theorem ent_waMoveD : enters Tryd.prog 52 := enters_of Tryd.func52 (by kernel_rfl) (by kernel_rfl)
theorem ent_waWithD : enters Tryd.prog 51 := enters_of Tryd.func51 (by kernel_rfl) (by kernel_rfl)
set_option maxHeartbeats 4000000 in
theorem specMoveChips_c (v u : Value) (M : List (List Int)) (A : List Int) (x : Int) (w : World) (hl : rows w.heap.size w v M) (hs : small2 M) (hu : ints w.heap.size w u A) (hlen : A.length < 1000000000) (_hT : tab w) :
    Calls Tryd.prog 21 #[.agg #[v, u], .int .i64 x] w fun e w' => ∃ v' u', e = .returned (.tuple #[.agg #[v', u'], .bool (irR M A [x])]) ∧ chpO w' w.heap.size v' u' (rcM (irR M A [x]) M) (rcA M A [x]) ∧ Below w.heap.size w w' := by
  have hb0 := ((Below.refl w.heap.size w).alloc (Nat.le_refl _) (.cells #[v, u] 29)).alloc (by simp) (.cells #[.slice none 0 0, .slice none 0 0] 29)
  have HB0 := hide hb0
  have hz0 : ((w.alloc (.cells #[v, u] 29)).alloc (.cells #[.slice none 0 0, .slice none 0 0] 29)).heap.size = w.heap.size + 2 := by simp
  have HR0 := hide (show ((w.alloc (.cells #[v, u] 29)).alloc (.cells #[.slice none 0 0, .slice none 0 0] 29)).heap[w.heap.size + 1]? = some (.cells #[.slice none 0 0, .slice none 0 0] 29) by have h := hp_last (w.alloc (.cells #[v, u] 29)) (.cells #[.slice none 0 0, .slice none 0 0] 29); simpa using h)
  have HV0 := hide (show ((w.alloc (.cells #[v, u] 29)).alloc (.cells #[.slice none 0 0, .slice none 0 0] 29)).heap[w.heap.size]? = some (.cells #[v, u] 29) from (hp_old _ _ _ (by simp)).trans (hp_last w (.cells #[v, u] 29)))
  have HL := hide hl
  have HU := hide hu
  have HG := hide (waGood_c v u M A ((w.alloc (.cells #[v, u] 29)).alloc (.cells #[.slice none 0 0, .slice none 0 0] 29)) (((hl.alloc _).alloc _).mono (by simp; omega)) hs (((hu.alloc _).alloc _).mono (by simp; omega)) hlen)
  clear hl hu hb0
  have c0 := cells_at0 HV0.out
  have c1 := cells_at1 HV0.out
  cases hc : cpB M A
  · have hf : irR M A [x] = false := irR_no (by rw [irB_one]; exact hc)
    have hra : rcA M A [x] = [] := by unfold rcA; rw [irB_one, hc]; rfl
    rw [hc] at HG
    rw [hra, hf, show rcM false M = [] from rfl]
    clear hc hf hra
    go_enter Tryd.func21, Tryd.ntmps21
    go_wp2_with (first
      | (go_at_call 41; refine HG.out.mono ?_; rintro e w2 ⟨rfl, hb2⟩; have hz2 := hb2.size; rw [hz0] at hz2; have HR2 := hide ((hb2.block (w.heap.size + 1) (by rw [hz0]; omega)).trans HR0.out); have HV2 := hide ((hb2.block w.heap.size (by rw [hz0]; omega)).trans HV0.out); have d0 := cells_at0 HV2.out; have d1 := cells_at1 HV2.out; have HB2 := hide (HB0.out.trans (hb2.mono (by rw [hz0]; omega))); have HU2 := hide ((HU.out.below HB2.out (Nat.le_refl _))); clear hb2 c0 c1)
      | (refine wpList_len sliceT rfl (.tmp _) rfl u rfl w.heap.size A HU2.out ?_)
      | (go_at_call 49; refine (HIN.out _).mono ?_; rintro e w3 ⟨rfl, rfl⟩)
      | (refine wpList_store_csY (cs := #[.slice none 0 0, .slice none 0 0]) sizeCZ rfl (.tmp 4) (.tmp _) rfl (w.heap.size + 1) rfl rfl _ HR2.out rfl (one2 _ _ _ _ _ _) ?_))
    refine (show bodyPost _ _ _ Exit.ret _ _ from ?_)
    exact bodyPost_ret (v := .tuple #[.agg #[.slice none 0 0, .slice none 0 0], .bool false]) (results_cs2Y (cs := #[.slice none 0 0, .slice none 0 0]) rowCZ sizeCZ (fn := Tryd.f21) (p := 4) (q := 5) rfl _ _ (w.heap.size + 1) rfl (hp_row _ _ _ _ _ HR2.out)) rfl ⟨_, _, rfl, chpO_nil _ _ (by simp [World.setRow]; omega), bl_row HB2.out (by omega) _⟩
  · have hp := cpB_iff.1 hc
    have h1 := hp.n1
    have h5 := hp.n5
    have HIN := hide (fun w1 => l1In_c x 0 ((A.length : Int) - 1) w1)
    by_cases hx : 0 ≤ x ∧ x ≤ (A.length : Int) - 1
    · obtain ⟨i, rfl⟩ := Int.eq_ofNat_of_zero_le hx.1
      have hi : i < A.length := by omega
      have hin : decide (0 ≤ (i : Int) ∧ (i : Int) ≤ (A.length : Int) - 1) = true := decide_eq_true hx
      have HCN := hide (fun w1 (h : Below w.heap.size w w1) => waCan_c v u u M A (atN A) i w1 ((HL.out.below h (Nat.le_refl _)).mono h.size) hp (by rw [toL_self]; exact (HU.out.below h (Nat.le_refl _)).mono h.size) hi)
      rw [hc] at HG
      rw [hin] at HIN
      cases hcan : canB (plL M A) (atN A) i
      · have hno := irR_one_no (x := (i : Int)) hc (fun h => by rw [(opL_cast hi).1 h] at hcan; cases hcan)
        rw [hno.1, hno.2, show rcM false M = [] from rfl]
        rw [hcan] at HCN
        clear hc hp hno hcan hin hx
        go_enter Tryd.func21, Tryd.ntmps21
        go_wp2_with (first
          | (go_at_call 41; refine HG.out.mono ?_; rintro e w2 ⟨rfl, hb2⟩; have hz2 := hb2.size; rw [hz0] at hz2; have HR2 := hide ((hb2.block (w.heap.size + 1) (by rw [hz0]; omega)).trans HR0.out); have HV2 := hide ((hb2.block w.heap.size (by rw [hz0]; omega)).trans HV0.out); have d0 := cells_at0 HV2.out; have d1 := cells_at1 HV2.out; have HB2 := hide (HB0.out.trans (hb2.mono (by rw [hz0]; omega))); have HU2 := hide ((HU.out.below HB2.out (Nat.le_refl _))); clear hb2 c0 c1)
          | (refine wpList_len sliceT rfl (.tmp _) rfl u rfl w.heap.size A HU2.out ?_)
          | (go_at_call 49; refine (HIN.out _).mono ?_; rintro e w3 ⟨rfl, rfl⟩)
          | (go_at_call 50; refine (HCN.out _ HB2.out).mono ?_; rintro e w4 ⟨rfl, hb4⟩; have HR4 := hide ((hb4.block (w.heap.size + 1) (by omega)).trans HR2.out); have hz4 := hb4.size; have HB4 := hide (HB2.out.trans (hb4.mono (by omega))); clear hb4 d0 d1)
          | (refine wpList_store_csY (cs := #[.slice none 0 0, .slice none 0 0]) sizeCZ rfl (.tmp 4) (.tmp _) rfl (w.heap.size + 1) rfl rfl _ HR4.out rfl (one2 _ _ _ _ _ _) ?_))
        refine (show bodyPost _ _ _ Exit.ret _ _ from ?_)
        exact bodyPost_ret (v := .tuple #[.agg #[.slice none 0 0, .slice none 0 0], .bool false]) (results_cs2Y (cs := #[.slice none 0 0, .slice none 0 0]) rowCZ sizeCZ (fn := Tryd.f21) (p := 4) (q := 5) rfl _ _ (w.heap.size + 1) rfl (hp_row _ _ _ _ _ HR4.out)) rfl ⟨_, _, rfl, chpO_nil _ _ (by simp [World.setRow]; omega), bl_row HB4.out (by omega) _⟩
      · have hyes := irR_one_yes hc hi hcan
        have hAt : AtOk A.length (atN A) 500 := by have := pl_at M A; rw [plN_yes hp, plA_fun hp] at this; exact this.mono (by omega)
        have HMV := hide (fun w1 (h : Below w.heap.size w w1) => waMove_c v u u M A (atN A) i w1 ((HL.out.below h (Nat.le_refl _)).mono h.size) hp (by rw [toL_self]; exact (HU.out.below h (Nat.le_refl _)).mono h.size) hi hAt)
        have HWW := hide (fun (xa : Option Addr) (xn xc : Nat) w1 (h : Below w.heap.size w w1) => waWith_c v u xa xn xc M w1 ((HL.out.below h (Nat.le_refl _)).mono h.size) hs)
        rw [hyes.1, hyes.2, show rcM true M = M from rfl]
        rw [hcan] at HCN
        clear hc hp hyes hcan hin hx hAt
        generalize toL A.length (mvF (plL M A) i (atN A)) = RA at *
        go_enter Tryd.func21, Tryd.ntmps21
        go_wp2_with (first
          | (go_at_call 41; refine HG.out.mono ?_; rintro e w2 ⟨rfl, hb2⟩; have hz2 := hb2.size; rw [hz0] at hz2; have HR2 := hide ((hb2.block (w.heap.size + 1) (by rw [hz0]; omega)).trans HR0.out); have HV2 := hide ((hb2.block w.heap.size (by rw [hz0]; omega)).trans HV0.out); have d0 := cells_at0 HV2.out; have d1 := cells_at1 HV2.out; have HB2 := hide (HB0.out.trans (hb2.mono (by rw [hz0]; omega))); have HU2 := hide ((HU.out.below HB2.out (Nat.le_refl _))); clear hb2 c0 c1)
          | (refine wpList_len sliceT rfl (.tmp _) rfl u rfl w.heap.size A HU2.out ?_)
          | (go_at_call 49; refine (HIN.out _).mono ?_; rintro e w3 ⟨rfl, rfl⟩)
          | (go_at_call 50; refine (HCN.out _ HB2.out).mono ?_; rintro e w4 ⟨rfl, hb4⟩; have HR4 := hide ((hb4.block (w.heap.size + 1) (by omega)).trans HR2.out); have HV4 := hide ((hb4.block w.heap.size (by omega)).trans HV2.out); have hz4 := hb4.size; have HB4 := hide (HB2.out.trans (hb4.mono (by omega))); clear hb4 d0 d1))
        have HE0 := hide (cells_at0 HV4.out)
        have HE1 := hide (cells_at1 HV4.out)
        refine wp_region_held (S := Below (w.heap.size + 1) w4) (by kernel_rfl) ?_
        have hS : Below (w.heap.size + 1) w4 { w4 with drawn := w4.drawn + 1 } := (Below.refl _ _).drew
        have hzd : ({ w4 with drawn := w4.drawn + 1 } : World).heap.size = w4.heap.size := rfl
        have hRd : ({ w4 with drawn := w4.drawn + 1 } : World).heap[w.heap.size + 1]? = some (.cells #[.slice none 0 0, .slice none 0 0] 29) := HR4.out
        generalize ({ w4 with drawn := w4.drawn + 1 } : World) = V0 at hS hzd hRd ⊢
        have hB0 : Below w.heap.size w V0 := HB4.out.trans (hS.mono (by omega))
        refine wpAnyH_take (i := 0) rfl (by kernel_rfl) (by kernel_rfl) (by kernel_rfl) (fun _ _ _ h => h) (yields_load_two rowCZ sizeCZ rfl (.tmp _) rfl w.heap.size rfl v u (fun w' h => (h.cell (p := ⟨w.heap.size, 0, none⟩) (by show w.heap.size < w.heap.size + 1; omega)).trans HE0.out) (fun w' h => (h.cell (p := ⟨w.heap.size, 1, none⟩) (by show w.heap.size < w.heap.size + 1; omega)).trans HE1.out)) hS ?_
        simp only [Act.put, List.getElem_toArray, List.getElem_cons_zero, List.getElem_cons_succ, List.setIfInBounds_toArray, List.set_cons_zero, List.set_cons_succ]
        refine wpAnyH_take (i := 1) rfl (by kernel_rfl) (by kernel_rfl) (by kernel_rfl) (fun _ _ _ h => h) (yields_load_two rowCZ sizeCZ rfl (.tmp _) rfl w.heap.size rfl v u (fun w' h => (h.cell (p := ⟨w.heap.size, 0, none⟩) (by show w.heap.size < w.heap.size + 1; omega)).trans HE0.out) (fun w' h => (h.cell (p := ⟨w.heap.size, 1, none⟩) (by show w.heap.size < w.heap.size + 1; omega)).trans HE1.out)) hS ?_
        simp only [Act.put, List.getElem_toArray, List.getElem_cons_zero, List.getElem_cons_succ, List.setIfInBounds_toArray, List.set_cons_zero, List.set_cons_succ]
        refine wpAnyH_take (i := 2) (v := .pointer (some ⟨w.heap.size, 1, none⟩)) rfl (by kernel_rfl) (by kernel_rfl) (by kernel_rfl) (fun _ _ _ h => h) (.inl ⟨rfl, fun w' _ => by go_simp⟩) hS ?_
        simp only [Act.put, List.getElem_toArray, List.getElem_cons_zero, List.getElem_cons_succ, List.setIfInBounds_toArray, List.set_cons_zero, List.set_cons_succ]
        refine wpAnyH_take (i := 3) rfl (by kernel_rfl) (by kernel_rfl) (by kernel_rfl) (fun _ _ _ h => h) (yields_load_cell (by kernel_rfl) rfl (.tmp _) rfl ⟨w.heap.size, 1, none⟩ rfl u (fun w' h => (h.cell (p := ⟨w.heap.size, 1, none⟩) (by show w.heap.size < w.heap.size + 1; omega)).trans HE1.out)) hS ?_
        simp only [Act.put, List.getElem_toArray, List.getElem_cons_zero, List.getElem_cons_succ, List.setIfInBounds_toArray, List.set_cons_zero, List.set_cons_succ]
        refine wpAnyH_take (i := 4) (v := .int .i64 (i : Int)) rfl (by kernel_rfl) (by kernel_rfl) (by kernel_rfl) (fun _ _ _ h => h) (.inl ⟨rfl, fun w' _ => by go_simp⟩) hS ?_
        simp only [Act.put, List.getElem_toArray, List.getElem_cons_zero, List.getElem_cons_succ, List.setIfInBounds_toArray, List.set_cons_zero, List.set_cons_succ]
        refine anyH_call (i := 5) (by kernel_rfl) rfl rfl 52 ent_waMoveD _ _ rfl #[.agg #[v, u], u, .int .i64 (i : Int)] rfl (HMV.out V0 hB0) ?_
        rintro e w5 ⟨v5, rfl, ho5, hb5⟩
        obtain ⟨xa, xc, hxv⟩ := ho5.shape
        subst hxv
        have hz5 := hb5.size
        have hS5 : Below (w.heap.size + 1) w4 w5 := hS.trans (hb5.mono (by omega))
        have hB5 : Below w.heap.size w w5 := hB0.trans (hb5.mono (by omega))
        refine ⟨_, rfl, hS5, ?_⟩
        simp only [Act.put, List.getElem_toArray, List.getElem_cons_zero, List.getElem_cons_succ, List.setIfInBounds_toArray, List.set_cons_zero, List.set_cons_succ]
        refine anyH_call (i := 6) (by kernel_rfl) rfl rfl 51 ent_waWithD _ _ rfl #[.agg #[v, u], .slice xa RA.length xc] rfl (HWW.out _ _ _ w5 hB5) ?_
        rintro e w6 ⟨v6, rfl, ho6, hb6⟩
        obtain ⟨ya, yc, hyv⟩ := ho6.shape
        subst hyv
        have hz6 := hb6.size
        have hS6 : Below (w.heap.size + 1) w4 w6 := hS5.trans (hb6.mono (by omega))
        have hC6 : chpO w6 V0.heap.size (.slice ya M.length yc) (.slice xa RA.length xc) M RA := ⟨w5.heap.size, hz5, hz6, ho6, ho5.kept hb6, ho5.blockLt⟩
        have hR6 := (hb6.block (w.heap.size + 1) (by omega)).trans ((hb5.block (w.heap.size + 1) (by omega)).trans hRd)
        refine ⟨_, rfl, hS6, ?_⟩
        simp only [Act.put, List.getElem_toArray, List.getElem_cons_zero, List.getElem_cons_succ, List.setIfInBounds_toArray, List.set_cons_zero, List.set_cons_succ]
        refine anyH_oneX (i := 7) (by kernel_rfl) rfl rfl ?_
        intro Q1 hQ1
        refine wpList_store_csY (cs := #[.slice ya M.length yc, .slice xa RA.length xc]) sizeCZ rfl (.tmp 4) (.tmp 33) rfl (w.heap.size + 1) rfl rfl _ hR6 rfl (one2 _ _ _ _ _ _) ?_
        have hS7 := bl_row hS6 (Nat.le_refl _) #[.slice ya M.length yc, .slice xa RA.length xc]
        refine wpList_nil ?_
        refine hQ1 _ _ hS7 ?_
        simp only [Act.put, List.getElem_toArray, List.getElem_cons_zero, List.getElem_cons_succ, List.setIfInBounds_toArray, List.set_cons_zero, List.set_cons_succ]
        refine anyH_op (i := 8) (by kernel_rfl) rfl rfl (.bool true) _ ?hq hS7 ?_
        case hq => simp [go_sem]
        refine wpAnyH_done (by kernel_rfl) ?_ _
        simp only [Act.put, List.getElem_toArray, List.getElem_cons_zero, List.getElem_cons_succ, List.setIfInBounds_toArray, List.set_cons_zero, List.set_cons_succ]
        have HR7 := hide (hp_row _ _ _ #[.slice ya M.length yc, .slice xa RA.length xc] _ hR6)
        have HC7 := hide ((hC6.rowLow (b := w.heap.size + 1) (by omega) #[.slice ya M.length yc, .slice xa RA.length xc]).mono (show w.heap.size ≤ V0.heap.size by omega))
        have HB7 := hide (HB4.out.trans (hS7.mono (by omega)))
        clear hS hS5 hS6 hS7 hB0 hB5 hb5 hb6 ho5 ho6 hC6 hR6 hRd hQ1
        go_wp2
        refine (show bodyPost _ _ _ Exit.ret _ _ from ?_)
        exact bodyPost_ret (v := .tuple #[.agg #[.slice ya M.length yc, .slice xa RA.length xc], .bool true]) (results_cs2Y (cs := #[.slice ya M.length yc, .slice xa RA.length xc]) rowCZ sizeCZ (fn := Tryd.f21) (p := 4) (q := 5) rfl _ _ (w.heap.size + 1) rfl HR7.out) rfl ⟨_, _, rfl, HC7.out, HB7.out⟩
    · have hno := irR_one_no (x := x) hc (fun h => by have := op_move h; omega)
      have hin : decide (0 ≤ x ∧ x ≤ (A.length : Int) - 1) = false := decide_eq_false hx
      rw [hno.1, hno.2, show rcM false M = [] from rfl]
      rw [hc] at HG
      rw [hin] at HIN
      clear hc hp hno hin hx
      go_enter Tryd.func21, Tryd.ntmps21
      go_wp2_with (first
        | (go_at_call 41; refine HG.out.mono ?_; rintro e w2 ⟨rfl, hb2⟩; have hz2 := hb2.size; rw [hz0] at hz2; have HR2 := hide ((hb2.block (w.heap.size + 1) (by rw [hz0]; omega)).trans HR0.out); have HV2 := hide ((hb2.block w.heap.size (by rw [hz0]; omega)).trans HV0.out); have d0 := cells_at0 HV2.out; have d1 := cells_at1 HV2.out; have HB2 := hide (HB0.out.trans (hb2.mono (by rw [hz0]; omega))); have HU2 := hide ((HU.out.below HB2.out (Nat.le_refl _))); clear hb2 c0 c1)
        | (refine wpList_len sliceT rfl (.tmp _) rfl u rfl w.heap.size A HU2.out ?_)
        | (go_at_call 49; refine (HIN.out _).mono ?_; rintro e w3 ⟨rfl, rfl⟩)
        | (refine wpList_store_csY (cs := #[.slice none 0 0, .slice none 0 0]) sizeCZ rfl (.tmp 4) (.tmp _) rfl (w.heap.size + 1) rfl rfl _ HR2.out rfl (one2 _ _ _ _ _ _) ?_))
      refine (show bodyPost _ _ _ Exit.ret _ _ from ?_)
      exact bodyPost_ret (v := .tuple #[.agg #[.slice none 0 0, .slice none 0 0], .bool false]) (results_cs2Y (cs := #[.slice none 0 0, .slice none 0 0]) rowCZ sizeCZ (fn := Tryd.f21) (p := 4) (q := 5) rfl _ _ (w.heap.size + 1) rfl (hp_row _ _ _ _ _ HR2.out)) rfl ⟨_, _, rfl, chpO_nil _ _ (by simp [World.setRow]; omega), bl_row HB2.out (by omega) _⟩
end Go.Proofs.YtjmhmmenampgbaaDoor
