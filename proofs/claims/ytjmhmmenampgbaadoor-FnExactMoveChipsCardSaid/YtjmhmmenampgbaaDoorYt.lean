/- Contracts: CanMove and IsRun, the program's and the specification's. -/
import Derived.Test.YtjmhmmenampgbaaDoorYp
import Derived.Test.YtjmhmmenampgbaaDoorYe
namespace Go.Proofs.YtjmhmmenampgbaaDoor
open Go.RowKit
set_option maxRecDepth 100000
set_option linter.unusedSimpArgs false
noncomputable def cmR (M : List (List Int)) (A : List Int) : List Int := if cpB M A then opL A.length (plL M A) (atN A) else []
theorem cmR_no {M : List (List Int)} {A : List Int} (h : cpB M A = false) : cmR M A = [] := by unfold cmR; rw [h]; rfl
theorem cmR_yes {M : List (List Int)} {A : List Int} (h : cpB M A = true) : cmR M A = opL A.length (plL M A) (atN A) := by unfold cmR; rw [if_pos h]
theorem plA_fun {M : List (List Int)} {A : List Int} (h : ChP M A) : plA M A = atN A := funext (plA_yes h)
theorem cmR_pl (M : List (List Int)) (A : List Int) : opL (plN M A) (plL M A) (plA M A) = cmR M A := by
  cases h : cpB M A
  · rw [cmR_no h, plN_no h]; rfl
  · rw [cmR_yes h, plN_yes (cpB_iff.1 h), plA_fun (cpB_iff.1 h)]
theorem cmR_len (M : List (List Int)) (A : List Int) : (cmR M A).length < 1000000000 := by
  rw [← cmR_pl]
  have h1 := plN_5 M A
  have h2 := opL_len (n := plN M A) (plL M A) (plA M A)
  omega
noncomputable def irB (M : List (List Int)) (A mv : List Int) : Bool := cpB M A && decide (mv.length ≤ 120)
noncomputable def irR (M : List (List Int)) (A mv : List Int) : Bool := irB M A mv && (rsF A.length (plL M A) mv (atN A) mv.length).isSome
theorem irR_no {M : List (List Int)} {A mv : List Int} (h : irB M A mv = false) : irR M A mv = false := by unfold irR; rw [h]; rfl
theorem irR_yes {M : List (List Int)} {A mv : List Int} (h : irB M A mv = true) : irR M A mv = (rsF A.length (plL M A) mv (atN A) mv.length).isSome := by unfold irR; rw [h]; rfl
theorem irB_no1 {M : List (List Int)} {A mv : List Int} (h : cpB M A = false) : irB M A mv = false := by unfold irB; rw [h]; rfl
theorem irB_no2 {M : List (List Int)} {A mv : List Int} (h : ¬ mv.length ≤ 120) : irB M A mv = false := by unfold irB; rw [decide_eq_false h]; simp
theorem irB_yes {M : List (List Int)} {A mv : List Int} (h : cpB M A = true) (h2 : mv.length ≤ 120) : irB M A mv = true := by unfold irB; rw [h, decide_eq_true h2]; rfl
theorem irR_pl {M : List (List Int)} {A mv : List Int} (h : irB M A mv = true) : (rsF (plN M A) (plL M A) mv (plA M A) mv.length).isSome = irR M A mv := by
  have h1 : cpB M A = true := by unfold irB at h; rw [Bool.and_eq_true] at h; exact h.1
  rw [irR_yes h, plN_yes (cpB_iff.1 h1), plA_fun (cpB_iff.1 h1)]
attribute [local irreducible] p2 low memB risB
set_option maxHeartbeats 2000000 in
theorem implCanMove_c (v u : Value) (M : List (List Int)) (A : List Int) (w : World) (hl : rows w.heap.size w v M) (hs : small2 M) (hu : ints w.heap.size w u A) (hlen : A.length < 1000000000) (hT : tab w) :
    Calls Tryd.prog 15 #[.agg #[v, u]] w fun e w' => ∃ v', e = .returned (.tuple #[v', .bool (cpB M A)]) ∧ own 3 w' w.heap.size v' (cmR M A) ∧ Below w.heap.size w w' := by
  have HB0 := hide ((Below.refl w.heap.size w).alloc (Nat.le_refl _) (.cells #[v, u] 29))
  have HG := hide (pilesOf_c v u M A (w.alloc (.cells #[v, u] 29)) ((hl.alloc _).mono (by simp)) hs ((hu.alloc _).mono (by simp)) hlen)
  have HLN := hide (pl_ln M A)
  have HAT := hide (pl_at M A)
  have HT := hide hT
  clear hl hu hT
  have HR := hide (cmR_pl M A)
  rw [← HR.out]
  generalize plN M A = n at *
  generalize plL M A = L at *
  generalize plA M A = a at *
  generalize cpB M A = ok at *
  have h5 := HLN.out.n5
  have HOP := hide (fun w1 => open_cY n L a w1 HLN.out)
  have HIT := hide (fun w1 (h : tab w1) => items_c (opM n L a) w1 (opM_lt h5 L a) h)
  rw [opL_items h5] at HIT
  generalize opM n L a = O at *
  generalize opL n L a = I at *
  go_enter Tryd.func15, Tryd.ntmps15
  go_wp2_with (first
    | (go_at_call 44; refine HG.out.mono ?_; rintro e w2 ⟨rfl, hb2⟩; have hz2 := hb2.size; simp at hz2; have HB2 := hide (bl_row ((HB0.out.trans (hb2.mono (by simp))).alloc (by omega) (.cells (rowV (plR 0 zL zA)) 55)) (show w.heap.size ≤ w2.heap.size by omega) (rowV (plR n L a))); have HK2 := hide (pkAt.new w2 0 zL zA); have HK3 := hide ((pkAt.new w2 0 zL zA).row (m := n) (K := L) (b := a)); have HZ3 := hide (show ((w2.alloc (.cells (rowV (plR 0 zL zA)) 55)).setRow w2.heap.size (rowV (plR n L a))).heap.size = w2.heap.size + 1 by simp [World.setRow]); clear hb2)
    | (refine wpList_alloc_csY zeroPK rfl rfl _ rfl ?_)
    | (refine wpList_store_csY (sizePKl n L a) rfl (.tmp 4) (.tmp _) rfl w2.heap.size rfl rfl _ HK2.out (by simp [rowV, plR_len]) (rowV_one _) ?_)
    | (refine wpList_load_csY rowPK (sizePKl n L a) rfl (.tmp 4) rfl w2.heap.size rfl HK3.out ?_)
    | (go_at_call 45; refine (HOP.out _).mono ?_; rintro e w3 ⟨rfl, hb3⟩; have hz3 := hb3.size; rw [HZ3.out] at hz3; have HB3 := hide (HB2.out.trans (hb3.mono (by rw [HZ3.out]; omega))); clear hb3)
    | (go_at_call 46; refine (HIT.out _ (HT.out.below HB3.out)).mono ?_; rintro e w4 ⟨v4, rfl, ho4, hb4⟩; have HB4 := hide (HB3.out.trans (hb4.mono (by omega))); have HO4 := hide (show own 3 w4 w.heap.size v4 _ from ho4.mono (by omega)); clear hb4 ho4))
  go_ret2
  exact ⟨_, rfl, HO4.out, HB4.out⟩
set_option maxHeartbeats 2000000 in
theorem specCanMove_c (v u : Value) (M : List (List Int)) (A : List Int) (w : World) (hl : rows w.heap.size w v M) (hs : small2 M) (hu : ints w.heap.size w u A) (hlen : A.length < 1000000000) (_hT : tab w) :
    Calls Tryd.prog 13 #[.agg #[v, u]] w fun e w' => ∃ v', e = .returned (.tuple #[v', .bool (cpB M A)]) ∧ own 3 w' w.heap.size v' (cmR M A) ∧ Below w.heap.size w w' := by
  have HB0 := hide (by_start 29 v u w)
  have HG := hide (waGood_c v u M A (w.alloc (.cells #[v, u] 29)) ((hl.alloc _).mono (by simp)) hs ((hu.alloc _).mono (by simp)) hlen)
  have HU := hide hu
  have HL := hide hl
  clear hl hu
  cases hc : cpB M A
  · rw [hc] at HG
    rw [cmR_no hc]
    go_enter Tryd.func13, Tryd.ntmps13
    go_wp2_with (first
      | (go_at_call 41; refine HG.out.mono ?_; rintro e w2 ⟨rfl, hb2⟩; have HB2 := hide (by_to HB0.out hb2); clear hb2)
      )
    go_ret2
    exact ⟨_, rfl, own_nil _ _ _, by_below HB2.out⟩
  · have hp := cpB_iff.1 hc
    have HR := hide (cmR_yes hc)
    have HMV := hide (fun w1 (h : Below w.heap.size w w1) => waMoves_c v u u M A (atN A) w1 ((HL.out.below h (Nat.le_refl _)).mono h.size) hp (by rw [toL_self]; exact (HU.out.below h (Nat.le_refl _)).mono h.size))
    rw [hc] at HG
    rw [HR.out]
    clear hp hc HR
    generalize opL A.length (plL M A) (atN A) = I at *
    go_enter Tryd.func13, Tryd.ntmps13
    go_wp2_with (first
      | (go_at_call 41; refine HG.out.mono ?_; rintro e w2 ⟨rfl, hb2⟩; have HB2 := hide (by_to HB0.out hb2); have c0 := by_cell0 HB2.out; have c1 := by_cell1 HB2.out; have hz2 := by_size HB2.out; clear hb2)
      | (go_at_call 42; refine (HMV.out _ (by_below HB2.out)).mono ?_; rintro e w3 ⟨v3, rfl, ho3, hb3⟩; have HB3 := hide (by_to HB2.out hb3); have HO3 := hide (show own 3 w3 w.heap.size v3 _ from ho3.mono (by omega)); clear hb3 ho3))
    go_ret2
    exact ⟨_, rfl, HO3.out, by_below HB3.out⟩
set_option maxHeartbeats 2000000 in
theorem implIsRun_c (v u : Value) (M : List (List Int)) (A : List Int) (z : Value) (mv : List Int) (w : World) (hl : rows w.heap.size w v M) (hs : small2 M) (hu : ints w.heap.size w u A) (hlen : A.length < 1000000000) (hm : ints w.heap.size w z mv) (_hml : mv.length < 1000000000) (hT : tab w) :
    Calls Tryd.prog 28 #[.agg #[v, u], z] w fun e w' => e = .returned (.tuple #[.bool (irR M A mv), .bool (irB M A mv)]) ∧ Below w.heap.size w w' := by
  obtain ⟨za, zc, hz⟩ := hm.shape
  subst hz
  have HM := hide hm
  have HB0 := hide ((Below.refl w.heap.size w).alloc (Nat.le_refl _) (.cells #[v, u] 29))
  have HG := hide (pilesOf_c v u M A (w.alloc (.cells #[v, u] 29)) ((hl.alloc _).mono (by simp)) hs ((hu.alloc _).mono (by simp)) hlen)
  have HLN := hide (pl_ln M A)
  have HAT := hide (pl_at M A)
  have HT := hide hT
  clear hl hu hT
  clear hm
  cases hc : cpB M A
  · rw [hc] at HG
    rw [irR_no (irB_no1 hc), irB_no1 hc]
    clear hc
    generalize plN M A = n at *
    generalize plL M A = L at *
    generalize plA M A = a at *
    go_enter Tryd.func28, Tryd.ntmps28
    go_wp2_with (first
      | (go_at_call 44; refine HG.out.mono ?_; rintro e w2 ⟨rfl, hb2⟩; have hz2 := hb2.size; simp at hz2; have HB2 := hide (bl_row ((HB0.out.trans (hb2.mono (by simp))).alloc (by omega) (.cells (rowV (plR 0 zL zA)) 55)) (show w.heap.size ≤ w2.heap.size by omega) (rowV (plR n L a))); have HK2 := hide (pkAt.new w2 0 zL zA); have HK3 := hide ((pkAt.new w2 0 zL zA).row (m := n) (K := L) (b := a)); have HZ3 := hide (show ((w2.alloc (.cells (rowV (plR 0 zL zA)) 55)).setRow w2.heap.size (rowV (plR n L a))).heap.size = w2.heap.size + 1 by simp [World.setRow]); clear hb2)
      | (refine wpList_alloc_csY zeroPK rfl rfl _ rfl ?_)
      | (refine wpList_store_csY (sizePKl n L a) rfl (.tmp 6) (.tmp _) rfl w2.heap.size rfl rfl _ HK2.out (by simp [rowV, plR_len]) (rowV_one _) ?_))
    go_ret2
    exact ⟨rfl, HB2.out⟩
  · by_cases hm120 : mv.length ≤ 120
    · have HIR := hide (irR_pl (irB_yes hc hm120))
      have HIB := hide (irB_yes hc hm120)
      have hgt : ¬ ((120 : Int) < (mv.length : Int)) := by omega
      rw [hc] at HG
      rw [← HIR.out, HIB.out]
      clear hc
      generalize plN M A = n at *
      generalize plL M A = L at *
      generalize plA M A = a at *
      have HBH := hide (fun w1 (h : Below w.heap.size w w1) => behind_c n L a za zc mv w1 HLN.out HAT.out ((HM.out.below h (Nat.le_refl _)).mono h.size) hm120 (HT.out.below h))
      generalize (rsF n L mv a mv.length).isSome = ir at *
      go_enter Tryd.func28, Tryd.ntmps28
      go_wp2_with (first
        | (go_at_call 44; refine HG.out.mono ?_; rintro e w2 ⟨rfl, hb2⟩; have hz2 := hb2.size; simp at hz2; have HB2 := hide (bl_row ((HB0.out.trans (hb2.mono (by simp))).alloc (by omega) (.cells (rowV (plR 0 zL zA)) 55)) (show w.heap.size ≤ w2.heap.size by omega) (rowV (plR n L a))); have HK2 := hide (pkAt.new w2 0 zL zA); have HK3 := hide ((pkAt.new w2 0 zL zA).row (m := n) (K := L) (b := a)); have HZ3 := hide (show ((w2.alloc (.cells (rowV (plR 0 zL zA)) 55)).setRow w2.heap.size (rowV (plR n L a))).heap.size = w2.heap.size + 1 by simp [World.setRow]); clear hb2)
        | (refine wpList_alloc_csY zeroPK rfl rfl _ rfl ?_)
        | (refine wpList_store_csY (sizePKl n L a) rfl (.tmp 6) (.tmp _) rfl w2.heap.size rfl rfl _ HK2.out (by simp [rowV, plR_len]) (rowV_one _) ?_)
        | (refine wpList_load_csY rowPK (sizePKl n L a) rfl (.tmp 6) rfl w2.heap.size rfl HK3.out ?_)
        | (go_at_call 55; refine (HBH.out _ HB2.out).mono ?_; rintro e w3 ⟨b, rfl, _, hb3⟩; have hz3 := hb3.size; rw [HZ3.out] at hz3; have HK4 := hide (pkAt.new w3 0 zL zA); have HB4 := hide (bl_row ((HB2.out.trans (hb3.mono (by rw [HZ3.out]; omega))).alloc (by omega) (.cells (rowV (plR 0 zL zA)) 55)) (show w.heap.size ≤ w3.heap.size by omega) (rowV (plR n L b))); clear hb3)
        | (refine wpList_store_csY (sizePKl n L b) rfl (.tmp 8) (.tmp _) rfl w3.heap.size rfl rfl _ HK4.out (by simp [rowV, plR_len]) (rowV_one _) ?_))
      go_ret2
      exact ⟨rfl, HB4.out⟩
    · rw [hc] at HG
      rw [irR_no (irB_no2 hm120), irB_no2 hm120]
      have hgt : (120 : Int) < (mv.length : Int) := by omega
      clear hc
      generalize plN M A = n at *
      generalize plL M A = L at *
      generalize plA M A = a at *
      go_enter Tryd.func28, Tryd.ntmps28
      go_wp2_with (first
        | (go_at_call 44; refine HG.out.mono ?_; rintro e w2 ⟨rfl, hb2⟩; have hz2 := hb2.size; simp at hz2; have HB2 := hide (bl_row ((HB0.out.trans (hb2.mono (by simp))).alloc (by omega) (.cells (rowV (plR 0 zL zA)) 55)) (show w.heap.size ≤ w2.heap.size by omega) (rowV (plR n L a))); have HK2 := hide (pkAt.new w2 0 zL zA); have HK3 := hide ((pkAt.new w2 0 zL zA).row (m := n) (K := L) (b := a)); have HZ3 := hide (show ((w2.alloc (.cells (rowV (plR 0 zL zA)) 55)).setRow w2.heap.size (rowV (plR n L a))).heap.size = w2.heap.size + 1 by simp [World.setRow]); clear hb2)
        | (refine wpList_alloc_csY zeroPK rfl rfl _ rfl ?_)
        | (refine wpList_store_csY (sizePKl n L a) rfl (.tmp 6) (.tmp _) rfl w2.heap.size rfl rfl _ HK2.out (by simp [rowV, plR_len]) (rowV_one _) ?_))
      go_ret2
      exact ⟨rfl, HB2.out⟩
set_option maxHeartbeats 2000000 in
theorem specIsRun_c (v u : Value) (M : List (List Int)) (A : List Int) (z : Value) (mv : List Int) (w : World) (hl : rows w.heap.size w v M) (hs : small2 M) (hu : ints w.heap.size w u A) (hlen : A.length < 1000000000) (hm : ints w.heap.size w z mv) (_hml : mv.length < 1000000000) (_hT : tab w) :
    Calls Tryd.prog 27 #[.agg #[v, u], z] w fun e w' => e = .returned (.tuple #[.bool (irR M A mv), .bool (irB M A mv)]) ∧ Below w.heap.size w w' := by
  obtain ⟨za, zc, hz⟩ := hm.shape
  subst hz
  have HM := hide hm
  have HB0 := hide (by_start 29 v u w)
  have HG := hide (waGood_c v u M A (w.alloc (.cells #[v, u] 29)) ((hl.alloc _).mono (by simp)) hs ((hu.alloc _).mono (by simp)) hlen)
  have HU := hide hu
  have HL := hide hl
  clear hl hu
  clear hm
  cases hc : cpB M A
  · rw [hc] at HG
    rw [irR_no (irB_no1 hc), irB_no1 hc]
    clear hc
    go_enter Tryd.func27, Tryd.ntmps27
    go_wp2_with (first
      | (go_at_call 41; refine HG.out.mono ?_; rintro e w2 ⟨rfl, hb2⟩; have HB2 := hide (by_to HB0.out hb2); clear hb2)
      )
    go_ret2
    exact ⟨rfl, by_below HB2.out⟩
  · by_cases hm120 : mv.length ≤ 120
    · have HIR := hide (irR_yes (irB_yes hc hm120))
      have HIB := hide (irB_yes hc hm120)
      have hgt : ¬ ((120 : Int) < (mv.length : Int)) := by omega
      have hp := cpB_iff.1 hc
      have HRU := hide (fun w1 (h : Below w.heap.size w w1) => waRun_c v u (.slice za mv.length zc) M A mv w1 ((HL.out.below h (Nat.le_refl _)).mono h.size) hp ((HU.out.below h (Nat.le_refl _)).mono h.size) ((HM.out.below h (Nat.le_refl _)).mono h.size) hm120)
      rw [hc] at HG
      rw [HIR.out, HIB.out]
      clear hc hp HIR HIB
      generalize (rsF A.length (plL M A) mv (atN A) mv.length).isSome = ir at *
      go_enter Tryd.func27, Tryd.ntmps27
      go_wp2_with (first
        | (go_at_call 41; refine HG.out.mono ?_; rintro e w2 ⟨rfl, hb2⟩; have HB2 := hide (by_to HB0.out hb2); have c0 := by_cell0 HB2.out; have c1 := by_cell1 HB2.out; have hz2 := by_size HB2.out; clear hb2)
        | (go_at_call 54; refine (HRU.out _ (by_below HB2.out)).mono ?_; rintro e w3 ⟨v3, rfl, ho3, hb3⟩; have HB3 := hide (by_to HB2.out hb3); clear hb3 ho3))
      go_ret2
      exact ⟨rfl, by_below HB3.out⟩
    · rw [hc] at HG
      rw [irR_no (irB_no2 hm120), irB_no2 hm120]
      have hgt : (120 : Int) < (mv.length : Int) := by omega
      clear hc
      go_enter Tryd.func27, Tryd.ntmps27
      go_wp2_with (first
        | (go_at_call 41; refine HG.out.mono ?_; rintro e w2 ⟨rfl, hb2⟩; have HB2 := hide (by_to HB0.out hb2); clear hb2)
        )
      go_ret2
      exact ⟨rfl, by_below HB2.out⟩
end Go.Proofs.YtjmhmmenampgbaaDoor
