/- Contracts: RunBy, FirstRun, NeverEnds, the program's and the specification's. -/
import Derived.Test.YtjmhmmenampgbaaDoorYp
import Derived.Test.YtjmhmmenampgbaaDoorYf
import Derived.Test.YtjmhmmenampgbaaDoorYt
namespace Go.Proofs.YtjmhmmenampgbaaDoor
open Go.RowKit
set_option maxRecDepth 100000
set_option linter.unusedSimpArgs false
noncomputable def fuR (M : List (List Int)) (A ch : List Int) : List Int × (Nat → Int) × Bool := frF A.length (plL M A) ch 60 0 (atN A)
theorem fuR_pl {M : List (List Int)} {A : List Int} (h : cpB M A = true) (ch : List Int) : frF (plN M A) (plL M A) ch 60 0 (plA M A) = fuR M A ch := by
  unfold fuR
  rw [plN_yes (cpB_iff.1 h), plA_fun (cpB_iff.1 h)]
noncomputable def rbyB (M : List (List Int)) (A ch : List Int) : Bool := (cpB M A && chB 60 ch) && (fuR M A ch).2.2
noncomputable def rbyL (M : List (List Int)) (A ch : List Int) : List Int := if rbyB M A ch then (fuR M A ch).1 else []
theorem rby_no {M : List (List Int)} {A ch : List Int} (h : (cpB M A && chB 60 ch) = false) : rbyB M A ch = false ∧ rbyL M A ch = [] := by
  have h1 : rbyB M A ch = false := by unfold rbyB; rw [h]; rfl
  exact ⟨h1, by unfold rbyL; rw [h1]; rfl⟩
theorem rby_yes {M : List (List Int)} {A ch : List Int} (h : (cpB M A && chB 60 ch) = true) : rbyB M A ch = (fuR M A ch).2.2 ∧ rbyL M A ch = frR (fuR M A ch) := by
  have h1 : rbyB M A ch = (fuR M A ch).2.2 := by unfold rbyB; rw [h]; rfl
  exact ⟨h1, by unfold rbyL frR; rw [h1]⟩
theorem frF_len (n : Nat) (L : Nat → Nat → Int) (ch : List Int) : ∀ f k a, (frF n L ch f k a).1.length ≤ f
  | 0, _, _ => by simp [frF]
  | f + 1, k, a => by
    rw [frF]
    split
    · simp
    · have := frF_len n L ch f (k + 1) (mvF L (chV ch k (opL n L a)).toNat a)
      simp; omega
theorem rbyL_len (M : List (List Int)) (A ch : List Int) : (rbyL M A ch).length < 1000000000 := by
  unfold rbyL
  split
  · unfold fuR
    have := frF_len A.length (plL M A) ch 60 0 (atN A)
    omega
  · simp
theorem chB_nil (m : Int) (h : 0 ≤ m) : chB m [] = true := by
  unfold chB
  rw [decide_eq_true (by simpa using h)]; rfl
theorem chB_inY {ch : List Int} {m : Int} (h : chB m ch = true) : (ch.length : Int) ≤ m ∧ ∀ k, k < ch.length → 0 ≤ ch[k]?.getD 0 := by
  unfold chB at h
  rw [Bool.and_eq_true, decide_eq_true_eq, Bool.not_eq_true'] at h
  exact ⟨h.1, ngTo_no _ h.2⟩
theorem frC_last {P Q : List Int} (hP : P.length = 31) (hQ : Q.length = 31) (v : Value) : (frC P Q v)[62]? = some v := by
  unfold frC
  rw [Array.getElem?_append_right (by simp [rowV_size, hP, hQ])]
  simp [rowV_size, hP, hQ]
/-- A full run in a block: its moves. -/
theorem frC_cell {w : World} {g : Nat} {P Q : List Int} {v : Value} (h : w.heap[g]? = some (.cells (frC P Q v) 71)) (hP : P.length = 31) (hQ : Q.length = 31) : w.cell? ⟨g, 62, none⟩ = some v := by
  rw [hp_cell h]
  exact frC_last hP hQ v
attribute [local irreducible] p2 low memB risB
set_option maxHeartbeats 2000000 in
theorem implRunBy_c (v u : Value) (M : List (List Int)) (A : List Int) (z : Value) (ch : List Int) (w : World) (hl : rows w.heap.size w v M) (hs : small2 M) (hu : ints w.heap.size w u A) (hlen : A.length < 1000000000) (hm : ints w.heap.size w z ch) (hml : ch.length < 1000000000) (hT : tab w) :
    Calls Tryd.prog 36 #[.agg #[v, u], z] w fun e w' => ∃ v', e = .returned (.tuple #[v', .bool (rbyB M A ch)]) ∧ own 3 w' w.heap.size v' (rbyL M A ch) ∧ Below w.heap.size w w' := by
  obtain ⟨za, zc, hz⟩ := hm.shape
  subst hz
  have HM := hide hm
  have HB0 := hide ((Below.refl w.heap.size w).alloc (Nat.le_refl _) (.cells #[v, u] 29))
  have HG := hide (pilesOf_c v u M A (w.alloc (.cells #[v, u] 29)) ((hl.alloc _).mono (by simp)) hs ((hu.alloc _).mono (by simp)) hlen)
  have HLN := hide (pl_ln M A)
  have HAT := hide (pl_at M A)
  have HT := hide hT
  clear hl hu hT
  clear hm
  have HCH := hide (fun w1 (h : Below w.heap.size w w1) => areChoices_c (.slice za ch.length zc) ch 60 w1 ((HM.out.below h (Nat.le_refl _)).mono h.size) hml)
  cases hc : cpB M A
  · have HNO := hide (rby_no (M := M) (A := A) (ch := ch) (by rw [hc]; rfl))
    rw [hc] at HG
    rw [HNO.out.1, HNO.out.2]
    clear hc
    generalize plN M A = n at *
    generalize plL M A = L at *
    generalize plA M A = a at *
    go_enter Tryd.func36, Tryd.ntmps36
    go_wp2_with (first
      | (go_at_call 44; refine HG.out.mono ?_; rintro e w2 ⟨rfl, hb2⟩; have hz2 := hb2.size; simp at hz2; have HB2 := hide (bl_row ((HB0.out.trans (hb2.mono (by simp))).alloc (by omega) (.cells (rowV (plR 0 zL zA)) 55)) (show w.heap.size ≤ w2.heap.size by omega) (rowV (plR n L a))); have HK2 := hide (pkAt.new w2 0 zL zA); have HK3 := hide ((pkAt.new w2 0 zL zA).row (m := n) (K := L) (b := a)); have HZ3 := hide (show ((w2.alloc (.cells (rowV (plR 0 zL zA)) 55)).setRow w2.heap.size (rowV (plR n L a))).heap.size = w2.heap.size + 1 by simp [World.setRow]); clear hb2)
      | (refine wpList_alloc_csY zeroPK rfl rfl _ rfl ?_)
      | (refine wpList_store_csY (sizePKl n L a) rfl (.tmp 6) (.tmp _) rfl w2.heap.size rfl rfl _ HK2.out (by simp [rowV, plR_len]) (rowV_one _) ?_))
    go_ret2
    exact ⟨_, rfl, own_nil _ _ _, HB2.out⟩
  · cases hb : chB 60 ch
    · have HNO := hide (rby_no (M := M) (A := A) (ch := ch) (by rw [hc, hb]; rfl))
      rw [hc] at HG
      rw [hb] at HCH
      rw [HNO.out.1, HNO.out.2]
      clear hc hb
      generalize plN M A = n at *
      generalize plL M A = L at *
      generalize plA M A = a at *
      go_enter Tryd.func36, Tryd.ntmps36
      go_wp2_with (first
        | (go_at_call 44; refine HG.out.mono ?_; rintro e w2 ⟨rfl, hb2⟩; have hz2 := hb2.size; simp at hz2; have HB2 := hide (bl_row ((HB0.out.trans (hb2.mono (by simp))).alloc (by omega) (.cells (rowV (plR 0 zL zA)) 55)) (show w.heap.size ≤ w2.heap.size by omega) (rowV (plR n L a))); have HK2 := hide (pkAt.new w2 0 zL zA); have HK3 := hide ((pkAt.new w2 0 zL zA).row (m := n) (K := L) (b := a)); have HZ3 := hide (show ((w2.alloc (.cells (rowV (plR 0 zL zA)) 55)).setRow w2.heap.size (rowV (plR n L a))).heap.size = w2.heap.size + 1 by simp [World.setRow]); clear hb2)
        | (refine wpList_alloc_csY zeroPK rfl rfl _ rfl ?_)
        | (refine wpList_store_csY (sizePKl n L a) rfl (.tmp 6) (.tmp _) rfl w2.heap.size rfl rfl _ HK2.out (by simp [rowV, plR_len]) (rowV_one _) ?_)
        | (go_at_call 62; refine (HCH.out _ HB2.out).mono ?_; rintro e w3 ⟨rfl, hb3⟩; have HB3 := hide (HB2.out.trans (hb3.mono (by rw [HZ3.out]; omega))); clear hb3))
      go_ret2
      exact ⟨_, rfl, own_nil _ _ _, HB3.out⟩
    · have HYES := hide (rby_yes (M := M) (A := A) (ch := ch) (by rw [hc, hb]; rfl))
      have hpos := (chB_inY hb).2
      have HFP := hide (fuR_pl hc ch)
      rw [hc] at HG
      rw [hb] at HCH
      rw [HYES.out.1, HYES.out.2, ← HFP.out]
      clear hc hb
      generalize plN M A = n at *
      generalize plL M A = L at *
      generalize plA M A = a at *
      have HFR := hide (fun w1 (h : Below w.heap.size w w1) => fullRun_c n L a za zc ch w1 HLN.out HAT.out ((HM.out.below h (Nat.le_refl _)).mono h.size) hml hpos (HT.out.below h))
      clear hpos
      generalize frF n L ch 60 0 a = R at *
      obtain ⟨R1, b, ok⟩ := R
      simp only at HFR ⊢
      cases ok
      · simp only [Bool.false_eq_true, if_false] at HFR
        go_enter Tryd.func36, Tryd.ntmps36
        go_wp2_with (first
          | (go_at_call 44; refine HG.out.mono ?_; rintro e w2 ⟨rfl, hb2⟩; have hz2 := hb2.size; simp at hz2; have HB2 := hide (bl_row ((HB0.out.trans (hb2.mono (by simp))).alloc (by omega) (.cells (rowV (plR 0 zL zA)) 55)) (show w.heap.size ≤ w2.heap.size by omega) (rowV (plR n L a))); have HK2 := hide (pkAt.new w2 0 zL zA); have HK3 := hide ((pkAt.new w2 0 zL zA).row (m := n) (K := L) (b := a)); have HZ3 := hide (show ((w2.alloc (.cells (rowV (plR 0 zL zA)) 55)).setRow w2.heap.size (rowV (plR n L a))).heap.size = w2.heap.size + 1 by simp [World.setRow]); clear hb2)
          | (refine wpList_alloc_csY zeroPK rfl rfl _ rfl ?_)
          | (refine wpList_store_csY (sizePKl n L a) rfl (.tmp 6) (.tmp _) rfl w2.heap.size rfl rfl _ HK2.out (by simp [rowV, plR_len]) (rowV_one _) ?_)
          | (refine wpList_load_csY rowPK (sizePKl n L a) rfl (.tmp 6) rfl w2.heap.size rfl HK4.out ?_)
          | (go_at_call 62; refine (HCH.out _ HB2.out).mono ?_; rintro e w3 ⟨rfl, hb3⟩; have hz3 := hb3.size; rw [HZ3.out] at hz3; have HK4 := hide (HK3.out.below hb3 (by rw [HZ3.out]; omega)); have HB3 := hide (HB2.out.trans (hb3.mono (by rw [HZ3.out]; omega))); clear hb3)
          | fail)
        refine (HFR.out _ HB3.out).mono ?_
        rintro e w4 ⟨xv, rfl, ho4, hb4⟩
        obtain ⟨xa, xc, hxv⟩ := ho4.shape
        subst hxv
        have hz4 := hb4.size
        have HO4 := hide (show own 3 w4 w.heap.size _ _ from ho4.mono (by omega))
        have HB4 := hide (HB3.out.trans (hb4.mono (by omega)))
        have HK5 := hide (hp_last w4 (.cells (frC (plR 0 zL zA) (plR 0 zL zA) (.slice none 0 0)) 71))
        clear ho4 hb4
        have HFS0 := hide (fun (P Q : List Int) (x : Value) (hP : P.length = 31) (hQ : Q.length = 31) => show (Tryd.prog.info? 71).map (·.size) = some (frC P Q x).size by rw [frC_size hP hQ]; exact sizeFR)
        have HFC := hide (frC_one (plR 0 zL zA) (plR 0 zL zA) none 0 0)
        go_wp2_with (first
          | (refine wpList_alloc_csY zeroFR rfl rfl _ rfl ?_)
          | (refine wpList_store_csY (cs := frC (plR 0 zL zA) (plR 0 zL zA) (.slice none 0 0)) (HFS0.out _ _ _ (plR_len _ _ _) (plR_len _ _ _)) rfl (.tmp 8) (.tmp _) rfl w4.heap.size rfl rfl _ HK5.out rfl HFC.out ?_; have HB5 := hide (bl_row (HB4.out.alloc (by omega) (.cells (frC (plR 0 zL zA) (plR 0 zL zA) (.slice none 0 0)) 71)) (show w.heap.size ≤ w4.heap.size by omega) (frC (plR 0 zL zA) (plR 0 zL zA) (.slice none 0 0))); have c62 := frC_cell (hp_row _ _ _ (frC (plR 0 zL zA) (plR 0 zL zA) (.slice none 0 0)) _ HK5.out) (plR_len 0 zL zA) (plR_len 0 zL zA)))
        go_ret2
        exact ⟨_, rfl, own_nil _ _ _, HB5.out⟩
      · simp only [if_true] at HFR
        go_enter Tryd.func36, Tryd.ntmps36
        go_wp2_with (first
          | (go_at_call 44; refine HG.out.mono ?_; rintro e w2 ⟨rfl, hb2⟩; have hz2 := hb2.size; simp at hz2; have HB2 := hide (bl_row ((HB0.out.trans (hb2.mono (by simp))).alloc (by omega) (.cells (rowV (plR 0 zL zA)) 55)) (show w.heap.size ≤ w2.heap.size by omega) (rowV (plR n L a))); have HK2 := hide (pkAt.new w2 0 zL zA); have HK3 := hide ((pkAt.new w2 0 zL zA).row (m := n) (K := L) (b := a)); have HZ3 := hide (show ((w2.alloc (.cells (rowV (plR 0 zL zA)) 55)).setRow w2.heap.size (rowV (plR n L a))).heap.size = w2.heap.size + 1 by simp [World.setRow]); clear hb2)
          | (refine wpList_alloc_csY zeroPK rfl rfl _ rfl ?_)
          | (refine wpList_store_csY (sizePKl n L a) rfl (.tmp 6) (.tmp _) rfl w2.heap.size rfl rfl _ HK2.out (by simp [rowV, plR_len]) (rowV_one _) ?_)
          | (refine wpList_load_csY rowPK (sizePKl n L a) rfl (.tmp 6) rfl w2.heap.size rfl HK4.out ?_)
          | (go_at_call 62; refine (HCH.out _ HB2.out).mono ?_; rintro e w3 ⟨rfl, hb3⟩; have hz3 := hb3.size; rw [HZ3.out] at hz3; have HK4 := hide (HK3.out.below hb3 (by rw [HZ3.out]; omega)); have HB3 := hide (HB2.out.trans (hb3.mono (by rw [HZ3.out]; omega))); clear hb3)
          | fail)
        refine (HFR.out _ HB3.out).mono ?_
        rintro e w4 ⟨xv, rfl, ho4, hb4⟩
        obtain ⟨xa, xc, hxv⟩ := ho4.shape
        subst hxv
        have hz4 := hb4.size
        have HO4 := hide (show own 3 w4 w.heap.size _ _ from ho4.mono (by omega))
        have HB4 := hide (HB3.out.trans (hb4.mono (by omega)))
        have HK5 := hide (hp_last w4 (.cells (frC (plR 0 zL zA) (plR 0 zL zA) (.slice none 0 0)) 71))
        clear ho4 hb4
        have HFS0 := hide (fun (P Q : List Int) (x : Value) (hP : P.length = 31) (hQ : Q.length = 31) => show (Tryd.prog.info? 71).map (·.size) = some (frC P Q x).size by rw [frC_size hP hQ]; exact sizeFR)
        have HFC := hide (frC_one (plR n L a) (plR n L b) xa R1.length xc)
        go_wp2_with (first
          | (refine wpList_alloc_csY zeroFR rfl rfl _ rfl ?_)
          | (refine wpList_store_csY (cs := frC (plR n L a) (plR n L b) (.slice xa R1.length xc)) (HFS0.out _ _ _ (plR_len _ _ _) (plR_len _ _ _)) rfl (.tmp 8) (.tmp _) rfl w4.heap.size rfl rfl _ HK5.out (by rw [frC_size (plR_len _ _ _) (plR_len _ _ _), frC_size (plR_len _ _ _) (plR_len _ _ _)]) HFC.out ?_; have HB5 := hide (bl_row (HB4.out.alloc (by omega) (.cells (frC (plR 0 zL zA) (plR 0 zL zA) (.slice none 0 0)) 71)) (show w.heap.size ≤ w4.heap.size by omega) (frC (plR n L a) (plR n L b) (.slice xa R1.length xc))); have c62 := frC_cell (hp_row _ _ _ (frC (plR n L a) (plR n L b) (.slice xa R1.length xc)) _ HK5.out) (plR_len n L a) (plR_len n L b); have HO5 := hide (HO4.out.kept (bl_row ((Below.refl w4.heap.size w4).alloc (Nat.le_refl _) (.cells (frC (plR 0 zL zA) (plR 0 zL zA) (.slice none 0 0)) 71)) (Nat.le_refl _) (frC (plR n L a) (plR n L b) (.slice xa R1.length xc))))))
        go_ret2
        exact ⟨_, rfl, HO5.out, HB5.out⟩
end Go.Proofs.YtjmhmmenampgbaaDoor
