/- Contracts: the first full run of chips; MoveCounts, both. -/
import Derived.Test.YtjmhmmenampgbaaDoorYw
namespace Go.Proofs.YtjmhmmenampgbaaDoor
open Go.RowKit
set_option maxRecDepth 100000
set_option linter.unusedSimpArgs false
noncomputable def foB (M : List (List Int)) (A : List Int) : Bool := cpB M A && (fuR M A []).2.2
theorem foB_no {M : List (List Int)} {A : List Int} (h : cpB M A = false) : foB M A = false := by unfold foB; rw [h]; rfl
theorem foB_yes {M : List (List Int)} {A : List Int} (h : cpB M A = true) : foB M A = (fuR M A []).2.2 := by unfold foB; rw [h]; rfl
noncomputable def mcL (M : List (List Int)) (A : List Int) : List Int := if foB M A then toL A.length (fun i => ctF (fuR M A []).1 i (fuR M A []).1.length) else []
theorem mcL_no {M : List (List Int)} {A : List Int} (h : foB M A = false) : mcL M A = [] := by unfold mcL; rw [h]; rfl
theorem mcL_yes {M : List (List Int)} {A : List Int} (h : foB M A = true) : mcL M A = toL A.length (fun i => ctF (fuR M A []).1 i (fuR M A []).1.length) := by unfold mcL; rw [if_pos h]
theorem mcL_len (M : List (List Int)) (A : List Int) : (mcL M A).length < 1000000000 := by
  cases h : foB M A
  · rw [mcL_no h]; simp
  · rw [mcL_yes h, toL_len]
    have h1 : cpB M A = true := by unfold foB at h; rw [Bool.and_eq_true] at h; exact h.1
    have := (cpB_iff.1 h1).n5
    omega
/-- The moves of a full run: places, at most 60 of them. -/
theorem fuR_in {M : List (List Int)} {A : List Int} (h : cpB M A = true) (ch : List Int) : (fuR M A ch).1.length ≤ 60 ∧ ∀ k, k < (fuR M A ch).1.length → 0 ≤ (fuR M A ch).1[k]?.getD 0 ∧ (fuR M A ch).1[k]?.getD 0 < (A.length : Int) := by
  have hp := cpB_iff.1 h
  have hL : LnOk A.length (plL M A) := by have := pl_ln M A; rwa [plN_yes hp] at this
  have hA : AtOk A.length (atN A) 30 := by have := pl_at M A; rwa [plN_yes hp, plA_fun hp] at this
  obtain ⟨_, h2, h3⟩ := frF_ok hL (ch := ch) (f := 60) (k := 0) hA
  refine ⟨h2, fun k hk => ?_⟩
  have h4 := h3 ((fuR M A ch).1[k]) (List.getElem_mem hk)
  rw [List.getElem?_eq_getElem hk, Option.getD_some]
  omega
theorem frC_first {P Q : List Int} (hP : P.length = 31) (v : Value) : (frC P Q v)[0]? = some (.int .i64 (P[0]?.getD 0)) := by
  unfold frC
  rw [Array.getElem?_append_left (by simp [rowV_size, hP]; omega), Array.getElem?_append_left (by simp [rowV_size, hP])]
  unfold rowV
  have h0 : 0 < P.length := by omega
  simp [h0]
attribute [local irreducible] p2 low memB risB
set_option maxHeartbeats 4000000 in
theorem fullRunOf_c (v u : Value) (M : List (List Int)) (A : List Int) (w : World) (hl : rows w.heap.size w v M) (hs : small2 M) (hu : ints w.heap.size w u A) (hlen : A.length < 1000000000) (hT : tab w) :
    Calls Tryd.prog 58 #[.agg #[v, u]] w fun e w' => ∃ xa xc, e = .returned (.tuple #[.agg (if foB M A then frC (plR (plN M A) (plL M A) (plA M A)) (plR (plN M A) (plL M A) (fuR M A []).2.1) (.slice xa (fuR M A []).1.length xc) else frC (plR 0 zL zA) (plR 0 zL zA) (.slice none 0 0)), .bool (foB M A)]) ∧ (foB M A = true → own 3 w' w.heap.size (.slice xa (fuR M A []).1.length xc) (fuR M A []).1) ∧ Below w.heap.size w w' := by
  have hb0 := ((Below.refl w.heap.size w).alloc (Nat.le_refl _) (.cells #[v, u] 29)).alloc (by simp) (.cells (frC (plR 0 zL zA) (plR 0 zL zA) (.slice none 0 0)) 71)
  have HB0 := hide hb0
  have HZ0 := hide (show ((w.alloc (.cells #[v, u] 29)).alloc (.cells (frC (plR 0 zL zA) (plR 0 zL zA) (.slice none 0 0)) 71)).heap[w.heap.size + 1]? = some (.cells (frC (plR 0 zL zA) (plR 0 zL zA) (.slice none 0 0)) 71) by have h := hp_last (w.alloc (.cells #[v, u] 29)) (.cells (frC (plR 0 zL zA) (plR 0 zL zA) (.slice none 0 0)) 71); simpa using h)
  have hz0 : ((w.alloc (.cells #[v, u] 29)).alloc (.cells (frC (plR 0 zL zA) (plR 0 zL zA) (.slice none 0 0)) 71)).heap.size = w.heap.size + 2 := by simp
  have HG := hide (pilesOf_c v u M A ((w.alloc (.cells #[v, u] 29)).alloc (.cells (frC (plR 0 zL zA) (plR 0 zL zA) (.slice none 0 0)) 71)) (((hl.alloc _).alloc _).mono (by simp; omega)) hs (((hu.alloc _).alloc _).mono (by simp; omega)) hlen)
  have HLN := hide (pl_ln M A)
  have HAT := hide (pl_at M A)
  have HT := hide hT
  have HFS0 := hide (fun (P Q : List Int) (x : Value) (hP : P.length = 31) (hQ : Q.length = 31) => show (Tryd.prog.info? 71).map (·.size) = some (frC P Q x).size by rw [frC_size hP hQ]; exact sizeFR)
  have HFC0 := hide (frC_one (plR 0 zL zA) (plR 0 zL zA) none 0 0)
  clear hl hu hT hb0
  cases hc : cpB M A
  · rw [foB_no hc]
    rw [hc] at HG
    clear hc
    simp only [Bool.false_eq_true, if_false]
    generalize plN M A = n at *
    generalize plL M A = L at *
    generalize plA M A = a at *
    go_enter Tryd.func58, Tryd.ntmps58
    go_wp2_with (first
      | (refine wpList_alloc_csY zeroFR rfl rfl _ (by first | (simp only [World.size_alloc]; rfl) | rfl) ?_)
      | (go_at_call 44; refine HG.out.mono ?_; rintro e w2 ⟨rfl, hb2⟩; have hz2 := hb2.size; rw [hz0] at hz2; have hb3 := bl_row ((Below.refl w2.heap.size w2).alloc (Nat.le_refl _) (.cells (rowV (plR 0 zL zA)) 55)) (Nat.le_refl _) (rowV (plR n L a)); have HZ3 := hide ((hb3.block (w.heap.size + 1) (by omega)).trans ((hb2.block (w.heap.size + 1) (by rw [hz0]; omega)).trans HZ0.out)); have HB2 := hide ((HB0.out.trans (hb2.mono (by rw [hz0]; omega))).trans (hb3.mono (by omega))); have HK2 := hide (pkAt.new w2 0 zL zA); have HK3 := hide ((pkAt.new w2 0 zL zA).row (m := n) (K := L) (b := a)); have HZ4 := hide (show ((w2.alloc (.cells (rowV (plR 0 zL zA)) 55)).setRow w2.heap.size (rowV (plR n L a))).heap.size = w2.heap.size + 1 by simp [World.setRow]); clear hb2 hb3)
      | (refine wpList_alloc_csY zeroPK rfl rfl _ rfl ?_)
      | (refine wpList_store_csY (sizePKl n L a) rfl (.tmp 4) (.tmp _) rfl w2.heap.size rfl rfl _ HK2.out (by simp [rowV, plR_len]) (rowV_one _) ?_)
      | (refine wpList_buildY rfl rfl _ builtFR0 ?_)
      | (refine wpList_store_csY (cs := frC (plR 0 zL zA) (plR 0 zL zA) (.slice none 0 0)) (HFS0.out _ _ _ (plR_len _ _ _) (plR_len _ _ _)) rfl (.tmp 2) (.tmp _) rfl (w.heap.size + 1) rfl rfl _ HZ3.out rfl HFC0.out ?_))
    refine (show bodyPost _ _ _ Exit.ret _ _ from ?_)
    exact bodyPost_ret (v := .tuple #[.agg (frC (plR 0 zL zA) (plR 0 zL zA) (.slice none 0 0)), .bool false]) (results_cs2Y (cs := frC (plR 0 zL zA) (plR 0 zL zA) (.slice none 0 0)) rowFR (HFS0.out _ _ _ (plR_len _ _ _) (plR_len _ _ _)) (fn := Tryd.f58) (p := 2) (q := 3) rfl _ _ (w.heap.size + 1) rfl (hp_row _ _ _ _ _ HZ3.out)) rfl ⟨none, 0, rfl, (fun h => by cases h), bl_row HB2.out (by omega) _⟩
  · have HFP := hide (fuR_pl hc [])
    rw [foB_yes hc, ← HFP.out]
    rw [hc] at HG
    clear hc
    generalize plN M A = n at *
    generalize plL M A = L at *
    generalize plA M A = a at *
    have HFR := hide (fun w1 (h : Below w.heap.size w w1) => fullRun_c n L a none 0 [] w1 HLN.out HAT.out (ints_nilY _ _) (by simp) (fun k hk => by simp at hk) (HT.out.below h))
    generalize frF n L [] 60 0 a = R at *
    obtain ⟨R1, b, ok⟩ := R
    simp only at HFR ⊢
    cases ok
    all_goals
      first | simp only [Bool.false_eq_true, if_false] at HFR ⊢ | simp only [if_true] at HFR ⊢
      go_enter Tryd.func58, Tryd.ntmps58
      go_wp2_with (first
        | (refine wpList_alloc_csY zeroFR rfl rfl _ (by first | (simp only [World.size_alloc]; rfl) | rfl) ?_)
        | (go_at_call 44; refine HG.out.mono ?_; rintro e w2 ⟨rfl, hb2⟩; have hz2 := hb2.size; rw [hz0] at hz2; have hb3 := bl_row ((Below.refl w2.heap.size w2).alloc (Nat.le_refl _) (.cells (rowV (plR 0 zL zA)) 55)) (Nat.le_refl _) (rowV (plR n L a)); have HZ3 := hide ((hb3.block (w.heap.size + 1) (by omega)).trans ((hb2.block (w.heap.size + 1) (by rw [hz0]; omega)).trans HZ0.out)); have HB2 := hide ((HB0.out.trans (hb2.mono (by rw [hz0]; omega))).trans (hb3.mono (by omega))); have HK2 := hide (pkAt.new w2 0 zL zA); have HK3 := hide ((pkAt.new w2 0 zL zA).row (m := n) (K := L) (b := a)); have HZ4 := hide (show ((w2.alloc (.cells (rowV (plR 0 zL zA)) 55)).setRow w2.heap.size (rowV (plR n L a))).heap.size = w2.heap.size + 1 by simp [World.setRow]); clear hb2 hb3)
        | (refine wpList_alloc_csY zeroPK rfl rfl _ rfl ?_)
        | (refine wpList_store_csY (sizePKl n L a) rfl (.tmp 4) (.tmp _) rfl w2.heap.size rfl rfl _ HK2.out (by simp [rowV, plR_len]) (rowV_one _) ?_)
        | (refine wpList_load_csY rowPK (sizePKl n L a) rfl (.tmp 4) rfl w2.heap.size rfl HK3.out ?_)
        | fail)
      refine (HFR.out _ HB2.out).mono ?_
      rintro e w4 ⟨xv, rfl, ho4, hb4⟩
      obtain ⟨xa, xc, hxv⟩ := ho4.shape
      subst hxv
      have hz4 := hb4.size
      rw [HZ4.out] at hz4
      have HO4 := hide ho4
      have HZ5 := hide ((hb4.block (w.heap.size + 1) (by rw [HZ4.out]; omega)).trans HZ3.out)
      have HB4 := hide (HB2.out.trans (hb4.mono (by rw [HZ4.out]; omega)))
      clear hb4 ho4
    · go_wp2_with (first
        | (refine wpList_store_csY (cs := frC (plR 0 zL zA) (plR 0 zL zA) (.slice none 0 0)) (HFS0.out _ _ _ (plR_len _ _ _) (plR_len _ _ _)) rfl (.tmp 2) (.tmp _) rfl (w.heap.size + 1) rfl rfl _ HZ5.out rfl HFC0.out ?_))
      refine (show bodyPost _ _ _ Exit.ret _ _ from ?_)
      exact bodyPost_ret (v := .tuple #[.agg (frC (plR 0 zL zA) (plR 0 zL zA) (.slice none 0 0)), .bool false]) (results_cs2Y (cs := frC (plR 0 zL zA) (plR 0 zL zA) (.slice none 0 0)) rowFR (HFS0.out _ _ _ (plR_len _ _ _) (plR_len _ _ _)) (fn := Tryd.f58) (p := 2) (q := 3) rfl _ _ (w.heap.size + 1) rfl (hp_row _ _ _ _ _ HZ5.out)) rfl ⟨none, 0, rfl, (fun h => by cases h), bl_row HB4.out (by omega) _⟩
    · go_wp2_with (first
        | (refine wpList_store_csY (cs := frC (plR n L a) (plR n L b) (.slice xa R1.length xc)) (HFS0.out _ _ _ (plR_len _ _ _) (plR_len _ _ _)) rfl (.tmp 2) (.tmp _) rfl (w.heap.size + 1) rfl rfl _ HZ5.out (by rw [frC_size (plR_len _ _ _) (plR_len _ _ _), frC_size (plR_len _ _ _) (plR_len _ _ _)]) (frC_one _ _ _ _ _) ?_))
      refine (show bodyPost _ _ _ Exit.ret _ _ from ?_)
      refine bodyPost_ret (v := .tuple #[.agg (frC (plR n L a) (plR n L b) (.slice xa R1.length xc)), .bool true]) (results_cs2Y (cs := frC (plR n L a) (plR n L b) (.slice xa R1.length xc)) rowFR (HFS0.out _ _ _ (plR_len _ _ _) (plR_len _ _ _)) (fn := Tryd.f58) (p := 2) (q := 3) rfl _ _ (w.heap.size + 1) rfl (hp_row _ _ _ _ _ HZ5.out)) rfl ⟨xa, xc, rfl, ?_, bl_row HB4.out (by omega) _⟩
      exact (HO4.out.same fun k hk => hp_rowO w4 (w.heap.size + 1) k _ (by rw [HZ4.out] at hk; omega)).mono (by rw [HZ4.out]; omega)
end Go.Proofs.YtjmhmmenampgbaaDoor
