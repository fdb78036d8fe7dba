/- Contracts: DegreesOf, the program's and the specification's. -/
import Derived.Test.YtmihfejkflpfnaaYn
import Derived.Test.YtmihfejkflpfnaaYc
import Derived.Test.YtmihfejkflpfnaaAp
namespace Go.Proofs.Ytmihfejkflpfnaa
open Go.RowKit
set_option maxRecDepth 100000
set_option linter.unusedSimpArgs false
theorem toL_next (n : Nat) (f : Nat → Int) : toL (n + 1) f = toL n f ++ [f n] := by unfold toL; rw [List.range_succ, List.map_append]; rfl
noncomputable def dgR (M : List (List Int)) (A : List Int) : List Int := if cpB M A then toL (plN M A) (dg (plL M A)) else []
theorem dgR_len (M : List (List Int)) (A : List Int) : (dgR M A).length < 1000000000 := by
  unfold dgR
  split
  · rw [toL_len]; have := plN_5 M A; omega
  · simp
theorem dgR_pl (M : List (List Int)) (A : List Int) : toL (plN M A) (dg (plL M A)) = dgR M A := by
  unfold dgR
  cases h : cpB M A
  · rw [plN_no h]; rfl
  · rfl
attribute [local irreducible] p2 low memB risB
set_option maxHeartbeats 2000000 in
theorem specDegreesOf_c (v u : Value) (M : List (List Int)) (A : List Int) (w : World) (hl : rows w.heap.size w v M) (hs : small2 M) (hu : ints w.heap.size w u A) (hlen : A.length < 1000000000) :
    Calls Try.prog 10 #[.agg #[v, u]] w fun e w' => ∃ v', e = .returned (.tuple #[v', .bool (cpB M A)]) ∧ own 3 w' w.heap.size v' (dgR M A) ∧ Below w.heap.size w w' := by
  have HB0 := hide (by_start 28 v u w)
  have HG := hide (waGood_c v u M A (w.alloc (.cells #[v, u] 28)) ((hl.alloc _).mono (by simp)) hs ((hu.alloc _).mono (by simp)) hlen)
  have HU := hide hu
  have HL := hide hl
  clear hl hu
  cases hc : cpB M A
  · have HR := hide (show dgR M A = [] by unfold dgR; rw [hc]; rfl)
    rw [hc] at HG
    rw [HR.out]
    go_enter Try.func10, Try.ntmps10
    go_wp2_with (first
      | (go_at_call 18; refine HG.out.mono ?_; rintro e w2 ⟨rfl, hb2⟩; have HB2 := hide (by_to HB0.out hb2); clear hb2))
    go_ret2
    exact ⟨_, rfl, own_nil _ _ _, by_below HB2.out⟩
  · have hp := cpB_iff.1 hc
    have HDG := hide (fun i w1 (h : Below w.heap.size w w1) (hi : i < A.length) => waDegree_c v u M A i w1 ((HL.out.below h (Nat.le_refl _)).mono h.size) hp hi)
    have HR := hide (show toL A.length (dg (plL M A)) = dgR M A by rw [← dgR_pl, plN_yes hp])
    have h5 := hp.n5
    rw [hc] at HG
    rw [← HR.out]
    clear hp hc HR
    generalize dg (plL M A) = f at *
    go_enter Try.func10, Try.ntmps10
    go_wp2_with (first
      | (go_at_call 18; refine HG.out.mono ?_; rintro e w2 ⟨rfl, hb2⟩; have HB2 := hide (by_to HB0.out hb2); have c0 := by_cell0 HB2.out; have c1 := by_cell1 HB2.out; have HU2 := hide (by_ints HB2.out HU.out); clear hb2)
      | (refine wpList_len sliceT rfl (.tmp _) rfl u rfl w.heap.size A HU2.out ?_))
    clear c0 c1
    go_loopw [4, 12] (fun v4 iv wr => ∃ k : Nat, k ≤ A.length ∧ iv = .int .i64 (k : Int) ∧ Hid (own 3 wr (w.heap.size + 1) v4 (toL k f)) ∧ Hid (Below (w.heap.size + 1) (w.alloc (.cells #[v, u] 28)) wr)) (fun _ iv _ => A.length - (intOf iv).toNat)
    case atStart => exact ⟨0, Nat.zero_le _, rfl, own_nil _ _ _, HB2⟩
    case round =>
      obtain ⟨k, hk, rfl, HV, HB⟩ := hrel
      have hsz := by_size HB.out
      have c0 := by_cell0 HB.out
      have c1 := by_cell1 HB.out
      by_cases hlt : k < A.length
      · have hlt' : (k : Int) < (A.length : Int) := by omega
        have HD := hide (HDG.out k wr (by_below HB.out) hlt)
        have HNX := hide (toL_next k f)
        have htl := toL_len k f
        generalize toL k f = Tk at *
        generalize f k = x at *
        go_wp2_with (first
          | (go_at_call 23; refine HD.out.mono ?_; rintro e w3 ⟨rfl, hb3⟩; have hz3 := hb3.size; have HV3 := hide (HV.out.kept hb3); have HB3 := hide (by_to HB.out hb3); clear hb3 c0 c1)
          | (at_builtin; refine wpList_append1 sliceT intI rfl _ _ rfl (w.heap.size + 1) _ _ rfl (HV3.out.alloc _) _ x rfl (by simp [go_sem]) (by simp; omega) (by omega) ?_; intro v4 w4 ho4 hb4; have hb5 := ((Below.refl (w.heap.size + 1) w3).alloc (by omega) _).trans hb4; have HV4 := hide ho4; have HB4 := hide (HB3.out.trans hb5); clear ho4 hb4 hb5))
        go_roundw
        case rel => exact ⟨k + 1, by omega, by go_num, by rw [HNX.out]; exact HV4.out, HB4⟩
        case measure => (simp [intOf] <;> omega)
      · have hkn : k = A.length := by omega
        subst hkn
        have hlt' : ¬ ((A.length : Int) < (A.length : Int)) := by omega
        go_wp2
        go_ret2
        exact ⟨_, rfl, HV.out.mono (by omega), by_below HB.out⟩
set_option maxHeartbeats 2000000 in
theorem implDegreesOf_c (v u : Value) (M : List (List Int)) (A : List Int) (w : World) (hl : rows w.heap.size w v M) (hs : small2 M) (hu : ints w.heap.size w u A) (hlen : A.length < 1000000000) :
    Calls Try.prog 11 #[.agg #[v, u]] w fun e w' => ∃ v', e = .returned (.tuple #[v', .bool (cpB M A)]) ∧ own 3 w' w.heap.size v' (dgR M A) ∧ Below w.heap.size w w' := by
  have HB0 := hide ((Below.refl w.heap.size w).alloc (Nat.le_refl _) (.cells #[v, u] 28))
  have HG := hide (pilesOf_c v u M A (w.alloc (.cells #[v, u] 28)) ((hl.alloc _).mono (by simp)) hs ((hu.alloc _).mono (by simp)) hlen)
  have HR := hide (dgR_pl M A)
  have HLN := hide (pl_ln M A)
  have h5 := plN_5 M A
  clear hl hu
  rw [← HR.out]
  generalize plN M A = n at *
  generalize plL M A = L at *
  generalize plA M A = a at *
  generalize cpB M A = ok at *
  have HDG := hide (fun i w1 (hi : i < 5) => degree_c n L a i w1 HLN.out hi)
  go_enter Try.func11, Try.ntmps11
  go_wp2_with (first
    | (go_at_call 21; refine HG.out.mono ?_; rintro e w2 ⟨rfl, hb2⟩; have hz2 := hb2.size; simp at hz2; have HB2 := hide (bl_row ((HB0.out.trans (hb2.mono (by simp))).alloc (by omega) (.cells (rowV (plR 0 zL zA)) 44)) (show w.heap.size ≤ w2.heap.size by omega) (rowV (plR n L a))); have HK2 := hide (pkAt.new w2 0 zL zA); have HK3 := hide ((pkAt.new w2 0 zL zA).row (m := n) (K := L) (b := a)); have c2 := HK3.out.cell; clear hb2)
    | (refine wpList_alloc_csY zeroPK rfl rfl _ rfl ?_)
    | (refine wpList_store_csY (sizePKl n L a) rfl (.tmp _) (.tmp _) rfl w2.heap.size rfl rfl _ HK2.out (by simp [rowV, plR_len]) (rowV_one _) ?_))
  clear c2
  have hzz : ((w2.alloc (.cells (rowV (plR 0 zL zA)) 44)).setRow w2.heap.size (rowV (plR n L a))).heap.size = w2.heap.size + 1 := by simp [World.setRow]
  generalize (w2.alloc (.cells (rowV (plR 0 zL zA)) 44)).setRow w2.heap.size (rowV (plR n L a)) = W at *
  go_loopw [6, 15] (fun v6 iv wr => ∃ k : Nat, k ≤ n ∧ iv = .int .i64 (k : Int) ∧ Hid (own 3 wr (w2.heap.size + 1) v6 (toL k (dg L))) ∧ Hid (Below (w2.heap.size + 1) W wr)) (fun _ iv _ => n - (intOf iv).toNat)
  case atStart => exact ⟨0, Nat.zero_le _, rfl, own_nil _ _ _, Below.refl _ _⟩
  case round =>
    obtain ⟨k, hk, rfl, HV, HB⟩ := hrel
    have hs3 := HB.out.size
    by_cases hlt : k < n
    · have hlt' : (k : Int) < (n : Int) := by omega
      have HD := hide (HDG.out k wr (by omega))
      have HKW := hide (HK3.out.below HB.out (by omega))
      have HNX := hide (toL_next k (dg L))
      have htl := toL_len k (dg L)
      generalize toL k (dg L) = Tk at *
      generalize dg L k = x at *
      go_wp2_with (first
        | (refine wpList_load_csY rowPK (sizePKl n L a) rfl (.tmp _) rfl w2.heap.size rfl HKW.out ?_)
        | (go_at_call 24; refine HD.out.mono ?_; rintro e w3 ⟨rfl, hb3⟩; have hz3 := hb3.size; have HV3 := hide (HV.out.kept hb3); have HB3 := hide (HB.out.trans (hb3.mono (by omega))); clear hb3)
        | (at_builtin; refine wpList_append1 sliceT intI rfl _ _ rfl (w2.heap.size + 1) _ _ rfl (HV3.out.alloc _) _ x rfl (by simp [go_sem]) (by simp; omega) (by omega) ?_; intro v4 w4 ho4 hb4; have hb5 := ((Below.refl (w2.heap.size + 1) w3).alloc (by omega) _).trans hb4; have HV4 := hide ho4; have HB4 := hide (HB3.out.trans hb5); clear ho4 hb4 hb5))
      go_roundw
      case rel => exact ⟨k + 1, by omega, by go_num, by rw [HNX.out]; exact HV4.out, HB4⟩
      case measure => (simp [intOf] <;> omega)
    · have hkn : k = n := by omega
      subst hkn
      have hlt' : ¬ ((k : Int) < (k : Int)) := by omega
      go_wp2
      go_ret2
      exact ⟨_, rfl, HV.out.mono (by omega), HB2.out.trans (HB.out.mono (by omega))⟩
end Go.Proofs.Ytmihfejkflpfnaa
