/- Contracts: runs by a list of moves, the specification's. -/
import Derived.Test.YtjmhmmenampgbaaDoorYd
import Derived.Test.YtjmhmmenampgbaaDoorAp
namespace Go.Proofs.YtjmhmmenampgbaaDoor
open Go.RowKit
set_option maxRecDepth 100000
set_option linter.unusedSimpArgs false
def rsA (n : Nat) (L : Nat → Nat → Int) (mv : List Int) (a : Nat → Int) (k : Nat) : List Int := match rsF n L mv a k with
  | some b => toL n b
  | none => []
theorem rsA_some {n : Nat} {L : Nat → Nat → Int} {mv : List Int} {a b : Nat → Int} {k : Nat} (h : rsF n L mv a k = some b) : rsA n L mv a k = toL n b := by unfold rsA; rw [h]
theorem rsA_none {n : Nat} {L : Nat → Nat → Int} {mv : List Int} {a : Nat → Int} {k : Nat} (h : rsF n L mv a k = none) : rsA n L mv a k = [] := by unfold rsA; rw [h]
attribute [local irreducible] p2 low memB risB
set_option maxHeartbeats 2000000 in
theorem waRun_c (v u z : Value) (M : List (List Int)) (A mv : List Int) (w : World) (hl : rows w.heap.size w v M) (hc : ChP M A) (hu : ints w.heap.size w u A) (hm : ints w.heap.size w z mv) (hml : mv.length ≤ 120) :
    Calls Tryd.prog 54 #[.agg #[v, u], z] w fun e w' => ∃ v', e = .returned (.tuple #[v', .bool (rsF A.length (plL M A) mv (atN A) mv.length).isSome]) ∧ own 3 w' w.heap.size v' (rsA A.length (plL M A) mv (atN A) mv.length) ∧ Below w.heap.size w w' := by
  have hLn : LnOk A.length (plL M A) := by have h := pl_ln M A; rwa [plN_yes hc] at h
  have hAt : AtOk A.length (atN A) 30 := by
    have h := pl_at M A
    rw [plN_yes hc] at h
    have e : plA M A = atN A := by funext i; exact plA_yes hc i
    rwa [e] at h
  have HB0 := hide (by_start 29 v u w)
  have HU := hide (by_full HB0.out hu)
  have HM := hide (by_ints HB0.out hm)
  have h5 := hc.n5
  have hn1 := hc.n1
  have HCN := hide (fun (zz : Value) b i w1 (h : Below w.heap.size w w1) hz hi => waCan_c v u zz M A b i w1 ((hl.below h (Nat.le_refl _)).mono h.size) hc hz hi)
  have HMV := hide (fun (zz : Value) b i w1 (h : Below w.heap.size w w1) hz hi ha => waMove_c v u zz M A b i w1 ((hl.below h (Nat.le_refl _)).mono h.size) hc hz hi ha)
  have HTS := hide (toL_self A)
  have HOKR := hide (fun k b (h : rsF A.length (plL M A) mv (atN A) k = some b) => rsF_ok hLn hAt h)
  have hF0 : rsF A.length (plL M A) mv (atN A) 0 = some (atN A) := rfl
  have HF0 := hide hF0
  generalize plL M A = L at *
  clear hl hu hm hc hLn hAt hF0
  go_enter Tryd.func54, Tryd.ntmps54
  go_wp2_with (first
    | (go_at_call 72; refine (l1Own_c u A _ HU.out (by omega)).mono ?_; rintro e w2 ⟨v2, rfl, ho2, hb2⟩; have hz2 := hb2.size; have HO2 := hide ho2; have HB2 := hide (by_to HB0.out hb2); have HM2 := hide (HM.out.below (hb2.mono (by simp)) (Nat.le_refl _)); clear ho2 hb2)
    | (refine wpList_len sliceT rfl (.tmp _) rfl z rfl w.heap.size mv HM2.out ?_))
  have HOM := hide (HO2.out.mono (show w.heap.size + 1 ≤ (w.alloc (.cells #[v, u] 29)).heap.size by simp))
  go_loopw [6, 14] (fun v6 iv wr => ∃ (k : Nat) (b : Nat → Int), k ≤ mv.length ∧ iv = .int .i64 (k : Int) ∧ Hid (rsF A.length L mv (atN A) k = some b) ∧ Hid (own 3 wr (w.heap.size + 1) v6 (toL A.length b)) ∧ Hid (Below (w.heap.size + 1) (w.alloc (.cells #[v, u] 29)) wr)) (fun _ iv _ => mv.length - (intOf iv).toNat)
  case atStart => exact ⟨0, atN A, Nat.zero_le _, rfl, HF0, by rw [HTS.out]; exact HOM.out, HB2⟩
  case round =>
    obtain ⟨k, b, hk, rfl, HF, HO, HB⟩ := hrel
    have hsz := by_size HB.out
    have c0 := by_cell0 HB.out
    have c1 := by_cell1 HB.out
    have HMW := hide (HM.out.below (HB.out.mono (by omega)) (Nat.le_refl _))
    have htl := toL_len A.length b
    by_cases hlt : k < mv.length
    · have hlt' : (k : Int) < (mv.length : Int) := by omega
      have HY := hide (fun (h : mv[k]?.getD 0 ∈ opL A.length L b) => rsF_yes HF.out h)
      have HN := hide (fun (h : ¬ mv[k]?.getD 0 ∈ opL A.length L b) => rsF_stay (rsF_no HF.out h) mv.length (by omega))
      have HAO := hide ((HOKR.out k b HF.out).mono (show (30 : Int) + 3 * (k : Int) ≤ 500 by omega))
      generalize hx : mv[k]?.getD 0 = x at *
      have HX := hide hx
      clear hx
      by_cases hin : 0 ≤ x ∧ x ≤ (A.length : Int) - 1
      · have HIN := hide (fun w1 => by have := l1In_c x 0 ((A.length : Int) - 1) w1; rw [decide_eq_true hin] at this; exact this)
        obtain ⟨i, rfl⟩ := Int.eq_ofNat_of_zero_le hin.1
        have hi : i < A.length := by omega
        have HMM := hide (opL_cast (L := L) (a := b) hi)
        rw [Int.toNat_natCast] at HY
        have HC := hide (HCN.out u6 b i wr (by_below HB.out) HO.out.ints hi)
        cases hcb : canB L b i
        · have HE := hide (HN.out fun h => by rw [HMM.out.1 h] at hcb; cases hcb)
          have HE2 := hide (rsA_none HE.out)
          rw [hcb] at HC
          clear hcb hin
          go_wp2_with (first
            | (refine wpList_at sliceT intS rfl (.tmp _) (.tmp _) rfl z rfl k rfl w.heap.size mv HMW.out hlt ?_; intro ad hcell hblk; rw [HX.out] at hcell)
            | (refine wpList_len sliceT rfl (.tmp _) rfl u6 rfl wr.heap.size (toL A.length b) HO.out.ints ?_)
            | (go_at_call 49; refine (HIN.out _).mono ?_; rintro e w3 ⟨rfl, rfl⟩)
            | (go_at_call 50; refine HC.out.mono ?_; rintro e w4 ⟨rfl, hb4⟩; have HB4 := hide (by_to HB.out hb4); clear hb4))
          go_ret2
          exact ⟨_, by rw [HE.out]; rfl, by rw [HE2.out]; exact own_nil _ _ _, by_below HB4.out⟩
        · have HE := hide (HY.out (HMM.out.2 hcb))
          rw [hcb] at HC
          clear hcb hin
          have HW := hide (fun w1 (h : Below wr.heap.size wr w1) => HMV.out u6 b i w1 ((by_below HB.out).trans (h.mono (by omega))) (HO.out.kept h).ints hi HAO.out)
          generalize mvF L i b = b2 at *
          go_wp2_with (first
            | (refine wpList_at sliceT intS rfl (.tmp _) (.tmp _) rfl z rfl k rfl w.heap.size mv HMW.out hlt ?_; intro ad hcell hblk; rw [HX.out] at hcell)
            | (refine wpList_len sliceT rfl (.tmp _) rfl u6 rfl wr.heap.size (toL A.length b) HO.out.ints ?_)
            | (go_at_call 49; refine (HIN.out _).mono ?_; rintro e w3 ⟨rfl, rfl⟩)
            | (go_at_call 50; refine HC.out.mono ?_; rintro e w4 ⟨rfl, hb4⟩; have hz4 := hb4.size; have HB4 := hide (by_to HB.out hb4); have HBW := hide hb4; clear hb4 c0 c1; have c0 := by_cell0 HB4.out; have c1 := by_cell1 HB4.out)
            | (go_at_call 52; refine (HW.out _ HBW.out).mono ?_; rintro e w5 ⟨v5, rfl, ho5, hb5⟩; have HO5 := hide (ho5.mono (show w.heap.size + 1 ≤ w4.heap.size by omega)); have HB5 := hide (by_to HB4.out hb5); clear ho5 hb5))
          go_roundw
          case rel => exact ⟨k + 1, b2, by omega, by go_num, HE, HO5, HB5⟩
          case measure => (simp [intOf] <;> omega)
      · have HIN := hide (fun w1 => by have := l1In_c x 0 ((A.length : Int) - 1) w1; rw [decide_eq_false hin] at this; exact this)
        have HE := hide (HN.out fun h => hin (by obtain ⟨j, e, h1, _⟩ := opL_mem.1 h; constructor <;> omega))
        have HE2 := hide (rsA_none HE.out)
        go_wp2_with (first
          | (refine wpList_at sliceT intS rfl (.tmp _) (.tmp _) rfl z rfl k rfl w.heap.size mv HMW.out hlt ?_; intro ad hcell hblk; rw [HX.out] at hcell)
          | (refine wpList_len sliceT rfl (.tmp _) rfl u6 rfl wr.heap.size (toL A.length b) HO.out.ints ?_)
          | (go_at_call 49; refine (HIN.out _).mono ?_; rintro e w3 ⟨rfl, rfl⟩)
          )
        go_ret2
        exact ⟨_, by rw [HE.out]; rfl, by rw [HE2.out]; exact own_nil _ _ _, by_below HB.out⟩
    · have hkn : k = mv.length := by omega
      subst hkn
      have hlt' : ¬ ((mv.length : Int) < (mv.length : Int)) := by omega
      have HE2 := hide (rsA_some HF.out)
      go_wp2
      go_ret2
      exact ⟨_, by rw [HF.out]; rfl, by rw [HE2.out]; exact HO.out.mono (by omega), by_below HB.out⟩
end Go.Proofs.YtjmhmmenampgbaaDoor
