/- Contracts: a move, and chips with others on the places, the specification's. -/
import Derived.Test.YtjmhmmenampgbaaDoorYc
import Derived.Test.YtjmhmmenampgbaaDoorRo
import Derived.Test.YtjmhmmenampgbaaDoorYr
namespace Go.Proofs.YtjmhmmenampgbaaDoor
open Go.RowKit
set_option maxRecDepth 100000
set_option linter.unusedSimpArgs false
theorem own_blk {I : TypeId} {w : World} {base : Nat} {v : Value} {l : List Int} (h : own I w base v l) (h0 : 0 < l.length) : ∃ g c, v = .slice (some ⟨g, 0, none⟩) l.length c := by
  rcases h.2 with ⟨_, h2⟩ | ⟨g, cap, cur, e, _⟩
  · omega
  · exact ⟨g, cap, e⟩
attribute [local irreducible] p2 low memB risB
set_option maxHeartbeats 2000000 in
theorem waMove_c (v u z : Value) (M : List (List Int)) (A : List Int) (a : Nat → Int) (i : Nat) (w : World) (hl : rows w.heap.size w v M) (hc : ChP M A) (hz : ints w.heap.size w z (toL A.length a)) (hi : i < A.length) (ha : AtOk A.length a 500) :
    Calls Tryd.prog 52 #[.agg #[v, u], z, .int .i64 (i : Int)] w fun e w' => ∃ v', e = .returned v' ∧ own 3 w' w.heap.size v' (toL A.length (mvF (plL M A) i a)) ∧ Below w.heap.size w w' := by
  have hLn : LnOk A.length (plL M A) := by have h := pl_ln M A; rwa [plN_yes hc] at h
  have HB0 := hide (by_start 29 v u w)
  have HZ := hide (by_full HB0.out hz)
  have HR0 := hide (hl.alloc (.cells #[v, u] 29))
  have hiM : i < M.length := by rw [hc.ml]; exact hi
  have hrl := hc.rl i hi
  have h5 := hc.n5
  have HV := hide (fun j => pl_row hc hi j)
  have HE := hide (toL_congr (n := A.length) fun j (_ : j < A.length) => mvS_end hLn i a j)
  have HN := hide (fun k => mvS_next hLn i a k)
  have HBD := hide (fun k hk j => mvS_bd hLn ha i k hk j)
  have HLB := hide (fun k => And.intro (hLn.lo i k) (hLn.hi i k))
  have H0 := hide (mvS_zero (plL M A) i a)
  have hn := toL_len A.length a
  generalize hrr : M[i]?.getD [] = R at *
  have HRR := hide hrr
  rw [← HE.out]
  generalize plL M A = L at *
  clear hl hz hc hrr hLn ha HE
  go_enter Tryd.func52, Tryd.ntmps52
  go_wp2_with (first
    | (go_at_call 72; refine (l1Own_c z (toL A.length a) _ HZ.out (by omega)).mono ?_; rintro e w2 ⟨v2, rfl, ho2, hb2⟩; have hz2 := hb2.size; have HO2 := hide ho2; have HB2 := hide (by_to HB0.out hb2); have HL2 := hide (HR0.out.below (hb2.mono (by simp)) (Nat.le_refl _)); have c0 := by_cell0 HB2.out; have c1 := by_cell1 HB2.out; clear ho2 hb2)
    | (refine wpList_at2 sliceT2 rowS2 rfl (.tmp _) (.tmp _) rfl v rfl _ rfl i rfl w.heap.size M HL2.out hiM ?_; intro ad2 r hcell2 hblk2 hr; rw [HRR.out] at hr; have HR := hide (hr.mono (show w.heap.size ≤ w2.heap.size by have := by_size HB2.out; omega)); have HRW := hide hr; clear hr)
    | (refine wpList_len sliceT rfl (.tmp _) rfl r rfl _ R HR.out ?_))
  have hs2 := by_size HB2.out
  obtain ⟨g, cp, hv2⟩ := own_blk HO2.out (by omega)
  have HG := hide (show v2.ownBlock = some g by rw [hv2]; rfl)
  have hgl := HO2.out.blockLt g HG.out
  have hgb := HO2.out.base g HG.out
  simp at hgb
  have HOM := hide (HO2.out.mono (show w.heap.size + 1 ≤ (w.alloc (.cells #[v, u] 29)).heap.size by simp))
  clear hv2 c0 c1
  go_loopw [18] (fun iv wr => ∃ k : Nat, k ≤ A.length ∧ iv = .int .i64 (k : Int) ∧ Hid (own 3 wr (w.heap.size + 1) v2 (toL A.length (mvS L i a k))) ∧ Hid (Below (w.heap.size + 1) w2 wr)) (fun iv _ => A.length - (intOf iv).toNat)
  case atStart => exact ⟨0, Nat.zero_le _, rfl, by rw [H0.out]; exact HOM.out, Below.refl _ _⟩
  case round =>
    obtain ⟨k, hk, rfl, HO, HB⟩ := hrel
    by_cases hlt : k < A.length
    · have hlt' : (k : Int) < (R.length : Int) := by omega
      have hkR : k < R.length := by omega
      have HNX := hide (HN.out k)
      have b1 := HBD.out k (by omega) i
      have b2 := HBD.out k (by omega) k
      have b3 := HLB.out k
      have HX := hide (HV.out k)
      have HRW2 := hide ((show ints w.heap.size wr r R from HRW.out.below (HB.out.mono (by omega)) (Nat.le_refl _)))
      generalize hf : mvS L i a k = f at *
      generalize L i k = x at *
      clear hf
      have hsl : i < (toL A.length f).length := by rw [toL_len]; exact hi
      have HC1 := hide (show wr.cell? ⟨g, i, none⟩ = some (.int .i64 (f i)) by have h := (HO.out.cell HG.out i hsl).1; rwa [toL_at f hi] at h)
      have HF1 := hide ((HO.out.cell HG.out i hsl).2)
      have HO3 := hide (show own 3 (wr.setCell ⟨g, i, none⟩ (.int .i64 (f i - x))) (w.heap.size + 1) v2 (toL A.length (updF f i (f i - x))) by rw [← toL_set]; exact HO.out.set HG.out i (f i - x))
      have hsk : k < (toL A.length (updF f i (f i - x))).length := by rw [toL_len]; exact hlt
      have HC2 := hide (show (wr.setCell ⟨g, i, none⟩ (.int .i64 (f i - x))).cell? ⟨g, k, none⟩ = some (.int .i64 (updF f i (f i - x) k)) by have h := (HO3.out.cell HG.out k hsk).1; rwa [toL_at _ hlt] at h)
      have HF2 := hide ((HO3.out.cell HG.out k hsk).2)
      have b4 : -1000 ≤ updF f i (f i - x) k ∧ updF f i (f i - x) k ≤ 1000 := by unfold updF; split <;> omega
      have hw1 : IntKind.i64.wrap (f i - x) = f i - x := IntWalk.i64_in _ (by omega)
      generalize hz3 : updF f i (f i - x) k = y at *
      have hw2 : IntKind.i64.wrap (y + x) = y + x := IntWalk.i64_in _ (by omega)
      have HO4 := hide (show own 3 ((wr.setCell ⟨g, i, none⟩ (.int .i64 (f i - x))).setCell ⟨g, k, none⟩ (.int .i64 (y + x))) (w.heap.size + 1) v2 (toL A.length (updF (updF f i (f i - x)) k (y + x))) by rw [← toL_set]; exact HO3.out.set HG.out k (y + x))
      rw [HNX.out] at HO4
      clear hz3 b1 b2 b3
      have hgu : ∀ g2, v2.ownBlock = some g2 → g2 = g := fun g2 h => by rw [HG.out] at h; cases h; rfl
      have HGU := hide hgu
      clear hgu
      go_wp2_with (first
        | (refine wpList_at sliceT intS rfl (.tmp _) (.tmp _) rfl r rfl k rfl w.heap.size R HRW2.out hkR ?_; intro ad3 hcell3 hblk3; rw [HX.out] at hcell3)
        | (refine wpList_atOwn sliceT intS rfl (.tmp 23) (.tmp 24) rfl v2 rfl i rfl i rfl _ _ HO.out hsl ?_; intro g2 hg2; obtain rfl := HGU.out g2 hg2; clear hg2; have hc1 := HC1.out; have hf1 := HF1.out)
        | (refine wpList_atOwn sliceT intS rfl (.tmp 30) (.tmp 31) rfl v2 rfl k rfl k rfl _ _ HO3.out hsk ?_; intro g2 hg2; obtain rfl := HGU.out g2 hg2; clear hg2; have hc2 := HC2.out; have hf2 := HF2.out))
      go_roundw
      case rel => exact ⟨k + 1, by omega, by go_num, HO4, (HB.out.setCell (by show _ ≤ _; omega) _).setCell (by show _ ≤ _; omega) _⟩
      case measure => (simp [intOf] <;> omega)
    · have hkn : k = A.length := by omega
      subst hkn
      have hlt' : ¬ ((A.length : Int) < (R.length : Int)) := by omega
      go_wp2
      go_ret
      exact ⟨_, rfl, HO.out.mono (by omega), by_below (HB2.out.trans HB.out)⟩
theorem ent_l1Own : enters Tryd.prog 72 := enters_of Tryd.func72 (by kernel_rfl) (by kernel_rfl)
theorem take_next2 {M : List (List Int)} {k : Nat} (h : k < M.length) : M.take (k + 1) = M.take k ++ [M[k]?.getD []] := by
  rw [List.take_add_one, List.getElem?_eq_getElem h]; rfl
set_option maxHeartbeats 2000000 in
theorem waWith_c (v u : Value) (za : Option Addr) (zn zc : Nat) (M : List (List Int)) (w : World) (hl : rows w.heap.size w v M) (hs : small2 M) :
    Calls Tryd.prog 51 #[.agg #[v, u], .slice za zn zc] w fun e w' => ∃ v', e = .returned (.agg #[v', .slice za zn zc]) ∧ own2 23 3 w' w.heap.size v' M ∧ Below w.heap.size w w' := by
  have hb0 := ((Below.refl w.heap.size w).alloc (Nat.le_refl _) (.cells #[v, u] 29)).alloc (by simp) (.cells #[.slice none 0 0, .slice none 0 0] 29)
  have HB0 := hide hb0
  have hz0 : ((w.alloc (.cells #[v, u] 29)).alloc (.cells #[.slice none 0 0, .slice none 0 0] 29)).heap.size = w.heap.size + 2 := by simp
  have HX := hide (show ((w.alloc (.cells #[v, u] 29)).alloc (.cells #[.slice none 0 0, .slice none 0 0] 29)).heap[w.heap.size + 1]? = some (.cells #[.slice none 0 0, .slice none 0 0] 29) by have h := hp_last (w.alloc (.cells #[v, u] 29)) (.cells #[.slice none 0 0, .slice none 0 0] 29); simpa using h)
  have HL := hide (hl.below hb0 (Nat.le_refl _))
  have HS := hide hs
  have hM := hs.1
  clear hl hs hb0
  go_enter Tryd.func51, Tryd.ntmps51
  go_wp2_with (first
    | (refine wpList_len2 sliceT2 rfl (.tmp _) rfl v rfl w.heap.size M HL.out ?_))
  generalize hW : (w.alloc (.cells #[v, u] 29)).alloc (.cells #[.slice none 0 0, .slice none 0 0] 29) = W at *
  go_loopw [5, 11] (fun v5 iv wr => ∃ k : Nat, k ≤ M.length ∧ iv = .int .i64 (k : Int) ∧ Hid (own2 23 3 wr (w.heap.size + 2) v5 (M.take k)) ∧ Hid (Below (w.heap.size + 2) W wr)) (fun _ iv _ => M.length - (intOf iv).toNat)
  case atStart => exact ⟨0, Nat.zero_le _, rfl, own2_nil _ _ _ _, Below.refl _ _⟩
  case round =>
    obtain ⟨k, hk, rfl, HO, HB⟩ := hrel
    have hsz := HB.out.size
    by_cases hlt : k < M.length
    · have hlt' : (k : Int) < (M.length : Int) := by omega
      have hrl := HS.out.row k hlt
      have HTK := hide (take_next2 hlt)
      have htl : (M.take k).length = k := by rw [List.length_take]; omega
      have HLW := hide (HL.out.below (HB.out.mono (by omega)) (Nat.le_refl _))
      generalize hrr : M[k]?.getD [] = R at *
      have HRR := hide hrr
      generalize M.take k = Mk at *
      clear hrr
      go_wp2_with (first
        | (refine wpList_at2 sliceT2 rowS2 rfl (.tmp _) (.tmp _) rfl v rfl _ rfl k rfl w.heap.size M HLW.out hlt ?_; intro ad2 r hcell2 hblk2 hr; rw [HRR.out] at hr; have HR := hide (hr.mono (show w.heap.size ≤ wr.heap.size by omega)); clear hr)
        | (go_at_call 72; refine (l1Own_c r R wr HR.out (by omega)).mono ?_; rintro e w3 ⟨v3, rfl, ho3, hb3⟩; have hz3 := hb3.size; obtain ⟨xa, xc, hx⟩ := ho3.shape; subst hx; have HO3 := hide ho3; have HB3 := hide hb3; clear ho3 hb3 hcell2)
        | (at_builtin; refine wpList_append2 sliceT2 rowI2 (by decide) rfl (.tmp _) (.tmp _) rfl (w.heap.size + 2) _ Mk rfl wr HO.out (HB3.out.alloc (by omega) _) _ (.slice xa R.length xc) R rfl (by simp [go_sem]) (HO3.out.alloc _) (by omega) (by omega) ?_; intro v6 w6 ho6 hb6 _ _; have HO6 := hide ho6; have HB6 := hide ((HB.out.trans ((HB3.out.alloc (by omega) _).mono (by omega))).trans hb6); clear ho6 hb6))
      go_roundw
      case rel => exact ⟨k + 1, by omega, by go_num, by rw [HTK.out]; exact HO6.out, HB6⟩
      case measure => (simp [intOf] <;> omega)
    · have hkn : k = M.length := by omega
      subst hkn
      have hlt' : ¬ ((M.length : Int) < (M.length : Int)) := by omega
      have HM := hide (show own2 23 3 wr (w.heap.size + 2) u5 M by have h := HO.out; rwa [List.take_length] at h)
      have HXW := hide ((HB.out.block (w.heap.size + 1) (by omega)).trans HX.out)
      obtain ⟨xa, xc, hx⟩ := HM.out.shape
      subst hx
      go_wp2_with (first
        | (refine wpList_store_csY sizeCP rfl (.tmp 4) (.tmp _) rfl (w.heap.size + 1) rfl rfl _ HXW.out rfl (by simp [Value.oneCell']) ?_))
      refine (show bodyPost _ _ _ Exit.ret _ _ from ?_)
      refine bodyPost_ret (v := .agg #[.slice xa M.length xc, .slice za zn zc]) (results_csY (cs := #[.slice xa M.length xc, .slice za zn zc]) rowCP sizeCP rfl _ _ (w.heap.size + 1) rfl (hp_row _ _ _ _ _ HXW.out)) rfl ⟨_, rfl, ?_, ?_⟩
      · exact (HM.out.same fun k hk => hp_rowO _ _ _ _ (by omega)).mono (by omega)
      · exact bl_row (HB0.out.trans (HB.out.mono (by omega))) (by omega) _
end Go.Proofs.YtjmhmmenampgbaaDoor
