/- Contracts: MoveCounts, both. -/
import Derived.Test.YtjmhmmenampgbaaDoorYx
namespace Go.Proofs.YtjmhmmenampgbaaDoor
open Go.RowKit
set_option maxRecDepth 100000
set_option linter.unusedSimpArgs false
attribute [local irreducible] p2 low memB risB
theorem ent_movesIn : enters Tryd.prog 60 := enters_of Tryd.func60 (by kernel_rfl) (by kernel_rfl)
theorem ent_listR : enters Tryd.prog 61 := enters_of Tryd.func61 (by kernel_rfl) (by kernel_rfl)
set_option maxHeartbeats 4000000 in
theorem implMoveCounts_c (v u : Value) (M : List (List Int)) (A : List Int) (w : World) (hl : rows w.heap.size w v M) (hs : small2 M) (hu : ints w.heap.size w u A) (hlen : A.length < 1000000000) (hT : tab w) :
    Calls Tryd.prog 32 #[.agg #[v, u]] w fun e w' => ∃ v', e = .returned (.tuple #[v', .bool (foB M A)]) ∧ own 3 w' w.heap.size v' (mcL M A) ∧ Below w.heap.size w w' := by
  have HB0 := hide ((Below.refl w.heap.size w).alloc (Nat.le_refl _) (.cells #[v, u] 29))
  have HFO : Hid (Calls Tryd.prog 58 #[.agg #[v, u]] (w.alloc (.cells #[v, u] 29)) fun e w' => ∃ (FC : Array Value) (N : Nat) (xa : Option Addr) (xc : Nat) (R1 : List Int), e = .returned (.tuple #[.agg FC, .bool (foB M A)]) ∧ (FC.size = 63 ∧ FC.all (·.oneCell') = true ∧ FC[0]? = some (.int .i64 (N : Int)) ∧ FC[62]? = some (.slice xa R1.length xc) ∧ N ≤ 5 ∧ R1.length < 1000000000 ∧ (∀ k, k < R1.length → 0 ≤ R1[k]?.getD 0 ∧ R1[k]?.getD 0 < 5) ∧ toL N (fun i => ctF R1 i R1.length) = mcL M A) ∧ own 3 w' (w.heap.size + 1) (.slice xa R1.length xc) R1 ∧ Below (w.heap.size + 1) (w.alloc (.cells #[v, u] 29)) w') := hide (by
    refine (fullRunOf_c v u M A (w.alloc (.cells #[v, u] 29)) ((hl.alloc _).mono (by simp)) hs ((hu.alloc _).mono (by simp)) hlen (hT.alloc _)).mono ?_
    rintro e w' ⟨xa, xc, rfl, ho, hb⟩
    rw [show (w.alloc (.cells #[v, u] 29)).heap.size = w.heap.size + 1 by simp] at ho hb
    cases hf : foB M A
    · exact ⟨_, 0, none, 0, [], rfl, ⟨by simp only [Bool.false_eq_true, if_false]; exact frC_size (plR_len _ _ _) (plR_len _ _ _) _, by simp only [Bool.false_eq_true, if_false]; exact frC_one _ _ _ _ _, by simp only [Bool.false_eq_true, if_false]; exact frC_first (plR_len _ _ _) _, by simp only [Bool.false_eq_true, if_false]; exact frC_last (plR_len _ _ _) (plR_len _ _ _) _, by omega, by simp, fun k hk => by simp at hk, by rw [mcL_no hf]; rfl⟩, own_nil _ _ _, hb⟩
    · have h1 : cpB M A = true := by unfold foB at hf; rw [Bool.and_eq_true] at hf; exact hf.1
      have hp := cpB_iff.1 h1
      obtain ⟨hi1, hi2⟩ := fuR_in h1 []
      have h5 := hp.n5
      exact ⟨_, plN M A, xa, xc, (fuR M A []).1, rfl, ⟨by simp only [if_true]; exact frC_size (plR_len _ _ _) (plR_len _ _ _) _, by simp only [if_true]; exact frC_one _ _ _ _ _, by simp only [if_true]; exact frC_first (plR_len _ _ _) _, by simp only [if_true]; exact frC_last (plR_len _ _ _) (plR_len _ _ _) _, plN_5 M A, by omega, fun k hk => by have := hi2 k hk; omega, by rw [mcL_yes hf, plN_yes hp]⟩, ho hf, hb⟩)
  clear hl hu hT
  go_enter Tryd.func32, Tryd.ntmps32
  go_wp2_with fail
  refine HFO.out.mono ?_
  rintro e w2 ⟨FC, N, xa, xc, R1, rfl, ⟨hF1, hF2, hF3, hF4, hN5, hR1, hR2, hR3⟩, ho2, hb2⟩
  have hz2 := hb2.size
  simp at hz2
  have HF1 := hide hF1
  have HF2 := hide hF2
  have HK5 := hide (hp_last w2 (.cells (frC (plR 0 zL zA) (plR 0 zL zA) (.slice none 0 0)) 71))
  have hb3 := bl_row ((Below.refl w2.heap.size w2).alloc (Nat.le_refl _) (.cells (frC (plR 0 zL zA) (plR 0 zL zA) (.slice none 0 0)) 71)) (Nat.le_refl _) FC
  have HB3 := hide ((HB0.out.trans (hb2.mono (by omega))).trans (hb3.mono (by omega)))
  have HO3 := hide (ho2.kept hb3)
  have hk6 := hp_row _ _ _ FC _ HK5.out
  have HC0 := hide (show ((w2.alloc (.cells (frC (plR 0 zL zA) (plR 0 zL zA) (.slice none 0 0)) 71)).setRow w2.heap.size FC).cell? ⟨w2.heap.size, 0, none⟩ = some (.int .i64 (N : Int)) by rw [hp_cell hk6]; exact hF3)
  have HC62 := hide (show ((w2.alloc (.cells (frC (plR 0 zL zA) (plR 0 zL zA) (.slice none 0 0)) 71)).setRow w2.heap.size FC).cell? ⟨w2.heap.size, 62, none⟩ = some (.slice xa R1.length xc) by rw [hp_cell hk6]; exact hF4)
  have HZ6 := hide (show ((w2.alloc (.cells (frC (plR 0 zL zA) (plR 0 zL zA) (.slice none 0 0)) 71)).setRow w2.heap.size FC).heap.size = w2.heap.size + 1 by simp [World.setRow])
  clear hF1 hF2 hF3 hF4 hb2 hb3 ho2 hk6 HFO
  go_wp2_with (first
    | (refine wpList_alloc_csY zeroFR rfl rfl _ rfl ?_)
    | (refine wpList_store_csY (cs := FC) (by rw [HF1.out]; exact sizeFR) rfl (.tmp 4) (.tmp _) rfl w2.heap.size rfl rfl _ HK5.out (by rw [HF1.out, frC_size (plR_len _ _ _) (plR_len _ _ _)]) HF2.out ?_))
  generalize (w2.alloc (.cells (frC (plR 0 zL zA) (plR 0 zL zA) (.slice none 0 0)) 71)).setRow w2.heap.size FC = W at HB3 HO3 HC0 HC62 HZ6 ⊢
  refine wp_region_held (S := Below W.heap.size W) (by kernel_rfl) ?_
  have hS : Below W.heap.size W { W with drawn := W.drawn + 1 } := (Below.refl _ _).drew
  refine wpAnyH_take (i := 0) (v := .pointer (some ⟨w2.heap.size, 62, none⟩)) rfl (by kernel_rfl) (by kernel_rfl) (by kernel_rfl) (fun _ _ _ h => h) (.inl ⟨rfl, fun w' _ => by go_simp⟩) hS ?_
  refine wpAnyH_take (i := 1) rfl (by kernel_rfl) (by kernel_rfl) (by kernel_rfl) (fun _ _ _ h => h) (yields_load_cell (by kernel_rfl) rfl (.tmp _) rfl ⟨w2.heap.size, 62, none⟩ rfl (.slice xa R1.length xc) (fun w' h => (h.cell (p := ⟨w2.heap.size, 62, none⟩) (by show w2.heap.size < _; rw [HZ6.out]; omega)).trans HC62.out)) hS ?_
  refine wpAnyH_take (i := 3) (v := .pointer (some ⟨w2.heap.size, 0, none⟩)) rfl (by kernel_rfl) (by kernel_rfl) (by kernel_rfl) (fun _ _ _ h => h) (.inl ⟨rfl, fun w' _ => by go_simp⟩) hS ?_
  refine wpAnyH_take (i := 4) (v := .pointer (some ⟨w2.heap.size, 0, none⟩)) rfl (by kernel_rfl) (by kernel_rfl) (by kernel_rfl) (fun _ _ _ h => h) (.inl ⟨rfl, fun w' _ => by go_simp⟩) hS ?_
  refine wpAnyH_take (i := 5) rfl (by kernel_rfl) (by kernel_rfl) (by kernel_rfl) (fun _ _ _ h => h) (yields_load_cell rowI rfl (.tmp _) rfl ⟨w2.heap.size, 0, none⟩ rfl (.int .i64 (N : Int)) (fun w' h => (h.cell (p := ⟨w2.heap.size, 0, none⟩) (by show w2.heap.size < _; rw [HZ6.out]; omega)).trans HC0.out)) hS ?_
  refine wpAnyH_take (i := 7) (v := .bool (foB M A)) rfl (by kernel_rfl) (by kernel_rfl) (by kernel_rfl) (fun _ _ _ h => h) (.inl ⟨rfl, fun w' _ => by go_simp⟩) hS ?_
  simp only [Act.put, List.getElem_toArray, List.getElem_cons_zero, List.getElem_cons_succ, List.setIfInBounds_toArray, List.set_cons_zero, List.set_cons_succ]
  refine anyH_call (i := 2) (by kernel_rfl) rfl rfl 60 ent_movesIn _ _ rfl #[.slice xa R1.length xc] rfl (movesIn_c (.slice xa R1.length xc) R1 _ (HO3.out.kept hS).ints hR1 hR2) ?_
  rintro e w5 ⟨rfl, hb5⟩
  have hS5 : Below W.heap.size W w5 := hS.trans (hb5.mono hS.size)
  refine ⟨_, rfl, hS5, ?_⟩
  simp only [Act.put, List.getElem_toArray, List.getElem_cons_zero, List.getElem_cons_succ, List.setIfInBounds_toArray, List.set_cons_zero, List.set_cons_succ]
  refine anyH_call (i := 6) (by kernel_rfl) rfl rfl 61 ent_listR _ _ rfl #[.agg (rowV (toL 5 (fun i => ctF R1 i R1.length))), .int .i64 (N : Int)] rfl (list_c (fun i => ctF R1 i R1.length) N w5 hN5) ?_
  rintro e w6 ⟨v6, rfl, ho6, hb6⟩
  have hS6 : Below W.heap.size W w6 := hS5.trans (hb6.mono hS5.size)
  have h56 := hS5.size
  rw [hR3] at ho6
  refine ⟨_, rfl, hS6, ?_⟩
  simp only [Act.put, List.getElem_toArray, List.getElem_cons_zero, List.getElem_cons_succ, List.setIfInBounds_toArray, List.set_cons_zero, List.set_cons_succ]
  refine anyH_op (i := 8) (by kernel_rfl) rfl rfl v6 w6 (by simp [go_sem]) hS6 ?_
  refine anyH_op (i := 9) (by kernel_rfl) rfl rfl (.bool (foB M A)) w6 (by simp [go_sem]) hS6 ?_
  refine wpAnyH_done (by kernel_rfl) ?_ _
  simp only [Act.put, List.getElem_toArray, List.getElem_cons_zero, List.getElem_cons_succ, List.setIfInBounds_toArray, List.set_cons_zero, List.set_cons_succ]
  have HB6 := hide (HB3.out.trans (hS6.mono (by rw [HZ6.out]; omega)))
  have HO6 := hide (show own 3 w6 w.heap.size v6 _ from ho6.mono (by rw [HZ6.out] at h56; omega))
  clear hS hS5 hS6 hb5 hb6 ho6
  go_wp2
  go_ret2
  exact ⟨_, rfl, HO6.out, HB6.out⟩
set_option maxHeartbeats 2000000 in
theorem specMoveCounts_c (v u : Value) (M : List (List Int)) (A : List Int) (w : World) (hl : rows w.heap.size w v M) (hs : small2 M) (hu : ints w.heap.size w u A) (hlen : A.length < 1000000000) (_hT : tab w) :
    Calls Tryd.prog 31 #[.agg #[v, u]] w fun e w' => ∃ v', e = .returned (.tuple #[v', .bool (foB M A)]) ∧ own 3 w' w.heap.size v' (mcL M A) ∧ Below w.heap.size w w' := by
  have HB0 := hide (by_start 29 v u w)
  have HG := hide (waGood_c v u M A (w.alloc (.cells #[v, u] 29)) ((hl.alloc _).mono (by simp)) hs ((hu.alloc _).mono (by simp)) hlen)
  have HU := hide hu
  have HL := hide hl
  clear hl hu
  cases hc : cpB M A
  · rw [hc] at HG
    rw [mcL_no (foB_no hc), foB_no hc]
    clear hc
    go_enter Tryd.func31, Tryd.ntmps31
    go_wp2_with (first
      | (go_at_call 41; refine HG.out.mono ?_; rintro e w2 ⟨rfl, hb2⟩; have HB2 := hide (by_to HB0.out hb2); clear hb2)
      )
    go_ret2
    exact ⟨_, rfl, own_nil _ _ _, by_below HB2.out⟩
  · have hp := cpB_iff.1 hc
    have h5 := hp.n5
    have HFU := hide (fun w1 (h : Below w.heap.size w w1) => waFull_c v u (.slice none 0 0) M A [] w1 ((HL.out.below h (Nat.le_refl _)).mono h.size) hp ((HU.out.below h (Nat.le_refl _)).mono h.size) (ints_nilY _ _) (by simp) (fun k hk => by simp at hk))
    have HFQ := hide (show fuR M A [] = frF A.length (plL M A) [] 60 0 (atN A) from rfl)
    rw [← HFQ.out] at HFU
    have HIN := hide (fuR_in hc [])
    have HFB := hide (foB_yes hc)
    have HMY := hide (fun h => mcL_yes (M := M) (A := A) h)
    have HMN := hide (fun h => mcL_no (M := M) (A := A) h)
    rw [hc] at HG
    rw [HFB.out] at HMY HMN
    rw [HFB.out]
    clear hc hp HFQ
    generalize hR : fuR M A [] = R at *
    obtain ⟨R1, b, ok⟩ := R
    simp only at HFU HIN HMY HMN ⊢
    clear hR HFB
    cases ok
    · rw [HMN.out rfl]
      go_enter Tryd.func31, Tryd.ntmps31
      go_wp2_with (first
        | (go_at_call 41; refine HG.out.mono ?_; rintro e w2 ⟨rfl, hb2⟩; have HB2 := hide (by_to HB0.out hb2); have c0 := by_cell0 HB2.out; have c1 := by_cell1 HB2.out; have hz2 := by_size HB2.out; clear hb2)
        | (go_at_call 57; refine (HFU.out _ (by_below HB2.out)).mono ?_; rintro e w4 ⟨v1, v2, rfl, ho1, ho2, hb4⟩; have HB4 := hide (by_to HB2.out hb4); clear hb4 ho1 ho2))
      go_ret2
      exact ⟨_, rfl, own_nil _ _ _, by_below HB4.out⟩
    · rw [HMY.out rfl]
      rw [show frR (R1, b, true) = R1 from rfl] at HFU
      have HWC := hide (fun x w1 (h : ints w1.heap.size w1 x R1) => waCounts_c A.length x R1 w1 h5 h (by have := HIN.out.1; omega) HIN.out.2)
      go_enter Tryd.func31, Tryd.ntmps31
      go_wp2_with (first
        | (go_at_call 41; refine HG.out.mono ?_; rintro e w2 ⟨rfl, hb2⟩; have HB2 := hide (by_to HB0.out hb2); have c0 := by_cell0 HB2.out; have c1 := by_cell1 HB2.out; have hz2 := by_size HB2.out; clear hb2)
        | (go_at_call 57; refine (HFU.out _ (by_below HB2.out)).mono ?_; rintro e w4 ⟨v1, v2, rfl, ho1, ho2, hb4⟩; have HB4 := hide (by_to HB2.out hb4); have HI4 := hide ho1.ints; have d1 := by_cell1 HB4.out; have d0 := by_cell0 HB4.out; have HU4 := hide (by_ints HB4.out HU.out); have hz4 := by_size HB4.out; clear hb4 ho1 ho2 c0 c1)
        | (refine wpList_len sliceT rfl (.tmp _) rfl u rfl w.heap.size A HU4.out ?_)
        | (go_at_call 59; refine (HWC.out _ _ HI4.out).mono ?_; rintro e w5 ⟨v5, rfl, ho5, hb5⟩; have HB5 := hide (by_to HB4.out hb5); have HO5 := hide (show own 3 w5 w.heap.size v5 _ from ho5.mono (by omega)); clear hb5 ho5))
      go_ret2
      exact ⟨_, rfl, HO5.out, by_below HB5.out⟩
end Go.Proofs.YtjmhmmenampgbaaDoor
