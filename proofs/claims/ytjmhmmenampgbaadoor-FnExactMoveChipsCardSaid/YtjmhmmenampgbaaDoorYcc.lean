/- Contracts: the chips of piles. -/
import Derived.Test.YtjmhmmenampgbaaDoorYx
import Derived.Test.YtjmhmmenampgbaaDoorYl
import Derived.Test.YtjmhmmenampgbaaDoorAx
namespace Go.Proofs.YtjmhmmenampgbaaDoor
open Go.RowKit
set_option maxRecDepth 100000
set_option linter.unusedSimpArgs false
def lnL (n : Nat) (L : Nat → Nat → Int) (k : Nat) : List (List Int) := (List.range k).map fun i => toL n (L i)
theorem lnL_len (n : Nat) (L : Nat → Nat → Int) (k : Nat) : (lnL n L k).length = k := by simp [lnL]
theorem lnL_next (n : Nat) (L : Nat → Nat → Int) (k : Nat) : lnL n L (k + 1) = lnL n L k ++ [toL n (L k)] := by unfold lnL; rw [List.range_succ, List.map_append]; rfl
attribute [local irreducible] p2 low memB risB
theorem own.keptLt {I : TypeId} {w w' : World} {base B : Nat} {v : Value} {l : List Int} (h : own I w base v l) (hlt : ∀ g, v.ownBlock = some g → g < B) (hb : Below B w w') : own I w' base v l := by
  obtain ⟨h1, h2⟩ := h
  refine ⟨h1, ?_⟩
  rcases h2 with h2 | ⟨g, cap, cur, e, hg, hh, r⟩
  · exact .inl h2
  · exact .inr ⟨g, cap, cur, e, hg, (hb.block g (hlt g (by subst e; rfl))).trans hh, r⟩
theorem ent_listZ : enters Tryd.prog 61 := enters_of Tryd.func61 (by kernel_rfl) (by kernel_rfl)
theorem rowCZ : (Tryd.prog.underlying 29).map TypeDesc.isRow = some true := by kernel_rfl
theorem sizeCZ : (Tryd.prog.info? 29).map (·.size) = some 2 := by kernel_rfl
set_option maxHeartbeats 4000000 in
theorem chips_c (n : Nat) (L : Nat → Nat → Int) (a : Nat → Int) (w : World) (hn : n ≤ 5) :
    Calls Tryd.prog 56 #[.agg (rowV (plR n L a))] w fun e w' => ∃ v u, e = .returned (.agg #[v, u]) ∧ chpO w' w.heap.size v u (lnL n L n) (toL n a) ∧ Below w.heap.size w w' := by
  have HP0 := hide ((pkAt.new w n L a).alloc (.cells #[.slice none 0 0, .slice none 0 0] 29))
  have HB0 := hide (((Below.refl w.heap.size w).alloc (Nat.le_refl _) (.cells (rowV (plR n L a)) 55)).alloc (by simp) (.cells #[.slice none 0 0, .slice none 0 0] 29))
  have hz0 : ((w.alloc (.cells (rowV (plR n L a)) 55)).alloc (.cells #[.slice none 0 0, .slice none 0 0] 29)).heap.size = w.heap.size + 2 := by simp
  have HX0 := hide (show ((w.alloc (.cells (rowV (plR n L a)) 55)).alloc (.cells #[.slice none 0 0, .slice none 0 0] 29)).heap[w.heap.size + 1]? = some (.cells #[.slice none 0 0, .slice none 0 0] 29) by have h := hp_last (w.alloc (.cells (rowV (plR n L a)) 55)) (.cells #[.slice none 0 0, .slice none 0 0] 29); simpa using h)
  have HS := hide (show ∀ j, j < (toL 5 a).length → ((w.alloc (.cells (rowV (plR n L a)) 55)).alloc (.cells #[.slice none 0 0, .slice none 0 0] 29)).cell? ⟨w.heap.size, 26 + j, none⟩ = some (.int .i64 ((toL 5 a)[j]?.getD 0)) from fun j hj => by
    rw [toL_len] at hj
    rw [toL_at _ hj]; exact HP0.out.chip hj)
  have HLC := hide (fun f w1 => list_c f n w1 hn)
  have h5a : (Tryd.prog.info? 52).map (·.size) = some (toL 5 a).length := by rw [toL_len]; exact size5
  have H5 := hide (fun k => show (Tryd.prog.info? 52).map (·.size) = some (toL 5 (L k)).length by rw [toL_len]; exact size5)
  have hn5 : (n : Int) ≤ 5 := by omega
  have hn0 : ¬ ((n : Int) < 0) := by omega
  have c0 := HP0.out.cell
  go_enter Tryd.func56, Tryd.ntmps56
  go_wp2_with (first
    | (refine wpList_load_subY row5 rfl (.tmp 6) rfl w.heap.size 26 rfl (toL 5 a) h5a HS.out ?_)
    | (go_at_call 61; refine (HLC.out a _).mono ?_; rintro e w3 ⟨v3, rfl, ho3, hb3⟩; obtain ⟨xa, xc, hx⟩ := ho3.shape; rw [toL_len] at hx; subst hx; have hz3 := hb3.size; rw [hz0] at hz3 hb3 ho3; have HO3 := hide ho3; have HP3 := hide (HP0.out.below hb3 (by omega)); have HX3 := hide ((hb3.block (w.heap.size + 1) (by omega)).trans HX0.out); have HB3 := hide (HB0.out.trans (hb3.mono (by omega))); have c03 := HP3.out.cell; have c04 := (HP3.out.alloc (.cells #[.slice none 0 0, .slice xa n xc] 29)).cell; clear ho3 hb3 c0))
  have HX4 := hide (hp_last w3 (.cells #[.slice none 0 0, .slice xa n xc] 29))
  have HP4 := hide (HP3.out.alloc (.cells #[.slice none 0 0, .slice xa n xc] 29))
  have HB4 := hide (HB3.out.alloc (show w.heap.size ≤ w3.heap.size by omega) (.cells #[.slice none 0 0, .slice xa n xc] 29))
  have HO4 := hide (HO3.out.alloc (.cells #[.slice none 0 0, .slice xa n xc] 29))
  have HR4 := hide ((hp_old w3 (.cells #[.slice none 0 0, .slice xa n xc] 29) (w.heap.size + 1) (by omega)).trans HX3.out)
  have HZ4 := hide (show (w3.alloc (.cells #[.slice none 0 0, .slice xa n xc] 29)).heap.size = w3.heap.size + 1 by simp)
  have HOL := hide (fun g hg => HO3.out.blockLt g hg)
  clear c03 c04 HO3
  generalize w3.alloc (.cells #[.slice none 0 0, .slice xa n xc] 29) = W at *
  generalize hG : w3.heap.size = G at *
  clear hG
  go_loopw [17] (fun iv wr => ∃ k : Nat, k ≤ n ∧ iv = .int .i64 (k : Int) ∧ Hid (∃ lv, own2 23 3 wr (G + 1) lv (lnL n L k) ∧ wr.heap[G]? = some (.cells #[lv, .slice xa n xc] 29)) ∧ Hid (Below G W wr)) (fun iv _ => n - (intOf iv).toNat)
  case atStart => exact ⟨0, Nat.zero_le _, rfl, ⟨_, own2_nil _ _ _ _, HX4.out⟩, Below.refl _ _⟩
  case round =>
    obtain ⟨k, hk, rfl, HL, HB⟩ := hrel
    have hsz := HB.out.size
    rw [HZ4.out] at hsz
    by_cases hlt : k < n
    · have hlt' : (k : Int) < (n : Int) := by omega
      obtain ⟨lv, hl2, hlc⟩ := HL.out
      obtain ⟨la, lc, hlv⟩ := hl2.shape
      rw [lnL_len] at hlv
      subst hlv
      have HL2 := hide hl2
      have HLC2 := hide hlc
      have HPW := hide (HP4.out.below HB.out (by omega))
      have HSW := hide (show ∀ j, j < (toL 5 (L k)).length → wr.cell? ⟨w.heap.size, 1 + k * 5 + j, none⟩ = some (.int .i64 ((toL 5 (L k))[j]?.getD 0)) from fun j hj => by
        rw [toL_len] at hj
        rw [toL_at _ hj]; exact HPW.out.line (by omega) hj)
      have HLK := hide (HLC.out (L k))
      have HNX := hide (lnL_next n L k)
      have h5k := H5.out k
      have hll := lnL_len n L k
      have htl := toL_len n (L k)
      clear hl2 hlc HL
      generalize lnL n L k = LK at *
      generalize hT5 : toL 5 (L k) = T5 at *
      generalize toL n (L k) = TN at *
      clear hT5
      have HT5 := hide (show (rowV T5).size = (rowV (toL 5 zA)).size by rw [rowV_size, rowV_size, toL_len]; have e : some T5.length = some 5 := (h5k.symm.trans size5); injection e)
      have HS5 := hide (show (Tryd.prog.info? 52).map (·.size) = some (rowV T5).size by rw [rowV_size]; exact h5k)
      have hb5 := bl_row ((Below.refl wr.heap.size wr).alloc (Nat.le_refl _) (.cells (rowV (toL 5 zA)) 52)) (Nat.le_refl _) (rowV T5)
      have HN5 := hide (hp_last wr (.cells (rowV (toL 5 zA)) 52))
      have HK5 := hide (hp_row _ _ _ (rowV T5) _ HN5.out)
      have HP5 := hide (HPW.out.below hb5 (by omega))
      have HC5 := hide ((hb5.block G (by omega)).trans HLC2.out)
      have HL5 := hide (HL2.out.kept hb5)
      have HB5 := hide (HB.out.trans (hb5.mono (by omega)))
      have HZ5 := hide (show ((wr.alloc (.cells (rowV (toL 5 zA)) 52)).setRow wr.heap.size (rowV T5)).heap.size = wr.heap.size + 1 by simp [World.setRow])
      clear hb5
      go_wp2_with (first
        | (refine wpList_load_subY row5 rfl (.tmp 19) rfl w.heap.size (1 + k * 5) rfl T5 h5k HSW.out ?_)
        | (refine wpList_alloc_csY zeroR5 rfl rfl _ rfl ?_)
        | (refine wpList_store_csY (cs := rowV T5) HS5.out rfl (.tmp 5) (.tmp _) rfl wr.heap.size rfl rfl _ HN5.out HT5.out.symm (rowV_one _) ?_))
      have hlb : ∀ g, (Value.slice la k lc).ownBlock = some g → g < wr.heap.size := fun g hg => by
        obtain ⟨us, hu1, ⟨hu2, hu3⟩, _⟩ := HL2.out
        rcases hu3 with ⟨e, _⟩ | ⟨g2, cap, cur, e, _, hh, _⟩
        · rw [e] at hg; simp [Value.ownBlock] at hg
        · rw [e] at hg
          have : g2 = g := by simpa [Value.ownBlock] using hg
          subst this
          exact hp_lt hh
      generalize (wr.alloc (.cells (rowV (toL 5 zA)) 52)).setRow wr.heap.size (rowV T5) = W5 at HK5 HP5 HC5 HL5 HB5 HZ5 ⊢
      refine wp_region_held (S := fun w' => w'.heap[wr.heap.size]? = some (.cells (rowV T5) 52) ∧ w'.cell? ⟨w.heap.size, 0, none⟩ = some (.int .i64 (n : Int))) (by kernel_rfl) ?_
      have hd0 : Below W5.heap.size W5 { W5 with drawn := W5.drawn + 1 } := (Below.refl _ _).drew
      have hz5 : ({ W5 with drawn := W5.drawn + 1 } : World).heap.size = W5.heap.size := rfl
      generalize ({ W5 with drawn := W5.drawn + 1 } : World) = V0 at hd0 hz5 ⊢
      rw [HZ5.out] at hz5
      have hS0 : V0.heap[wr.heap.size]? = some (.cells (rowV T5) 52) ∧ V0.cell? ⟨w.heap.size, 0, none⟩ = some (.int .i64 (n : Int)) := ⟨(hd0.block wr.heap.size (by rw [HZ5.out]; omega)).trans HK5.out, (hd0.cell (p := ⟨w.heap.size, 0, none⟩) (by show w.heap.size < _; rw [HZ5.out]; omega)).trans HP5.out.cell⟩
      have hC0 := (hd0.block G (by rw [HZ5.out]; omega)).trans HC5.out
      have hL0 := HL5.out.kept hd0
      have hB0 := HB5.out.trans (hd0.mono (by rw [HZ5.out]; omega))
      refine wpAnyH_take (i := 0) (v := .pointer (some ⟨G, 0, none⟩)) rfl (by kernel_rfl) (by kernel_rfl) (by kernel_rfl) (fun _ _ _ h => h) (.inl ⟨rfl, fun w' _ => by go_simp⟩) hS0 ?_
      simp only [Act.put, List.getElem_toArray, List.getElem_cons_zero, List.getElem_cons_succ, List.setIfInBounds_toArray, List.set_cons_zero, List.set_cons_succ]
      refine wpAnyH_take (i := 2) rfl (by kernel_rfl) (by kernel_rfl) (by kernel_rfl) (fun _ _ _ h => h) (yields_load_csY (cs := rowV T5) row5 HS5.out rfl (.tmp _) rfl wr.heap.size rfl (fun w' h => h.1)) hS0 ?_
      simp only [Act.put, List.getElem_toArray, List.getElem_cons_zero, List.getElem_cons_succ, List.setIfInBounds_toArray, List.set_cons_zero, List.set_cons_succ]
      refine wpAnyH_take (i := 3) (v := .pointer (some ⟨w.heap.size, 0, none⟩)) rfl (by kernel_rfl) (by kernel_rfl) (by kernel_rfl) (fun _ _ _ h => h) (.inl ⟨rfl, fun w' _ => by go_simp⟩) hS0 ?_
      simp only [Act.put, List.getElem_toArray, List.getElem_cons_zero, List.getElem_cons_succ, List.setIfInBounds_toArray, List.set_cons_zero, List.set_cons_succ]
      refine wpAnyH_take (i := 4) rfl (by kernel_rfl) (by kernel_rfl) (by kernel_rfl) (fun _ _ _ h => h) (yields_load_cell rowI rfl (.tmp _) rfl ⟨w.heap.size, 0, none⟩ rfl (.int .i64 (n : Int)) (fun w' h => h.2)) hS0 ?_
      simp only [Act.put, List.getElem_toArray, List.getElem_cons_zero, List.getElem_cons_succ, List.setIfInBounds_toArray, List.set_cons_zero, List.set_cons_succ]
      have hcl0 := cells_at0 hC0
      refine wpAnyH_all (rs := [1, 5]) (by kernel_rfl) (by simp) fun i hi => ?_
      rcases (show i = 1 ∨ i = 5 by simpa using hi) with rfl | rfl
      · show wpOp _ _ _ _ _ _ _
        refine wpOp_val rfl rfl (.slice la k lc) V0 (by simp [go_sem, hcl0]) ⟨hS0, ?_⟩
        simp only [Act.put, List.getElem_toArray, List.getElem_cons_zero, List.getElem_cons_succ, List.setIfInBounds_toArray, List.set_cons_zero, List.set_cons_succ]
        refine anyH_call (i := 5) (by kernel_rfl) rfl rfl 61 ent_listZ _ _ rfl #[.agg (rowV T5), .int .i64 (n : Int)] rfl (HLK.out V0) ?_
        rintro e V1 ⟨u, rfl, hu1, hb1⟩
        obtain ⟨ya, yc, hyu⟩ := hu1.shape
        subst hyu
        have hz1 := hb1.size
        have hS1 : V1.heap[wr.heap.size]? = some (.cells (rowV T5) 52) ∧ V1.cell? ⟨w.heap.size, 0, none⟩ = some (.int .i64 (n : Int)) := ⟨(hb1.block wr.heap.size (by omega)).trans hS0.1, (hb1.cell (p := ⟨w.heap.size, 0, none⟩) (by show w.heap.size < _; omega)).trans hS0.2⟩
        have hb2 := (Below.refl V1.heap.size V1).alloc (Nat.le_refl _) (.cells #[.slice ya TN.length yc] 23)
        have hS2 : (V1.alloc (.cells #[.slice ya TN.length yc] 23)).heap[wr.heap.size]? = some (.cells (rowV T5) 52) ∧ (V1.alloc (.cells #[.slice ya TN.length yc] 23)).cell? ⟨w.heap.size, 0, none⟩ = some (.int .i64 (n : Int)) := ⟨(hb2.block wr.heap.size (by omega)).trans hS1.1, (hb2.cell (p := ⟨w.heap.size, 0, none⟩) (by show w.heap.size < _; omega)).trans hS1.2⟩
        have hcl1 := cells_at0 ((hb1.block G (by omega)).trans hC0)
        have hcl2 := cells_at0 ((hb2.block G (by omega)).trans ((hb1.block G (by omega)).trans hC0))
        refine ⟨_, rfl, hS1, ?_⟩
        simp only [Act.put, List.getElem_toArray, List.getElem_cons_zero, List.getElem_cons_succ, List.setIfInBounds_toArray, List.set_cons_zero, List.set_cons_succ]
        refine anyH_op (i := 6) (by kernel_rfl) rfl rfl (.slice (some ⟨V1.heap.size, 0, none⟩) 1 1) (V1.alloc (.cells #[.slice ya TN.length yc] 23)) (by simp [go_sem]) hS2 ?_
        simp only [Act.put, List.getElem_toArray, List.getElem_cons_zero, List.getElem_cons_succ, List.setIfInBounds_toArray, List.set_cons_zero, List.set_cons_succ]
        refine anyH_oneX (i := 7) (by kernel_rfl) rfl rfl ?_
        intro Q1 hQ1
        refine wpList_append2 sliceT2 rowI2 (by decide) rfl (.tmp 22) (.tmp 27) rfl (G + 1) (.slice la k lc) LK rfl V0 hL0 (hb1.trans (hb2.mono hz1)) V1.heap.size (.slice ya TN.length yc) TN rfl (by simp [go_sem]) (hu1.alloc _) (by omega) (by omega) ?_
        intro v6 w6 ho6 hb6 hot6 _
        obtain ⟨za, zc, hv6⟩ := ho6.shape
        rw [List.length_append, hll, List.length_singleton] at hv6
        subst hv6
        have hza : (V1.alloc (.cells #[.slice ya TN.length yc] 23)).heap.size = V1.heap.size + 1 := by simp
        have hS6 : w6.heap[wr.heap.size]? = some (.cells (rowV T5) 52) ∧ w6.cell? ⟨w.heap.size, 0, none⟩ = some (.int .i64 (n : Int)) := ⟨(hot6.block wr.heap.size (by rw [hza]; omega) (fun e => by have := hlb _ e; omega)).trans hS2.1, (hb6.cell (p := ⟨w.heap.size, 0, none⟩) (by show w.heap.size < G + 1; omega)).trans hS2.2⟩
        refine wpList_nil ?_
        refine hQ1 _ _ hS6 ?_
        simp only [Act.put, List.getElem_toArray, List.getElem_cons_zero, List.getElem_cons_succ, List.setIfInBounds_toArray, List.set_cons_zero, List.set_cons_succ]
        refine anyH_op (i := 8) (by kernel_rfl) rfl rfl (.pointer (some ⟨G, 0, none⟩)) w6 (by simp [go_sem]) hS6 ?_
        simp only [Act.put, List.getElem_toArray, List.getElem_cons_zero, List.getElem_cons_succ, List.setIfInBounds_toArray, List.set_cons_zero, List.set_cons_succ]
        have hC6 := (hb6.block G (by omega)).trans ((hb2.block G (by omega)).trans ((hb1.block G (by omega)).trans hC0))
        have hc6 := cells_at0 hC6
        have hf6 := hp_free hC6 0
        have hbB : Below (G + 1) V0 w6 := ((hb1.mono (by omega)).trans (hb2.mono (by omega))).trans hb6
        have hS7 : (w6.setCell ⟨G, 0, none⟩ (.slice za (k + 1) zc)).heap[wr.heap.size]? = some (.cells (rowV T5) 52) ∧ (w6.setCell ⟨G, 0, none⟩ (.slice za (k + 1) zc)).cell? ⟨w.heap.size, 0, none⟩ = some (.int .i64 (n : Int)) := by
          have hb7 := (Below.refl G w6).setCell (p := ⟨G, 0, none⟩) (Nat.le_refl _) (.slice za (k + 1) zc)
          refine ⟨?_, (hb7.cell (p := ⟨w.heap.size, 0, none⟩) (by show w.heap.size < G; omega)).trans hS6.2⟩
          rw [hp_setO w6 ⟨G, 0, none⟩ wr.heap.size _ (by show wr.heap.size ≠ G; omega)]
          exact hS6.1
        refine anyH_skip (i := 9) (by kernel_rfl) rfl rfl (w6.setCell ⟨G, 0, none⟩ (.slice za (k + 1) zc)) ?hq hS7 ?_
        case hq => simp [go_sem, hc6, hf6]
        refine wpAnyH_done (by kernel_rfl) ?_ _
        simp only [Act.put, List.getElem_toArray, List.getElem_cons_zero, List.getElem_cons_succ, List.setIfInBounds_toArray, List.set_cons_zero, List.set_cons_succ]
        have HL7 := hide (ho6.same (w' := w6.setCell ⟨G, 0, none⟩ (.slice za (k + 1) zc)) (fun j hj => hp_setO w6 ⟨G, 0, none⟩ j _ (by show j ≠ G; omega)))
        have HC7 := hide (show (w6.setCell ⟨G, 0, none⟩ (.slice za (k + 1) zc)).heap[G]? = some (.cells #[.slice za (k + 1) zc, .slice xa n xc] 29) by rw [hp_set w6 G 0 _ _ _ hC6]; rfl)
        have HB7 := hide ((hB0.trans (hbB.mono (by omega))).setCell (p := ⟨G, 0, none⟩) (Nat.le_refl _) (.slice za (k + 1) zc))
        clear hS0 hS1 hS2 hS6 hS7 hC0 hC6 hc6 hf6 hbB hb1 hb2 hb6 hot6 ho6 hL0 hB0 hd0 hu1 hQ1 hcl0 hcl1 hcl2
        go_wp2
        go_roundw
        case rel => exact ⟨k + 1, by omega, by go_num, ⟨_, by rw [HNX.out]; exact HL7.out, HC7.out⟩, HB7⟩
        case measure => (simp [intOf] <;> omega)
      · show wpOp _ _ _ _ _ _ _
        refine wpOp_call rfl rfl 61 ent_listZ _ _ rfl #[.agg (rowV T5), .int .i64 (n : Int)] rfl (HLK.out V0) ?_
        rintro e V1 ⟨u, rfl, hu1, hb1⟩
        obtain ⟨ya, yc, hyu⟩ := hu1.shape
        subst hyu
        have hz1 := hb1.size
        have hS1 : V1.heap[wr.heap.size]? = some (.cells (rowV T5) 52) ∧ V1.cell? ⟨w.heap.size, 0, none⟩ = some (.int .i64 (n : Int)) := ⟨(hb1.block wr.heap.size (by omega)).trans hS0.1, (hb1.cell (p := ⟨w.heap.size, 0, none⟩) (by show w.heap.size < _; omega)).trans hS0.2⟩
        have hb2 := (Below.refl V1.heap.size V1).alloc (Nat.le_refl _) (.cells #[.slice ya TN.length yc] 23)
        have hS2 : (V1.alloc (.cells #[.slice ya TN.length yc] 23)).heap[wr.heap.size]? = some (.cells (rowV T5) 52) ∧ (V1.alloc (.cells #[.slice ya TN.length yc] 23)).cell? ⟨w.heap.size, 0, none⟩ = some (.int .i64 (n : Int)) := ⟨(hb2.block wr.heap.size (by omega)).trans hS1.1, (hb2.cell (p := ⟨w.heap.size, 0, none⟩) (by show w.heap.size < _; omega)).trans hS1.2⟩
        have hcl1 := cells_at0 ((hb1.block G (by omega)).trans hC0)
        have hcl2 := cells_at0 ((hb2.block G (by omega)).trans ((hb1.block G (by omega)).trans hC0))
        refine ⟨_, rfl, hS1, ?_⟩
        simp only [Act.put, List.getElem_toArray, List.getElem_cons_zero, List.getElem_cons_succ, List.setIfInBounds_toArray, List.set_cons_zero, List.set_cons_succ]
        refine wpAnyH_all (rs := [1, 6]) (by kernel_rfl) (by simp) fun i hi => ?_
        rcases (show i = 1 ∨ i = 6 by simpa using hi) with rfl | rfl
        · show wpOp _ _ _ _ _ _ _
          refine wpOp_val rfl rfl (.slice la k lc) V1 (by simp [go_sem, hcl1]) ⟨hS1, ?_⟩
          simp only [Act.put, List.getElem_toArray, List.getElem_cons_zero, List.getElem_cons_succ, List.setIfInBounds_toArray, List.set_cons_zero, List.set_cons_succ]
          refine anyH_op (i := 6) (by kernel_rfl) rfl rfl (.slice (some ⟨V1.heap.size, 0, none⟩) 1 1) (V1.alloc (.cells #[.slice ya TN.length yc] 23)) (by simp [go_sem]) hS2 ?_
          simp only [Act.put, List.getElem_toArray, List.getElem_cons_zero, List.getElem_cons_succ, List.setIfInBounds_toArray, List.set_cons_zero, List.set_cons_succ]
          refine anyH_oneX (i := 7) (by kernel_rfl) rfl rfl ?_
          intro Q1 hQ1
          refine wpList_append2 sliceT2 rowI2 (by decide) rfl (.tmp 22) (.tmp 27) rfl (G + 1) (.slice la k lc) LK rfl V0 hL0 (hb1.trans (hb2.mono hz1)) V1.heap.size (.slice ya TN.length yc) TN rfl (by simp [go_sem]) (hu1.alloc _) (by omega) (by omega) ?_
          intro v6 w6 ho6 hb6 hot6 _
          obtain ⟨za, zc, hv6⟩ := ho6.shape
          rw [List.length_append, hll, List.length_singleton] at hv6
          subst hv6
          have hza : (V1.alloc (.cells #[.slice ya TN.length yc] 23)).heap.size = V1.heap.size + 1 := by simp
          have hS6 : w6.heap[wr.heap.size]? = some (.cells (rowV T5) 52) ∧ w6.cell? ⟨w.heap.size, 0, none⟩ = some (.int .i64 (n : Int)) := ⟨(hot6.block wr.heap.size (by rw [hza]; omega) (fun e => by have := hlb _ e; omega)).trans hS2.1, (hb6.cell (p := ⟨w.heap.size, 0, none⟩) (by show w.heap.size < G + 1; omega)).trans hS2.2⟩
          refine wpList_nil ?_
          refine hQ1 _ _ hS6 ?_
          simp only [Act.put, List.getElem_toArray, List.getElem_cons_zero, List.getElem_cons_succ, List.setIfInBounds_toArray, List.set_cons_zero, List.set_cons_succ]
          refine anyH_op (i := 8) (by kernel_rfl) rfl rfl (.pointer (some ⟨G, 0, none⟩)) w6 (by simp [go_sem]) hS6 ?_
          simp only [Act.put, List.getElem_toArray, List.getElem_cons_zero, List.getElem_cons_succ, List.setIfInBounds_toArray, List.set_cons_zero, List.set_cons_succ]
          have hC6 := (hb6.block G (by omega)).trans ((hb2.block G (by omega)).trans ((hb1.block G (by omega)).trans hC0))
          have hc6 := cells_at0 hC6
          have hf6 := hp_free hC6 0
          have hbB : Below (G + 1) V0 w6 := ((hb1.mono (by omega)).trans (hb2.mono (by omega))).trans hb6
          have hS7 : (w6.setCell ⟨G, 0, none⟩ (.slice za (k + 1) zc)).heap[wr.heap.size]? = some (.cells (rowV T5) 52) ∧ (w6.setCell ⟨G, 0, none⟩ (.slice za (k + 1) zc)).cell? ⟨w.heap.size, 0, none⟩ = some (.int .i64 (n : Int)) := by
            have hb7 := (Below.refl G w6).setCell (p := ⟨G, 0, none⟩) (Nat.le_refl _) (.slice za (k + 1) zc)
            refine ⟨?_, (hb7.cell (p := ⟨w.heap.size, 0, none⟩) (by show w.heap.size < G; omega)).trans hS6.2⟩
            rw [hp_setO w6 ⟨G, 0, none⟩ wr.heap.size _ (by show wr.heap.size ≠ G; omega)]
            exact hS6.1
          refine anyH_skip (i := 9) (by kernel_rfl) rfl rfl (w6.setCell ⟨G, 0, none⟩ (.slice za (k + 1) zc)) ?hq hS7 ?_
          case hq => simp [go_sem, hc6, hf6]
          refine wpAnyH_done (by kernel_rfl) ?_ _
          simp only [Act.put, List.getElem_toArray, List.getElem_cons_zero, List.getElem_cons_succ, List.setIfInBounds_toArray, List.set_cons_zero, List.set_cons_succ]
          have HL7 := hide (ho6.same (w' := w6.setCell ⟨G, 0, none⟩ (.slice za (k + 1) zc)) (fun j hj => hp_setO w6 ⟨G, 0, none⟩ j _ (by show j ≠ G; omega)))
          have HC7 := hide (show (w6.setCell ⟨G, 0, none⟩ (.slice za (k + 1) zc)).heap[G]? = some (.cells #[.slice za (k + 1) zc, .slice xa n xc] 29) by rw [hp_set w6 G 0 _ _ _ hC6]; rfl)
          have HB7 := hide ((hB0.trans (hbB.mono (by omega))).setCell (p := ⟨G, 0, none⟩) (Nat.le_refl _) (.slice za (k + 1) zc))
          clear hS0 hS1 hS2 hS6 hS7 hC0 hC6 hc6 hf6 hbB hb1 hb2 hb6 hot6 ho6 hL0 hB0 hd0 hu1 hQ1 hcl0 hcl1 hcl2
          go_wp2
          go_roundw
          case rel => exact ⟨k + 1, by omega, by go_num, ⟨_, by rw [HNX.out]; exact HL7.out, HC7.out⟩, HB7⟩
          case measure => (simp [intOf] <;> omega)
        · show wpOp _ _ _ _ _ _ _
          refine wpOp_val rfl rfl (.slice (some ⟨V1.heap.size, 0, none⟩) 1 1) (V1.alloc (.cells #[.slice ya TN.length yc] 23)) (by simp [go_sem]) ⟨hS2, ?_⟩
          simp only [Act.put, List.getElem_toArray, List.getElem_cons_zero, List.getElem_cons_succ, List.setIfInBounds_toArray, List.set_cons_zero, List.set_cons_succ]
          refine anyH_op (i := 1) (by kernel_rfl) rfl rfl (.slice la k lc) (V1.alloc (.cells #[.slice ya TN.length yc] 23)) (by simp [go_sem, hcl2]) hS2 ?_
          simp only [Act.put, List.getElem_toArray, List.getElem_cons_zero, List.getElem_cons_succ, List.setIfInBounds_toArray, List.set_cons_zero, List.set_cons_succ]
          refine anyH_oneX (i := 7) (by kernel_rfl) rfl rfl ?_
          intro Q1 hQ1
          refine wpList_append2 sliceT2 rowI2 (by decide) rfl (.tmp 22) (.tmp 27) rfl (G + 1) (.slice la k lc) LK rfl V0 hL0 (hb1.trans (hb2.mono hz1)) V1.heap.size (.slice ya TN.length yc) TN rfl (by simp [go_sem]) (hu1.alloc _) (by omega) (by omega) ?_
          intro v6 w6 ho6 hb6 hot6 _
          obtain ⟨za, zc, hv6⟩ := ho6.shape
          rw [List.length_append, hll, List.length_singleton] at hv6
          subst hv6
          have hza : (V1.alloc (.cells #[.slice ya TN.length yc] 23)).heap.size = V1.heap.size + 1 := by simp
          have hS6 : w6.heap[wr.heap.size]? = some (.cells (rowV T5) 52) ∧ w6.cell? ⟨w.heap.size, 0, none⟩ = some (.int .i64 (n : Int)) := ⟨(hot6.block wr.heap.size (by rw [hza]; omega) (fun e => by have := hlb _ e; omega)).trans hS2.1, (hb6.cell (p := ⟨w.heap.size, 0, none⟩) (by show w.heap.size < G + 1; omega)).trans hS2.2⟩
          refine wpList_nil ?_
          refine hQ1 _ _ hS6 ?_
          simp only [Act.put, List.getElem_toArray, List.getElem_cons_zero, List.getElem_cons_succ, List.setIfInBounds_toArray, List.set_cons_zero, List.set_cons_succ]
          refine anyH_op (i := 8) (by kernel_rfl) rfl rfl (.pointer (some ⟨G, 0, none⟩)) w6 (by simp [go_sem]) hS6 ?_
          simp only [Act.put, List.getElem_toArray, List.getElem_cons_zero, List.getElem_cons_succ, List.setIfInBounds_toArray, List.set_cons_zero, List.set_cons_succ]
          have hC6 := (hb6.block G (by omega)).trans ((hb2.block G (by omega)).trans ((hb1.block G (by omega)).trans hC0))
          have hc6 := cells_at0 hC6
          have hf6 := hp_free hC6 0
          have hbB : Below (G + 1) V0 w6 := ((hb1.mono (by omega)).trans (hb2.mono (by omega))).trans hb6
          have hS7 : (w6.setCell ⟨G, 0, none⟩ (.slice za (k + 1) zc)).heap[wr.heap.size]? = some (.cells (rowV T5) 52) ∧ (w6.setCell ⟨G, 0, none⟩ (.slice za (k + 1) zc)).cell? ⟨w.heap.size, 0, none⟩ = some (.int .i64 (n : Int)) := by
            have hb7 := (Below.refl G w6).setCell (p := ⟨G, 0, none⟩) (Nat.le_refl _) (.slice za (k + 1) zc)
            refine ⟨?_, (hb7.cell (p := ⟨w.heap.size, 0, none⟩) (by show w.heap.size < G; omega)).trans hS6.2⟩
            rw [hp_setO w6 ⟨G, 0, none⟩ wr.heap.size _ (by show wr.heap.size ≠ G; omega)]
            exact hS6.1
          refine anyH_skip (i := 9) (by kernel_rfl) rfl rfl (w6.setCell ⟨G, 0, none⟩ (.slice za (k + 1) zc)) ?hq hS7 ?_
          case hq => simp [go_sem, hc6, hf6]
          refine wpAnyH_done (by kernel_rfl) ?_ _
          simp only [Act.put, List.getElem_toArray, List.getElem_cons_zero, List.getElem_cons_succ, List.setIfInBounds_toArray, List.set_cons_zero, List.set_cons_succ]
          have HL7 := hide (ho6.same (w' := w6.setCell ⟨G, 0, none⟩ (.slice za (k + 1) zc)) (fun j hj => hp_setO w6 ⟨G, 0, none⟩ j _ (by show j ≠ G; omega)))
          have HC7 := hide (show (w6.setCell ⟨G, 0, none⟩ (.slice za (k + 1) zc)).heap[G]? = some (.cells #[.slice za (k + 1) zc, .slice xa n xc] 29) by rw [hp_set w6 G 0 _ _ _ hC6]; rfl)
          have HB7 := hide ((hB0.trans (hbB.mono (by omega))).setCell (p := ⟨G, 0, none⟩) (Nat.le_refl _) (.slice za (k + 1) zc))
          clear hS0 hS1 hS2 hS6 hS7 hC0 hC6 hc6 hf6 hbB hb1 hb2 hb6 hot6 ho6 hL0 hB0 hd0 hu1 hQ1 hcl0 hcl1 hcl2
          go_wp2
          go_roundw
          case rel => exact ⟨k + 1, by omega, by go_num, ⟨_, by rw [HNX.out]; exact HL7.out, HC7.out⟩, HB7⟩
          case measure => (simp [intOf] <;> omega)
    · have HKN := hide (show k = n by omega)
      have hlt' : ¬ ((k : Int) < (n : Int)) := by omega
      obtain ⟨lv, hl2, hlc⟩ := HL.out
      obtain ⟨la, lc, hlv⟩ := hl2.shape
      rw [lnL_len] at hlv
      subst hlv
      have HL2 := hide (show own2 23 3 wr (G + 1) (.slice la k lc) (lnL n L n) by have h := hl2; rw [show lnL n L k = lnL n L n by rw [HKN.out]] at h; exact h)
      have HLC2 := hide hlc
      have HRW := hide ((HB.out.block (w.heap.size + 1) (by omega)).trans HR4.out)
      have HOW := hide (HO4.out.keptLt HOL.out HB.out)
      have HBW := hide (HB4.out.trans (HB.out.mono (by omega)))
      clear hl2 hlc HL
      go_wp2_with (first
        | (refine wpList_load_csY (cs := #[.slice la k lc, .slice xa n xc]) rowCZ sizeCZ rfl (.tmp 3) rfl G rfl HLC2.out ?_)
        | (refine wpList_store_csY (cs := #[.slice la k lc, .slice xa n xc]) sizeCZ rfl (.tmp 2) (.tmp _) rfl (w.heap.size + 1) rfl rfl _ HRW.out rfl (by simp [Value.oneCell']) ?_))
      refine (show bodyPost _ _ _ Exit.ret _ _ from ?_)
      refine bodyPost_ret (v := .agg #[.slice la k lc, .slice xa n xc]) (results_csY (cs := #[.slice la k lc, .slice xa n xc]) rowCZ sizeCZ (fn := Tryd.f56) (p := 2) rfl _ _ (w.heap.size + 1) rfl (hp_row _ _ _ _ _ HRW.out)) rfl ⟨_, _, rfl, ⟨G + 1, by omega, by simp [World.setRow]; omega, ?_, ?_, ?_⟩, bl_row HBW.out (by omega) _⟩
      · exact HL2.out.same fun j hj => hp_rowO _ _ _ _ (by omega)
      · have hr := HOW.out.keptLt (B := wr.heap.size) (fun g hg => by have := HOL.out g hg; omega) (Below.refl _ _)
        refine (?_ : own 3 _ (w.heap.size + 2) _ _).mono (by omega)
        obtain ⟨h1, h2⟩ := HOW.out
        refine ⟨h1, ?_⟩
        rcases h2 with h2 | ⟨g, cap, cur, e, hg, hh, r⟩
        · exact .inl h2
        · exact .inr ⟨g, cap, cur, e, hg, (hp_rowO _ _ _ _ (by omega)).trans hh, r⟩
      · intro g hg
        have := HOL.out g hg
        omega
end Go.Proofs.YtjmhmmenampgbaaDoor
/- Contracts: RunChips and FinalChips, both. -/
namespace Go.Proofs.YtjmhmmenampgbaaDoor
open Go.RowKit
set_option maxRecDepth 100000
set_option linter.unusedSimpArgs false
theorem lnL_self {M : List (List Int)} {A : List Int} (h : ChP M A) : lnL A.length (plL M A) A.length = M := by
  apply List.ext_getElem?
  intro i
  unfold lnL
  by_cases hi : i < A.length
  · have hm : i < M.length := by have := h.ml; omega
    rw [List.getElem?_map, List.getElem?_range hi, Option.map_some, List.getElem?_eq_getElem hm]
    congr 1
    have hr : (M[i]?.getD []).length = A.length := h.rl i hi
    rw [List.getElem?_eq_getElem hm, Option.getD_some] at hr
    apply List.ext_getElem?
    intro j
    by_cases hj : j < A.length
    · rw [toL_get _ hj, plL_yes h hi j, List.getElem?_eq_getElem (by omega)]
      unfold lnN
      rw [List.getElem?_eq_getElem hm, Option.getD_some, List.getElem?_eq_getElem (by omega), Option.getD_some]
    · rw [List.getElem?_eq_none (by rw [toL_len]; omega), List.getElem?_eq_none (by omega)]
  · rw [List.getElem?_eq_none (by simp; omega), List.getElem?_eq_none (by have := h.ml; omega)]
/-- The answers: rows and chips behind a run; none. -/
noncomputable def rcM (b : Bool) (M : List (List Int)) : List (List Int) := if b then M else []
noncomputable def rcA (M : List (List Int)) (A mv : List Int) : List Int := if irB M A mv then rsA A.length (plL M A) mv (atN A) mv.length else []
noncomputable def fcA (M : List (List Int)) (A : List Int) : List Int := if foB M A then toL A.length (fuR M A []).2.1 else []
theorem chpO.rowLow {w : World} {base b : Nat} {v u : Value} {M : List (List Int)} {A : List Int} (h : chpO w base v u M A) (hb : b < base) (c : Array Value) : chpO (w.setRow b c) base v u M A := by
  obtain ⟨m, h1, h2, h3, h4, h5⟩ := h
  exact ⟨m, h1, by simpa [World.setRow] using h2, h3.same fun k hk => hp_rowO _ _ _ _ (by omega), h4.same fun k hk => hp_rowO _ _ _ _ (by omega), h5⟩
theorem chpO_nil (w : World) (base : Nat) (h : base ≤ w.heap.size) : chpO w base (.slice none 0 0) (.slice none 0 0) [] [] :=
  ⟨base, Nat.le_refl _, h, own2_nil _ _ _ _, own_nil _ _ _, fun g hg => by simp [Value.ownBlock] at hg⟩
theorem chp_shape {w : World} {base : Nat} {v u : Value} {M : List (List Int)} {A : List Int} (h : chpO w base v u M A) : ∃ a c b d, v = .slice a M.length c ∧ u = .slice b A.length d := by
  obtain ⟨a, c, h1⟩ := h.rows.shape
  obtain ⟨b, d, h2⟩ := h.ints.shape
  exact ⟨a, c, b, d, h1, h2⟩
theorem one2 (a b : Option Addr) (n c m d : Nat) : (#[Value.slice a n c, Value.slice b m d] : Array Value).all (·.oneCell') = true := by simp [Value.oneCell']
attribute [local irreducible] p2 low memB risB
set_option maxHeartbeats 4000000 in
theorem specRunChips_c (v u : Value) (M : List (List Int)) (A : List Int) (z : Value) (mv : List Int) (w : World) (hl : rows w.heap.size w v M) (hs : small2 M) (hu : ints w.heap.size w u A) (hlen : A.length < 1000000000) (hm : ints w.heap.size w z mv) (_hml : mv.length < 1000000000) (_hT : tab w) :
    Calls Tryd.prog 24 #[.agg #[v, u], z] w fun e w' => ∃ v' u', e = .returned (.tuple #[.agg #[v', u'], .bool (irR M A mv)]) ∧ chpO w' w.heap.size v' u' (rcM (irR M A mv) M) (rcA M A mv) ∧ Below w.heap.size w w' := by
  obtain ⟨za, zc, hz⟩ := hm.shape
  subst hz
  have HM := hide hm
  have hb0 := ((Below.refl w.heap.size w).alloc (Nat.le_refl _) (.cells #[v, u] 29)).alloc (by simp) (.cells #[.slice none 0 0, .slice none 0 0] 29)
  have HB0 := hide hb0
  have hz0 : ((w.alloc (.cells #[v, u] 29)).alloc (.cells #[.slice none 0 0, .slice none 0 0] 29)).heap.size = w.heap.size + 2 := by simp
  have HR0 := hide (show ((w.alloc (.cells #[v, u] 29)).alloc (.cells #[.slice none 0 0, .slice none 0 0] 29)).heap[w.heap.size + 1]? = some (.cells #[.slice none 0 0, .slice none 0 0] 29) by have h := hp_last (w.alloc (.cells #[v, u] 29)) (.cells #[.slice none 0 0, .slice none 0 0] 29); simpa using h)
  have HV0 := hide (show ((w.alloc (.cells #[v, u] 29)).alloc (.cells #[.slice none 0 0, .slice none 0 0] 29)).heap[w.heap.size]? = some (.cells #[v, u] 29) from (hp_old _ _ _ (by simp)).trans (hp_last w (.cells #[v, u] 29)))
  have HL := hide hl
  have HU := hide hu
  have HG := hide (waGood_c v u M A ((w.alloc (.cells #[v, u] 29)).alloc (.cells #[.slice none 0 0, .slice none 0 0] 29)) (((hl.alloc _).alloc _).mono (by simp; omega)) hs (((hu.alloc _).alloc _).mono (by simp; omega)) hlen)
  clear hl hu hm hb0
  have c0 := cells_at0 HV0.out
  have c1 := cells_at1 HV0.out
  by_cases hbad : irB M A mv = false
  · have HNR := hide (irR_no hbad)
    have hra : rcA M A mv = [] := by unfold rcA; rw [hbad]; rfl
    rw [HNR.out, hra, show rcM false M = [] from rfl]
    have hcases : cpB M A = false ∨ (cpB M A = true ∧ ¬ mv.length ≤ 120) := by
      cases hc : cpB M A
      · exact .inl rfl
      · refine .inr ⟨rfl, fun h => ?_⟩
        rw [irB_yes hc h] at hbad; cases hbad
    rcases hcases with hc | ⟨hc, h120⟩
    all_goals
      rw [hc] at HG
      clear hc hra
    · go_enter Tryd.func24, Tryd.ntmps24
      go_wp2_with (first
        | (go_at_call 41; refine HG.out.mono ?_; rintro e w2 ⟨rfl, hb2⟩; have hz2 := hb2.size; rw [hz0] at hz2; have HR2 := hide ((hb2.block (w.heap.size + 1) (by rw [hz0]; omega)).trans HR0.out); have HB2 := hide (HB0.out.trans (hb2.mono (by rw [hz0]; omega))); clear hb2 c0 c1)
        | (refine wpList_store_csY (cs := #[.slice none 0 0, .slice none 0 0]) sizeCZ rfl (.tmp 4) (.tmp _) rfl (w.heap.size + 1) rfl rfl _ HR2.out rfl (one2 _ _ _ _ _ _) ?_))
      refine (show bodyPost _ _ _ Exit.ret _ _ from ?_)
      exact bodyPost_ret (v := .tuple #[.agg #[.slice none 0 0, .slice none 0 0], .bool false]) (results_cs2Y (cs := #[.slice none 0 0, .slice none 0 0]) rowCZ sizeCZ (fn := Tryd.f24) (p := 4) (q := 5) rfl _ _ (w.heap.size + 1) rfl (hp_row _ _ _ _ _ HR2.out)) rfl ⟨_, _, rfl, chpO_nil _ _ (by simp [World.setRow]; omega), bl_row HB2.out (by omega) _⟩
    · have hgt : (120 : Int) < (mv.length : Int) := by omega
      go_enter Tryd.func24, Tryd.ntmps24
      go_wp2_with (first
        | (go_at_call 41; refine HG.out.mono ?_; rintro e w2 ⟨rfl, hb2⟩; have hz2 := hb2.size; rw [hz0] at hz2; have HR2 := hide ((hb2.block (w.heap.size + 1) (by rw [hz0]; omega)).trans HR0.out); have HB2 := hide (HB0.out.trans (hb2.mono (by rw [hz0]; omega))); clear hb2 c0 c1)
        | (refine wpList_store_csY (cs := #[.slice none 0 0, .slice none 0 0]) sizeCZ rfl (.tmp 4) (.tmp _) rfl (w.heap.size + 1) rfl rfl _ HR2.out rfl (one2 _ _ _ _ _ _) ?_))
      refine (show bodyPost _ _ _ Exit.ret _ _ from ?_)
      exact bodyPost_ret (v := .tuple #[.agg #[.slice none 0 0, .slice none 0 0], .bool false]) (results_cs2Y (cs := #[.slice none 0 0, .slice none 0 0]) rowCZ sizeCZ (fn := Tryd.f24) (p := 4) (q := 5) rfl _ _ (w.heap.size + 1) rfl (hp_row _ _ _ _ _ HR2.out)) rfl ⟨_, _, rfl, chpO_nil _ _ (by simp [World.setRow]; omega), bl_row HB2.out (by omega) _⟩
  · have hok : irB M A mv = true := by simpa using hbad
    have hc : cpB M A = true := by unfold irB at hok; rw [Bool.and_eq_true] at hok; exact hok.1
    have h120 : mv.length ≤ 120 := by unfold irB at hok; rw [Bool.and_eq_true, decide_eq_true_eq] at hok; exact hok.2
    have hp := cpB_iff.1 hc
    have HIR := hide (irR_yes hok)
    have HRA := hide (show rcA M A mv = rsA A.length (plL M A) mv (atN A) mv.length by unfold rcA; rw [if_pos hok])
    have hgt : ¬ ((120 : Int) < (mv.length : Int)) := by omega
    have HRU := hide (fun w1 (h : Below w.heap.size w w1) => waRun_c v u (.slice za mv.length zc) M A mv w1 ((HL.out.below h (Nat.le_refl _)).mono h.size) hp ((HU.out.below h (Nat.le_refl _)).mono h.size) ((HM.out.below h (Nat.le_refl _)).mono h.size) h120)
    have HWW := hide (fun (xa : Option Addr) (xn xc : Nat) w1 (h : Below w.heap.size w w1) => waWith_c v u xa xn xc M w1 ((HL.out.below h (Nat.le_refl _)).mono h.size) hs)
    have hnone : (rsF A.length (plL M A) mv (atN A) mv.length).isSome = false → rsA A.length (plL M A) mv (atN A) mv.length = [] := fun h => by
      unfold rsA
      cases hh : rsF A.length (plL M A) mv (atN A) mv.length
      · rfl
      · rw [hh] at h; cases h
    rw [HIR.out, HRA.out]
    rw [hc] at HG
    clear hc hp hok hbad HIR HRA
    generalize rsA A.length (plL M A) mv (atN A) mv.length = RA at *
    cases hir : (rsF A.length (plL M A) mv (atN A) mv.length).isSome
    · rw [hnone hir, show rcM false M = [] from rfl]
      rw [hir] at HRU
      clear hnone hir
      go_enter Tryd.func24, Tryd.ntmps24
      go_wp2_with (first
        | (go_at_call 41; refine HG.out.mono ?_; rintro e w2 ⟨rfl, hb2⟩; have hz2 := hb2.size; rw [hz0] at hz2; have HR2 := hide ((hb2.block (w.heap.size + 1) (by rw [hz0]; omega)).trans HR0.out); have HV2 := hide ((hb2.block w.heap.size (by rw [hz0]; omega)).trans HV0.out); have d0 := cells_at0 HV2.out; have d1 := cells_at1 HV2.out; have HB2 := hide (HB0.out.trans (hb2.mono (by rw [hz0]; omega))); clear hb2 c0 c1)
        | (go_at_call 54; refine (HRU.out _ HB2.out).mono ?_; rintro e w3 ⟨v3, rfl, ho3, hb3⟩; have HR3 := hide ((hb3.block (w.heap.size + 1) (by omega)).trans HR2.out); have hz3 := hb3.size; have HB3 := hide (HB2.out.trans (hb3.mono (by omega))); clear hb3 ho3 d0 d1)
        | (refine wpList_store_csY (cs := #[.slice none 0 0, .slice none 0 0]) sizeCZ rfl (.tmp 4) (.tmp _) rfl (w.heap.size + 1) rfl rfl _ HR3.out rfl (one2 _ _ _ _ _ _) ?_))
      refine (show bodyPost _ _ _ Exit.ret _ _ from ?_)
      exact bodyPost_ret (v := .tuple #[.agg #[.slice none 0 0, .slice none 0 0], .bool false]) (results_cs2Y (cs := #[.slice none 0 0, .slice none 0 0]) rowCZ sizeCZ (fn := Tryd.f24) (p := 4) (q := 5) rfl _ _ (w.heap.size + 1) rfl (hp_row _ _ _ _ _ HR3.out)) rfl ⟨_, _, rfl, chpO_nil _ _ (by simp [World.setRow]; omega), bl_row HB3.out (by omega) _⟩
    · rw [show rcM true M = M from rfl]
      rw [hir] at HRU
      clear hnone hir
      go_enter Tryd.func24, Tryd.ntmps24
      go_wp2_with (first
        | (go_at_call 41; refine HG.out.mono ?_; rintro e w2 ⟨rfl, hb2⟩; have hz2 := hb2.size; rw [hz0] at hz2; have HR2 := hide ((hb2.block (w.heap.size + 1) (by rw [hz0]; omega)).trans HR0.out); have HV2 := hide ((hb2.block w.heap.size (by rw [hz0]; omega)).trans HV0.out); have d0 := cells_at0 HV2.out; have d1 := cells_at1 HV2.out; have HB2 := hide (HB0.out.trans (hb2.mono (by rw [hz0]; omega))); clear hb2 c0 c1)
        | (go_at_call 54; refine (HRU.out _ HB2.out).mono ?_; rintro e w3 ⟨v3, rfl, ho3, hb3⟩; obtain ⟨xa, xc, hxv⟩ := ho3.shape; subst hxv; have HR3 := hide ((hb3.block (w.heap.size + 1) (by omega)).trans HR2.out); have HV3 := hide ((hb3.block w.heap.size (by omega)).trans HV2.out); have f0 := cells_at0 HV3.out; have f1 := cells_at1 HV3.out; have hz3 := hb3.size; have HO3 := hide ho3; have HB3 := hide (HB2.out.trans (hb3.mono (by omega))); clear hb3 ho3 d0 d1)
        | (go_at_call 51; refine (HWW.out _ _ _ _ HB3.out).mono ?_; rintro e w4 ⟨v4, rfl, ho4, hb4⟩; obtain ⟨ya, yc, hyv⟩ := ho4.shape; subst hyv; have HR4 := hide ((hb4.block (w.heap.size + 1) (by omega)).trans HR3.out); have hz4 := hb4.size; have HC4 := hide (show chpO w4 w2.heap.size (.slice ya M.length yc) (.slice xa RA.length xc) M RA from ⟨w3.heap.size, hz3, hz4, ho4, HO3.out.kept hb4, HO3.out.blockLt⟩); have HB4 := hide (HB3.out.trans (hb4.mono (by omega))); clear hb4 ho4)
        | (refine wpList_store_csY (cs := #[.slice ya M.length yc, .slice xa RA.length xc]) sizeCZ rfl (.tmp 4) (.tmp _) rfl (w.heap.size + 1) rfl rfl _ HR4.out rfl (one2 _ _ _ _ _ _) ?_))
      refine (show bodyPost _ _ _ Exit.ret _ _ from ?_)
      exact bodyPost_ret (v := .tuple #[.agg #[.slice ya M.length yc, .slice xa RA.length xc], .bool true]) (results_cs2Y (cs := #[.slice ya M.length yc, .slice xa RA.length xc]) rowCZ sizeCZ (fn := Tryd.f24) (p := 4) (q := 5) rfl _ _ (w.heap.size + 1) rfl (hp_row _ _ _ _ _ HR4.out)) rfl ⟨_, _, rfl, (HC4.out.rowLow (by omega) _).mono (by omega), bl_row HB4.out (by omega) _⟩
end Go.Proofs.YtjmhmmenampgbaaDoor
/- Contracts: RunChips of the program; FinalChips, both. -/
namespace Go.Proofs.YtjmhmmenampgbaaDoor
open Go.RowKit
set_option maxRecDepth 100000
set_option linter.unusedSimpArgs false
theorem foB_cp {M : List (List Int)} {A : List Int} (h : foB M A = true) : cpB M A = true := by unfold foB at h; rw [Bool.and_eq_true] at h; exact h.1
theorem frC_mid (n m : Nat) (L K : Nat → Nat → Int) (a b : Nat → Int) (v : Value) {j : Nat} (hj : j < 31) : (frC (plR n L a) (plR m K b) v)[31 + j]? = some (.int .i64 ((plR m K b)[j]?.getD 0)) := by
  unfold frC
  have h1 := plR_len n L a
  have h2 := plR_len m K b
  rw [Array.getElem?_append_left (by simp [rowV_size, h1, h2]; omega), Array.getElem?_append_right (by simp [rowV_size, h1])]
  unfold rowV
  simp [h1, h2, hj]
attribute [local irreducible] p2 low memB risB
set_option maxHeartbeats 4000000 in
theorem implRunChips_c (v u : Value) (M : List (List Int)) (A : List Int) (z : Value) (mv : List Int) (w : World) (hl : rows w.heap.size w v M) (hs : small2 M) (hu : ints w.heap.size w u A) (hlen : A.length < 1000000000) (hm : ints w.heap.size w z mv) (_hml : mv.length < 1000000000) (hT : tab w) :
    Calls Tryd.prog 26 #[.agg #[v, u], z] w fun e w' => ∃ v' u', e = .returned (.tuple #[.agg #[v', u'], .bool (irR M A mv)]) ∧ chpO w' w.heap.size v' u' (rcM (irR M A mv) M) (rcA M A mv) ∧ Below w.heap.size w w' := by
  obtain ⟨za, zc, hz⟩ := hm.shape
  subst hz
  have HM := hide hm
  have HT := hide hT
  have hb0 := ((Below.refl w.heap.size w).alloc (Nat.le_refl _) (.cells #[v, u] 29)).alloc (by simp) (.cells #[.slice none 0 0, .slice none 0 0] 29)
  have HB0 := hide hb0
  have hz0 : ((w.alloc (.cells #[v, u] 29)).alloc (.cells #[.slice none 0 0, .slice none 0 0] 29)).heap.size = w.heap.size + 2 := by simp
  have HR0 := hide (show ((w.alloc (.cells #[v, u] 29)).alloc (.cells #[.slice none 0 0, .slice none 0 0] 29)).heap[w.heap.size + 1]? = some (.cells #[.slice none 0 0, .slice none 0 0] 29) by have h := hp_last (w.alloc (.cells #[v, u] 29)) (.cells #[.slice none 0 0, .slice none 0 0] 29); simpa using h)
  have HV0 := hide (show ((w.alloc (.cells #[v, u] 29)).alloc (.cells #[.slice none 0 0, .slice none 0 0] 29)).heap[w.heap.size]? = some (.cells #[v, u] 29) from (hp_old _ _ _ (by simp)).trans (hp_last w (.cells #[v, u] 29)))
  have HL := hide hl
  have HU := hide hu
  have HG := hide (pilesOf_c v u M A ((w.alloc (.cells #[v, u] 29)).alloc (.cells #[.slice none 0 0, .slice none 0 0] 29)) (((hl.alloc _).alloc _).mono (by simp; omega)) hs (((hu.alloc _).alloc _).mono (by simp; omega)) hlen)
  clear hl hu hm hb0 hT
  have HLN := hide (pl_ln M A)
  have HAT := hide (pl_at M A)
  by_cases hbad : irB M A mv = false
  · have HNR := hide (irR_no hbad)
    have hra : rcA M A mv = [] := by unfold rcA; rw [hbad]; rfl
    rw [HNR.out, hra, show rcM false M = [] from rfl]
    have hcases : cpB M A = false ∨ (cpB M A = true ∧ ¬ mv.length ≤ 120) := by
      cases hc : cpB M A
      · exact .inl rfl
      · refine .inr ⟨rfl, fun h => ?_⟩
        rw [irB_yes hc h] at hbad; cases hbad
    rcases hcases with hc | ⟨hc, h120⟩
    all_goals
      rw [hc] at HG
      clear hc hra
      generalize plN M A = n at *
      generalize plL M A = L at *
      generalize plA M A = a at *
    · go_enter Tryd.func26, Tryd.ntmps26
      go_wp2_with (first
        | (go_at_call 44; refine HG.out.mono ?_; rintro e w2 ⟨rfl, hb2⟩; have hz2 := hb2.size; rw [hz0] at hz2; have hb3 := bl_row ((Below.refl w2.heap.size w2).alloc (Nat.le_refl _) (.cells (rowV (plR 0 zL zA)) 55)) (Nat.le_refl _) (rowV (plR n L a)); have HR3 := hide ((hb3.block (w.heap.size + 1) (by omega)).trans ((hb2.block (w.heap.size + 1) (by rw [hz0]; omega)).trans HR0.out)); have HB3 := hide ((HB0.out.trans (hb2.mono (by rw [hz0]; omega))).trans (hb3.mono (by omega))); have HK2 := hide (pkAt.new w2 0 zL zA); have HK3 := hide ((pkAt.new w2 0 zL zA).row (m := n) (K := L) (b := a)); have HZ3 := hide (show ((w2.alloc (.cells (rowV (plR 0 zL zA)) 55)).setRow w2.heap.size (rowV (plR n L a))).heap.size = w2.heap.size + 1 by simp [World.setRow]); clear hb2 hb3)
        | (refine wpList_alloc_csY zeroPK rfl rfl _ rfl ?_)
        | (refine wpList_store_csY (sizePKl n L a) rfl (.tmp 6) (.tmp _) rfl w2.heap.size rfl rfl _ HK2.out (by simp [rowV, plR_len]) (rowV_one _) ?_)
        | (refine wpList_store_csY (cs := #[.slice none 0 0, .slice none 0 0]) sizeCZ rfl (.tmp 4) (.tmp _) rfl (w.heap.size + 1) rfl rfl _ HR3.out rfl (one2 _ _ _ _ _ _) ?_))
      refine (show bodyPost _ _ _ Exit.ret _ _ from ?_)
      exact bodyPost_ret (v := .tuple #[.agg #[.slice none 0 0, .slice none 0 0], .bool false]) (results_cs2Y (cs := #[.slice none 0 0, .slice none 0 0]) rowCZ sizeCZ (fn := Tryd.f26) (p := 4) (q := 5) rfl _ _ (w.heap.size + 1) rfl (hp_row _ _ _ _ _ HR3.out)) rfl ⟨_, _, rfl, chpO_nil _ _ (by simp [World.setRow]; omega), bl_row HB3.out (by omega) _⟩
    · have hgt : (120 : Int) < (mv.length : Int) := by omega
      go_enter Tryd.func26, Tryd.ntmps26
      go_wp2_with (first
        | (go_at_call 44; refine HG.out.mono ?_; rintro e w2 ⟨rfl, hb2⟩; have hz2 := hb2.size; rw [hz0] at hz2; have hb3 := bl_row ((Below.refl w2.heap.size w2).alloc (Nat.le_refl _) (.cells (rowV (plR 0 zL zA)) 55)) (Nat.le_refl _) (rowV (plR n L a)); have HR3 := hide ((hb3.block (w.heap.size + 1) (by omega)).trans ((hb2.block (w.heap.size + 1) (by rw [hz0]; omega)).trans HR0.out)); have HB3 := hide ((HB0.out.trans (hb2.mono (by rw [hz0]; omega))).trans (hb3.mono (by omega))); have HK2 := hide (pkAt.new w2 0 zL zA); have HK3 := hide ((pkAt.new w2 0 zL zA).row (m := n) (K := L) (b := a)); have HZ3 := hide (show ((w2.alloc (.cells (rowV (plR 0 zL zA)) 55)).setRow w2.heap.size (rowV (plR n L a))).heap.size = w2.heap.size + 1 by simp [World.setRow]); clear hb2 hb3)
        | (refine wpList_alloc_csY zeroPK rfl rfl _ rfl ?_)
        | (refine wpList_store_csY (sizePKl n L a) rfl (.tmp 6) (.tmp _) rfl w2.heap.size rfl rfl _ HK2.out (by simp [rowV, plR_len]) (rowV_one _) ?_)
        | (refine wpList_store_csY (cs := #[.slice none 0 0, .slice none 0 0]) sizeCZ rfl (.tmp 4) (.tmp _) rfl (w.heap.size + 1) rfl rfl _ HR3.out rfl (one2 _ _ _ _ _ _) ?_))
      refine (show bodyPost _ _ _ Exit.ret _ _ from ?_)
      exact bodyPost_ret (v := .tuple #[.agg #[.slice none 0 0, .slice none 0 0], .bool false]) (results_cs2Y (cs := #[.slice none 0 0, .slice none 0 0]) rowCZ sizeCZ (fn := Tryd.f26) (p := 4) (q := 5) rfl _ _ (w.heap.size + 1) rfl (hp_row _ _ _ _ _ HR3.out)) rfl ⟨_, _, rfl, chpO_nil _ _ (by simp [World.setRow]; omega), bl_row HB3.out (by omega) _⟩
  · have hok : irB M A mv = true := by simpa using hbad
    have hc : cpB M A = true := by unfold irB at hok; rw [Bool.and_eq_true] at hok; exact hok.1
    have h120 : mv.length ≤ 120 := by unfold irB at hok; rw [Bool.and_eq_true, decide_eq_true_eq] at hok; exact hok.2
    have hp := cpB_iff.1 hc
    have HIR := hide (irR_pl hok)
    have HRA := hide (show rcA M A mv = rsA (plN M A) (plL M A) mv (plA M A) mv.length by unfold rcA; rw [if_pos hok, plN_yes hp, plA_fun hp])
    have HLM := hide (show lnL (plN M A) (plL M A) (plN M A) = M by rw [plN_yes hp]; exact lnL_self hp)
    have hgt : ¬ ((120 : Int) < (mv.length : Int)) := by omega
    have hn5 := plN_5 M A
    rw [← HIR.out, HRA.out]
    rw [hc] at HG
    clear hc hp hok hbad HIR HRA
    generalize plN M A = n at *
    generalize plL M A = L at *
    generalize plA M A = a at *
    have HBH := hide (fun w1 (h : Below w.heap.size w w1) => behind_c n L a za zc mv w1 HLN.out HAT.out ((HM.out.below h (Nat.le_refl _)).mono h.size) h120 (HT.out.below h))
    have HCH := hide (fun b w1 => chips_c n L b w1 hn5)
    have hnone : (rsF n L mv a mv.length).isSome = false → rsA n L mv a mv.length = [] := fun h => by
      unfold rsA
      cases hh : rsF n L mv a mv.length
      · rfl
      · rw [hh] at h; cases h
    have hsome : (rsF n L mv a mv.length).isSome = true → ∃ b', rsF n L mv a mv.length = some b' ∧ rsA n L mv a mv.length = toL n b' := fun h => by
      unfold rsA
      cases hh : rsF n L mv a mv.length
      · rw [hh] at h; cases h
      · exact ⟨_, rfl, rfl⟩
    rw [HLM.out] at HCH
    cases hir : (rsF n L mv a mv.length).isSome
    · rw [hnone hir, show rcM false M = [] from rfl]
      rw [hir] at HBH
      clear hnone hsome hir
      go_enter Tryd.func26, Tryd.ntmps26
      go_wp2_with (first
        | (go_at_call 44; refine HG.out.mono ?_; rintro e w2 ⟨rfl, hb2⟩; have hz2 := hb2.size; rw [hz0] at hz2; have hb3 := bl_row ((Below.refl w2.heap.size w2).alloc (Nat.le_refl _) (.cells (rowV (plR 0 zL zA)) 55)) (Nat.le_refl _) (rowV (plR n L a)); have HR3 := hide ((hb3.block (w.heap.size + 1) (by omega)).trans ((hb2.block (w.heap.size + 1) (by rw [hz0]; omega)).trans HR0.out)); have HB3 := hide ((HB0.out.trans (hb2.mono (by rw [hz0]; omega))).trans (hb3.mono (by omega))); have HK2 := hide (pkAt.new w2 0 zL zA); have HK3 := hide ((pkAt.new w2 0 zL zA).row (m := n) (K := L) (b := a)); have HZ3 := hide (show ((w2.alloc (.cells (rowV (plR 0 zL zA)) 55)).setRow w2.heap.size (rowV (plR n L a))).heap.size = w2.heap.size + 1 by simp [World.setRow]); clear hb2 hb3)
        | (refine wpList_alloc_csY zeroPK rfl rfl _ rfl ?_)
        | (refine wpList_store_csY (sizePKl n L a) rfl (.tmp 6) (.tmp _) rfl w2.heap.size rfl rfl _ HK2.out (by simp [rowV, plR_len]) (rowV_one _) ?_)
        | (refine wpList_load_csY rowPK (sizePKl n L a) rfl (.tmp 6) rfl w2.heap.size rfl HK3.out ?_)
        | (go_at_call 55; refine (HBH.out _ HB3.out).mono ?_; rintro e w4 ⟨b, rfl, hbb, hb4⟩; have HBB := hide hbb; have hz4 := hb4.size; rw [HZ3.out] at hz4; have hb5 := bl_row ((Below.refl w4.heap.size w4).alloc (Nat.le_refl _) (.cells (rowV (plR 0 zL zA)) 55)) (Nat.le_refl _) (rowV (plR n L b)); have HR5 := hide ((hb5.block (w.heap.size + 1) (by omega)).trans ((hb4.block (w.heap.size + 1) (by rw [HZ3.out]; omega)).trans HR3.out)); have HB5 := hide ((HB3.out.trans (hb4.mono (by rw [HZ3.out]; omega))).trans (hb5.mono (by omega))); have HK4 := hide (pkAt.new w4 0 zL zA); have HK5 := hide ((pkAt.new w4 0 zL zA).row (m := n) (K := L) (b := b)); have HZ5 := hide (show ((w4.alloc (.cells (rowV (plR 0 zL zA)) 55)).setRow w4.heap.size (rowV (plR n L b))).heap.size = w4.heap.size + 1 by simp [World.setRow]); clear hb4 hb5 hbb)
        | (refine wpList_store_csY (sizePKl n L b) rfl (.tmp 8) (.tmp _) rfl w4.heap.size rfl rfl _ HK4.out (by simp [rowV, plR_len]) (rowV_one _) ?_)
        | (refine wpList_store_csY (cs := #[.slice none 0 0, .slice none 0 0]) sizeCZ rfl (.tmp 4) (.tmp _) rfl (w.heap.size + 1) rfl rfl _ HR5.out rfl (one2 _ _ _ _ _ _) ?_))
      refine (show bodyPost _ _ _ Exit.ret _ _ from ?_)
      exact bodyPost_ret (v := .tuple #[.agg #[.slice none 0 0, .slice none 0 0], .bool false]) (results_cs2Y (cs := #[.slice none 0 0, .slice none 0 0]) rowCZ sizeCZ (fn := Tryd.f26) (p := 4) (q := 5) rfl _ _ (w.heap.size + 1) rfl (hp_row _ _ _ _ _ HR5.out)) rfl ⟨_, _, rfl, chpO_nil _ _ (by simp [World.setRow]; omega), bl_row HB5.out (by omega) _⟩
    · obtain ⟨b', hb'1, hb'2⟩ := hsome hir
      rw [hb'2, show rcM true M = M from rfl]
      have HB1 := hide hb'1
      rw [hir] at HBH
      clear hnone hsome hir hb'1 hb'2
      go_enter Tryd.func26, Tryd.ntmps26
      go_wp2_with (first
        | (go_at_call 44; refine HG.out.mono ?_; rintro e w2 ⟨rfl, hb2⟩; have hz2 := hb2.size; rw [hz0] at hz2; have hb3 := bl_row ((Below.refl w2.heap.size w2).alloc (Nat.le_refl _) (.cells (rowV (plR 0 zL zA)) 55)) (Nat.le_refl _) (rowV (plR n L a)); have HR3 := hide ((hb3.block (w.heap.size + 1) (by omega)).trans ((hb2.block (w.heap.size + 1) (by rw [hz0]; omega)).trans HR0.out)); have HB3 := hide ((HB0.out.trans (hb2.mono (by rw [hz0]; omega))).trans (hb3.mono (by omega))); have HK2 := hide (pkAt.new w2 0 zL zA); have HK3 := hide ((pkAt.new w2 0 zL zA).row (m := n) (K := L) (b := a)); have HZ3 := hide (show ((w2.alloc (.cells (rowV (plR 0 zL zA)) 55)).setRow w2.heap.size (rowV (plR n L a))).heap.size = w2.heap.size + 1 by simp [World.setRow]); clear hb2 hb3)
        | (refine wpList_alloc_csY zeroPK rfl rfl _ rfl ?_)
        | (refine wpList_store_csY (sizePKl n L a) rfl (.tmp 6) (.tmp _) rfl w2.heap.size rfl rfl _ HK2.out (by simp [rowV, plR_len]) (rowV_one _) ?_)
        | (refine wpList_load_csY rowPK (sizePKl n L a) rfl (.tmp 6) rfl w2.heap.size rfl HK3.out ?_)
        | (go_at_call 55; refine (HBH.out _ HB3.out).mono ?_; rintro e w4 ⟨b, rfl, hbb, hb4⟩; have HBB := hide hbb; have hz4 := hb4.size; rw [HZ3.out] at hz4; have hb5 := bl_row ((Below.refl w4.heap.size w4).alloc (Nat.le_refl _) (.cells (rowV (plR 0 zL zA)) 55)) (Nat.le_refl _) (rowV (plR n L b)); have HR5 := hide ((hb5.block (w.heap.size + 1) (by omega)).trans ((hb4.block (w.heap.size + 1) (by rw [HZ3.out]; omega)).trans HR3.out)); have HB5 := hide ((HB3.out.trans (hb4.mono (by rw [HZ3.out]; omega))).trans (hb5.mono (by omega))); have HK4 := hide (pkAt.new w4 0 zL zA); have HK5 := hide ((pkAt.new w4 0 zL zA).row (m := n) (K := L) (b := b)); have HZ5 := hide (show ((w4.alloc (.cells (rowV (plR 0 zL zA)) 55)).setRow w4.heap.size (rowV (plR n L b))).heap.size = w4.heap.size + 1 by simp [World.setRow]); clear hb4 hb5 hbb)
        | (refine wpList_store_csY (sizePKl n L b) rfl (.tmp 8) (.tmp _) rfl w4.heap.size rfl rfl _ HK4.out (by simp [rowV, plR_len]) (rowV_one _) ?_)
        | (refine wpList_load_csY rowPK (sizePKl n L b) rfl (.tmp 8) rfl w4.heap.size rfl HK5.out ?_)
        | (go_at_call 56; refine (HCH.out b _).mono ?_; rintro e w6 ⟨v6, u6, rfl, hc6, hb6⟩; rw [HZ5.out] at hc6 hb6; rw [HBB.out _ HB1.out] at hc6; obtain ⟨ya, yc, xa, xc, hyv, hxv⟩ := chp_shape hc6; rw [toL_len] at hxv; subst hyv; subst hxv; have hz6 := hb6.size; rw [HZ5.out] at hz6; have HR6 := hide ((hb6.block (w.heap.size + 1) (by omega)).trans HR5.out); have HC6 := hide hc6; have HB6 := hide (HB5.out.trans (hb6.mono (by omega))); clear hb6 hc6)
        | (refine wpList_store_csY (cs := #[.slice ya M.length yc, .slice xa n xc]) sizeCZ rfl (.tmp 4) (.tmp _) rfl (w.heap.size + 1) rfl rfl _ HR6.out rfl (one2 _ _ _ _ _ _) ?_))
      refine (show bodyPost _ _ _ Exit.ret _ _ from ?_)
      exact bodyPost_ret (v := .tuple #[.agg #[.slice ya M.length yc, .slice xa n xc], .bool true]) (results_cs2Y (cs := #[.slice ya M.length yc, .slice xa n xc]) rowCZ sizeCZ (fn := Tryd.f26) (p := 4) (q := 5) rfl _ _ (w.heap.size + 1) rfl (hp_row _ _ _ _ _ HR6.out)) rfl ⟨_, _, rfl, (HC6.out.rowLow (by omega) _).mono (by omega), bl_row HB6.out (by omega) _⟩
end Go.Proofs.YtjmhmmenampgbaaDoor
/- Contracts: FinalChips, both. -/
namespace Go.Proofs.YtjmhmmenampgbaaDoor
open Go.RowKit
set_option maxRecDepth 100000
set_option linter.unusedSimpArgs false
theorem fcA_no {M : List (List Int)} {A : List Int} (h : foB M A = false) : fcA M A = [] := by unfold fcA; rw [h]; rfl
theorem fcA_yes {M : List (List Int)} {A : List Int} (h : foB M A = true) : fcA M A = toL A.length (fuR M A []).2.1 := by unfold fcA; rw [if_pos h]
theorem rcA_len (M : List (List Int)) (A mv : List Int) : (rcA M A mv).length < 1000000000 := by
  cases h : irB M A mv
  · unfold rcA; rw [h]; simp
  · have hc : cpB M A = true := by unfold irB at h; rw [Bool.and_eq_true] at h; exact h.1
    have h5 := (cpB_iff.1 hc).n5
    unfold rcA rsA
    rw [h, if_pos rfl]
    split
    · rw [toL_len]; omega
    · simp
theorem fcA_len (M : List (List Int)) (A : List Int) : (fcA M A).length < 1000000000 := by
  cases h : foB M A
  · rw [fcA_no h]; simp
  · rw [fcA_yes h, toL_len]
    have := (cpB_iff.1 (foB_cp h)).n5
    omega
attribute [local irreducible] p2 low memB risB
set_option maxHeartbeats 4000000 in
theorem implFinalChips_c (v u : Value) (M : List (List Int)) (A : List Int) (w : World) (hl : rows w.heap.size w v M) (hs : small2 M) (hu : ints w.heap.size w u A) (hlen : A.length < 1000000000) (hT : tab w) :
    Calls Tryd.prog 30 #[.agg #[v, u]] w fun e w' => ∃ v' u', e = .returned (.tuple #[.agg #[v', u'], .bool (foB M A)]) ∧ chpO w' w.heap.size v' u' (rcM (foB M A) M) (fcA M A) ∧ Below w.heap.size w w' := by
  have hb0 := ((Below.refl w.heap.size w).alloc (Nat.le_refl _) (.cells #[v, u] 29)).alloc (by simp) (.cells #[.slice none 0 0, .slice none 0 0] 29)
  have HB0 := hide hb0
  have hz0 : ((w.alloc (.cells #[v, u] 29)).alloc (.cells #[.slice none 0 0, .slice none 0 0] 29)).heap.size = w.heap.size + 2 := by simp
  have HR0 := hide (show ((w.alloc (.cells #[v, u] 29)).alloc (.cells #[.slice none 0 0, .slice none 0 0] 29)).heap[w.heap.size + 1]? = some (.cells #[.slice none 0 0, .slice none 0 0] 29) by have h := hp_last (w.alloc (.cells #[v, u] 29)) (.cells #[.slice none 0 0, .slice none 0 0] 29); simpa using h)
  have HV0 := hide (show ((w.alloc (.cells #[v, u] 29)).alloc (.cells #[.slice none 0 0, .slice none 0 0] 29)).heap[w.heap.size]? = some (.cells #[v, u] 29) from (hp_old _ _ _ (by simp)).trans (hp_last w (.cells #[v, u] 29)))
  have HL := hide hl
  have HU := hide hu
  have HFO := hide (fullRunOf_c v u M A ((w.alloc (.cells #[v, u] 29)).alloc (.cells #[.slice none 0 0, .slice none 0 0] 29)) (((hl.alloc _).alloc _).mono (by simp; omega)) hs (((hu.alloc _).alloc _).mono (by simp; omega)) hlen ((hT.alloc _).alloc _))
  clear hl hu hb0 hT
  have HFS0 := hide (fun (P Q : List Int) (x : Value) (hP : P.length = 31) (hQ : Q.length = 31) => show (Tryd.prog.info? 71).map (·.size) = some (frC P Q x).size by rw [frC_size hP hQ]; exact sizeFR)
  have HFC0 := hide (frC_one (plR 0 zL zA) (plR 0 zL zA) none 0 0)
  cases hf : foB M A
  · rw [hf] at HFO
    rw [fcA_no hf, show rcM false M = [] from rfl]
    simp only [Bool.false_eq_true, if_false] at HFO
    clear hf
    go_enter Tryd.func30, Tryd.ntmps30
    go_wp2_with (first
      | (go_at_call 58; refine HFO.out.mono ?_; rintro e w2 ⟨xa, xc, rfl, _, hb2⟩; have hz2 := hb2.size; rw [hz0] at hz2; have hb3 := bl_row ((Below.refl w2.heap.size w2).alloc (Nat.le_refl _) (.cells (frC (plR 0 zL zA) (plR 0 zL zA) (.slice none 0 0)) 71)) (Nat.le_refl _) (frC (plR 0 zL zA) (plR 0 zL zA) (.slice none 0 0)); have HR3 := hide ((hb3.block (w.heap.size + 1) (by omega)).trans ((hb2.block (w.heap.size + 1) (by rw [hz0]; omega)).trans HR0.out)); have HB3 := hide ((HB0.out.trans (hb2.mono (by rw [hz0]; omega))).trans (hb3.mono (by omega))); have HN2 := hide (hp_last w2 (.cells (frC (plR 0 zL zA) (plR 0 zL zA) (.slice none 0 0)) 71)); clear hb2 hb3)
      | (refine wpList_alloc_csY zeroFR rfl rfl _ rfl ?_)
      | (refine wpList_store_csY (cs := frC (plR 0 zL zA) (plR 0 zL zA) (.slice none 0 0)) (HFS0.out _ _ _ (plR_len _ _ _) (plR_len _ _ _)) rfl (.tmp 4) (.tmp _) rfl w2.heap.size rfl rfl _ HN2.out rfl HFC0.out ?_)
      | (refine wpList_store_csY (cs := #[.slice none 0 0, .slice none 0 0]) sizeCZ rfl (.tmp 2) (.tmp _) rfl (w.heap.size + 1) rfl rfl _ HR3.out rfl (one2 _ _ _ _ _ _) ?_))
    refine (show bodyPost _ _ _ Exit.ret _ _ from ?_)
    exact bodyPost_ret (v := .tuple #[.agg #[.slice none 0 0, .slice none 0 0], .bool false]) (results_cs2Y (cs := #[.slice none 0 0, .slice none 0 0]) rowCZ sizeCZ (fn := Tryd.f30) (p := 2) (q := 3) rfl _ _ (w.heap.size + 1) rfl (hp_row _ _ _ _ _ HR3.out)) rfl ⟨_, _, rfl, chpO_nil _ _ (by simp [World.setRow]; omega), bl_row HB3.out (by omega) _⟩
  · have hc := foB_cp hf
    have hp := cpB_iff.1 hc
    have HFA := hide (show fcA M A = toL (plN M A) (fuR M A []).2.1 by rw [fcA_yes hf, plN_yes hp])
    have HLM := hide (show lnL (plN M A) (plL M A) (plN M A) = M by rw [plN_yes hp]; exact lnL_self hp)
    have hn5 := plN_5 M A
    rw [hf] at HFO
    rw [HFA.out, show rcM true M = M from rfl]
    simp only [if_true] at HFO
    clear hf hc hp HFA
    generalize (fuR M A []).1 = R1 at *
    generalize (fuR M A []).2.1 = b at *
    generalize plN M A = n at *
    generalize plL M A = L at *
    generalize plA M A = a at *
    have HCH := hide (fun w1 => chips_c n L b w1 hn5)
    rw [HLM.out] at HCH
    have hbl : (plR n L b).length = 31 := plR_len n L b
    have H31 := hide (show (Tryd.prog.info? 55).map (·.size) = some (plR n L b).length from by rw [hbl]; have h := sizePKl n L b; rw [rowV_size, hbl] at h; exact h)
    go_enter Tryd.func30, Tryd.ntmps30
    go_wp2_with (first
      | (go_at_call 58; refine HFO.out.mono ?_; rintro e w2 ⟨xa, xc, rfl, _, hb2⟩; have hz2 := hb2.size; rw [hz0] at hz2; have hb3 := bl_row ((Below.refl w2.heap.size w2).alloc (Nat.le_refl _) (.cells (frC (plR 0 zL zA) (plR 0 zL zA) (.slice none 0 0)) 71)) (Nat.le_refl _) (frC (plR n L a) (plR n L b) (.slice xa R1.length xc)); have HR3 := hide ((hb3.block (w.heap.size + 1) (by omega)).trans ((hb2.block (w.heap.size + 1) (by rw [hz0]; omega)).trans HR0.out)); have HB3 := hide ((HB0.out.trans (hb2.mono (by rw [hz0]; omega))).trans (hb3.mono (by omega))); have HN2 := hide (hp_last w2 (.cells (frC (plR 0 zL zA) (plR 0 zL zA) (.slice none 0 0)) 71)); have HK3 := hide (hp_row _ _ _ (frC (plR n L a) (plR n L b) (.slice xa R1.length xc)) _ HN2.out); have HZ3 := hide (show ((w2.alloc (.cells (frC (plR 0 zL zA) (plR 0 zL zA) (.slice none 0 0)) 71)).setRow w2.heap.size (frC (plR n L a) (plR n L b) (.slice xa R1.length xc))).heap.size = w2.heap.size + 1 by simp [World.setRow]); have HS3 := hide (fun j (hj : j < (plR n L b).length) => show ((w2.alloc (.cells (frC (plR 0 zL zA) (plR 0 zL zA) (.slice none 0 0)) 71)).setRow w2.heap.size (frC (plR n L a) (plR n L b) (.slice xa R1.length xc))).cell? ⟨w2.heap.size, 31 + j, none⟩ = some (.int .i64 ((plR n L b)[j]?.getD 0)) by rw [hp_cell HK3.out]; exact frC_mid n n L L a b _ (by omega)); clear hb2 hb3)
      | (refine wpList_alloc_csY zeroFR rfl rfl _ rfl ?_)
      | (refine wpList_store_csY (cs := frC (plR n L a) (plR n L b) (.slice xa R1.length xc)) (HFS0.out _ _ _ (plR_len _ _ _) (plR_len _ _ _)) rfl (.tmp 4) (.tmp _) rfl w2.heap.size rfl rfl _ HN2.out (by rw [frC_size (plR_len _ _ _) (plR_len _ _ _), frC_size (plR_len _ _ _) (plR_len _ _ _)]) (frC_one _ _ _ _ _) ?_)
      | (refine wpList_load_subY rowPK rfl (.tmp 14) rfl w2.heap.size 31 rfl (plR n L b) H31.out HS3.out ?_)
      | (go_at_call 56; refine (HCH.out _).mono ?_; rintro e w6 ⟨v6, u6, rfl, hc6, hb6⟩; rw [HZ3.out] at hc6 hb6; obtain ⟨ya, yc, xa2, xc2, hyv, hxv⟩ := chp_shape hc6; rw [toL_len] at hxv; subst hyv; subst hxv; have hz6 := hb6.size; rw [HZ3.out] at hz6; have HR6 := hide ((hb6.block (w.heap.size + 1) (by omega)).trans HR3.out); have HC6 := hide hc6; have HB6 := hide (HB3.out.trans (hb6.mono (by omega))); clear hb6 hc6)
      | (refine wpList_store_csY (cs := #[.slice ya M.length yc, .slice xa2 n xc2]) sizeCZ rfl (.tmp 2) (.tmp _) rfl (w.heap.size + 1) rfl rfl _ HR6.out rfl (one2 _ _ _ _ _ _) ?_))
    refine (show bodyPost _ _ _ Exit.ret _ _ from ?_)
    exact bodyPost_ret (v := .tuple #[.agg #[.slice ya M.length yc, .slice xa2 n xc2], .bool true]) (results_cs2Y (cs := #[.slice ya M.length yc, .slice xa2 n xc2]) rowCZ sizeCZ (fn := Tryd.f30) (p := 2) (q := 3) rfl _ _ (w.heap.size + 1) rfl (hp_row _ _ _ _ _ HR6.out)) rfl ⟨_, _, rfl, (HC6.out.rowLow (by omega) _).mono (by omega), bl_row HB6.out (by omega) _⟩
set_option maxHeartbeats 4000000 in
theorem specFinalChips_c (v u : Value) (M : List (List Int)) (A : List Int) (w : World) (hl : rows w.heap.size w v M) (hs : small2 M) (hu : ints w.heap.size w u A) (hlen : A.length < 1000000000) (_hT : tab w) :
    Calls Tryd.prog 29 #[.agg #[v, u]] w fun e w' => ∃ v' u', e = .returned (.tuple #[.agg #[v', u'], .bool (foB M A)]) ∧ chpO w' w.heap.size v' u' (rcM (foB M A) M) (fcA M A) ∧ Below w.heap.size w w' := by
  have hb0 := ((Below.refl w.heap.size w).alloc (Nat.le_refl _) (.cells #[v, u] 29)).alloc (by simp) (.cells #[.slice none 0 0, .slice none 0 0] 29)
  have HB0 := hide hb0
  have hz0 : ((w.alloc (.cells #[v, u] 29)).alloc (.cells #[.slice none 0 0, .slice none 0 0] 29)).heap.size = w.heap.size + 2 := by simp
  have HR0 := hide (show ((w.alloc (.cells #[v, u] 29)).alloc (.cells #[.slice none 0 0, .slice none 0 0] 29)).heap[w.heap.size + 1]? = some (.cells #[.slice none 0 0, .slice none 0 0] 29) by have h := hp_last (w.alloc (.cells #[v, u] 29)) (.cells #[.slice none 0 0, .slice none 0 0] 29); simpa using h)
  have HV0 := hide (show ((w.alloc (.cells #[v, u] 29)).alloc (.cells #[.slice none 0 0, .slice none 0 0] 29)).heap[w.heap.size]? = some (.cells #[v, u] 29) from (hp_old _ _ _ (by simp)).trans (hp_last w (.cells #[v, u] 29)))
  have HL := hide hl
  have HU := hide hu
  have HG := hide (waGood_c v u M A ((w.alloc (.cells #[v, u] 29)).alloc (.cells #[.slice none 0 0, .slice none 0 0] 29)) (((hl.alloc _).alloc _).mono (by simp; omega)) hs (((hu.alloc _).alloc _).mono (by simp; omega)) hlen)
  clear hl hu hb0
  have c0 := cells_at0 HV0.out
  have c1 := cells_at1 HV0.out
  cases hc : cpB M A
  · have hf := foB_no hc
    rw [hc] at HG
    rw [fcA_no hf, hf, show rcM false M = [] from rfl]
    clear hc hf
    go_enter Tryd.func29, Tryd.ntmps29
    go_wp2_with (first
      | (go_at_call 41; refine HG.out.mono ?_; rintro e w2 ⟨rfl, hb2⟩; have hz2 := hb2.size; rw [hz0] at hz2; have HR2 := hide ((hb2.block (w.heap.size + 1) (by rw [hz0]; omega)).trans HR0.out); have HV2 := hide ((hb2.block w.heap.size (by rw [hz0]; omega)).trans HV0.out); have d0 := cells_at0 HV2.out; have d1 := cells_at1 HV2.out; have HB2 := hide (HB0.out.trans (hb2.mono (by rw [hz0]; omega))); clear hb2 c0 c1)
      | (refine wpList_store_csY (cs := #[.slice none 0 0, .slice none 0 0]) sizeCZ rfl (.tmp 2) (.tmp _) rfl (w.heap.size + 1) rfl rfl _ HR2.out rfl (one2 _ _ _ _ _ _) ?_))
    refine (show bodyPost _ _ _ Exit.ret _ _ from ?_)
    exact bodyPost_ret (v := .tuple #[.agg #[.slice none 0 0, .slice none 0 0], .bool false]) (results_cs2Y (cs := #[.slice none 0 0, .slice none 0 0]) rowCZ sizeCZ (fn := Tryd.f29) (p := 2) (q := 3) rfl _ _ (w.heap.size + 1) rfl (hp_row _ _ _ _ _ HR2.out)) rfl ⟨_, _, rfl, chpO_nil _ _ (by simp [World.setRow]; omega), bl_row HB2.out (by omega) _⟩
  · have hp := cpB_iff.1 hc
    have HFU := hide (fun w1 (h : Below w.heap.size w w1) => waFull_c v u (.slice none 0 0) M A [] w1 ((HL.out.below h (Nat.le_refl _)).mono h.size) hp ((HU.out.below h (Nat.le_refl _)).mono h.size) (ints_nilY _ _) (by simp) (fun k hk => by simp at hk))
    have HFQ := hide (show fuR M A [] = frF A.length (plL M A) [] 60 0 (atN A) from rfl)
    rw [← HFQ.out] at HFU
    have HFB := hide (foB_yes hc)
    have HMY := hide (fun h => fcA_yes (M := M) (A := A) h)
    have HMN := hide (fun h => fcA_no (M := M) (A := A) h)
    have HWW := hide (fun (xa : Option Addr) (xn xc : Nat) w1 (h : Below w.heap.size w w1) => waWith_c v u xa xn xc M w1 ((HL.out.below h (Nat.le_refl _)).mono h.size) hs)
    rw [hc] at HG
    rw [HFB.out] at HMY HMN
    rw [HFB.out]
    clear hc hp HFQ
    generalize hR : fuR M A [] = R at *
    obtain ⟨R1, b, ok⟩ := R
    simp only at HFU HMY HMN ⊢
    clear hR HFB
    cases ok
    · rw [HMN.out rfl, show rcM false M = [] from rfl]
      go_enter Tryd.func29, Tryd.ntmps29
      go_wp2_with (first
        | (go_at_call 41; refine HG.out.mono ?_; rintro e w2 ⟨rfl, hb2⟩; have hz2 := hb2.size; rw [hz0] at hz2; have HR2 := hide ((hb2.block (w.heap.size + 1) (by rw [hz0]; omega)).trans HR0.out); have HV2 := hide ((hb2.block w.heap.size (by rw [hz0]; omega)).trans HV0.out); have d0 := cells_at0 HV2.out; have d1 := cells_at1 HV2.out; have HB2 := hide (HB0.out.trans (hb2.mono (by rw [hz0]; omega))); clear hb2 c0 c1)
        | (go_at_call 57; refine (HFU.out _ HB2.out).mono ?_; rintro e w4 ⟨v1, v2, rfl, ho1, ho2, hb4⟩; have HR4 := hide ((hb4.block (w.heap.size + 1) (by omega)).trans HR2.out); have hz4 := hb4.size; have HB4 := hide (HB2.out.trans (hb4.mono (by omega))); clear hb4 ho1 ho2 d0 d1)
        | (refine wpList_store_csY (cs := #[.slice none 0 0, .slice none 0 0]) sizeCZ rfl (.tmp 2) (.tmp _) rfl (w.heap.size + 1) rfl rfl _ HR4.out rfl (one2 _ _ _ _ _ _) ?_))
      refine (show bodyPost _ _ _ Exit.ret _ _ from ?_)
      exact bodyPost_ret (v := .tuple #[.agg #[.slice none 0 0, .slice none 0 0], .bool false]) (results_cs2Y (cs := #[.slice none 0 0, .slice none 0 0]) rowCZ sizeCZ (fn := Tryd.f29) (p := 2) (q := 3) rfl _ _ (w.heap.size + 1) rfl (hp_row _ _ _ _ _ HR4.out)) rfl ⟨_, _, rfl, chpO_nil _ _ (by simp [World.setRow]; omega), bl_row HB4.out (by omega) _⟩
    · rw [HMY.out rfl, show rcM true M = M from rfl]
      rw [show frE A.length (R1, b, true) = toL A.length b from rfl] at HFU
      have HTL := hide (toL_len A.length b)
      generalize toL A.length b = RA at *
      go_enter Tryd.func29, Tryd.ntmps29
      go_wp2_with (first
        | (go_at_call 41; refine HG.out.mono ?_; rintro e w2 ⟨rfl, hb2⟩; have hz2 := hb2.size; rw [hz0] at hz2; have HR2 := hide ((hb2.block (w.heap.size + 1) (by rw [hz0]; omega)).trans HR0.out); have HV2 := hide ((hb2.block w.heap.size (by rw [hz0]; omega)).trans HV0.out); have d0 := cells_at0 HV2.out; have d1 := cells_at1 HV2.out; have HB2 := hide (HB0.out.trans (hb2.mono (by rw [hz0]; omega))); clear hb2 c0 c1)
        | (go_at_call 57; refine (HFU.out _ HB2.out).mono ?_; rintro e w4 ⟨v1, v2, rfl, ho1, ho2, hb4⟩; obtain ⟨xa, xc, hxv⟩ := ho2.shape; subst hxv; have HR4 := hide ((hb4.block (w.heap.size + 1) (by omega)).trans HR2.out); have HV4 := hide ((hb4.block w.heap.size (by omega)).trans HV2.out); have f0 := cells_at0 HV4.out; have f1 := cells_at1 HV4.out; have hz4 := hb4.size; have HO4 := hide ho2; have HB4 := hide (HB2.out.trans (hb4.mono (by omega))); clear hb4 ho1 ho2 d0 d1)
        | (go_at_call 51; refine (HWW.out _ _ _ _ HB4.out).mono ?_; rintro e w5 ⟨v5, rfl, ho5, hb5⟩; obtain ⟨ya, yc, hyv⟩ := ho5.shape; subst hyv; have HR5 := hide ((hb5.block (w.heap.size + 1) (by omega)).trans HR4.out); have hz5 := hb5.size; have HC5 := hide (show chpO w5 w2.heap.size (.slice ya M.length yc) (.slice xa RA.length xc) M RA from ⟨w4.heap.size, hz4, hz5, ho5, HO4.out.kept hb5, HO4.out.blockLt⟩); have HB5 := hide (HB4.out.trans (hb5.mono (by omega))); clear hb5 ho5)
        | (refine wpList_store_csY (cs := #[.slice ya M.length yc, .slice xa RA.length xc]) sizeCZ rfl (.tmp 2) (.tmp _) rfl (w.heap.size + 1) rfl rfl _ HR5.out rfl (one2 _ _ _ _ _ _) ?_))
      refine (show bodyPost _ _ _ Exit.ret _ _ from ?_)
      exact bodyPost_ret (v := .tuple #[.agg #[.slice ya M.length yc, .slice xa RA.length xc], .bool true]) (results_cs2Y (cs := #[.slice ya M.length yc, .slice xa RA.length xc]) rowCZ sizeCZ (fn := Tryd.f29) (p := 2) (q := 3) rfl _ _ (w.heap.size + 1) rfl (hp_row _ _ _ _ _ HR5.out)) rfl ⟨_, _, rfl, (HC5.out.rowLow (by omega) _).mono (by omega), bl_row HB5.out (by omega) _⟩
end Go.Proofs.YtjmhmmenampgbaaDoor
