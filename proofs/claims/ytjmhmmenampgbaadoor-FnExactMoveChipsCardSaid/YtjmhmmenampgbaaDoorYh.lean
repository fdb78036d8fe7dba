/- Contracts: a move, the program's. -/
import Derived.Test.YtjmhmmenampgbaaDoorYg
namespace Go.Proofs.YtjmhmmenampgbaaDoor
open Go.RowKit
set_option maxRecDepth 100000
set_option linter.unusedSimpArgs false
theorem arr5 : Tryd.prog.underlying 52 = some (.array 5 3) := by kernel_rfl
theorem row5 : (Tryd.prog.underlying 52).map TypeDesc.isRow = some true := by kernel_rfl
theorem size5 : (Tryd.prog.info? 52).map (·.size) = some 5 := by kernel_rfl
theorem rowIntY : (Tryd.prog.underlying 3).map TypeDesc.isRow = some false := by kernel_rfl
theorem ent_degree : enters Tryd.prog 80 := enters_of Tryd.func80 (by kernel_rfl) (by kernel_rfl)
attribute [local irreducible] p2 low memB risB
set_option maxHeartbeats 4000000 in
theorem moved_c (n : Nat) (L : Nat → Nat → Int) (a : Nat → Int) (i : Nat) (w : World) (hL : LnOk n L) (hi : i < n) (ha : AtOk n a 500) :
    Calls Tryd.prog 82 #[.agg (rowV (plR n L a)), .int .i64 (i : Int)] w fun e w' => e = .returned (.agg (rowV (plR n L (mvF L i a)))) ∧ Below w.heap.size w w' := by
  have h5 := hL.n5
  have hi5 : i < 5 := by omega
  have hi' : (i : Int) < 5 := by omega
  have HD := hide (fun w1 => degree_c n L a i w1 hL hi5)
  have HDL := hide (And.intro (dg_lo hL i) (dg_hi hL i))
  have HAL := hide (And.intro (ha.lo i) (ha.hi i))
  have HZR := hide (mvP_zero L i a)
  have HEN := hide (mvP_end hL i a)
  have HNX := hide (fun k => mvP_next L i a k)
  have HBD := hide (fun k j => mvP_bd hL ha i k j)
  have HLB := hide (fun k => And.intro (hL.lo i k) (hL.hi i k))
  have HP0 := hide (pkAt.new w n L a)
  have HZ2 := hide (show pkAt (((w.alloc (.cells (rowV (plR n L a)) 55)).alloc (.cells (rowV (plR 0 zL zA)) 55)).alloc (.cells (rowV (plR 0 zL zA)) 55)) (w.heap.size + 1 + 1) 0 zL zA by have h := pkAt.new ((w.alloc (.cells (rowV (plR n L a)) 55)).alloc (.cells (rowV (plR 0 zL zA)) 55)) 0 zL zA; simpa using h)
  clear hL ha
  go_enter Tryd.func82, Tryd.ntmps82
  go_wp2_with (first
    | (refine wpList_alloc_csY zeroPK rfl rfl _ (by first | (simp only [World.size_alloc]; rfl) | rfl) ?_)
    | (refine wpList_load_csY rowPK (sizePKl n L a) rfl (.tmp _) rfl w.heap.size rfl (HP0.out.alloc _) ?_)
    | (refine wpList_store_csY (sizePKl n L a) rfl (.tmp _) (.tmp _) rfl (w.heap.size + 1 + 1) rfl rfl _ HZ2.out (by simp [rowV, plR_len]) (rowV_one _) ?_))
  have HB0 := hide (bl_row ((((Below.refl w.heap.size w).alloc (Nat.le_refl _) (.cells (rowV (plR n L a)) 55)).alloc (by simp) (.cells (rowV (plR 0 zL zA)) 55)).alloc (by simp; omega) (.cells (rowV (plR 0 zL zA)) 55)) (show w.heap.size ≤ w.heap.size + 1 + 1 by omega) (rowV (plR n L a)))
  have HQ0 := hide (((HP0.out.alloc (.cells (rowV (plR 0 zL zA)) 55)).alloc (.cells (rowV (plR 0 zL zA)) 55)).rowO (w.heap.size + 1 + 1) (by omega) (rowV (plR n L a)))
  have HQ1 := hide ((((show pkAt ((w.alloc (.cells (rowV (plR n L a)) 55)).alloc (.cells (rowV (plR 0 zL zA)) 55)) (w.heap.size + 1) 0 zL zA by have h := pkAt.new (w.alloc (.cells (rowV (plR n L a)) 55)) 0 zL zA; simpa using h).alloc (.cells (rowV (plR 0 zL zA)) 55))).rowO (w.heap.size + 1 + 1) (by omega) (rowV (plR n L a)))
  have HQ2 := hide (HZ2.out.row (m := n) (K := L) (b := a))
  have hzz : ((((w.alloc (.cells (rowV (plR n L a)) 55)).alloc (.cells (rowV (plR 0 zL zA)) 55)).alloc (.cells (rowV (plR 0 zL zA)) 55)).setRow (w.heap.size + 1 + 1) (rowV (plR n L a))).heap.size = w.heap.size + 3 := by simp [World.setRow]
  generalize ((((w.alloc (.cells (rowV (plR n L a)) 55)).alloc (.cells (rowV (plR 0 zL zA)) 55)).alloc (.cells (rowV (plR 0 zL zA)) 55)).setRow (w.heap.size + 1 + 1) (rowV (plR n L a))) = W at *
  clear HP0 HZ2
  have hdl := HDL.out
  have hal := HAL.out
  have hcx := HQ2.out.chip hi5
  have hw1 : IntKind.i64.wrap (a i - dg L i) = a i - dg L i := IntWalk.i64_in _ (by omega)
  refine wp_region_held (S := fun w' => pkAt w' w.heap.size n L a) (by kernel_rfl) ?_
  have hS0 : Below W.heap.size W { W with drawn := W.drawn + 1 } := (Below.refl _ _).drew
  have hz0 : ({ W with drawn := W.drawn + 1 } : World).heap.size = W.heap.size := rfl
  generalize ({ W with drawn := W.drawn + 1 } : World) = V0 at hS0 hz0 ⊢
  have hK0 : pkAt V0 w.heap.size n L a := HQ0.out.below hS0 (by omega)
  have hK2 : pkAt V0 (w.heap.size + 1 + 1) n L a := HQ2.out.below hS0 (by omega)
  refine wpAnyH_take (i := 0) (v := .int .i64 (i : Int)) rfl (by kernel_rfl) (by kernel_rfl) (by kernel_rfl) (fun _ _ _ h => h) (.inl ⟨rfl, fun w' _ => by go_simp⟩) hK0 ?_
  simp only [Act.put, List.getElem_toArray, List.getElem_cons_zero, List.getElem_cons_succ, List.setIfInBounds_toArray, List.set_cons_zero, List.set_cons_succ]
  refine wpAnyH_take (i := 1) (v := .pointer (some ⟨w.heap.size + 1 + 1, 26, none⟩)) rfl (by kernel_rfl) (by kernel_rfl) (by kernel_rfl) (fun _ _ _ h => h) (.inl ⟨rfl, fun w' _ => by go_simp⟩) hK0 ?_
  simp only [Act.put, List.getElem_toArray, List.getElem_cons_zero, List.getElem_cons_succ, List.setIfInBounds_toArray, List.set_cons_zero, List.set_cons_succ]
  refine wpAnyH_take (i := 2) (v := .pointer (some ⟨w.heap.size + 1 + 1, 26 + i, none⟩)) rfl (by kernel_rfl) (by kernel_rfl) (by kernel_rfl) (fun _ _ _ h => h) (.inl ⟨rfl, fun w' _ => by go_simp⟩) hK0 ?_
  simp only [Act.put, List.getElem_toArray, List.getElem_cons_zero, List.getElem_cons_succ, List.setIfInBounds_toArray, List.set_cons_zero, List.set_cons_succ]
  refine wpAnyH_take (i := 4) rfl (by kernel_rfl) (by kernel_rfl) (by kernel_rfl) (fun _ _ _ h => h) (yields_load_csY (cs := rowV (plR n L a)) rowPK (sizePKl n L a) rfl (.tmp _) rfl w.heap.size rfl (fun w' h => h)) hK0 ?_
  simp only [Act.put, List.getElem_toArray, List.getElem_cons_zero, List.getElem_cons_succ, List.setIfInBounds_toArray, List.set_cons_zero, List.set_cons_succ]
  refine wpAnyH_take (i := 5) (v := .int .i64 (i : Int)) rfl (by kernel_rfl) (by kernel_rfl) (by kernel_rfl) (fun _ _ _ h => h) (.inl ⟨rfl, fun w' _ => by go_simp⟩) hK0 ?_
  simp only [Act.put, List.getElem_toArray, List.getElem_cons_zero, List.getElem_cons_succ, List.setIfInBounds_toArray, List.set_cons_zero, List.set_cons_succ]
  refine wpAnyH_take (i := 8) (v := .pointer (some ⟨w.heap.size + 1 + 1, 26, none⟩)) rfl (by kernel_rfl) (by kernel_rfl) (by kernel_rfl) (fun _ _ _ h => h) (.inl ⟨rfl, fun w' _ => by go_simp⟩) hK0 ?_
  simp only [Act.put, List.getElem_toArray, List.getElem_cons_zero, List.getElem_cons_succ, List.setIfInBounds_toArray, List.set_cons_zero, List.set_cons_succ]
  have hc0 := hK2.chip hi5
  refine anyH_read_call (i := 3) (j := 6) (by kernel_rfl) (by kernel_rfl) (by kernel_rfl) rfl rfl (by omega) (.int .i64 (a i)) (fun _ => rfl) rfl (fun _ => rfl) rfl rfl (by simp [go_sem, hc0]) (fun u w' hb => by have hc1 := (hK2.below hb hK2.lt).chip hi5; simp [go_sem, Act.put, hc1]) 80 ent_degree _ _ rfl #[.agg (rowV (plR n L a)), .int .i64 (i : Int)] rfl rfl (R := fun u _ => u = .int .i64 (dg L i)) ((HD.out V0).mono (by rintro e w' ⟨rfl, hb⟩; exact ⟨_, rfl, rfl, hb⟩)) (fun w' hb => hK0.below hb hK0.lt) ?_
  rintro u V1 rfl hb1
  have hK01 := hK0.below hb1 hK0.lt
  have hK21 := hK2.below hb1 hK2.lt
  simp only [Act.put, List.getElem_toArray, List.getElem_cons_zero, List.getElem_cons_succ, List.setIfInBounds_toArray, List.set_cons_zero, List.set_cons_succ]
  refine anyH_op (i := 7) (by kernel_rfl) rfl rfl (.int .i64 (a i - dg L i)) V1 (by simp [go_sem, hw1]) hK01 ?_
  simp only [Act.put, List.getElem_toArray, List.getElem_cons_zero, List.getElem_cons_succ, List.setIfInBounds_toArray, List.set_cons_zero, List.set_cons_succ]
  refine anyH_op (i := 9) (by kernel_rfl) rfl rfl (.pointer (some ⟨w.heap.size + 1 + 1, 26 + i, none⟩)) V1 (by simp [go_sem, hi']) hK01 ?_
  simp only [Act.put, List.getElem_toArray, List.getElem_cons_zero, List.getElem_cons_succ, List.setIfInBounds_toArray, List.set_cons_zero, List.set_cons_succ]
  have hc2 := hK21.chip hi5
  have hf2 := hK21.free (26 + i)
  refine anyH_skip (i := 10) (by kernel_rfl) rfl rfl (V1.setCell ⟨w.heap.size + 1 + 1, 26 + i, none⟩ (.int .i64 (a i - dg L i))) ?hq (blk.setO hK01 _ (by show w.heap.size ≠ w.heap.size + 1 + 1; omega) _) ?_
  case hq => simp [go_sem, hc2, hf2]
  refine wpAnyH_done (by kernel_rfl) ?_ _
  simp only [Act.put, List.getElem_toArray, List.getElem_cons_zero, List.getElem_cons_succ, List.setIfInBounds_toArray, List.set_cons_zero, List.set_cons_succ]
  have hb2 := Below.setCell ((hS0.trans (hb1.mono (by omega))).mono (show w.heap.size + 2 ≤ W.heap.size by omega)) (p := ⟨w.heap.size + 1 + 1, 26 + i, none⟩) (by show w.heap.size + 2 ≤ w.heap.size + 1 + 1; omega) (.int .i64 (a i - dg L i))
  have HM2 := hide (hK21.setA i (a i - dg L i))
  rw [HZR.out] at HM2
  clear hc2 hf2 hK21 hK01 hb1 hc0 hK2 hK0 hS0 hz0 hcx
  generalize V1.setCell ⟨w.heap.size + 1 + 1, 26 + i, none⟩ (.int .i64 (a i - dg L i)) = V2 at *
  have HBW := hide hb2
  clear hb2
  have HL0 := hide (HQ0.out.below HBW.out (by omega))
  have HS5 := hide (show ∀ j, j < (toL 5 (L i)).length → V2.cell? ⟨w.heap.size, 1 + i * 5 + j, none⟩ = some (.int .i64 ((toL 5 (L i))[j]?.getD 0)) from fun j hj => by
    rw [toL_len] at hj
    rw [toL_at _ hj]; exact HL0.out.line hi5 hj)
  have HTL := hide (fun j (hj : j < 5) => toL_at (L i) hj)
  have htl := toL_len 5 (L i)
  generalize toL 5 (L i) = T5 at *
  go_wp2_with (first
    | (refine wpList_load_subY row5 rfl (.tmp _) rfl w.heap.size (1 + i * 5) rfl T5 (by rw [htl]; exact size5) HS5.out ?_))
  go_loopw [23] (fun iv wr => ∃ k : Nat, k ≤ 5 ∧ iv = .int .i64 (k : Int) ∧ Hid (pkAt wr (w.heap.size + 1 + 1) n L (mvP L i a k)) ∧ Hid (Below (w.heap.size + 2) V2 wr)) (fun iv _ => 5 - (intOf iv).toNat)
  case atStart => exact ⟨0, by omega, rfl, HM2, Below.refl _ _⟩
  case round =>
    obtain ⟨k, hk, rfl, HM, HB⟩ := hrel
    by_cases hlt : k < 5
    · have hlt' : (k : Int) < 5 := by omega
      have b1 := HBD.out k k
      have b2 := HLB.out k
      have HX := hide (HTL.out k hlt)
      have HN := hide (HM.out.setA k (mvP L i a k k + L i k))
      rw [HNX.out k] at HN
      have hc3 := HM.out.chip hlt
      have hf3 := HM.out.free (26 + k)
      generalize mvP L i a k k = y at *
      generalize L i k = x at *
      have hw3 : IntKind.i64.wrap (y + x) = y + x := IntWalk.i64_in _ (by omega)
      go_wp2_with (first
        | (refine wpList_indexY arr5 intS rowIntY rfl (.tmp _) (.tmp _) rfl T5 htl rfl k rfl hlt ?_; rw [HX.out]))
      go_roundw
      case rel => exact ⟨k + 1, by omega, by go_num, HN, HB.out.setCell (by show w.heap.size + 2 ≤ w.heap.size + 1 + 1; omega) _⟩
      case measure => (simp [intOf] <;> omega)
    · have hk5 : k = 5 := by omega
      subst hk5
      have HM5 := hide HM.out
      rw [HEN.out] at HM5
      have HR1 := hide (HQ1.out.below (HBW.out.trans HB.out) (by omega))
      go_wp2_with (first
        | (refine wpList_load_csY rowPK (sizePKl n L (mvF L i a)) rfl (.tmp _) rfl (w.heap.size + 1 + 1) rfl HM5.out ?_)
        | (refine wpList_store_csY (sizePKl n L (mvF L i a)) rfl (.tmp _) (.tmp _) rfl (w.heap.size + 1) rfl rfl _ HR1.out (by simp [rowV, plR_len]) (rowV_one _) ?_))
      refine (show bodyPost _ _ _ Exit.ret _ _ from ?_)
      refine bodyPost_ret (v := .agg (rowV (plR n L (mvF L i a)))) (results_csY rowPK (sizePKl n L (mvF L i a)) rfl _ _ (w.heap.size + 1) rfl (HR1.out.row (m := n) (K := L) (b := mvF L i a))) rfl ⟨rfl, ?_⟩
      exact bl_row (HB0.out.trans ((HBW.out.trans HB.out).mono (by omega))) (by omega) _
end Go.Proofs.YtjmhmmenampgbaaDoor
