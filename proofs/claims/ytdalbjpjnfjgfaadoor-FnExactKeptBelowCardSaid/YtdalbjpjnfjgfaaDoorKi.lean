/- Contracts: the family of a space with the costs of tasks. -/
import Derived.Test.YtdalbjpjnfjgfaaDoorKh
import Derived.Test.YtdalbjpjnfjgfaaDoorPut
namespace Go.Proofs.YtdalbjpjnfjgfaaDoor
open Go.RowKit
set_option maxRecDepth 100000
set_option linter.unusedSimpArgs false
theorem ent_costsOf : enters Tryd.prog 110 := enters_of Tryd.func110 (by kernel_rfl) (by kernel_rfl)
theorem gv_in {n : Int} {l : List Int} {T : List Tsk} (h : gvB n l T = true) : okSp n l = true ∧ taB T n = true := by
  unfold gvB at h; rw [Bool.and_eq_true] at h; exact h
attribute [local irreducible] p2 low memB risB
set_option maxHeartbeats 2000000 in
theorem familyAndCosts_no (n : Int) (v : Value) (l : List Int) (u : Value) (T : List Tsk) (w : World) (hl : ints w.heap.size w v l) (hlen : l.length < 1000000000) (ht : tks w.heap.size w u T) (hs : T.length < 1000000000) (hno : gvB n l T = false) :
    Calls Tryd.prog 72 #[.agg #[.int .i64 n, v], u] w fun e w' => e = .returned (.tuple #[.agg (fam 0 noSet), .nilFunc, .bool false]) ∧ Below w.heap.size w w' := by
  have hf1 : famAt 97 ((w.alloc (.cells #[.int .i64 n, v] 34)).alloc (.cells (fam 0 noSet) 97)) (w.heap.size + 1) 0 noSet := by
    have := famAt.new 97 (w.alloc (.cells #[.int .i64 n, v] 34)) 0 noSet
    simpa using this
  have HF0 := hide hf1
  have hz0 : ((w.alloc (.cells #[.int .i64 n, v] 34)).alloc (.cells (fam 0 noSet) 97)).heap.size = w.heap.size + 2 := by simp
  have HB0 := hide (((Below.refl w.heap.size w).alloc (Nat.le_refl _) (.cells #[.int .i64 n, v] 34)).alloc (by simp) (.cells (fam 0 noSet) 97))
  have HL := hide (((hl.alloc (.cells #[.int .i64 n, v] 34)).alloc (.cells (fam 0 noSet) 97)).mono (show w.heap.size ≤ ((w.alloc (.cells #[.int .i64 n, v] 34)).alloc (.cells (fam 0 noSet) 97)).heap.size by simp; omega))
  have HTK := hide ht
  have HZ0 := hide hz0
  clear hl hf1 ht hz0
  unfold gvB at hno
  cases hok : okSp n l
  · have HK := hide hok
    clear hok hno
    go_enter Tryd.func72, Tryd.ntmps72
    go_wp2_with (first
      | (refine wpList_alloc_fam zeroT rfl rfl _ (by first | (simp only [World.size_alloc]; rfl) | rfl) ?_)
      | (go_at_call 82; refine (familyOf_c n v l _ HL.out hlen).mono ?_; rw [famVal_no n l HK.out]; rintro e w1 ⟨rfl, hb1⟩; have hz1 := hb1.size; rw [HZ0.out] at hz1; have hf2 := (HF0.out.below hb1 (by rw [HZ0.out]; omega)).alloc (.cells (fam 0 noSet) 97); have hg2 := hf2.rowO w1.heap.size (by omega) (fam 0 noSet); have HG2 := hide hg2; have HB1 := hide (bl_row ((HB0.out.trans (hb1.mono (by rw [HZ0.out]; omega))).alloc (by omega) (.cells (fam 0 noSet) 97)) (show w.heap.size ≤ w1.heap.size by omega) (fam 0 noSet)); clear hb1 hf2 hg2)
      | (refine wpList_store_fam sizeT rfl (.tmp 7) (.tmp _) rfl _ _ _ rfl rfl _ _ (famAt.new _ _ _ _) ?_)
      | (refine wpList_build_fam0 built0 rfl rfl ?_)
      | (refine wpList_store_fam sizeT rfl (.tmp 4) (.tmp _) rfl _ 0 noSet rfl rfl _ _ HG2.out ?_))
    refine bodyPost_ret (v := .tuple #[.agg (fam 0 noSet), .nilFunc, .bool false]) (results_fam3 (p := 4) (q := 5) (r := 6) rowT sizeT rfl _ _ (w.heap.size + 1) rfl _ _ (HG2.out.row _ _)) rfl ⟨rfl, bl_row HB1.out (by omega) _⟩
  · rw [hok, Bool.true_and] at hno
    have HK := hide hok
    have HTA := hide (fun w1 (h : Below w.heap.size w w1) => by have := implAreTasks_c u T n w1 (HTK.out.to h) hs; rw [hno] at this; exact this)
    clear hok hno
    go_enter Tryd.func72, Tryd.ntmps72
    go_wp2_with (first
      | (refine wpList_alloc_fam zeroT rfl rfl _ (by first | (simp only [World.size_alloc]; rfl) | rfl) ?_)
      | (go_at_call 82; refine (familyOf_c n v l _ HL.out hlen).mono ?_; rw [famVal_yes n l HK.out]; rintro e w1 ⟨rfl, hb1⟩; have hz1 := hb1.size; rw [HZ0.out] at hz1; have hf2 := (HF0.out.below hb1 (by rw [HZ0.out]; omega)).alloc (.cells (fam 0 noSet) 97); have hg2 := hf2.rowO w1.heap.size (by omega) (fam n (marksTo l l.length)); have HG2 := hide hg2; have hh2 := (famAt.new 97 w1 0 noSet).row n (marksTo l l.length); have c0 := hh2.get0; have HZ2 := hide (show w.heap.size + 2 ≤ ((w1.alloc (.cells (fam 0 noSet) 97)).setRow w1.heap.size (fam n (marksTo l l.length))).heap.size by simp [World.setRow]; omega); have HB1 := hide (bl_row ((HB0.out.trans (hb1.mono (by rw [HZ0.out]; omega))).alloc (by omega) (.cells (fam 0 noSet) 97)) (show w.heap.size ≤ w1.heap.size by omega) (fam n (marksTo l l.length))); clear hb1 hf2 hg2)
      | (refine wpList_store_fam sizeT rfl (.tmp 7) (.tmp _) rfl _ _ _ rfl rfl _ _ (famAt.new _ _ _ _) ?_)
      | (go_at_call 109; refine (HTA.out _ HB1.out).mono ?_; rintro e w3 ⟨rfl, hb3⟩; have HG3 := hide (HG2.out.below hb3 (by have := HZ2.out; omega)); have HB3 := hide (HB1.out.trans (hb3.mono (by have := HZ2.out; omega))); clear hb3)
      | (refine wpList_build_fam0 built0 rfl rfl ?_)
      | (refine wpList_store_fam sizeT rfl (.tmp 4) (.tmp _) rfl _ 0 noSet rfl rfl _ _ HG3.out ?_))
    refine bodyPost_ret (v := .tuple #[.agg (fam 0 noSet), .nilFunc, .bool false]) (results_fam3 (p := 4) (q := 5) (r := 6) rowT sizeT rfl _ _ (w.heap.size + 1) rfl _ _ (HG3.out.row _ _)) rfl ⟨rfl, bl_row HB3.out (by omega) _⟩
set_option maxHeartbeats 2000000 in
theorem familyAndCosts_yes (n : Int) (v : Value) (l : List Int) (u : Value) (T : List Tsk) (w : World) (hl : ints w.heap.size w v l) (hlen : l.length < 1000000000) (ht : tks w.heap.size w u T) (hs : T.length < 1000000000) (hT : tab w) (hyes : gvB n l T = true) :
    Calls Tryd.prog 72 #[.agg #[.int .i64 n, v], u] w fun e w' => ∃ caps, e = .returned (.tuple #[.agg (fam n (marksTo l l.length)), .func (.func 144) #[] caps, .bool true]) ∧ isCost w' 144 caps n.toNat (coT T) ∧ Below w.heap.size w w' := by
  obtain ⟨hok, hta⟩ := gv_in hyes
  have hf1 : famAt 97 ((w.alloc (.cells #[.int .i64 n, v] 34)).alloc (.cells (fam 0 noSet) 97)) (w.heap.size + 1) 0 noSet := by
    have := famAt.new 97 (w.alloc (.cells #[.int .i64 n, v] 34)) 0 noSet
    simpa using this
  have HF0 := hide hf1
  have hz0 : ((w.alloc (.cells #[.int .i64 n, v] 34)).alloc (.cells (fam 0 noSet) 97)).heap.size = w.heap.size + 2 := by simp
  have HB0 := hide (((Below.refl w.heap.size w).alloc (Nat.le_refl _) (.cells #[.int .i64 n, v] 34)).alloc (by simp) (.cells (fam 0 noSet) 97))
  have HL := hide (((hl.alloc (.cells #[.int .i64 n, v] 34)).alloc (.cells (fam 0 noSet) 97)).mono (show w.heap.size ≤ ((w.alloc (.cells #[.int .i64 n, v] 34)).alloc (.cells (fam 0 noSet) 97)).heap.size by simp; omega))
  have HTK := hide ht
  have HZ0 := hide hz0
  have HT := hide hT
  have HK := hide hok
  have HTAB := hide hta
  have HNT := hide (show T.length = n.toNat by have := taB_is hta; omega)
  have HTA := hide (fun w1 (h : Below w.heap.size w w1) => by have := implAreTasks_c u T n w1 (HTK.out.to h) hs; rw [hta] at this; exact this)
  clear hl hf1 ht hz0 hok hta hyes hT
  go_enter Tryd.func72, Tryd.ntmps72
  go_wp2_with (first
    | (refine wpList_alloc_fam zeroT rfl rfl _ (by first | (simp only [World.size_alloc]; rfl) | rfl) ?_)
    | (go_at_call 82; refine (familyOf_c n v l _ HL.out hlen).mono ?_; rw [famVal_yes n l HK.out]; rintro e w1 ⟨rfl, hb1⟩; have hz1 := hb1.size; rw [HZ0.out] at hz1; have hf2 := (HF0.out.below hb1 (by rw [HZ0.out]; omega)).alloc (.cells (fam 0 noSet) 97); have hg2 := hf2.rowO w1.heap.size (by omega) (fam n (marksTo l l.length)); have HG2 := hide hg2; have hh2 := (famAt.new 97 w1 0 noSet).row n (marksTo l l.length); have c0 := hh2.get0; have HH2 := hide hh2; have HZ2 := hide (show w.heap.size + 2 ≤ ((w1.alloc (.cells (fam 0 noSet) 97)).setRow w1.heap.size (fam n (marksTo l l.length))).heap.size by simp [World.setRow]; omega); have HB1 := hide (bl_row ((HB0.out.trans (hb1.mono (by rw [HZ0.out]; omega))).alloc (by omega) (.cells (fam 0 noSet) 97)) (show w.heap.size ≤ w1.heap.size by omega) (fam n (marksTo l l.length))); clear hb1 hf2 hg2 hh2)
    | (refine wpList_store_fam sizeT rfl (.tmp 7) (.tmp _) rfl _ _ _ rfl rfl _ _ (famAt.new _ _ _ _) ?_)
    | (go_at_call 109; refine (HTA.out _ HB1.out).mono ?_; rintro e w3 ⟨rfl, hb3⟩; have HG3 := hide (HG2.out.below hb3 (by have := HZ2.out; omega)); have HH3 := hide (HH2.out.below hb3 HH2.out.lt); have HB3 := hide (HB1.out.trans (hb3.mono (by have := HZ2.out; omega))); clear hb3))
  generalize hF : marksTo l l.length = F at HG3 HH3
  have HF := hide hF
  clear hF
  have hz1 := HG3.out.lt
  have hz3 := HB3.out.size
  have hlt := HH3.out.lt
  generalize hg : w1.heap.size = g at *
  have hS0 : famAt 97 ({ w3 with drawn := w3.drawn + 1 } : World) g n F ∧ Below (w.heap.size + 1) w3 { w3 with drawn := w3.drawn + 1 } := ⟨HH3.out, (Below.refl _ _).drew⟩
  have hg0 : famAt 97 ({ w3 with drawn := w3.drawn + 1 } : World) (w.heap.size + 1) 0 noSet := HG3.out
  have hT0 : Below w3.heap.size w3 { w3 with drawn := w3.drawn + 1 } := (Below.refl _ _).drew
  refine wp_region_held (S := fun w' => famAt 97 w' g n F ∧ Below (w.heap.size + 1) w3 w') (by kernel_rfl) ?_
  generalize ({ w3 with drawn := w3.drawn + 1 } : World) = C0 at hS0 hg0 hT0 ⊢
  have hz0 := hT0.size
  refine wpAnyH_take (i := 0) rfl (by kernel_rfl) (by kernel_rfl) (by kernel_rfl) (fun _ _ _ h => h) (yields_load_fam rowT sizeT rfl (.tmp _) rfl _ rfl n F (fun w' h => h.1)) hS0 ?_
  simp only [Act.put, List.getElem_toArray, List.getElem_cons_zero, List.getElem_cons_succ, List.setIfInBounds_toArray, List.set_cons_zero, List.set_cons_succ]
  refine wpAnyH_take (i := 1) (v := u) rfl (by kernel_rfl) (by kernel_rfl) (by kernel_rfl) (fun _ _ _ h => h) (.inl ⟨rfl, fun w' _ => by go_simp⟩) hS0 ?_
  simp only [Act.put, List.getElem_toArray, List.getElem_cons_zero, List.getElem_cons_succ, List.setIfInBounds_toArray, List.set_cons_zero, List.set_cons_succ]
  refine anyH_call (i := 2) (by kernel_rfl) rfl rfl 110 ent_costsOf _ _ rfl #[u] rfl (costsOf_c u T n C0 HTAB.out (HTK.out.to (HB3.out.trans (hT0.mono (by omega)))) (HT.out.below (HB3.out.trans (hT0.mono (by omega))))) ?_
  rintro e C1 ⟨g1, g2, rfl, hq1, hq2, hq3, hq4, hq5, hq6, hb1⟩
  have hS1 : famAt 97 C1 g n F ∧ Below (w.heap.size + 1) w3 C1 := ⟨hS0.1.below hb1 hS0.1.lt, hS0.2.trans (hb1.mono (by omega))⟩
  have hg1 := hg0.below hb1 hg0.lt
  refine ⟨_, rfl, hS1, ?_⟩
  simp only [Act.put, List.getElem_toArray, List.getElem_cons_zero, List.getElem_cons_succ, List.setIfInBounds_toArray, List.set_cons_zero, List.set_cons_succ]
  have hS2 : famAt 97 (C1.setRow (w.heap.size + 1) (fam n F)) g n F ∧ Below (w.heap.size + 1) w3 (C1.setRow (w.heap.size + 1) (fam n F)) := ⟨hS1.1.rowO (w.heap.size + 1) (by omega) _, bl_row hS1.2 (Nat.le_refl _) _⟩
  have hz4 : (C1.setRow (w.heap.size + 1) (fam n F)).heap.size = C1.heap.size := by simp [World.setRow]
  refine anyH_store_fam sizeT (i := 3) (by kernel_rfl) rfl rfl (.tmp _) (.tmp _) rfl (w.heap.size + 1) n F rfl rfl 0 noSet hg1 hS2 ?_
  simp only [Act.put, List.getElem_toArray, List.getElem_cons_zero, List.getElem_cons_succ, List.setIfInBounds_toArray, List.set_cons_zero, List.set_cons_succ]
  refine anyH_op (i := 4) (by kernel_rfl) rfl rfl (.func (.func 144) #[] #[.pointer (some ⟨g1, 0, none⟩), .pointer (some ⟨g2, 0, none⟩)]) _ (by simp [go_sem]) hS2 ?_
  simp only [Act.put, List.getElem_toArray, List.getElem_cons_zero, List.getElem_cons_succ, List.setIfInBounds_toArray, List.set_cons_zero, List.set_cons_succ]
  refine anyH_op (i := 5) (by kernel_rfl) rfl rfl (.bool true) _ (by simp [go_sem]) hS2 ?_
  refine wpAnyH_done (by kernel_rfl) ?_ _
  simp only [Act.put, List.getElem_toArray, List.getElem_cons_zero, List.getElem_cons_succ, List.setIfInBounds_toArray, List.set_cons_zero, List.set_cons_succ]
  have HR := hide (hg1.row n F)
  have hic2 : isCost (C1.setRow (w.heap.size + 1) (fam n F)) 144 #[.pointer (some ⟨g1, 0, none⟩), .pointer (some ⟨g2, 0, none⟩)] T.length (coT T) := isCost_of HTAB.out (HTK.out.to (HB3.out.trans (hS2.2.mono (by omega)))) (HT.out.below (HB3.out.trans (hS2.2.mono (by omega)))) (by omega) (by omega)
    (by rw [World.cell?_of_block (hp_rowO _ _ _ _ (by show g1 ≠ _; omega))]; exact hq5) (by rw [World.cell?_of_block (hp_rowO _ _ _ _ (by show g2 ≠ _; omega))]; exact hq6)
  rw [HNT.out] at hic2
  have HIC := hide hic2
  have HBF := hide (HB3.out.trans ((hS2.2).mono (show w.heap.size ≤ w.heap.size + 1 by omega)))
  clear hS0 hS1 hS2 hg0 hg1 hic2 hb1 hT0 hq5 hq6
  go_wp2
  refine bodyPost_ret (v := .tuple #[.agg (fam n F), .func (.func 144) #[] #[.pointer (some ⟨g1, 0, none⟩), .pointer (some ⟨g2, 0, none⟩)], .bool true]) (results_fam3 (p := 4) (q := 5) (r := 6) rowT sizeT rfl _ _ (w.heap.size + 1) rfl _ _ HR.out) rfl ⟨_, by rw [HF.out], HIC.out, HBF.out⟩
end Go.Proofs.YtdalbjpjnfjgfaaDoor
