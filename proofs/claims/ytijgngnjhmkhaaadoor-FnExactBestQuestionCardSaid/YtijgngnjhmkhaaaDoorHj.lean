/- Contracts: the halving strategy's question. -/
import Derived.Test.YtijgngnjhmkhaaaDoorHg
import Derived.Test.YtijgngnjhmkhaaaDoorMn
import Derived.Lib.MinMax
import Derived.Laws.EntriesVeiled
namespace Go.Proofs.YtijgngnjhmkhaaaDoor
open Go.RowKit
set_option maxRecDepth 100000
set_option linter.unusedSimpArgs false
attribute [local irreducible] p2 low memB risB
theorem ent_countJ : enters Tryd.prog 64 := enters_of Tryd.func64 (by kernel_rfl) (by kernel_rfl)
theorem ent_half11 : enters Tryd.prog 62 := enters_of Tryd.func62 (by kernel_rfl) (by kernel_rfl)
theorem ent_half12 : enters Tryd.prog 67 := enters_of Tryd.func67 (by kernel_rfl) (by kernel_rfl)
theorem difN_is (F : Nat → Bool) (i : Nat) : difN F i = max (cntS (ptF F i true) : Int) (cntS (ptF F i false) : Int) - min (cntS (ptF F i true) : Int) (cntS (ptF F i false) : Int) := by
  unfold difN; omega
set_option maxHeartbeats 4000000 in
theorem half11_c (m : Nat) (F : Nat → Bool) (i g : Nat) (w : World) (hm7 : m ≤ 7) (hF : ∀ x, F x = true → x ≤ low m) (hi : i < 7) (hg : famAt 46 w g (m : Int) F) :
    Calls Tryd.prog 62 #[.int .i64 (i : Int), .pointer (some ⟨g, 0, none⟩)] w fun e w' => e = .returned (.int .i64 (difN F i)) ∧ Below w.heap.size w w' := by
  have HG := hide hg
  have HPT := hide (fun w1 => parted_c m F i w1 hm7 hF hi)
  have HC1 := hide (fun w1 => count_c (m : Int) (ptF F i true) w1)
  have HC2 := hide (fun w1 => count_c (m : Int) (ptF F i false) w1)
  have hd := difN_in F i
  rw [difN_is] at hd ⊢
  clear hg hF
  generalize ptF F i true = G1 at *
  generalize ptF F i false = G2 at *
  generalize (cntS G1 : Int) = x at *
  generalize (cntS G2 : Int) = y at *
  have hw : IntKind.i64.wrap (max x y - min x y) = max x y - min x y := IntWalk.i64_in _ (by omega)
  go_enter Tryd.func62, Tryd.ntmps62
  go_wp2_with (first
    | (refine wpList_load_fam rowT sizeT rfl (.tmp _) rfl g rfl (m : Int) F HG.out ?_)
    | (go_at_call 63; refine (HPT.out _).mono ?_; rintro e w1 ⟨rfl, hb1⟩; have HA := hide ((((famAt.new 46 w1 0 noSet).alloc (.cells (fam 0 noSet) 46)).row (m : Int) G1).rowO (w1.heap.size + 1) (by omega) (fam (m : Int) G2)); have HBB := hide (((show famAt 46 ((w1.alloc (.cells (fam 0 noSet) 46)).alloc (.cells (fam 0 noSet) 46)) (w1.heap.size + 1) 0 noSet by have h := famAt.new 46 (w1.alloc (.cells (fam 0 noSet) 46)) 0 noSet; simpa using h).rowO w1.heap.size (by omega) (fam (m : Int) G1)).row (m : Int) G2); have HB1 := hide (bl_row (bl_row ((hb1.alloc hb1.size (.cells (fam 0 noSet) 46)).alloc (by have := hb1.size; simp; omega) (.cells (fam 0 noSet) 46)) (show w.heap.size ≤ w1.heap.size from hb1.size) (fam (m : Int) G1)) (show w.heap.size ≤ w1.heap.size + 1 by have := hb1.size; omega) (fam (m : Int) G2)); have hz1 := hb1.size; clear hb1)
    | (refine wpList_alloc_fam zeroT rfl rfl _ (by first | (simp only [World.size_alloc]; rfl) | rfl) ?_)
    | (refine wpList_store_fam sizeT rfl (.tmp 4) (.tmp _) rfl w1.heap.size _ _ rfl rfl _ _ ((famAt.new _ _ _ _).alloc _) ?_)
    | (refine wpList_store_fam sizeT rfl (.tmp 5) (.tmp _) rfl (w1.heap.size + 1) _ _ rfl rfl _ _ ((show famAt 46 ((w1.alloc (.cells (fam 0 noSet) 46)).alloc (.cells (fam 0 noSet) 46)) (w1.heap.size + 1) 0 noSet by have h := famAt.new 46 (w1.alloc (.cells (fam 0 noSet) 46)) 0 noSet; simpa using h).rowO w1.heap.size (by omega) (fam (m : Int) G1)) ?_))
  generalize (((w1.alloc (.cells (fam 0 noSet) 46)).alloc (.cells (fam 0 noSet) 46)).setRow w1.heap.size (fam (m : Int) G1)).setRow (w1.heap.size + 1) (fam (m : Int) G2) = W at *
  refine wp_region_old (by kernel_rfl) (by kernel_rfl) ?_
  refine q_load_fam rowT sizeT rfl (.tmp _) rfl w1.heap.size rfl (m : Int) G1 (fun w' h => HA.out.below h HA.out.lt) ?_
  simp only [Act.put, List.setIfInBounds_toArray, List.set_cons_zero, List.set_cons_succ]
  refine q_callH rfl 64 ent_countJ _ _ rfl #[.agg (fam (m : Int) G1)] rfl (.int .i64 x) (fun w' _ => HC1.out w') ?_
  simp only [Act.put, List.setIfInBounds_toArray, List.set_cons_zero, List.set_cons_succ]
  refine q_load_fam rowT sizeT rfl (.tmp _) rfl (w1.heap.size + 1) rfl (m : Int) G2 (fun w' h => HBB.out.below h HBB.out.lt) ?_
  simp only [Act.put, List.setIfInBounds_toArray, List.set_cons_zero, List.set_cons_succ]
  refine q_callH rfl 64 ent_countJ _ _ rfl #[.agg (fam (m : Int) G2)] rfl (.int .i64 y) (fun w' _ => HC2.out w') ?_
  simp only [Act.put, List.setIfInBounds_toArray, List.set_cons_zero, List.set_cons_succ]
  refine q_valH rfl (.int .i64 (max x y)) (fun w' => by simp [execOp, go_sem]) ?_
  simp only [Act.put, List.setIfInBounds_toArray, List.set_cons_zero, List.set_cons_succ]
  refine q_load_fam rowT sizeT rfl (.tmp _) rfl w1.heap.size rfl (m : Int) G1 (fun w' h => HA.out.below h HA.out.lt) ?_
  simp only [Act.put, List.setIfInBounds_toArray, List.set_cons_zero, List.set_cons_succ]
  refine q_callH rfl 64 ent_countJ _ _ rfl #[.agg (fam (m : Int) G1)] rfl (.int .i64 x) (fun w' _ => HC1.out w') ?_
  simp only [Act.put, List.setIfInBounds_toArray, List.set_cons_zero, List.set_cons_succ]
  refine q_load_fam rowT sizeT rfl (.tmp _) rfl (w1.heap.size + 1) rfl (m : Int) G2 (fun w' h => HBB.out.below h HBB.out.lt) ?_
  simp only [Act.put, List.setIfInBounds_toArray, List.set_cons_zero, List.set_cons_succ]
  refine q_callH rfl 64 ent_countJ _ _ rfl #[.agg (fam (m : Int) G2)] rfl (.int .i64 y) (fun w' _ => HC2.out w') ?_
  simp only [Act.put, List.setIfInBounds_toArray, List.set_cons_zero, List.set_cons_succ]
  refine q_valH rfl (.int .i64 (min x y)) (fun w' => by simp [execOp, go_sem]) ?_
  simp only [Act.put, List.setIfInBounds_toArray, List.set_cons_zero, List.set_cons_succ]
  repeat (first | go_big_quiet_skip | go_big_quiet_step ((first | exact fun _ => rfl | exact fun _ => ⟨rfl, rfl⟩)))
  refine wpQuiet_nil ?_
  intro w2 hb2
  have HB2 := hide (HB1.out.trans (hb2.mono HB1.out.size))
  clear hb2
  go_wp2
  go_ret
  exact ⟨by rw [← hw]; rfl, HB2.out⟩
theorem rowFnJ : (Tryd.prog.underlying 77).map TypeDesc.isRow = some false := by kernel_rfl
set_option maxHeartbeats 4000000 in
theorem half12_c (m : Nat) (F : Nat → Bool) (a b g1 g2 : Nat) (w : World) (hm7 : m ≤ 7) (hF : ∀ x, F x = true → x ≤ low m) (ha : a < 7) (hb : b < 7) (hg : famAt 46 w g1 (m : Int) F)
    (hc : w.cell? ⟨g2, 0, none⟩ = some (.func (.func 62) #[] #[.pointer (some ⟨g1, 0, none⟩)])) (h2 : g2 < w.heap.size) :
    Calls Tryd.prog 67 #[.int .i64 (a : Int), .int .i64 (b : Int), .pointer (some ⟨g2, 0, none⟩)] w fun e w' => e = .returned (.int .i64 (difN F a - difN F b)) ∧ Below w.heap.size w w' := by
  have HC := hide (fun w' (h : Below w.heap.size w w') => (h.cell (p := ⟨g2, 0, none⟩) h2).trans hc)
  have HA := hide (fun w1 (h : Below w.heap.size w w1) => half11_c m F a g1 w1 hm7 hF ha (hg.below h hg.lt))
  have HB := hide (fun w1 (h : Below w.heap.size w w1) => half11_c m F b g1 w1 hm7 hF hb (hg.below h hg.lt))
  have d1 := difN_in F a
  have d2 := difN_in F b
  clear hc hg hF
  generalize difN F a = x at *
  generalize difN F b = y at *
  have hw : IntKind.i64.wrap (x - y) = x - y := IntWalk.i64_in _ (by omega)
  go_enter Tryd.func67, Tryd.ntmps67
  go_wp2_with fail
  refine wp_region_old (by kernel_rfl) (by kernel_rfl) ?_
  refine q_load_cell rowFnJ rfl (.tmp _) rfl _ rfl _ HC.out ?_
  simp only [Act.put, List.setIfInBounds_toArray, List.set_cons_zero, List.set_cons_succ]
  go_big_quiet_step ((first | exact fun _ => rfl | exact fun _ => ⟨rfl, rfl⟩))
  refine q_callF rfl 62 #[.pointer (some ⟨g1, 0, none⟩)] ent_half11 (.tmp _) _ _ rfl rfl #[.int .i64 (a : Int)] rfl (.int .i64 x) (fun w' h => HA.out w' h) ?_
  simp only [Act.put, List.setIfInBounds_toArray, List.set_cons_zero, List.set_cons_succ]
  refine q_load_cell rowFnJ rfl (.tmp _) rfl _ rfl _ HC.out ?_
  simp only [Act.put, List.setIfInBounds_toArray, List.set_cons_zero, List.set_cons_succ]
  go_big_quiet_step ((first | exact fun _ => rfl | exact fun _ => ⟨rfl, rfl⟩))
  refine q_callF rfl 62 #[.pointer (some ⟨g1, 0, none⟩)] ent_half11 (.tmp _) _ _ rfl rfl #[.int .i64 (b : Int)] rfl (.int .i64 y) (fun w' h => HB.out w' h) ?_
  simp only [Act.put, List.setIfInBounds_toArray, List.set_cons_zero, List.set_cons_succ]
  repeat (first | go_big_quiet_skip | go_big_quiet_step ((first | exact fun _ => rfl | exact fun _ => ⟨rfl, rfl⟩)))
  refine wpQuiet_nil ?_
  intro w2 hb2
  go_wp2
  go_ret
  exact ⟨rfl, hb2⟩
/-- The item that halves best. -/
def hfI (m : Nat) (F : Nat → Bool) : Nat := mnI (difN F) (opN m F)
theorem open_lt7 {m i : Nat} {F : Nat → Bool} (h : (opN m F).testBit i = true) (hm7 : m ≤ 7) : i < 7 := by
  have := ((opN_bit m i F).1 h).1; omega
set_option maxHeartbeats 4000000 in
theorem half1_c (m : Nat) (F : Nat → Bool) (w : World) (hm7 : m ≤ 7) (hF : ∀ x, F x = true → x ≤ low m) (h0 : opN m F ≠ 0) (hT : tab w) :
    Calls Tryd.prog 61 #[.agg (fam (m : Int) F)] w fun e w' => e = .returned (.int .i64 (hfI m F : Int)) ∧ Below w.heap.size w w' := by
  have hO8 := opN_lt m hm7 F
  have HT := hide hT
  have HOP := hide (fun w1 => open_c m F w1 hm7)
  have HDF := hide (fun b => difN_in F b)
  have HFF := hide hF
  have HLT := hide (fun i (h : (opN m F).testBit i = true) => open_lt7 h hm7)
  have HR := hide (show hfI m F = mnI (difN F) (opN m F) from rfl)
  rw [HR.out]
  clear hT hF
  generalize opN m F = O at *
  have hc0 : ((w.alloc (.cells (fam (m : Int) F) 46)).alloc (.cells #[.func (.func 62) #[] #[.pointer (some ⟨w.heap.size, 0, none⟩)]] 77)).heap[w.heap.size + 1]? = some (.cells #[.func (.func 62) #[] #[.pointer (some ⟨w.heap.size, 0, none⟩)]] 77) := by have h := hp_last (w.alloc (.cells (fam (m : Int) F) 46)) (.cells #[.func (.func 62) #[] #[.pointer (some ⟨w.heap.size, 0, none⟩)]] 77); simpa using h
  have HC0 := hide hc0
  have HF0 := hide ((famAt.new 46 w (m : Int) F).alloc (.cells #[.func (.func 62) #[] #[.pointer (some ⟨w.heap.size, 0, none⟩)]] 77))
  have HB0 := hide (((Below.refl w.heap.size w).alloc (Nat.le_refl _) (.cells (fam (m : Int) F) 46)).alloc (by simp) (.cells #[.func (.func 62) #[] #[.pointer (some ⟨w.heap.size, 0, none⟩)]] 77))
  have HZ0 := hide (show ((w.alloc (.cells (fam (m : Int) F) 46)).alloc (.cells #[.func (.func 62) #[] #[.pointer (some ⟨w.heap.size, 0, none⟩)]] 77)).heap.size = w.heap.size + 2 by simp)
  clear hc0
  have HTW := hide (HT.out.below HB0.out)
  go_enter Tryd.func61, Tryd.ntmps61
  go_wp2_with (first
    | (refine wpList_load_fam rowT sizeT rfl (.tmp _) rfl w.heap.size rfl (m : Int) F HF0.out ?_)
    | (go_at_call 60; refine (HOP.out _).mono ?_; rintro e w1 ⟨rfl, hb1⟩; rw [HZ0.out] at hb1; have hz1 := hb1.size; rw [HZ0.out] at hz1; have HC1 := hide ((hb1.block (w.heap.size + 1) (by omega)).trans HC0.out); have HF1 := hide (HF0.out.below hb1 (by omega)); have HT1 := hide (HTW.out.below (by rw [HZ0.out]; exact hb1)); have HB1 := hide (HB0.out.trans (hb1.mono (by omega))); clear hb1)
    | (go_at_call 66; refine (items_c O _ hO8 HT1.out).mono ?_; rintro e w2 ⟨v2, rfl, ho2, hb2⟩; have hz2 := hb2.size; have HO2 := hide ho2; have HC2 := hide ((hb2.block (w.heap.size + 1) (by omega)).trans HC1.out); have HF2 := hide (HF1.out.below hb2 (by omega)); have HB2 := hide (HB1.out.trans (hb2.mono (by omega))); clear hb2 ho2)
    | (go_at_call 65; refine (minFunc_c 67 #[.pointer (some ⟨w.heap.size + 1, 0, none⟩)] (difN F) _ O _ _ ent_half12 hO8 h0 HO2.out (fun b _ => by have := HDF.out b; omega) (fun w5 hb5 a b ha hb => half12_c m F a b w.heap.size (w.heap.size + 1) w5 hm7 HFF.out (HLT.out a ha) (HLT.out b hb) (HF2.out.below hb5 (by omega)) (by rw [hp_cell ((hb5.block (w.heap.size + 1) (by omega)).trans HC2.out)]; rfl) (by have := hb5.size; omega))).mono ?_; rintro e w3 ⟨rfl, hb3⟩; have HB3 := hide (HB2.out.trans (hb3.mono HB2.out.size)); clear hb3))
  go_ret
  exact ⟨rfl, HB3.out⟩
end Go.Proofs.YtijgngnjhmkhaaaDoor
