/- Contracts: the family of what a closure makes of each set; items numbered anew; the trace of a family. -/
import Derived.Test.YtceofjlhbomcaaaRn
import Derived.Test.YtceofjlhbomcaaaAny
namespace Go.Proofs.Ytceofjlhbomcaaa
open Go.RowKit
set_option maxRecDepth 100000
attribute [local irreducible] p2 low memB risB

set_option maxHeartbeats 1000000 in
theorem image_c (n m : Int) (F : Nat → Bool) (k : Nat) (caps : Array Value) (w : World) (C : Nat → Nat) (hk : enters Try.prog k) (hC : ∀ s, s < 128 → F s = true → C s < 128)
    (hcl : ∀ (s : Nat) (w1 : World), s < 128 → F s = true → Below w.heap.size w w1 → Calls Try.prog k (#[.int .i64 (s : Int)] ++ caps) w1 fun e w2 => e = .returned (.int .i64 (C s : Int)) ∧ Below w1.heap.size w1 w2) :
    Calls Try.prog 74 #[.agg (fam n F), .int .i64 m, .func (.func k) #[] caps] w fun e w' => e = .returned (.agg (fam m (imgTo F C 128))) ∧ Below w.heap.size w w' := by
  have HC := hide hC
  have HCL := hide hcl
  have hk1 : ∀ (args : Array Value) (w : World), Sem.run Try.prog (callFunc k args) w = .ok (.enter k args) w := hk
  clear hC hcl hk
  have hb0 := (((Below.refl w.heap.size w).alloc (Nat.le_refl _) (.cells (fam n F) 64)).alloc (by simp) (.cells (fam 0 noSet) 64)).alloc (by simp; omega) (.cells (fam 0 noSet) 64)
  have f7 := famAt.new 64 ((w.alloc (.cells (fam n F) 64)).alloc (.cells (fam 0 noSet) 64)) 0 noSet
  have f6 := (famAt.new 64 (w.alloc (.cells (fam n F) 64)) 0 noSet).alloc (.cells (fam 0 noSet) 64)
  have f3 := ((famAt.new 64 w n F).alloc (.cells (fam 0 noSet) 64)).alloc (.cells (fam 0 noSet) 64)
  simp only [World.size_alloc] at f7 f6
  have F7 := hide f7
  have F7R := hide (f7.row m noSet)
  have F6R := hide (f6.rowO (w.heap.size + 1 + 1) (by omega) (fam m noSet))
  have F3R := hide (f3.rowO (w.heap.size + 1 + 1) (by omega) (fam m noSet))
  have HB0 := hide (bl_row hb0 (show w.heap.size ≤ w.heap.size + 1 + 1 by omega) (fam m noSet))
  clear f7 f6 f3 hb0
  go_enter Try.func74, Try.ntmps74
  go_wp2_with (first
    | (refine wpList_alloc_fam zeroT rfl rfl _ (by first | (simp only [World.size_alloc]; rfl) | rfl) ?_)
    | (refine wpList_build_fam builtT rfl _ rfl _ rfl ?_)
    | (refine wpList_store_fam sizeT rfl (.tmp _) (.tmp _) rfl _ m noSet rfl rfl _ _ F7.out ?_)
    | (refine wpList_load_marks rowA sizeA rfl (.tmp _) rfl _ rfl _ _ F3R.out ?_))
  go_loopw [14] (fun i wr => ∃ j : Nat, j ≤ 128 ∧ i = .int .i64 j ∧ Hid (famAt 64 wr (w.heap.size + 1 + 1) m (imgTo F C j)) ∧ Hid (famAt 64 wr (w.heap.size + 1) 0 noSet) ∧ Hid (Below w.heap.size w wr)) (fun i _ => 128 - (intOf i).toNat)
  case atStart => exact ⟨0, by omega, rfl, F7R, F6R, HB0⟩
  case round =>
    obtain ⟨j, hj, rfl, HF7, HF6, HB⟩ := hrel
    clear F7 F7R F6R F3R HB0
    by_cases hlt : j < 128
    · cases hF : F j
      · have HV := hide hF
        clear hF
        go_wp2_with (refine wpList_mark arrA sizeB rowB rfl (.tmp _) (.tmp _) rfl F rfl j rfl (by omega) _ HV.out ?_)
        go_roundw
        case rel => exact ⟨j + 1, by omega, by go_num, by rw [imgTo, if_neg (by rw [HV.out]; decide)]; exact HF7, HF6, HB⟩
        case measure => simp [intOf]; omega
      · have HV := hide hF
        have hcj := HC.out j hlt hF
        clear hF
        generalize hc : C j = c at hcj
        have HCJ := hide hc
        clear hc
        go_wp2_with (refine wpList_mark arrA sizeB rowB rfl (.tmp _) (.tmp _) rfl F rfl j rfl (by omega) _ HV.out ?_)
        refine (HCL.out j _ hlt HV.out HB.out).mono ?_
        rw [HCJ.out]
        rintro e w1 ⟨rfl, hb1⟩
        have hf7 := HF7.out.below hb1 HF7.out.lt
        have hcell := hf7.get c hcj
        have hfree := hf7.free (1 + c)
        have HG7 := hide hf7
        have HG6 := hide (HF6.out.below hb1 HF6.out.lt)
        have HB1 := hide (HB.out.trans (hb1.mono HB.out.size))
        clear hf7 hb1
        go_wp2
        go_roundw
        case rel => exact ⟨j + 1, by omega, by go_num, by rw [imgTo, if_pos HV.out, HCJ.out]; exact HG7.out.set c hcj true, HG6.out.setO _ (by show w.heap.size + 1 ≠ w.heap.size + 1 + 1; omega) _, HB1.out.setCell (by show w.heap.size ≤ w.heap.size + 1 + 1; omega) _⟩
        case measure => simp [intOf]; omega
    · have hj' : j = 128 := by omega
      subst hj'
      clear hj hlt
      go_wp2_with (first
        | (refine wpList_load_fam rowT sizeT rfl (.tmp _) rfl _ rfl _ _ HF7.out ?_)
        | (refine wpList_store_fam sizeT rfl (.tmp _) (.tmp _) rfl _ m (imgTo F C 128) rfl rfl _ _ HF6.out ?_))
      exact bodyPost_ret (v := .agg (fam m (imgTo F C 128))) (results_fam rowT sizeT rfl _ _ (w.heap.size + 1) rfl _ _ (HF6.out.row _ _)) rfl ⟨rfl, bl_row HB.out (by omega) _⟩

theorem ent_renum1 : enters Try.prog 114 := enters_of Try.func114 (by kernel_rfl) (by kernel_rfl)
theorem ent_trace1 : enters Try.prog 106 := enters_of Try.func106 (by kernel_rfl) (by kernel_rfl)
theorem ent_belowI : enters Try.prog 100 := enters_of Try.func100 (by kernel_rfl) (by kernel_rfl)
theorem ent_sizeI : enters Try.prog 105 := enters_of Try.func105 (by kernel_rfl) (by kernel_rfl)
theorem ent_singleI : enters Try.prog 79 := enters_of Try.func79 (by kernel_rfl) (by kernel_rfl)
theorem ent_image : enters Try.prog 74 := enters_of Try.func74 (by kernel_rfl) (by kernel_rfl)
theorem rowItI : (Try.prog.underlying 66).map TypeDesc.isRow = some false := by kernel_rfl

set_option maxHeartbeats 600000 in
theorem renum1_c (i : Nat) (a kept g gs : Nat) (w : World) (hi : i < 7) (ha : a < 128) (hk : kept < 128) (hca : w.cell? ⟨gs, 0, none⟩ = some (.int .i64 (a : Int))) (hck : w.cell? ⟨g, 0, none⟩ = some (.int .i64 (kept : Int))) (hg : g < w.heap.size) :
    Calls Try.prog 114 #[.int .i64 (i : Int), .pointer (some ⟨gs, 0, none⟩), .pointer (some ⟨g, 0, none⟩)] w fun e w' => e = .returned (.int .i64 ((if (a &&& kept).testBit i then p2 (rnI kept i) else 0 : Nat) : Int)) ∧ Below w.heap.size w w' := by
  have hand := i64_and a kept (by omega) (by omega)
  have hak : a &&& kept < 128 := Nat.and_lt_two_pow (n := 7) _ hk
  cases hb : (a &&& kept).testBit i
  · have HB := hide hb
    generalize a &&& kept = ak at hand hak HB
    go_enter Try.func114, Try.ntmps114
    go_wp2_with (go_at_call 78; refine (has_c _ _ _ (by omega) (by omega) (by omega) (by omega)).mono ?_; rw [Int.toNat_natCast, Int.toNat_natCast, HB.out]; rintro e w' ⟨rfl, rfl⟩)
    go_ret
    exact ⟨rfl, Below.refl _ _⟩
  · have HB := hide hb
    generalize a &&& kept = ak at hand hak HB
    have hlo := low_lt i (by omega)
    have hand2 := i64_and kept (low i) (by omega) (by omega)
    have hkl : kept &&& low i < 128 := Nat.and_lt_two_pow (n := 7) _ hlo
    have HR := hide (show pc (kept &&& low i) = rnI kept i from rfl)
    have hr7 := rnI_le kept i
    have HCK := hide (fun w' (h : Below w.heap.size w w') => (h.cell (p := ⟨g, 0, none⟩) (by show g < w.heap.size; exact hg)).trans hck)
    generalize rnI kept i = r at HR hr7
    generalize kept &&& low i = kl at hand2 hkl HR
    go_enter Try.func114, Try.ntmps114
    go_wp2_with (go_at_call 78; refine (has_c _ _ _ (by omega) (by omega) (by omega) (by omega)).mono ?_; rw [Int.toNat_natCast, Int.toNat_natCast, HB.out]; rintro e w' ⟨rfl, rfl⟩)
    refine wp_region_old (by kernel_rfl) (by kernel_rfl) ?_
    refine q_load_cell rowItI rfl (.tmp _) rfl _ rfl (.int .i64 (kept : Int)) HCK.out ?_
    simp only [Act.put, List.setIfInBounds_toArray, List.set_cons_zero, List.set_cons_succ]
    go_big_quiet_step ((first | exact fun _ => rfl | exact fun _ => ⟨rfl, rfl⟩))
    refine q_pure rfl 100 ent_belowI _ _ rfl #[.int .i64 (i : Int)] rfl (.int .i64 (low i : Int)) (fun w' _ => by have := below_c (i : Int) w' (by omega) (by omega); rw [Int.toNat_natCast] at this; exact this) ?_
    simp only [Act.put, List.setIfInBounds_toArray, List.set_cons_zero, List.set_cons_succ]
    go_big_quiet_step ((first | exact fun _ => rfl | exact fun _ => ⟨rfl, rfl⟩))
    refine q_pure rfl 105 ent_sizeI _ _ rfl #[.int .i64 (kl : Int)] rfl (.int .i64 (r : Int)) (fun w' _ => by have := size_c (kl : Int) w' (by omega) (by omega); rw [Int.toNat_natCast, HR.out] at this; exact this) ?_
    simp only [Act.put, List.setIfInBounds_toArray, List.set_cons_zero, List.set_cons_succ]
    refine q_pure rfl 79 ent_singleI _ _ rfl #[.int .i64 (r : Int)] rfl (.int .i64 (p2 r : Int)) (fun w' _ => by have := single_c (r : Int) w' (by omega) (by omega); rw [Int.toNat_natCast] at this; exact this) ?_
    simp only [Act.put, List.setIfInBounds_toArray, List.set_cons_zero, List.set_cons_succ]
    repeat (go_big_quiet_step ((first | exact fun _ => rfl | exact fun _ => ⟨rfl, rfl⟩)))
    refine wpQuiet_nil ?_
    intro w2 hb2
    go_wp2
    go_ret
    exact ⟨rfl, hb2⟩

set_option maxHeartbeats 400000 in
theorem renumbered_c (a kept : Nat) (w : World) (ha : a < 128) (hk : kept < 128) :
    Calls Try.prog 107 #[.int .i64 (a : Int), .int .i64 (kept : Int)] w fun e w' => e = .returned (.int .i64 (rn kept a : Int)) ∧ Below w.heap.size w w' := by
  have H0 := hide (((Below.refl w.heap.size w).alloc (Nat.le_refl _) (.cells #[.int .i64 (a : Int)] 66)).alloc (by simp) (.cells #[.int .i64 (kept : Int)] 66))
  go_enter Try.func107, Try.ntmps107
  go_wp2_with fail
  refine (sumOf_c 7 114 #[.pointer (some ⟨w.heap.size, 0, none⟩), .pointer (some ⟨w.heap.size + 1, 0, none⟩)] _ (fun i => if (a &&& kept).testBit i then p2 (rnI kept i) else 0) (by omega) (by omega) ent_renum1 ?h1 ?h2).mono ?_
  case h1 =>
    intro i hi
    show (if (a &&& kept).testBit i then p2 (rnI kept i) else 0) < 128
    split
    · rename_i hb
      rw [Nat.testBit_and, Bool.and_eq_true] at hb
      have h1 := rnI_lt kept hk i (by omega) hb.2
      have h2 := pc_le kept
      exact p2_lt128 _ (by omega)
    · omega
  case h2 =>
    intro i w1 hi0 hi hb
    obtain ⟨i, rfl⟩ := Int.eq_ofNat_of_zero_le hi0
    refine renum1_c i a kept (w.heap.size + 1) w.heap.size w1 (by omega) ha hk ?_ ?_ (by have := hb.size; simp at this; omega)
    · rw [hb.cell (p := ⟨w.heap.size, 0, none⟩) (by simp; omega)]; simp [go_sem]
    · rw [hb.cell (p := ⟨w.heap.size + 1, 0, none⟩) (by simp)]; simp [go_sem]
  rw [show orTo (fun i => if (a &&& kept).testBit i then p2 (rnI kept i) else 0) (7 : Int).toNat = rn kept a from rfl]
  rintro e w' ⟨rfl, hb⟩
  have HB := hide (H0.out.trans (hb.mono (by simp; omega)))
  clear hb
  go_wp2
  go_ret
  exact ⟨rfl, HB.out⟩

theorem trace1_c (a kept g : Nat) (w : World) (ha : a < 128) (hk : kept < 128) (hck : w.cell? ⟨g, 0, none⟩ = some (.int .i64 (kept : Int))) :
    Calls Try.prog 106 #[.int .i64 (a : Int), .pointer (some ⟨g, 0, none⟩)] w fun e w' => e = .returned (.int .i64 (rn kept a : Int)) ∧ Below w.heap.size w w' := by
  go_enter Try.func106, Try.ntmps106
  go_wp2_with (go_at_call 107; refine (renumbered_c a kept _ ha hk).mono ?_; rintro e w' ⟨rfl, hb⟩)
  go_ret
  exact ⟨rfl, hb⟩

set_option maxHeartbeats 600000 in
theorem trace_c (n : Int) (F : Nat → Bool) (kept : Nat) (w : World) (hk : kept < 128) :
    Calls Try.prog 71 #[.agg (fam n F), .int .i64 (kept : Int)] w fun e w' => e = .returned (.agg (fam (pc kept : Int) (imgTo F (rn kept) 128))) ∧ Below w.heap.size w w' := by
  have hb0 := ((((Below.refl w.heap.size w).alloc (Nat.le_refl _) (.cells (fam n F) 64)).alloc (by simp) (.cells #[.int .i64 (kept : Int)] 66)).alloc (by simp; omega) (.cells (fam 0 noSet) 64))
  have hc3 : (((w.alloc (.cells (fam n F) 64)).alloc (.cells #[.int .i64 (kept : Int)] 66)).alloc (.cells (fam 0 noSet) 64)).cell? ⟨w.heap.size + 1, 0, none⟩ = some (.int .i64 (kept : Int)) := by simp [go_sem]
  have hf2 := ((famAt.new 64 w n F).alloc (.cells #[.int .i64 (kept : Int)] 66)).alloc (.cells (fam 0 noSet) 64)
  have hf4 := famAt.new 64 ((w.alloc (.cells (fam n F) 64)).alloc (.cells #[.int .i64 (kept : Int)] 66)) 0 noSet
  simp only [World.size_alloc] at hf4
  have hzz : (((w.alloc (.cells (fam n F) 64)).alloc (.cells #[.int .i64 (kept : Int)] 66)).alloc (.cells (fam 0 noSet) 64)).heap.size = w.heap.size + 3 := by simp
  go_enter Try.func71, Try.ntmps71
  go_wp2_with (refine wpList_alloc_fam zeroT rfl rfl _ (by first | (simp only [World.size_alloc]; rfl) | rfl) ?_)
  generalize ((w.alloc (.cells (fam n F) 64)).alloc (.cells #[.int .i64 (kept : Int)] 66)).alloc (.cells (fam 0 noSet) 64) = W at hb0 hc3 hf2 hf4 hzz ⊢
  refine wp_region_held (S := Below (w.heap.size + 1 + 1) W) (by kernel_rfl) ?_
  have hS : Below (w.heap.size + 1 + 1) W { W with drawn := W.drawn + 1 } := (Below.refl _ _).drew
  refine wpAnyH_take (i := 0) rfl (by kernel_rfl) (by kernel_rfl) (by kernel_rfl) (fun _ _ _ h => h) (yields_load_fam rowT sizeT rfl (.tmp _) rfl _ rfl n F (fun w' h => hf2.below h (by omega))) hS ?_
  refine wpAnyH_take (i := 1) rfl (by kernel_rfl) (by kernel_rfl) (by kernel_rfl) (fun _ _ _ h => h) (yields_load_cell rowItI rfl (.tmp _) rfl ⟨w.heap.size + 1, 0, none⟩ rfl (.int .i64 (kept : Int)) (fun w' h => (h.cell (p := ⟨w.heap.size + 1, 0, none⟩) (by show w.heap.size + 1 < w.heap.size + 1 + 1; omega)).trans hc3)) hS ?_
  refine wpAnyH_take (i := 3) (v := .func (.func 106) #[] #[.pointer (some ⟨w.heap.size + 1, 0, none⟩)]) rfl (by kernel_rfl) (by kernel_rfl) (by kernel_rfl) (fun _ _ _ h => h) (.inl ⟨rfl, fun w' _ => by go_simp⟩) hS ?_
  refine anyH_call (i := 2) (by kernel_rfl) rfl rfl 105 ent_sizeI _ _ rfl #[.int .i64 (kept : Int)] rfl (size_c (kept : Int) _ (by omega) (by omega)) ?_
  rw [Int.toNat_natCast]
  rintro e w1 ⟨rfl, rfl⟩
  refine ⟨_, rfl, hS, ?_⟩
  refine anyH_call (i := 4) (by kernel_rfl) rfl rfl 74 ent_image _ _ rfl #[.agg (fam n F), .int .i64 (pc kept : Int), .func (.func 106) #[] #[.pointer (some ⟨w.heap.size + 1, 0, none⟩)]] rfl (image_c n (pc kept : Int) F 106 #[.pointer (some ⟨w.heap.size + 1, 0, none⟩)] _ (rn kept) ent_trace1 (fun s _ _ => rn_lt128 kept s hk) (fun s w2 hs _ hb2 => trace1_c s kept (w.heap.size + 1) w2 hs hk ((hb2.cell (p := ⟨w.heap.size + 1, 0, none⟩) (by show w.heap.size + 1 < W.heap.size; omega)).trans ((hS.cell (p := ⟨w.heap.size + 1, 0, none⟩) (by show w.heap.size + 1 < w.heap.size + 1 + 1; omega)).trans hc3)))) ?_
  rintro e w1 ⟨rfl, hb1⟩
  have hz1 : W.heap.size ≤ w1.heap.size := hb1.size
  have hS1 : Below (w.heap.size + 1 + 1) W w1 := hS.trans (hb1.mono (by show w.heap.size + 1 + 1 ≤ W.heap.size; omega))
  have hf41 : famAt 64 w1 (w.heap.size + 1 + 1) 0 noSet := (hb1.block _ (by show w.heap.size + 1 + 1 < W.heap.size; omega)).trans hf4
  refine ⟨_, rfl, hS1, ?_⟩
  refine anyH_store_fam sizeT (i := 5) (by kernel_rfl) rfl rfl (.tmp _) (.tmp _) rfl (w.heap.size + 1 + 1) (pc kept : Int) (imgTo F (rn kept) 128) rfl rfl 0 noSet hf41 (bl_row hS1 (Nat.le_refl _) _) ?_
  refine wpAnyH_done (by kernel_rfl) ?_ _
  simp only [Act.put, List.getElem_toArray, List.getElem_cons_zero, List.getElem_cons_succ, List.setIfInBounds_toArray, List.set_cons_zero, List.set_cons_succ]
  have HF := hide (hf41.row (pc kept : Int) (imgTo F (rn kept) 128))
  have HB := hide (bl_row (hb0.trans (hS1.mono (by omega))) (show w.heap.size ≤ w.heap.size + 1 + 1 by omega) (fam (pc kept : Int) (imgTo F (rn kept) 128)))
  clear hS hS1 hb1 hf41
  go_wp2
  exact bodyPost_ret (v := .agg (fam (pc kept : Int) (imgTo F (rn kept) 128))) (results_fam rowT sizeT rfl _ _ (w.heap.size + 1 + 1) rfl _ _ HF.out) rfl ⟨rfl, HB.out⟩
end Go.Proofs.Ytceofjlhbomcaaa
