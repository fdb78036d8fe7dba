/- Contracts: the family of what a closure makes of each set; items numbered anew; the trace of a family. -/
import Derived.Test.YtcokdhmccokkiaaDoorRn
import Derived.Test.YtcokdhmccokkiaaDoorLib
namespace Go.Proofs.YtcokdhmccokkiaaDoor
open Go.RowKit
set_option maxRecDepth 100000
attribute [local irreducible] p2 low memB risB

set_option maxHeartbeats 1000000 in
theorem image_c (n m : Int) (F : Nat → Bool) (k : Nat) (caps : Array Value) (w : World) (C : Nat → Nat) (hk : enters Tryd.prog k) (hC : ∀ s, s < 128 → F s = true → C s < 128)
    (hcl : ∀ (s : Nat) (w1 : World), s < 128 → F s = true → Below w.heap.size w w1 → Calls Tryd.prog k (#[.int .i64 (s : Int)] ++ caps) w1 fun e w2 => e = .returned (.int .i64 (C s : Int)) ∧ Below w1.heap.size w1 w2) :
    Calls Tryd.prog 82 #[.agg (fam n F), .int .i64 m, .func (.func k) #[] caps] w fun e w' => e = .returned (.agg (fam m (imgTo F C 128))) ∧ Below w.heap.size w w' := by
  have HC := hide hC
  have HCL := hide hcl
  have hk1 : ∀ (args : Array Value) (w : World), Sem.run Tryd.prog (callFunc k args) w = .ok (.enter k args) w := hk
  clear hC hcl hk
  have hb0 := (((Below.refl w.heap.size w).alloc (Nat.le_refl _) (.cells (fam n F) 53)).alloc (by simp) (.cells (fam 0 noSet) 53)).alloc (by simp; omega) (.cells (fam 0 noSet) 53)
  have f7 := famAt.new 53 ((w.alloc (.cells (fam n F) 53)).alloc (.cells (fam 0 noSet) 53)) 0 noSet
  have f6 := (famAt.new 53 (w.alloc (.cells (fam n F) 53)) 0 noSet).alloc (.cells (fam 0 noSet) 53)
  have f3 := ((famAt.new 53 w n F).alloc (.cells (fam 0 noSet) 53)).alloc (.cells (fam 0 noSet) 53)
  simp only [World.size_alloc] at f7 f6
  have F7 := hide f7
  have F7R := hide (f7.row m noSet)
  have F6R := hide (f6.rowO (w.heap.size + 1 + 1) (by omega) (fam m noSet))
  have F3R := hide (f3.rowO (w.heap.size + 1 + 1) (by omega) (fam m noSet))
  have HB0 := hide (bl_row hb0 (show w.heap.size ≤ w.heap.size + 1 + 1 by omega) (fam m noSet))
  clear f7 f6 f3 hb0
  go_enter Tryd.func82, Tryd.ntmps82
  go_wp2_with (first
    | (refine wpList_alloc_fam zeroT rfl rfl _ (by first | (simp only [World.size_alloc]; rfl) | rfl) ?_)
    | (refine wpList_build_fam builtT rfl _ rfl _ rfl ?_)
    | (refine wpList_store_fam sizeT rfl (.tmp _) (.tmp _) rfl _ m noSet rfl rfl _ _ F7.out ?_)
    | (refine wpList_load_marks rowA sizeA rfl (.tmp _) rfl _ rfl _ _ F3R.out ?_))
  go_loopw [14] (fun i wr => ∃ j : Nat, j ≤ 128 ∧ i = .int .i64 j ∧ Hid (famAt 53 wr (w.heap.size + 1 + 1) m (imgTo F C j)) ∧ Hid (famAt 53 wr (w.heap.size + 1) 0 noSet) ∧ Hid (Below w.heap.size w wr)) (fun i _ => 128 - (intOf i).toNat)
  case atStart => exact ⟨0, by omega, rfl, F7R, F6R, HB0⟩
  case round =>
    obtain ⟨j, hj, rfl, HF7, HF6, HB⟩ := hrel
    clear F7 F7R F6R F3R HB0
    by_cases hlt : j < 128
    · cases hF : F j
      · have HV := hide hF
        clear hF
        go_wp2_with (refine wpList_mark arrA sizeB rowB rfl (.tmp _) (.tmp _) rfl F rfl j rfl (by omega) _ HV.out ?_)
        go_roundw
        case rel => exact ⟨j + 1, by omega, by go_num, by rw [imgTo, if_neg (by rw [HV.out]; decide)]; exact HF7, HF6, HB⟩
        case measure => simp [intOf]; omega
      · have HV := hide hF
        have hcj := HC.out j hlt hF
        clear hF
        generalize hc : C j = c at hcj
        have HCJ := hide hc
        clear hc
        go_wp2_with (refine wpList_mark arrA sizeB rowB rfl (.tmp _) (.tmp _) rfl F rfl j rfl (by omega) _ HV.out ?_)
        refine (HCL.out j _ hlt HV.out HB.out).mono ?_
        rw [HCJ.out]
        rintro e w1 ⟨rfl, hb1⟩
        have hf7 := HF7.out.below hb1 HF7.out.lt
        have hcell := hf7.get c hcj
        have hfree := hf7.free (1 + c)
        have HG7 := hide hf7
        have HG6 := hide (HF6.out.below hb1 HF6.out.lt)
        have HB1 := hide (HB.out.trans (hb1.mono HB.out.size))
        clear hf7 hb1
        go_wp2
        go_roundw
        case rel => exact ⟨j + 1, by omega, by go_num, by rw [imgTo, if_pos HV.out, HCJ.out]; exact HG7.out.set c hcj true, HG6.out.setO _ (by show w.heap.size + 1 ≠ w.heap.size + 1 + 1; omega) _, HB1.out.setCell (by show w.heap.size ≤ w.heap.size + 1 + 1; omega) _⟩
        case measure => simp [intOf]; omega
    · have hj' : j = 128 := by omega
      subst hj'
      clear hj hlt
      go_wp2_with (first
        | (refine wpList_load_fam rowT sizeT rfl (.tmp _) rfl _ rfl _ _ HF7.out ?_)
        | (refine wpList_store_fam sizeT rfl (.tmp _) (.tmp _) rfl _ m (imgTo F C 128) rfl rfl _ _ HF6.out ?_))
      exact bodyPost_ret (v := .agg (fam m (imgTo F C 128))) (results_fam rowT sizeT rfl _ _ (w.heap.size + 1) rfl _ _ (HF6.out.row _ _)) rfl ⟨rfl, bl_row HB.out (by omega) _⟩

theorem ent_belowI : enters Tryd.prog 93 := enters_of Tryd.func93 (by kernel_rfl) (by kernel_rfl)
theorem ent_singleI : enters Tryd.prog 87 := enters_of Tryd.func87 (by kernel_rfl) (by kernel_rfl)
theorem ent_image : enters Tryd.prog 82 := enters_of Tryd.func82 (by kernel_rfl) (by kernel_rfl)
theorem rowItI : (Tryd.prog.underlying 72).map TypeDesc.isRow = some false := by kernel_rfl

end Go.Proofs.YtcokdhmccokkiaaDoor
