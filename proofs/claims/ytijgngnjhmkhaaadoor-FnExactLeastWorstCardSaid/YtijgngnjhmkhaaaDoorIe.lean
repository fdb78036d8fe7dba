/- Contracts: LeastTotal, the program's and the specification's. -/
import Derived.Test.YtijgngnjhmkhaaaDoorId
import Derived.Test.YtijgngnjhmkhaaaDoorHz
namespace Go.Proofs.YtijgngnjhmkhaaaDoor
open Go.RowKit
set_option maxRecDepth 100000
set_option linter.unusedSimpArgs false
def ltR (n : Int) (l : List Int) : Int := if okSp n l then (vmN gT n.toNat (marksTo l l.length) : Int) else 0
theorem op_noneE : opN 0 noSet = 0 := (opN_zero (by omega) (fun x h => by cases h)).2 (by unfold cntS; rw [sets_noneH]; simp)
theorem lt_prog (n : Int) (l : List Int) : ∃ (N : Nat) (F : Nat → Bool) (b : Bool), famVal n l = .tuple #[.agg (fam (N : Int) F), .bool b] ∧ N ≤ 7 ∧ okSp n l = b ∧ ltR n l = (vmN gT N F : Int) ∧ (∀ y, F y = true → y ≤ low N) := by
  cases hok : okSp n l
  · exact ⟨0, noSet, false, famVal_no n l hok, by omega, rfl, by unfold ltR; rw [hok, vmN_zero op_noneE]; rfl, fun y h => by (cases h)⟩
  · have hn := okSp_n hok
    obtain ⟨N, rfl⟩ := Int.eq_ofNat_of_zero_le (show 0 ≤ n by omega)
    refine ⟨N, marksTo l l.length, true, famVal_yes _ l hok, by omega, rfl, ?_, fun y h => ?_⟩
    · unfold ltR; rw [if_pos hok, Int.toNat_natCast]
    · have := marks_low hok y h; rwa [Int.toNat_natCast] at this
theorem leF_zeroE (F : Nat → Bool) : leF F 0 0 = F := by
  funext s
  unfold leF
  have : leB 0 0 s = true := by rw [leB_iff]; intro i; rw [Nat.zero_testBit]; simp
  rw [this, Bool.and_true]
theorem mapAt_new (w : World) : mapAt (w.alloc (.map #[] 0)) w.heap.size 0 (.map []) := World.ownsMap_made w Tryd.prog 46 _
theorem b15 : 0 + 15 ^ (7 + 1) < maxLen := by decide +kernel
attribute [local irreducible] p2 low memB risB famAt own mapAt
theorem tleast_top (N : Nat) (F : Nat → Bool) (W : World) (hN : N ≤ 7) (hF : ∀ y, F y = true → y ≤ low N) (hW : tab W) :
    Calls Tryd.prog 55 #[.map (some W.heap.size), .agg (fam (N : Int) F)] (W.alloc (.map #[] 0)) fun e w' => e = .returned (.int .i64 (vmN gT N F : Int)) ∧ Below W.heap.size W w' := by
  have h1 := hW.1
  refine (tleast_c N W.heap.size hN (by omega) 7 F (W.alloc (.map #[] 0)) 0 (.map []) hF (pc_le _) (mapAt_new W) (by simp) (totOk_new N) b15 (hW.alloc _)).mono ?_
  rintro e w' ⟨n', D', he, h2, h3, h4, hb⟩
  refine ⟨he, hb.os, hb.tape, hb.output, ?_, fun k hk => ?_⟩
  · have := hb.size; simp at this; omega
  · rw [hb.block k (by simp; omega) (by simp; omega)]
    exact hp_old W _ k hk
set_option maxHeartbeats 4000000 in
theorem implLeastTotal_c (n : Int) (v : Value) (l : List Int) (w : World) (hl : ints w.heap.size w v l) (hlen : l.length < 1000000000) (hT : tab w) :
    Calls Tryd.prog 33 #[.agg #[.int .i64 n, v]] w fun e w' => e = .returned (.tuple #[.int .i64 (ltR n l), .bool (okSp n l)]) ∧ Below w.heap.size w w' := by
  have HT := hide hT
  have HL := hide ((hl.alloc (.cells #[.int .i64 n, v] 28)).mono (show w.heap.size ≤ (w.alloc (.cells #[.int .i64 n, v] 28)).heap.size by simp))
  have H0 := hide ((Below.refl w.heap.size w).alloc (Nat.le_refl _) (.cells #[.int .i64 n, v] 28))
  have HZ := hide (show (w.alloc (.cells #[.int .i64 n, v] 28)).heap.size = w.heap.size + 1 by simp)
  obtain ⟨N, F, b, hv, hN, hb, hr, hF⟩ := lt_prog n l
  have HV := hide hv
  have HTL := hide (show ∀ (W : World) (b : Nat), tab W → W.heap.size = b → Calls Tryd.prog 55 #[.map (some b), .agg (fam (N : Int) F)] (W.alloc (.map #[] 0)) fun e w' => e = .returned (.int .i64 (vmN gT N F : Int)) ∧ Below b W w' from fun W b hW hb => by subst hb; exact tleast_top N F W hN hF hW)
  have hmm := @run_makeMap Tryd.prog
  rw [hr, hb]
  clear hl hv hr hb hT hF
  generalize (vmN gT N F : Int) = R at *
  go_enter Tryd.func33, Tryd.ntmps33
  go_wp2_with (first
    | (go_at_call 47; refine (familyOf_c n v l _ HL.out hlen).mono ?_; rw [HV.out]; rintro e w1 ⟨rfl, hb⟩; have hz1 := hb.size; rw [HZ.out] at hz1; have HH := hide (((famAt.new 46 w1 0 noSet).row (N : Int) F).alloc (.map #[] 0)); have hB := bl_row ((H0.out.trans (hb.mono (by rw [HZ.out]; omega))).alloc (by omega) (.cells (fam 0 noSet) 46)) (show w.heap.size ≤ w1.heap.size by omega) (fam (N : Int) F); have HTW := hide (HT.out.below hB); have HZ2 := hide (show ((w1.alloc (.cells (fam 0 noSet) 46)).setRow w1.heap.size (fam (N : Int) F)).heap.size = w1.heap.size + 1 by simp [World.setRow]); have HB := hide hB; clear hb hB)
    | (refine wpList_alloc_fam zeroT rfl rfl _ (by first | (simp only [World.size_alloc]; rfl) | rfl) ?_)
    | (refine wpList_store_fam sizeT rfl (.tmp _) (.tmp _) rfl w1.heap.size _ _ rfl rfl _ _ (famAt.new _ _ _ _) ?_)
    | (refine wpList_load_fam rowT sizeT rfl (.tmp _) rfl w1.heap.size rfl (N : Int) F HH.out ?_)
    | (go_at_call 55; refine (HTL.out _ (w1.heap.size + 1) HTW.out HZ2.out).mono ?_; rintro e w3 ⟨rfl, hb3⟩; have HB3 := hide (HB.out.trans (hb3.mono (by omega))); clear hb3))
  go_ret2
  exact ⟨rfl, HB3.out⟩
theorem ok_zeroE {n : Int} {l : List Int} (h : okSp n l = true) : marksTo l l.length 0 = true := by
  unfold okSp spaceB at h
  simp only [Bool.and_eq_true] at h
  exact h.2.1.1.1
theorem least_top (m : Nat) (v : Value) (l : List Int) (g b1 b2 B : Nat) (w : World) (hok : okSp (m : Int) l = true) (hlen : l.length < 1000000000) (h12 : b1 ≠ b2) (hg1 : g ≠ b1) (hg2 : g ≠ b2) (hB1 : B ≤ b1) (hB2 : B ≤ b2)
    (ht : tbA 89 w g (m : Int) v b1 b2 (2 ^ (2 * m))) (hW : blk 3 w b1 (List.replicate (2 ^ (2 * m)) 0)) (hQ : blk 3 w b2 (List.replicate (2 ^ (2 * m)) 0)) (hl : ints B w v l) (hBs : B ≤ w.heap.size) :
    Calls Tryd.prog 50 #[.pointer (some ⟨g, 0, none⟩), .int .i64 0, .int .i64 0] w fun e w' => e = .returned (.tuple #[.int .i64 (vmN gW m (marksTo l l.length) : Int), .int .i64 (vmN gT m (marksTo l l.length) : Int)]) ∧ Below B w w' := by
  have hp : 0 < 2 ^ m := Nat.two_pow_pos m
  have h := least_c m v l g b1 b2 B hok hlen h12 hg1 hg2 hB1 hB2 (cntS (leF (marksTo l l.length) 0 0)) 0 0 w _ _ (Nat.le_refl _) (by rw [leF_zeroE]; exact cnt_pos (by omega) (ok_zeroE hok)) hp hp ht hW hQ (tbOk_new m _) hl hBs
  rw [leF_zeroE] at h
  refine h.mono ?_
  rintro e w' ⟨W', Q', he, _, _, _, hb⟩
  exact ⟨he, hb.to hBs hB1 hB2⟩
set_option maxHeartbeats 4000000 in
theorem specLeastTotalD_c (n : Int) (v : Value) (l : List Int) (w : World) (hl : ints w.heap.size w v l) (hlen : l.length < 1000000000) (_ : tab w) :
    Calls Tryd.prog 32 #[.agg #[.int .i64 n, v]] w fun e w' => e = .returned (.tuple #[.int .i64 (ltR n l), .bool (okSp n l)]) ∧ Below w.heap.size w w' := by
  have HL := hide ((hl.alloc (.cells #[.int .i64 n, v] 28)).mono (show w.heap.size ≤ (w.alloc (.cells #[.int .i64 n, v] 28)).heap.size by simp))
  have HL0 := hide hl
  have H0 := hide ((Below.refl w.heap.size w).alloc (Nat.le_refl _) (.cells #[.int .i64 n, v] 28))
  have HS0 := hide (hp_last w (.cells #[.int .i64 n, v] 28))
  have HZ := hide (show (w.alloc (.cells #[.int .i64 n, v] 28)).heap.size = w.heap.size + 1 by simp)
  clear hl
  cases hok : okSp n l
  · have HG := hide (show goodB n l = false by rw [← ok_good]; exact hok)
    have hr : ltR n l = 0 := by unfold ltR; rw [hok]; rfl
    rw [hr]
    clear hok hr
    go_enter Tryd.func32, Tryd.ntmps32
    go_wp2_with (go_at_call 45; refine (spGood_c n v l _ HL.out hlen).mono ?_; rw [HG.out]; rintro e w1 ⟨rfl, hb1⟩; have HB1 := hide (H0.out.trans (hb1.mono (by rw [HZ.out]; omega))); clear hb1)
    go_ret2
    exact ⟨rfl, HB1.out⟩
  · have HG := hide (show goodB n l = true by rw [← ok_good]; exact hok)
    obtain ⟨hn1, hn2⟩ := okSp_n hok
    obtain ⟨m, rfl⟩ := Int.eq_ofNat_of_zero_le (show 0 ≤ n by omega)
    have hr : ltR (m : Int) l = (vmN gT m (marksTo l l.length) : Int) := by unfold ltR; rw [if_pos hok, Int.toNat_natCast]
    have HLE := hide (fun g b1 b2 B w1 => least_top m v l g b1 b2 B w1 hok hlen)
    rw [hr]
    clear hok hr
    generalize (vmN gT m (marksTo l l.length) : Int) = R at *
    generalize (vmN gW m (marksTo l l.length) : Int) = R1 at *
    go_enter Tryd.func32, Tryd.ntmps32
    go_wp2_with (first
      | (go_at_call 45; refine (spGood_c _ v l _ HL.out hlen).mono ?_; rw [HG.out]; rintro e w1 ⟨rfl, hb1⟩; have HS1 := hide ((hb1.block w.heap.size (by rw [HZ.out]; omega)).trans HS0.out); have d0 := cells_at0 HS1.out; have d1 := cells_at1 HS1.out; have hz1 := hb1.size; rw [HZ.out] at hz1; have HB1 := hide (H0.out.trans (hb1.mono (by rw [HZ.out]; omega))); clear hb1)
      | (go_at_call 49; refine (asNew_c m v _ (by omega)).mono ?_; rintro e w2 ⟨g, b1, b2, rfl, q1, q2, q3, q4, q5, q6, q7, q8, q9, hb2⟩; have hz2 := hb2.size; have HT2 := hide q7; have HW2 := hide q8; have HQ2 := hide q9; have HB2 := hide (HB1.out.trans (hb2.mono (by omega))); clear hb2 q7 q8 q9)
      | (go_at_call 50; refine (HLE.out g b1 b2 w.heap.size w2 q4 q5 q6 (by omega) (by omega) HT2.out HW2.out HQ2.out (HL0.out.below HB2.out (Nat.le_refl _)) (by omega)).mono ?_; rintro e w3 ⟨rfl, hb3⟩; have HB3 := hide (HB2.out.trans hb3); clear hb3))
    go_ret2
    exact ⟨rfl, HB3.out⟩
end Go.Proofs.YtijgngnjhmkhaaaDoor
