/- Contracts: LeastWorst, the program's and the specification's. -/
import Derived.Test.YtijgngnjhmkhaaaDoorIg
import Derived.Test.YtijgngnjhmkhaaaDoorIe
import Derived.Test.YtijgngnjhmkhaaaDoorHd
import Derived.Test.YtijgngnjhmkhaaaDoorHc
namespace Go.Proofs.YtijgngnjhmkhaaaDoor
open Go.RowKit
set_option maxRecDepth 100000
set_option linter.unusedSimpArgs false
def lwF (l : List Int) (y z : Int) : Nat → Bool := leF (marksTo l l.length) y.toNat z.toNat
theorem famL_lw {n : Int} {l : List Int} {y z : Int} (h : asB n l y z = true) : famL n l y z = .tuple #[.agg (fam n (lwF l y z)), .bool true] := by unfold famL lfN lfM lwF; rw [h]; rfl
theorem famL_lno {n : Int} {l : List Int} {y z : Int} (h : asB n l y z = false) : famL n l y z = .tuple #[.agg (fam 0 noSet), .bool false] := by unfold famL lfN lfM; rw [h]; rfl
def lwR (n : Int) (l : List Int) (y z : Int) : Int := if asB n l y z then (vmN gW n.toNat (lwF l y z) : Int) else 0
theorem lw_prog (n : Int) (l : List Int) (y z : Int) : ∃ (N : Nat) (F : Nat → Bool) (b : Bool), famL n l y z = .tuple #[.agg (fam (N : Int) F), .bool b] ∧ N ≤ 7 ∧ asB n l y z = b ∧ lwR n l y z = (vmN gW N F : Int) ∧ (∀ x, F x = true → x ≤ low N) := by
  cases hok : asB n l y z
  · exact ⟨0, noSet, false, famL_lno hok, by omega, rfl, by unfold lwR; rw [hok, vmN_zero op_noneE]; rfl, fun y h => by (cases h)⟩
  · have hsp := (asOk_in (asB_ok hok)).1
    have hn := okSp_n hsp
    obtain ⟨N, rfl⟩ := Int.eq_ofNat_of_zero_le (show 0 ≤ n by omega)
    refine ⟨N, lwF l y z, true, famL_lw hok, by omega, rfl, ?_, fun x h => ?_⟩
    · unfold lwR; rw [if_pos hok, Int.toNat_natCast]
    · have := marks_low hsp x (leF_in h); rwa [Int.toNat_natCast] at this
theorem b113 : 0 + 113 ^ (7 + 1) < maxLen := by decide +kernel
attribute [local irreducible] p2 low memB risB famAt own mapAt mapPl
theorem planFor_top (N : Nat) (F : Nat → Bool) (W : World) (hN : N ≤ 7) (hF : ∀ y, F y = true → y ≤ low N) (hW : tab W) :
    Calls Tryd.prog 52 #[.map (some W.heap.size), .agg (fam (N : Int) F)] (W.alloc (.map #[] 0)) fun e w' => e = .returned (.agg (plC (viN gW N F : Int) (vmN gW N F : Int))) ∧ Below W.heap.size W w' := by
  have h1 := hW.1
  refine (planFor_c N W.heap.size hN (by omega) 7 F (W.alloc (.map #[] 0)) 0 (.map []) hF (pc_le _) (mapPl_new W) (planOk_new N) b113 (hW.alloc _)).mono ?_
  rintro e w' ⟨n', D', he, h2, h3, h4, hb⟩
  refine ⟨he, hb.os, hb.tape, hb.output, ?_, fun k hk => ?_⟩
  · have := hb.size; simp at this; omega
  · rw [hb.block k (by simp; omega) (by simp; omega)]
    exact hp_old W _ k hk
set_option maxHeartbeats 4000000 in
theorem implLeastWorst_c (n : Int) (v : Value) (l : List Int) (y z : Int) (w : World) (hl : ints w.heap.size w v l) (hlen : l.length < 1000000000) (hT : tab w) :
    Calls Tryd.prog 25 #[.agg #[.int .i64 n, v], .int .i64 y, .int .i64 z] w fun e w' => e = .returned (.tuple #[.int .i64 (lwR n l y z), .bool (asB n l y z)]) ∧ Below w.heap.size w w' := by
  have HT := hide hT
  have HL := hide ((hl.alloc (.cells #[.int .i64 n, v] 28)).mono (show w.heap.size ≤ (w.alloc (.cells #[.int .i64 n, v] 28)).heap.size by simp))
  have H0 := hide ((Below.refl w.heap.size w).alloc (Nat.le_refl _) (.cells #[.int .i64 n, v] 28))
  have HZ := hide (show (w.alloc (.cells #[.int .i64 n, v] 28)).heap.size = w.heap.size + 1 by simp)
  have HFL := hide (fun w1 h => familyLeft_c n v l y z w1 h hlen)
  obtain ⟨N, F, b, hv, hN, hb, hr, hF⟩ := lw_prog n l y z
  have HTL := hide (show ∀ (W : World) (b : Nat), tab W → W.heap.size = b → Calls Tryd.prog 52 #[.map (some b), .agg (fam (N : Int) F)] (W.alloc (.map #[] 0)) fun e w' => e = .returned (.agg (plC (viN gW N F : Int) (vmN gW N F : Int))) ∧ Below b W w' from fun W b hW hb => by subst hb; exact planFor_top N F W hN hF hW)
  have hmm := @run_makeMap Tryd.prog
  rw [hv] at HFL
  rw [hr, hb]
  clear hl hv hr hb hT hF
  generalize (vmN gW N F : Int) = R at *
  generalize (viN gW N F : Int) = R2 at *
  go_enter Tryd.func25, Tryd.ntmps25
  go_wp2_with (first
    | (go_at_call 51; refine (HFL.out _ HL.out).mono ?_; rintro e w1 ⟨rfl, hb⟩; have hz1 := hb.size; rw [HZ.out] at hz1; have HH := hide (((famAt.new 46 w1 0 noSet).row (N : Int) F).alloc (.map #[] 0)); have hB := bl_row ((H0.out.trans (hb.mono (by rw [HZ.out]; omega))).alloc (by omega) (.cells (fam 0 noSet) 46)) (show w.heap.size ≤ w1.heap.size by omega) (fam (N : Int) F); have HTW := hide (HT.out.below hB); have HZ2 := hide (show ((w1.alloc (.cells (fam 0 noSet) 46)).setRow w1.heap.size (fam (N : Int) F)).heap.size = w1.heap.size + 1 by simp [World.setRow]); have HB := hide hB; clear hb hB)
    | (refine wpList_alloc_fam zeroT rfl rfl _ (by first | (simp only [World.size_alloc]; rfl) | rfl) ?_)
    | (refine wpList_store_fam sizeT rfl (.tmp _) (.tmp _) rfl w1.heap.size _ _ rfl rfl _ _ (famAt.new _ _ _ _) ?_)
    | (refine wpList_load_fam rowT sizeT rfl (.tmp _) rfl w1.heap.size rfl (N : Int) F HH.out ?_)
    | (go_at_call 52; refine (HTL.out _ (w1.heap.size + 1) HTW.out HZ2.out).mono ?_; rintro e w3 ⟨rfl, hb3⟩; have HB3 := hide (HB.out.trans (hb3.mono (by omega))); clear hb3)
    | (refine wpList_fieldPl rfl (.tmp 19) rfl _ _ rfl ?_))
  go_ret2
  exact ⟨rfl, HB3.out⟩
theorem least_topW (m : Nat) (v : Value) (l : List Int) (y z : Nat) (g b1 b2 B : Nat) (w : World) (hok : asB (m : Int) l (y : Int) (z : Int) = true) (hlen : l.length < 1000000000) (h12 : b1 ≠ b2) (hg1 : g ≠ b1) (hg2 : g ≠ b2) (hB1 : B ≤ b1) (hB2 : B ≤ b2)
    (ht : tbA 89 w g (m : Int) v b1 b2 (2 ^ (2 * m))) (hW : blk 3 w b1 (List.replicate (2 ^ (2 * m)) 0)) (hQ : blk 3 w b2 (List.replicate (2 ^ (2 * m)) 0)) (hl : ints B w v l) (hBs : B ≤ w.heap.size) :
    Calls Tryd.prog 50 #[.pointer (some ⟨g, 0, none⟩), .int .i64 (y : Int), .int .i64 (z : Int)] w fun e w' => e = .returned (.tuple #[.int .i64 (vmN gW m (lwF l (y : Int) (z : Int)) : Int), .int .i64 (vmN gT m (lwF l (y : Int) (z : Int)) : Int)]) ∧ Below B w w' := by
  obtain ⟨hsp, hy, hz, _⟩ := asOk_in (asB_ok hok)
  have hpos := asB_pos hok
  rw [Int.toNat_natCast, Int.toNat_natCast, lf_sets hsp] at hpos
  rw [Int.toNat_natCast] at hy hz
  have hlo := low_succ m
  have hFd : lwF l (y : Int) (z : Int) = leF (marksTo l l.length) y z := by unfold lwF; rw [Int.toNat_natCast, Int.toNat_natCast]
  rw [hFd]
  refine (least_c m v l g b1 b2 B hsp hlen h12 hg1 hg2 hB1 hB2 (cntS (leF (marksTo l l.length) y z)) y z w _ _ (Nat.le_refl _) hpos (by omega) (by omega) ht hW hQ (tbOk_new m _) hl hBs).mono ?_
  rintro e w' ⟨W', Q', he, _, _, _, hb⟩
  exact ⟨he, hb.to hBs hB1 hB2⟩
set_option maxHeartbeats 4000000 in
theorem specLeastWorstD_c (n : Int) (v : Value) (l : List Int) (y z : Int) (w : World) (hl : ints w.heap.size w v l) (hlen : l.length < 1000000000) (_ : tab w) :
    Calls Tryd.prog 24 #[.agg #[.int .i64 n, v], .int .i64 y, .int .i64 z] w fun e w' => e = .returned (.tuple #[.int .i64 (lwR n l y z), .bool (asB n l y z)]) ∧ Below w.heap.size w w' := by
  have HL := hide ((hl.alloc (.cells #[.int .i64 n, v] 28)).mono (show w.heap.size ≤ (w.alloc (.cells #[.int .i64 n, v] 28)).heap.size by simp))
  have HL0 := hide hl
  have H0 := hide ((Below.refl w.heap.size w).alloc (Nat.le_refl _) (.cells #[.int .i64 n, v] 28))
  have HS0 := hide (hp_last w (.cells #[.int .i64 n, v] 28))
  have HZ := hide (show (w.alloc (.cells #[.int .i64 n, v] 28)).heap.size = w.heap.size + 1 by simp)
  have HAG := hide (fun w1 h => asGood_c n v l y z w1 h hlen)
  clear hl
  cases hok : asB n l y z
  · rw [hok] at HAG
    have hr : lwR n l y z = 0 := by unfold lwR; rw [hok]; rfl
    rw [hr]
    clear hok hr
    go_enter Tryd.func24, Tryd.ntmps24
    go_wp2_with (go_at_call 35; refine (HAG.out _ HL.out).mono ?_; rintro e w1 ⟨rfl, hb1⟩; have HB1 := hide (H0.out.trans (hb1.mono (by rw [HZ.out]; omega))); clear hb1)
    go_ret2
    exact ⟨rfl, HB1.out⟩
  · obtain ⟨hsp, hy, hz, _⟩ := asOk_in (asB_ok hok)
    rw [hok] at HAG
    obtain ⟨hn1, hn2⟩ := okSp_n hsp
    obtain ⟨m, rfl⟩ := Int.eq_ofNat_of_zero_le (show 0 ≤ n by omega)
    obtain ⟨y, rfl⟩ := Int.eq_ofNat_of_zero_le hy.1
    obtain ⟨z, rfl⟩ := Int.eq_ofNat_of_zero_le hz.1
    have hr : lwR (m : Int) l (y : Int) (z : Int) = (vmN gW m (lwF l (y : Int) (z : Int)) : Int) := by unfold lwR; rw [if_pos hok, Int.toNat_natCast]
    have HLE := hide (fun g b1 b2 B w1 => least_topW m v l y z g b1 b2 B w1 hok hlen)
    rw [hr]
    clear hok hr hsp hy hz
    generalize (vmN gT m (lwF l (y : Int) (z : Int)) : Int) = R1 at *
    generalize (vmN gW m (lwF l (y : Int) (z : Int)) : Int) = R at *
    go_enter Tryd.func24, Tryd.ntmps24
    go_wp2_with (first
      | (go_at_call 35; refine (HAG.out _ HL.out).mono ?_; rintro e w1 ⟨rfl, hb1⟩; have HS1 := hide ((hb1.block w.heap.size (by rw [HZ.out]; omega)).trans HS0.out); have d0 := cells_at0 HS1.out; have d1 := cells_at1 HS1.out; have hz1 := hb1.size; rw [HZ.out] at hz1; have HB1 := hide (H0.out.trans (hb1.mono (by rw [HZ.out]; omega))); clear hb1)
      | (go_at_call 49; refine (asNew_c m v _ (by omega)).mono ?_; rintro e w2 ⟨g, b1, b2, rfl, q1, q2, q3, q4, q5, q6, q7, q8, q9, hb2⟩; have hz2 := hb2.size; have HT2 := hide q7; have HW2 := hide q8; have HQ2 := hide q9; have HB2 := hide (HB1.out.trans (hb2.mono (by omega))); clear hb2 q7 q8 q9)
      | (go_at_call 50; refine (HLE.out g b1 b2 w.heap.size w2 q4 q5 q6 (by omega) (by omega) HT2.out HW2.out HQ2.out (HL0.out.below HB2.out (Nat.le_refl _)) (by omega)).mono ?_; rintro e w3 ⟨rfl, hb3⟩; have HB3 := hide (HB2.out.trans hb3); clear hb3))
    go_ret2
    exact ⟨rfl, HB3.out⟩
end Go.Proofs.YtijgngnjhmkhaaaDoor
