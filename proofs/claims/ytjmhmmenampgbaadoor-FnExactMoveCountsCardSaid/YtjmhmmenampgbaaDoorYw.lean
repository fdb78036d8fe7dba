/- Contracts: how often each place is moved: movesIn, list, waCounts. -/
import Derived.Test.YtjmhmmenampgbaaDoorYv
import Derived.Test.YtjmhmmenampgbaaDoorYh
import Derived.Test.YtjmhmmenampgbaaDoorOw
namespace Go.Proofs.YtjmhmmenampgbaaDoor
open Go.RowKit
set_option maxRecDepth 100000
set_option linter.unusedSimpArgs false
theorem ctF_set (run : List Int) (k m j : Nat) (h : run[k]?.getD 0 = (j : Int)) : (toL m (fun i => ctF run i k)).set j (ctF run j k + 1) = toL m (fun i => ctF run i (k + 1)) := by
  rw [toL_set]
  refine toL_congr fun i _ => ?_
  unfold updF
  rw [ctF, h]
  by_cases hij : i = j
  · subst hij; rw [if_pos rfl, if_pos rfl]
  · rw [if_neg hij, if_neg (by omega), Int.add_zero]
theorem toL_zero (m : Nat) : toL m (fun _ => (0 : Int)) = List.replicate m 0 := by
  apply List.ext_getElem?
  intro j
  unfold toL
  by_cases hn : j < m
  · simp [hn]
  · simp [hn]
attribute [local irreducible] p2 low memB risB
theorem zeroR5 : ((Tryd.prog.info? 52).bind (·.zero)).map Value.cells = some (rowV (toL 5 zA)) := by kernel_rfl
set_option maxHeartbeats 2000000 in
theorem movesIn_c (v : Value) (run : List Int) (w : World) (hr : ints w.heap.size w v run) (hrl : run.length < 1000000000) (hin : ∀ k, k < run.length → 0 ≤ run[k]?.getD 0 ∧ run[k]?.getD 0 < 5) :
    Calls Tryd.prog 60 #[v] w fun e w' => e = .returned (.agg (rowV (toL 5 (fun i => ctF run i run.length)))) ∧ Below w.heap.size w w' := by
  obtain ⟨va, vc, hv⟩ := hr.shape
  subst hv
  have HR := hide hr
  have HIN := hide hin
  have hb0 := ((Below.refl w.heap.size w).alloc (Nat.le_refl _) (.cells (rowV (toL 5 zA)) 52)).alloc (by simp) (.cells (rowV (toL 5 zA)) 52)
  have HB0 := hide hb0
  have HZ0 := hide (show ((w.alloc (.cells (rowV (toL 5 zA)) 52)).alloc (.cells (rowV (toL 5 zA)) 52)).heap.size = w.heap.size + 2 by simp)
  have HP0 := hide (show blk 52 ((w.alloc (.cells (rowV (toL 5 zA)) 52)).alloc (.cells (rowV (toL 5 zA)) 52)) w.heap.size (toL 5 zA) from (blk.new _ _ _).alloc _)
  have HP1 := hide (show blk 52 ((w.alloc (.cells (rowV (toL 5 zA)) 52)).alloc (.cells (rowV (toL 5 zA)) 52)) (w.heap.size + 1) (toL 5 (fun i => ctF run i 0)) by have h := blk.new 52 (w.alloc (.cells (rowV (toL 5 zA)) 52)) (toL 5 zA); rw [show (w.alloc (.cells (rowV (toL 5 zA)) 52)).heap.size = w.heap.size + 1 by simp] at h; exact h)
  clear hr hin hb0
  go_enter Tryd.func60, Tryd.ntmps60
  go_wp2_with (refine wpList_alloc_csY zeroR5 rfl rfl _ (by first | (simp only [World.size_alloc]; rfl) | rfl) ?_)
  generalize ((w.alloc (.cells (rowV (toL 5 zA)) 52)).alloc (.cells (rowV (toL 5 zA)) 52)) = W at *
  go_loopw [8] (fun iv wr => ∃ k : Nat, k ≤ run.length ∧ iv = .int .i64 (k : Int) ∧ Hid (blk 52 wr (w.heap.size + 1) (toL 5 (fun i => ctF run i k))) ∧ Hid (blk 52 wr w.heap.size (toL 5 zA)) ∧ Hid (Below w.heap.size w wr)) (fun iv _ => run.length - (intOf iv).toNat)
  case atStart => exact ⟨0, Nat.zero_le _, rfl, HP1.out, HP0.out, HB0⟩
  case round =>
    obtain ⟨k, hk, rfl, HK, HZ, HB⟩ := hrel
    have hsz := HB.out.size
    have HRW := hide (HR.out.below HB.out (Nat.le_refl _))
    by_cases hlt : k < run.length
    · have hlt' : (k : Int) < (run.length : Int) := by omega
      obtain ⟨h0, h5⟩ := HIN.out k hlt
      obtain ⟨j, hj⟩ := Int.eq_ofNat_of_zero_le h0
      have hj5 : j < 5 := by omega
      have hj5' : (j : Int) < 5 := by omega
      have HST := hide (ctF_set run k 5 j hj)
      have hcell := HK.out.cell j (by rw [toL_len]; exact hj5)
      rw [toL_at _ hj5] at hcell
      have hfree := HK.out.free j
      have hle := ctF_le run j k
      have HJ := hide hj
      generalize hT : toL 5 (fun i => ctF run i k) = T at *
      generalize ctF run j k = c at *
      clear hj h0 h5 hT
      go_wp2_with (first
        | (refine wpList_at sliceT intS rfl (.tmp 6) (.tmp _) rfl _ rfl k rfl w.heap.size run HRW.out hlt ?_; intro ad hca hba; rw [HJ.out] at hca))
      go_roundw
      case rel => exact ⟨k + 1, by omega, by go_num, by rw [← HST.out]; exact HK.out.set j (c + 1), HZ.out.setO _ (by show w.heap.size ≠ w.heap.size + 1; omega) _, HB.out.setCell (by show w.heap.size ≤ w.heap.size + 1; omega) _⟩
      case measure => (simp [intOf] <;> omega)
    · have hke : k = run.length := by omega
      subst hke
      have hlt' : ¬ ((run.length : Int) < (run.length : Int)) := by omega
      go_wp2_with (first
        | (refine wpList_load_csY (cs := rowV (toL 5 (fun i => ctF run i run.length))) row5 (by rw [rowV_size, toL_len]; exact size5) rfl (.tmp 3) rfl (w.heap.size + 1) rfl HK.out ?_)
        | (refine wpList_store_csY (cs := rowV (toL 5 (fun i => ctF run i run.length))) (by rw [rowV_size, toL_len]; exact size5) rfl (.tmp 2) (.tmp _) rfl w.heap.size rfl rfl _ HZ.out (by simp [rowV, toL_len]) (rowV_one _) ?_))
      refine (show bodyPost _ _ _ Exit.ret _ _ from ?_)
      exact bodyPost_ret (v := .agg (rowV (toL 5 (fun i => ctF run i run.length)))) (results_csY (cs := rowV (toL 5 (fun i => ctF run i run.length))) row5 (by rw [rowV_size, toL_len]; exact size5) (fn := Tryd.f60) (p := 2) rfl _ _ w.heap.size rfl (hp_row _ _ _ _ _ HZ.out)) rfl ⟨rfl, bl_row HB.out (Nat.le_refl _) _⟩
set_option maxHeartbeats 1000000 in
theorem list_c (f : Nat → Int) (n : Nat) (w : World) (hn : n ≤ 5) :
    Calls Tryd.prog 61 #[.agg (rowV (toL 5 f)), .int .i64 (n : Int)] w fun e w' => ∃ v, e = .returned v ∧ own 3 w' w.heap.size v (toL n f) ∧ Below w.heap.size w w' := by
  have HB0 := hide (((Below.refl w.heap.size w).alloc (Nat.le_refl _) (.cells (rowV (toL 5 f)) 52)).alloc (by simp) (.cells #[] 3))
  have HK := hide (show blk 52 ((w.alloc (.cells (rowV (toL 5 f)) 52)).alloc (.cells #[] 3)) w.heap.size (toL 5 f) from (blk.new _ _ _).alloc _)
  have HE := hide (own_empty 3 (w.alloc (.cells (rowV (toL 5 f)) 52)))
  have hz1 : (w.alloc (.cells (rowV (toL 5 f)) 52)).heap.size = w.heap.size + 1 := by simp
  rw [hz1] at HE
  have HU := hide (show ints (w.heap.size + 1) ((w.alloc (.cells (rowV (toL 5 f)) 52)).alloc (.cells #[] 3)) (.slice (some ⟨w.heap.size, 0, none⟩) n 5) (toL n f) from
    .inr ⟨w.heap.size, 0, 5, by rw [toL_len], by omega, by simp; omega, fun j hj => by
      rw [toL_len] at hj
      rw [Nat.zero_add, HK.out.cell j (by rw [toL_len]; omega), toL_at _ hj, toL_at _ (show j < 5 by omega)]⟩)
  have hn' : (n : Int) ≤ 5 := by omega
  have hn0 : ¬ ((n : Int) < 0) := by omega
  have htl := toL_len n f
  go_enter Tryd.func61, Tryd.ntmps61
  go_wp2_with (first
    | (at_builtin; refine wpList_appendN sliceT intI rfl _ _ rfl (w.heap.size + 1) _ [] rfl HE.out _ (toL n f) (w.heap.size + 1) rfl HU.out (by simp) (by simp; omega) ?_; intro v' w' ho' hb'; have HO := hide ho'; have HB := hide (HB0.out.trans (hb'.mono (show w.heap.size ≤ w.heap.size + 1 by omega))); clear ho' hb'))
  go_ret
  exact ⟨_, rfl, by have h := HO.out; rw [List.nil_append] at h; exact h.mono (by omega), HB.out⟩
set_option maxHeartbeats 2000000 in
theorem waCounts_c (n : Nat) (v : Value) (run : List Int) (w : World) (hn : n ≤ 5) (hr : ints w.heap.size w v run) (hrl : run.length < 1000000000) (hin : ∀ k, k < run.length → 0 ≤ run[k]?.getD 0 ∧ run[k]?.getD 0 < (n : Int)) :
    Calls Tryd.prog 59 #[.int .i64 (n : Int), v] w fun e w' => ∃ v', e = .returned v' ∧ own 3 w' w.heap.size v' (toL n (fun i => ctF run i run.length)) ∧ Below w.heap.size w w' := by
  obtain ⟨va, vc, hv⟩ := hr.shape
  subst hv
  have HR := hide hr
  have HIN := hide hin
  have HT0 := hide (show toL n (fun i => ctF run i 0) = List.replicate n 0 from toL_zero n)
  clear hr hin
  go_enter Tryd.func59, Tryd.ntmps59
  go_wp2_with (refine wpList_makeInts sliceT intI rfl (.tmp 8) (.tmp 8) rfl n rfl rfl (by omega) ?_; intro w2 hz2 hk2 hb2; rw [← HT0.out] at hk2; have HK2 := hide hk2; have HB2 := hide hb2; clear hk2 hb2)
  go_loopw [12] (fun iv wr => ∃ k : Nat, k ≤ run.length ∧ iv = .int .i64 (k : Int) ∧ Hid (blk 3 wr w.heap.size (toL n (fun i => ctF run i k))) ∧ Hid (Below w.heap.size w wr)) (fun iv _ => run.length - (intOf iv).toNat)
  case atStart => exact ⟨0, Nat.zero_le _, rfl, HK2.out, HB2⟩
  case round =>
    obtain ⟨k, hk, rfl, HK, HB⟩ := hrel
    have hsz := HB.out.size
    have HRW := hide (HR.out.below HB.out (Nat.le_refl _))
    have hbl := toL_len n (fun i => ctF run i k)
    by_cases hlt : k < run.length
    · have hlt' : (k : Int) < (run.length : Int) := by omega
      obtain ⟨h0, h5⟩ := HIN.out k hlt
      obtain ⟨j, hj⟩ := Int.eq_ofNat_of_zero_le h0
      have hj5 : j < n := by omega
      have HST := hide (ctF_set run k n j hj)
      have hcell := HK.out.cell j (by rw [toL_len]; exact hj5)
      rw [toL_at _ hj5] at hcell
      have hfree := HK.out.free j
      have hle := ctF_le run j k
      have how := HK.out.own (base := w.heap.size) (Nat.le_refl _) (by rw [hbl]; unfold maxLen; omega)
      rw [hbl] at how
      have HOW := hide how
      have HBL := hide hbl
      have HJ := hide hj
      generalize hT : toL n (fun i => ctF run i k) = T at *
      generalize ctF run j k = c at *
      clear hj h0 h5 hT how hbl
      go_wp2_with (first
        | (refine wpList_at sliceT intS rfl (.tmp 10) (.tmp _) rfl _ rfl k rfl w.heap.size run HRW.out hlt ?_; intro ad hca hba; rw [HJ.out] at hca)
        | (refine wpList_atOwn sliceT (by kernel_rfl) rfl (.tmp 16) (.tmp 17) rfl _ rfl _ rfl j rfl w.heap.size T HOW.out (by rw [HBL.out]; omega) ?_; intro g hg; have hg2 : w.heap.size = g := (by simpa [Value.ownBlock] using hg); subst hg2; clear hg))
      go_roundw
      case rel => exact ⟨k + 1, by omega, by go_num, by rw [← HST.out]; exact HK.out.set j (c + 1), HB.out.setCell (by show w.heap.size ≤ w.heap.size; omega) _⟩
      case measure => (simp [intOf] <;> omega)
    · have hke : k = run.length := by omega
      subst hke
      have hlt' : ¬ ((run.length : Int) < (run.length : Int)) := by omega
      have how := HK.out.own (base := w.heap.size) (Nat.le_refl _) (by rw [hbl]; unfold maxLen; omega)
      rw [hbl] at how
      have HOW := hide how
      clear how hbl
      go_wp2
      go_ret
      exact ⟨_, rfl, HOW.out, HB.out⟩
end Go.Proofs.YtjmhmmenampgbaaDoor
