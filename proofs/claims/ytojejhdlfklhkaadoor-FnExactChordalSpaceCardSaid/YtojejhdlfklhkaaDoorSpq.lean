/- Contracts: SpaceOfPaths, the program's. -/
import Derived.Test.YtojejhdlfklhkaaDoorSpp
namespace Go.Proofs.YtojejhdlfklhkaaDoor
open Go.RowKit
set_option maxRecDepth 100000
theorem shTo_next (F : Nat → Bool) (n : Nat) (l : List Int) (k : Nat) : shTo F n l (k + 1) = (shTo F n l k && !(innerOf F n (nth l k) == 0)) := rfl
attribute [local irreducible] p2 low memB risB
set_option maxHeartbeats 1000000 in
theorem areSets_c (n : Int) (F : Nat → Bool) (u : Value) (l : List Int) (w : World) (hl : ints w.heap.size w u l) (hlen : l.length < 1000000000) (h0 : 0 ≤ n) (h7 : n ≤ 7) :
    Calls Tryd.prog 98 #[.agg (fam n F), u] w fun e w' => e = .returned (.bool (allTo 0 (low n.toNat) l l.length)) ∧ Below w.heap.size w w' := by
  have HL := hide (hl.alloc (.cells (fam n F) 65))
  have H0 := hide ((Below.refl w.heap.size w).alloc (Nat.le_refl _) (.cells (fam n F) 65))
  have HF := hide (famAt.new 65 w n F)
  have HZ := hide (show (w.alloc (.cells (fam n F) 65)).heap.size = w.heap.size + 1 by simp)
  have HIS := hide (fun (s : Int) (w1 : World) => isSet_c n F s w1 h0 h7)
  have HAI := hide (allTo_iff 0 (low n.toNat) l l.length)
  clear hl
  generalize low n.toNat = L at HIS HAI ⊢
  go_enter Tryd.func98, Tryd.ntmps98
  go_wp2_with (refine wpList_len sliceT rfl (.tmp _) rfl u rfl w.heap.size l HL.out ?_)
  go_loopw [9] (fun i wr => ∃ k : Nat, k ≤ l.length ∧ i = .int .i64 (k : Int) ∧ Hid (∀ j, j < k → 0 ≤ l[j]?.getD 0 ∧ l[j]?.getD 0 ≤ (L : Int)) ∧ Hid (Below (w.heap.size + 1) (w.alloc (.cells (fam n F) 65)) wr)) (fun i _ => l.length - (intOf i).toNat)
  case atStart => exact ⟨0, Nat.zero_le _, rfl, fun j hj => by omega, Below.refl _ _⟩
  case round =>
    obtain ⟨k, hk, rfl, HJ, HB⟩ := hrel
    have hsz := HB.out.size
    rw [HZ.out] at hsz
    have HLW := hide (HL.out.below HB.out (by omega))
    have HFW := hide (HF.out.below HB.out (by omega))
    by_cases hlt : k < l.length
    · generalize hx : l[k]?.getD 0 = x
      have HX := hide hx
      clear hx
      by_cases hin : 0 ≤ x ∧ x ≤ (L : Int)
      · have HIN := hide hin
        clear hin
        go_wp2_with (first
          | (refine wpList_at sliceT intS rfl (.tmp _) (.tmp _) rfl u rfl k rfl w.heap.size l HLW.out hlt ?_; intro ad hcell hblk; rw [HX.out] at hcell)
          | (refine wpList_load_fam rowT sizeT rfl (.tmp _) rfl _ rfl n F HFW.out ?_)
          | (go_at_call 71; refine (HIS.out x _).mono ?_; rw [decide_eq_true HIN.out]; rintro e w3 ⟨rfl, hb3⟩; have HB3 := hide (HB.out.trans (hb3.mono hsz)); clear hb3))
        go_roundw
        case rel => exact ⟨k + 1, by omega, by go_num, hide (fun j hj => by
          rcases Nat.lt_or_ge j k with h | h
          · exact HJ.out j h
          · rw [show j = k by omega, HX.out]; exact HIN.out), HB3⟩
        case measure => simp [intOf]; omega
      · have HIN := hide hin
        have HNO := hide (show allTo 0 (L : Int) l l.length = false by
          rw [← Bool.not_eq_true, HAI.out]
          intro h
          exact hin (by rw [← HX.out]; exact h k hlt))
        clear hin
        go_wp2_with (first
          | (refine wpList_at sliceT intS rfl (.tmp _) (.tmp _) rfl u rfl k rfl w.heap.size l HLW.out hlt ?_; intro ad hcell hblk; rw [HX.out] at hcell)
          | (refine wpList_load_fam rowT sizeT rfl (.tmp _) rfl _ rfl n F HFW.out ?_)
          | (go_at_call 71; refine (HIS.out x _).mono ?_; rw [decide_eq_false HIN.out]; rintro e w3 ⟨rfl, hb3⟩; have HB3 := hide (HB.out.trans (hb3.mono hsz)); clear hb3))
        go_ret
        exact ⟨ret_b HNO.out.symm, H0.out.trans (HB3.out.mono (by omega))⟩
    · have HKE := hide (show k = l.length by omega)
      have HYES := hide (show allTo 0 (L : Int) l l.length = true by rw [HAI.out]; exact fun j hj => HJ.out j (by rw [HKE.out]; exact hj))
      have hlt' : ¬ ((k : Int) < (l.length : Int)) := by omega
      go_wp2
      go_ret
      exact ⟨ret_b HYES.out.symm, H0.out.trans (HB.out.mono (by omega))⟩

end Go.Proofs.YtojejhdlfklhkaaDoor
