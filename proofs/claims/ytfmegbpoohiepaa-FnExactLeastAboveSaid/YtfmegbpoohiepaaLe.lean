/- Contract of the program's leastAbove: the first one, by size and number, of the sets that hold a set. -/
import Derived.Test.YtfmegbpoohiepaaFr
import Derived.Test.YtfmegbpoohiepaaSize
namespace Go.Proofs.Ytfmegbpoohiepaa
open Go.RowKit
set_option maxRecDepth 100000
attribute [local irreducible] p2 low memB risB pc

def bestTo (F : Nat → Bool) (s b : Nat) : Nat → Nat
  | 0 => b
  | k + 1 => if F k && andNot s k == 0 && decide (pc k < pc (bestTo F s b k)) then k else bestTo F s b k
theorem bestTo_lt (F : Nat → Bool) (s b : Nat) (hb : b < 128) : ∀ k, k ≤ 128 → bestTo F s b k < 128
  | 0, _ => hb
  | k + 1, hk => by
    unfold bestTo
    split
    · omega
    · exact bestTo_lt F s b hb k (by omega)
theorem bestTo_no (s b : Nat) : ∀ k, bestTo noSet s b k = b
  | 0 => rfl
  | k + 1 => by unfold bestTo; rw [bestTo_no s b k]; simp [noSet]

set_option maxHeartbeats 1000000 in
theorem leastAbove_c (n : Int) (F : Nat → Bool) (s : Int) (w : World) (h0 : 0 ≤ n) (h2 : n ≤ 7) (hs0 : 0 ≤ s) (hs : s < 128) :
    Calls Try.prog 14 #[.agg (fam n F), .int .i64 s] w fun e w' => e = .returned (.int .i64 (bestTo F s.toNat (low n.toNat) 128 : Int)) ∧ Below w.heap.size w w' := by
  obtain ⟨s, rfl⟩ := Int.eq_ofNat_of_zero_le hs0
  have hs' : s < 128 := by omega
  have hlo := low_lt n.toNat (by omega)
  rw [Int.toNat_natCast]
  have hb0 : Below w.heap.size w (w.alloc (.cells (fam n F) 38)) := (Below.refl _ _).alloc (Nat.le_refl _) _
  have HL := hide (fun k (hk : k ≤ 128) => bestTo_lt F s (low n.toNat) (by omega) k hk)
  go_enter Try.func14, Try.ntmps14
  go_wp2_with (first
    | (refine wpList_load_fam rowT sizeT rfl (.tmp _) rfl _ rfl _ _ (famAt.new _ _ _ _) ?_)
    | (go_at_call 20; refine (full_c _ _ _ (by omega) (by omega)).mono ?_; rintro e w1 ⟨rfl, hb1⟩; have hf1 := (famAt.new 38 w n F).below hb1 (by simp); have HB := hide (hb0.trans (hb1.mono (by simp))); clear hb1 hb0)
    | (refine wpList_load_marks rowA sizeA rfl (.tmp _) rfl _ rfl _ _ hf1 ?_))
  go_loop [5, 13] (fun o i => ∃ k : Nat, k ≤ 128 ∧ i = .int .i64 k ∧ o = .int .i64 (bestTo F s (low n.toNat) k : Int)) (fun _ i => 128 - (intOf i).toNat)
  case atStart => exact ⟨0, by omega, rfl, rfl⟩
  case round =>
    obtain ⟨k, hk, rfl, rfl⟩ := hrel
    have hq := HL.out k hk
    have HE := hide (show k = 128 → bestTo F s (low n.toNat) 128 = bestTo F s (low n.toNat) k from fun h => by rw [h])
    by_cases hlt : k < 128
    · have HG := hide (show bestTo F s (low n.toNat) (k + 1) = if F k && andNot s k == 0 && decide (pc k < pc (bestTo F s (low n.toNat) k)) then k else bestTo F s (low n.toNat) k by rw [bestTo])
      generalize bestTo F s (low n.toNat) k = q at hq HG HE ⊢
      cases hF : F k
      · have HV := hide hF
        go_wp2_with (first | (refine wpList_mark arrA sizeB rowB rfl (.tmp _) (.tmp _) rfl F rfl k rfl (by omega) _ HV.out ?_) | go_big_quiet_skip)
        go_round
        case rel => exact ⟨k + 1, by omega, by go_num, by rw [HG.out, HV.out]; rfl⟩
        case measure => simp [intOf]; omega
      · have HV := hide hF
        clear hF
        cases ha : (andNot s k == 0)
        · have HA := hide ha
          clear ha
          go_wp2_with (first
            | (refine wpList_mark arrA sizeB rowB rfl (.tmp _) (.tmp _) rfl F rfl k rfl (by omega) _ HV.out ?_)
            | (go_at_call 21; refine (within_c _ _ _ (by omega) (by omega) (by omega)).mono ?_; rw [Int.toNat_natCast, Int.toNat_natCast, HA.out]; rintro e w' ⟨rfl, rfl⟩))
          go_round
          case rel => exact ⟨k + 1, by omega, by go_num, by rw [HG.out, HV.out, HA.out]; rfl⟩
          case measure => simp [intOf]; omega
        · have HA := hide ha
          clear ha
          by_cases hp : pc k < pc q
          · go_wp2_with (first
              | (refine wpList_mark arrA sizeB rowB rfl (.tmp _) (.tmp _) rfl F rfl k rfl (by omega) _ HV.out ?_)
              | (go_at_call 21; refine (within_c _ _ _ (by omega) (by omega) (by omega)).mono ?_; rw [Int.toNat_natCast, Int.toNat_natCast, HA.out]; rintro e w' ⟨rfl, rfl⟩)
              | (go_at_call 22; refine (size_c _ _ (by omega) (by omega)).mono ?_; rw [Int.toNat_natCast]; rintro e w' ⟨rfl, rfl⟩))
            go_round
            case rel => exact ⟨k + 1, by omega, by go_num, by rw [HG.out, HV.out, HA.out]; simp [hp]⟩
            case measure => simp [intOf]; omega
          · go_wp2_with (first
              | (refine wpList_mark arrA sizeB rowB rfl (.tmp _) (.tmp _) rfl F rfl k rfl (by omega) _ HV.out ?_)
              | (go_at_call 21; refine (within_c _ _ _ (by omega) (by omega) (by omega)).mono ?_; rw [Int.toNat_natCast, Int.toNat_natCast, HA.out]; rintro e w' ⟨rfl, rfl⟩)
              | (go_at_call 22; refine (size_c _ _ (by omega) (by omega)).mono ?_; rw [Int.toNat_natCast]; rintro e w' ⟨rfl, rfl⟩))
            go_round
            case rel => exact ⟨k + 1, by omega, by go_num, by rw [HG.out, HV.out, HA.out]; simp [hp]⟩
            case measure => simp [intOf]; omega
    · have HK := hide (show k = 128 by omega)
      have hlt' : ¬ ((k : Int) < 128) := by omega
      go_wp2
      go_ret
      exact ⟨ret_i (by rw [HE.out HK.out]), HB.out⟩
end Go.Proofs.Ytfmegbpoohiepaa
