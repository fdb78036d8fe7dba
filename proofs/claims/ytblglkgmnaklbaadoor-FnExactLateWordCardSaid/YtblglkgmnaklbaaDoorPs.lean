/- Contracts: a set put into increasing ones, told by marks; tests of lists, the program's and the specification's. -/
import Derived.Test.YtblglkgmnaklbaaDoorPut
import Derived.Test.YtblglkgmnaklbaaDoorWo
namespace Go.Proofs.YtblglkgmnaklbaaDoor
open Go.RowKit
set_option maxRecDepth 100000

def setsGe (F : Nat → Bool) (n : Nat) : Nat → List Int
  | 0 => []
  | k + 1 => if n ≤ k ∧ F k = true then setsGe F n k ++ [(k : Int)] else setsGe F n k
theorem setsGe_self (F : Nat → Bool) (n : Nat) : ∀ k, k ≤ n → setsGe F n k = []
  | 0, _ => rfl
  | k + 1, h => by
    rw [setsGe, if_neg (by omega), setsGe_self F n k (by omega)]
theorem sets_split (F : Nat → Bool) (n : Nat) : ∀ k, n ≤ k → setsTo F k = setsTo F n ++ setsGe F n k
  | 0, h => by have : n = 0 := by omega
               subst this; simp [setsTo, setsGe]
  | k + 1, h => by
    rcases Nat.lt_or_ge k n with h1 | h1
    · have : n = k + 1 := by omega
      rw [← this, setsGe_self F n n (Nat.le_refl _), List.append_nil]
    · rw [setsTo, setsGe, sets_split F n k h1]
      by_cases hF : F k = true
      · rw [if_pos hF, if_pos ⟨h1, hF⟩, List.append_assoc]
      · rw [if_neg hF, if_neg (by simp [hF])]
theorem setsTo_lt (F : Nat → Bool) : ∀ k, ∀ a ∈ setsTo F k, a < (k : Int)
  | 0 => by simp [setsTo]
  | k + 1 => by
    intro a ha
    rw [setsTo] at ha
    split at ha
    · rw [List.mem_append] at ha
      rcases ha with ha | ha
      · have := setsTo_lt F k a ha; omega
      · simp at ha; omega
    · have := setsTo_lt F k a ha; omega
theorem setsGe_ge (F : Nat → Bool) (n : Nat) : ∀ k, ∀ a ∈ setsGe F n k, (n : Int) ≤ a
  | 0 => by simp [setsGe]
  | k + 1 => by
    intro a ha
    rw [setsGe] at ha
    split at ha
    · rename_i h
      rw [List.mem_append] at ha
      rcases ha with ha | ha
      · exact setsGe_ge F n k a ha
      · simp at ha; omega
    · exact setsGe_ge F n k a ha
theorem setsGe_step (F : Nat → Bool) (n : Nat) : ∀ k, n < k → setsGe F n k = (if F n = true then [(n : Int)] else []) ++ setsGe F (n + 1) k
  | 0, h => by omega
  | k + 1, h => by
    rcases Nat.lt_or_ge n k with h1 | h1
    · rw [setsGe, setsGe, setsGe_step F n k h1]
      by_cases hF : F k = true
      · simp [hF, show n ≤ k by omega, show n + 1 ≤ k by omega]
      · simp [hF]
    · have : n = k := by omega
      subst this
      rw [setsGe, setsGe_self F n n (Nat.le_refl _), setsGe_self F (n + 1) (n + 1) (Nat.le_refl _), List.append_nil, List.nil_append]
      by_cases hF : F n = true
      · rw [if_pos ⟨Nat.le_refl _, hF⟩, if_pos hF]
      · rw [if_neg (by simp [hF]), if_neg hF]
theorem setsTo_congr {F G : Nat → Bool} : ∀ k, (∀ i, i < k → F i = G i) → setsTo F k = setsTo G k
  | 0, _ => rfl
  | k + 1, h => by rw [setsTo, setsTo, setsTo_congr k (fun i hi => h i (by omega)), h k (by omega)]
theorem setsGe_congr {F G : Nat → Bool} (n : Nat) : ∀ k, (∀ i, i < k → n ≤ i → F i = G i) → setsGe F n k = setsGe G n k
  | 0, _ => rfl
  | k + 1, h => by
    rw [setsGe, setsGe, setsGe_congr n k (fun i hi => h i (by omega))]
    by_cases hn : n ≤ k
    · rw [h k (by omega) hn]
    · rw [if_neg (by omega), if_neg (by omega)]
theorem put_sets (F : Nat → Bool) (n : Nat) (hn : n < 128) : putIn (setsTo F n) (setsGe F n 128) (n : Int) = setsTo (upd F n true) 128 := by
  have hu : ∀ i, i ≠ n → upd F n true i = F i := fun i hi => by simp [upd, hi]
  rw [sets_split (upd F n true) n 128 (by omega), setsTo_congr (F := upd F n true) (G := F) n (fun i hi => hu i (by omega)), setsGe_step (upd F n true) n 128 hn,
    setsGe_congr (F := upd F n true) (G := F) (n + 1) 128 (fun i _ hi => hu i (by omega)), if_pos (by simp [upd])]
  rw [setsGe_step F n 128 hn]
  by_cases hF : F n = true
  · rw [if_pos hF, putIn, if_pos (by simp)]
  · rw [if_neg hF, List.nil_append, putIn, if_neg]
    · simp
    · intro h
      have hm := List.mem_of_head? h
      have := setsGe_ge F (n + 1) 128 _ hm
      omega
theorem sets_zero : [(0 : Int)] = setsTo (upd noSet 0 true) 128 := by decide +kernel
theorem sets_none : ([] : List Int) = setsTo noSet 128 := by decide +kernel
attribute [local irreducible] p2 low memB risB

def allTo (lo hi : Int) (l : List Int) : Nat → Bool
  | 0 => true
  | k + 1 => allTo lo hi l k && decide (lo ≤ l[k]?.getD 0 ∧ l[k]?.getD 0 ≤ hi)
theorem allTo_iff (lo hi : Int) (l : List Int) : ∀ k, allTo lo hi l k = true ↔ ∀ j, j < k → lo ≤ l[j]?.getD 0 ∧ l[j]?.getD 0 ≤ hi
  | 0 => by simp [allTo]
  | k + 1 => by
    rw [allTo, Bool.and_eq_true, allTo_iff lo hi l k, decide_eq_true_eq]
    constructor
    · rintro ⟨h1, h2⟩ j hj
      rcases Nat.lt_or_ge j k with h | h
      · exact h1 j h
      · rw [show j = k by omega]; exact h2
    · intro h
      exact ⟨fun j hj => h j (by omega), h k (by omega)⟩
theorem l1All_c (v : Value) (l : List Int) (lo hi : Int) (w : World) (hl : ints w.heap.size w v l) (hlen : l.length < 1000000000) : Calls Tryd.prog 51 #[v, .int .i64 lo, .int .i64 hi] w fun e w' => e = .returned (.bool (allTo lo hi l l.length)) ∧ w = w' := by
  have HL := hide hl
  clear hl
  have HM := hide (allTo_iff lo hi l l.length)
  go_enter Tryd.func51, Tryd.ntmps51
  go_wp2_with (refine wpList_len sliceT rfl (.tmp _) rfl v rfl w.heap.size l HL.out ?_)
  go_loop [11] (fun i => ∃ k : Nat, k ≤ l.length ∧ i = .int .i64 k ∧ Hid (∀ j, j < k → lo ≤ l[j]?.getD 0 ∧ l[j]?.getD 0 ≤ hi)) (fun i => l.length - (intOf i).toNat)
  case atStart => exact ⟨0, Nat.zero_le _, rfl, fun j hj => by omega⟩
  case round =>
    obtain ⟨k, hk, rfl, HJ⟩ := hrel
    by_cases hlt : k < l.length
    · generalize hy : l[k]?.getD 0 = y
      have HY := hide hy
      clear hy
      by_cases hin : lo ≤ y ∧ y ≤ hi
      · have HIN := hide hin
        clear hin
        go_wp2_with (first
          | (refine wpList_at sliceT intS rfl (.tmp _) (.tmp _) rfl v rfl k rfl w.heap.size l HL.out hlt ?_; intro ad hcell hblk; rw [HY.out] at hcell)
          | (go_at_call 87; refine (l1In_c _ _ _ _).mono ?_; rw [decide_eq_true HIN.out]; rintro e w' ⟨rfl, rfl⟩))
        go_round
        case rel =>
          refine ⟨k + 1, by omega, by go_num, fun j hj => ?_⟩
          rcases Nat.lt_or_ge j k with h | h
          · exact HJ.out j h
          · rw [show j = k by omega, HY.out]; exact HIN.out
        case measure => simp [intOf]; omega
      · have HIN := hide hin
        clear hin
        go_wp2_with (first
          | (refine wpList_at sliceT intS rfl (.tmp _) (.tmp _) rfl v rfl k rfl w.heap.size l HL.out hlt ?_; intro ad hcell hblk; rw [HY.out] at hcell)
          | (go_at_call 87; refine (l1In_c _ _ _ _).mono ?_; rw [decide_eq_false HIN.out]; rintro e w' ⟨rfl, rfl⟩))
        go_ret
        refine ⟨ret_b (Eq.symm ?_), rfl⟩
        rw [← Bool.not_eq_true, HM.out]
        intro h
        exact HIN.out (by rw [← HY.out]; exact h k hlt)
    · have hlt' : ¬ ((k : Int) < (l.length : Int)) := by omega
      have HK := hide (show k = l.length by omega)
      go_wp2
      go_ret
      refine ⟨ret_b (Eq.symm ?_), rfl⟩
      rw [HM.out]
      exact fun j hj => HJ.out j (by rw [HK.out]; exact hj)
end Go.Proofs.YtblglkgmnaklbaaDoor
