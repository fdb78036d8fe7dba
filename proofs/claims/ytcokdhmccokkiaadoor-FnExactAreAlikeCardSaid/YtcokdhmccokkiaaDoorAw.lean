/- All words in their order: mathematics: told one after another, and by rank. -/
import Derived.Test.YtcokdhmccokkiaaDoorVm
namespace Go.Proofs.YtcokdhmccokkiaaDoor
open Go.RowKit
set_option maxRecDepth 100000
attribute [local irreducible] p2 low memB risB
def awTo (F : Nat → Bool) (A : Nat → List (List Int)) (s : Nat) : Nat → List (List Int)
  | 0 => []
  | x + 1 => awTo F A s x ++ if (!s.testBit x && F (p2s s x)) = true then (A (p2s s x)).map (fun m => (x : Int) :: m) else []
/-- All ways to go on from a set with k items more. -/
def awL (F : Nat → Bool) (n : Nat) : Nat → Nat → List (List Int)
  | 0, _ => [[]]
  | k + 1, s => awTo F (awL F n k) s n
theorem range_add_map (a b : Nat) (f : Nat → List Int) : (List.range (a + b)).map f = (List.range a).map f ++ (List.range b).map fun r => f (a + r) := by
  rw [List.range_add, List.map_append, List.map_map]
  rfl
theorem pc_fullA : ∀ n, n ≤ 7 → ∀ s, s < 128 → s < 2 ^ n → pc s = n → s = low n := by decide +kernel
theorem aw_rank {F : Nat → Bool} {n : Nat} (h7 : n ≤ 7) (hF : ∀ x, F x = true → x < 2 ^ n) : ∀ k s, F s = true → pc s + k = n → awL F n k s = (List.range (cnt F n s)).map fun r => wwL F n k s r
  | 0, s, hs, hp => by
    have hlt := hF s hs
    have hp2 := p2_le n 7 h7
    have e := pc_fullA n h7 s (by omega) hlt (by omega)
    rw [cnt_eq F n h7 s (by omega), if_pos e]
    rfl
  | k + 1, s, hs, hp => by
    have hlt := hF s hs
    have hp2 := p2_le n 7 h7
    have hs128 : s < 128 := by omega
    have hne : s ≠ low n := by
      rintro rfl
      have := pc_low7 n (by omega)
      omega
    have hc : cnt F n s = sumN F (cnt F n) s n := by rw [cnt_eq F n h7 s hs128, if_neg hne, if_pos hs]
    have key : ∀ x, x ≤ n → awTo F (awL F n k) s x = (List.range (sumN F (cnt F n) s x)).map fun r => wwL F n (k + 1) s r := by
      intro x
      induction x with
      | zero => intro _; rfl
      | succ x ih =>
        intro hx
        have hmono := sumN_mono (F := F) (A := cnt F n) (s := s) (x + 1) n hx
        rw [awTo, ih (by omega), sumN]
        by_cases hb : (!s.testBit x && F (p2s s x)) = true
        · rw [if_pos hb, if_pos hb, range_add_map]
          congr 1
          rw [Bool.and_eq_true, Bool.not_eq_true'] at hb
          have hp3 : pc (p2s s x) = pc s + 1 := pc_orW s hs128 x (by omega) hb.1
          rw [aw_rank h7 hF k (p2s s x) hb.2 (by omega), List.map_map]
          refine List.map_congr_left fun r hr => ?_
          have hr2 := List.mem_range.1 hr
          have hsum : sumN F (cnt F n) s (x + 1) = sumN F (cnt F n) s x + cnt F n (p2s s x) := by
            rw [sumN, hb.1, hb.2]; simp
          have h := ww_step (F := F) (n := n) (k := pc s) (s := s) (r := sumN F (cnt F n) s x + r) (x := x) ⟨hs, rfl, by omega⟩ hs128 (by omega) hb.1 hb.2 (by omega) (by omega)
          have h2 := h.2 k
          rw [Nat.add_sub_cancel_left] at h2
          rw [h2]
          rfl
        · rw [if_neg hb, if_neg hb, List.append_nil]; rfl
    rw [awL, key n (Nat.le_refl _), hc]
theorem aw_len {F : Nat → Bool} {n : Nat} (h7 : n ≤ 7) (hF : ∀ x, F x = true → x < 2 ^ n) (k s : Nat) (hs : F s = true) (hp : pc s + k = n) : (awL F n k s).length ≤ 823543 := by
  rw [aw_rank h7 hF k s hs hp, List.length_map, List.length_range]
  exact cnt_le F n h7 s
theorem awTo_len {F : Nat → Bool} {A : Nat → List (List Int)} {s c : Nat} (hA : ∀ x, F (p2s s x) = true → s.testBit x = false → (A (p2s s x)).length ≤ c) : ∀ x, (awTo F A s x).length ≤ x * c
  | 0 => by rw [awTo]; exact Nat.zero_le _
  | x + 1 => by
    have ih := awTo_len hA x
    rw [awTo, List.length_append, Nat.add_mul, Nat.one_mul]
    by_cases hb : (!s.testBit x && F (p2s s x)) = true
    · rw [if_pos hb, List.length_map]
      rw [Bool.and_eq_true, Bool.not_eq_true'] at hb
      have := hA x hb.2 hb.1
      omega
    · rw [if_neg hb, List.length_nil]
      omega
theorem aw_row {F : Nat → Bool} {n : Nat} : ∀ k s, ∀ r ∈ awL F n k s, r.length = k
  | 0, s, r, hr => by simp [awL] at hr; subst hr; rfl
  | k + 1, s, r, hr => by
    have key : ∀ x, ∀ r ∈ awTo F (awL F n k) s x, r.length = k + 1 := by
      intro x
      induction x with
      | zero => intro r hr; simp [awTo] at hr
      | succ x ih =>
        intro r hr
        rw [awTo, List.mem_append] at hr
        rcases hr with hr | hr
        · exact ih r hr
        · split at hr
          · rw [List.mem_map] at hr
            obtain ⟨m, hm, rfl⟩ := hr
            have := aw_row k _ m hm
            simp [this]
          · cases hr
    exact key n r hr
def okAw (n : Int) (l : List Int) : Bool := okSp n l && decide (cnt (marksTo l l.length) n.toNat 0 ≤ 200)
def awR (n : Int) (l : List Int) : List (List Int) := if okAw n l then awL (marksTo l l.length) n.toNat n.toNat 0 else []
theorem awR_no {n : Int} {l : List Int} (h : okAw n l = false) : awR n l = [] := by simp [awR, h]
theorem awR_yes {n : Int} {l : List Int} (h : okAw n l = true) : awR n l = awL (marksTo l l.length) n.toNat n.toNat 0 := by simp [awR, h]
theorem okAw_no {n : Int} {l : List Int} (h : okSp n l = false) : okAw n l = false := by simp [okAw, h]
theorem okAw_eq {n : Int} {l : List Int} (h : okSp n l = true) : okAw n l = decide (cnt (marksTo l l.length) n.toNat 0 ≤ 200) := by simp [okAw, h]
end Go.Proofs.YtcokdhmccokkiaaDoor
