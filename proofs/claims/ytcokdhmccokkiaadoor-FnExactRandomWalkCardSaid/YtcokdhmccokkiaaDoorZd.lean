/- Mathematics: walks by choices. -/
import Derived.Test.YtcokdhmccokkiaaDoorMn
import Derived.Test.YtcokdhmccokkiaaDoorKy
import Derived.Test.YtcokdhmccokkiaaDoorOu
namespace Go.Proofs.YtcokdhmccokkiaaDoor
open Go.RowKit
set_option maxRecDepth 100000
set_option linter.unusedSimpArgs false
/-- The set and the word behind k steps of a walk. -/
def wkP (F : Nat → Bool) (n : Nat) (ch : List Int) : Nat → Nat × List Int
  | 0 => (0, [])
  | k + 1 => ((wkP F n ch k).1 ||| p2 (chV ch k (itemsL (outerOf F n (wkP F n ch k).1))).toNat, (wkP F n ch k).2 ++ [chV ch k (itemsL (outerOf F n (wkP F n ch k).1))])
def wkS (F : Nat → Bool) (n : Nat) (ch : List Int) (k : Nat) : Nat := (wkP F n ch k).1
def wkL (F : Nat → Bool) (n : Nat) (ch : List Int) (k : Nat) : List Int := (wkP F n ch k).2
def wkO (F : Nat → Bool) (n : Nat) (ch : List Int) (k : Nat) : List Int := itemsL (outerOf F n (wkS F n ch k))
theorem wkS_next (F : Nat → Bool) (n : Nat) (ch : List Int) (k : Nat) : wkS F n ch (k + 1) = wkS F n ch k ||| p2 (chV ch k (wkO F n ch k)).toNat := rfl
theorem wkL_next (F : Nat → Bool) (n : Nat) (ch : List Int) (k : Nat) : wkL F n ch (k + 1) = wkL F n ch k ++ [chV ch k (wkO F n ch k)] := rfl
theorem wkL_len (F : Nat → Bool) (n : Nat) (ch : List Int) : ∀ k, (wkL F n ch k).length = k
  | 0 => rfl
  | k + 1 => by rw [wkL_next, List.length_append, wkL_len F n ch k]; rfl
theorem wk_item {F : Nat → Bool} {n : Nat} (h : Spc F n) (h7 : n ≤ 7) (ch : List Int) {s : Nat} (k : Nat) (hs : F s = true) (hp : pc s = k) (hk : k < n) :
    0 < (itemsL (outerOf F n s)).length ∧ ∃ i : Nat, chV ch k (itemsL (outerOf F n s)) = (i : Int) ∧ i < n ∧ s.testBit i = false ∧ F (s ||| p2 i) = true := by
  have hsl := h.lt s hs
  have hne : s ≠ low n := by
    intro e
    rw [e, pc_low n h7] at hp
    omega
  have hO := outer_lt F n s h7
  have h0 := outer_ne h h7 hs hne
  obtain ⟨b, hb⟩ : ∃ b, (outerOf F n s).testBit b = true := by
    apply Classical.byContradiction
    intro h2
    apply h0
    apply Nat.eq_of_testBit_eq
    intro i
    rw [Nat.zero_testBit]
    cases hb : (outerOf F n s).testBit i
    · rfl
    · exact absurd ⟨i, hb⟩ h2
  obtain ⟨h1, _, h3⟩ := items_seq hO
  obtain ⟨j, hj, _⟩ := h3 b hb
  have hl : 0 < (itemsL (outerOf F n s)).length := by omega
  refine ⟨hl, ?_⟩
  obtain ⟨e1, _, e3⟩ := h1 _ (pkI_lt (ch := ch) (k := k) hl)
  obtain ⟨o1, o2, o3⟩ := outer_in e3
  exact ⟨_, e1, o1, o2, o3⟩
theorem wk_ok {F : Nat → Bool} {n : Nat} (h : Spc F n) (h7 : n ≤ 7) (ch : List Int) : ∀ k, k ≤ n → F (wkS F n ch k) = true ∧ pc (wkS F n ch k) = k
  | 0, _ => ⟨h.zero, by show pc 0 = 0; decide⟩
  | k + 1, hk => by
    obtain ⟨h1, h2⟩ := wk_ok h h7 ch k (by omega)
    have hp := p2_le n 7 h7
    have hs := h.lt _ h1
    obtain ⟨_, i, e, i1, i2, i3⟩ := wk_item h h7 ch k h1 h2 (by omega)
    rw [wkS_next]
    unfold wkO
    rw [e, Int.toNat_natCast]
    exact ⟨i3, by rw [pc_stepK _ _ (by omega) (by omega) i2, h2]⟩
/-- What is known of a step. -/
theorem wk_step {F : Nat → Bool} {n : Nat} (h : Spc F n) (h7 : n ≤ 7) (ch : List Int) (k : Nat) (hk : k < n) :
    wkS F n ch k < 128 ∧ 0 < (wkO F n ch k).length ∧ (wkO F n ch k).length ≤ 7 ∧ ∃ i : Nat, chV ch k (wkO F n ch k) = (i : Int) ∧ i < 7 ∧ wkS F n ch (k + 1) = wkS F n ch k ||| p2 i ∧ wkL F n ch (k + 1) = wkL F n ch k ++ [(i : Int)] := by
  obtain ⟨h1, h2⟩ := wk_ok h h7 ch k (by omega)
  have hp := p2_le n 7 h7
  have hs := h.lt _ h1
  obtain ⟨hl, i, e, i1, i2, i3⟩ := wk_item h h7 ch k h1 h2 hk
  refine ⟨by omega, hl, ?_, i, e, by omega, ?_, ?_⟩
  · unfold wkO itemsL itemsN
    rw [List.length_map]
    exact Nat.le_trans (List.length_filter_le _ _) (by simp)
  · rw [wkS_next]
    unfold wkO
    rw [show chV ch k (itemsL (outerOf F n (wkS F n ch k))) = (i : Int) from e, Int.toNat_natCast]
  · rw [wkL_next]
    unfold wkO
    rw [show chV ch k (itemsL (outerOf F n (wkS F n ch k))) = (i : Int) from e]
/-- The items of an outer fringe, as the specification lists them. -/
theorem outer_whL (l : List Int) (n s : Nat) (h7 : n ≤ 7) : itemsL (itemsOf (outerSp l s) n) = whL (fun i => (itemsOf (outerSp l s) n).testBit i) n := by
  rw [itemsL_whL _ _ h7, whL_eq, whL_eq]
  congr 1
  apply List.filter_congr
  intro x hx
  rw [itemsOf_bit, decide_eq_true (List.mem_range.1 hx)]
  rfl
def rwB (n : Int) (l ch : List Int) : Bool := okSp n l && chB 20 ch
def rwL (n : Int) (l ch : List Int) : List Int := if rwB n l ch then wkL (marksTo l l.length) n.toNat ch n.toNat else []
theorem rwL_no {n : Int} {l ch : List Int} (h : rwB n l ch = false) : rwL n l ch = [] := by unfold rwL; rw [h]; rfl
theorem rwL_yes {n : Int} {l ch : List Int} (h : rwB n l ch = true) : rwL n l ch = wkL (marksTo l l.length) n.toNat ch n.toNat := by unfold rwL; rw [if_pos h]
theorem rwL_len (n : Int) (l ch : List Int) : (rwL n l ch).length < 1000000000 := by
  unfold rwL
  split
  · rename_i h
    unfold rwB at h
    rw [Bool.and_eq_true] at h
    have := okSp_n h.1
    rw [wkL_len]; omega
  · simp
theorem chB_in {ch : List Int} {m : Int} (h : chB m ch = true) : (ch.length : Int) ≤ m ∧ ∀ k, k < ch.length → 0 ≤ ch[k]?.getD 0 := by
  unfold chB at h
  rw [Bool.and_eq_true, decide_eq_true_eq, Bool.not_eq_true'] at h
  exact ⟨h.1, ngTo_no _ h.2⟩
end Go.Proofs.YtcokdhmccokkiaaDoor
