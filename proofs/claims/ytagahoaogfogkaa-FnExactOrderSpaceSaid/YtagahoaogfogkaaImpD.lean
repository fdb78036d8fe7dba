/- Contracts of the program's functions, IV: what makes a family of sets a space. -/
import Derived.Test.YtagahoaogfogkaaImpC
import Derived.Test.YtagahoaogfogkaaSl
namespace Go.Proofs.Ytagahoaogfogkaa
open Go.RowKit
set_option maxRecDepth 100000

theorem sliceT : Try.prog.underlying 24 = some (.slice 3) := by kernel_rfl
theorem intI : (Try.prog.info? 3).map (fun i => (i.zero, i.size, i.bytes)) = some (some (.int .i64 0), 1, 8) := by kernel_rfl
theorem intS : (Try.prog.info? 3).map (·.size) = some 1 := by kernel_rfl

def gradedTo (F : Nat → Bool) (n : Nat) : Nat → Bool
  | 0 => true
  | k + 1 => gradedTo F n k && !(F k && k != 0 && innerOf F n k == 0)
theorem gradedTo_false (F : Nat → Bool) (n k : Nat) (h : gradedTo F n k = false) : ∀ m, k ≤ m → gradedTo F n m = false := by
  intro m hm
  induction m with
  | zero => have : k = 0 := by omega
            subst this; exact h
  | succ m ih =>
    rcases Nat.lt_or_ge k (m + 1) with h1 | h1
    · rw [gradedTo, ih (by omega)]; rfl
    · have : k = m + 1 := by omega
      subst this; exact h

set_option maxHeartbeats 800000 in
theorem isGraded_c (n : Int) (F : Nat → Bool) (w : World) (h0 : 0 ≤ n) (h2 : n ≤ 7) :
    Calls Try.prog 92 #[.agg (fam n F)] w fun e w' => e = .returned (.bool (gradedTo F n.toNat 128)) ∧ Below w.heap.size w w' := by
  have hb0 : Below w.heap.size w (w.alloc (.cells (fam n F) 64)) := (Below.refl _ _).alloc (Nat.le_refl _) _
  go_enter Try.func92, Try.ntmps92
  go_wp2_with (refine wpList_load_marks rowA sizeA rfl (.tmp _) rfl _ rfl _ _ (famAt.new _ _ _ _) ?_)
  go_loopw [7] (fun i wr => ∃ k : Nat, k ≤ 128 ∧ i = .int .i64 k ∧ gradedTo F n.toNat k = true ∧ Below w.heap.size w wr ∧ famAt 64 wr w.heap.size n F) (fun i _ => 128 - (intOf i).toNat)
  case atStart => exact ⟨0, by omega, rfl, rfl, hb0, famAt.new _ _ _ _⟩
  case round =>
    obtain ⟨k, hk, rfl, hg, hb, hf⟩ := hrel
    by_cases hlt : k < 128
    · have HG := hide hg
      have HB := hide hb
      have HF := hide hf
      clear hg hb hf hb0
      cases hF : F k
      · have HV := hide hF
        go_wp2_with (refine wpList_mark arrA sizeB rowB rfl (.tmp _) (.tmp _) rfl F rfl k rfl (by omega) _ HV.out ?_)
        go_roundw
        case rel => exact ⟨k + 1, by omega, by go_num, by rw [gradedTo, HG.out, HV.out]; rfl, HB.out, HF.out⟩
        case measure => simp [intOf]; omega
      · have HV := hide hF
        by_cases hk0 : k = 0
        · subst hk0
          go_wp2_with (refine wpList_mark arrA sizeB rowB rfl (.tmp _) (.tmp _) rfl F rfl 0 rfl (by omega) _ HV.out ?_)
          go_roundw
          case rel => exact ⟨0 + 1, by omega, by go_num, by rw [gradedTo, HG.out, HV.out]; rfl, HB.out, HF.out⟩
          case measure => simp [intOf]
        · have hk1 : ((k : Int) != 0) = true := by simp; omega
          cases hi : (innerOf F n.toNat k == 0)
          · have hi' : ((innerOf F n.toNat k : Int) == 0) = false := by
              rw [Bool.eq_false_iff] at hi ⊢
              simp at hi ⊢; exact hi
            have HI := hide hi
            clear hi
            go_wp2_with (first | (refine wpList_mark arrA sizeB rowB rfl (.tmp _) (.tmp _) rfl F rfl k rfl (by omega) _ HV.out ?_) | (refine wpList_load_fam rowT sizeT rfl (.tmp _) rfl _ rfl _ _ HF.out ?_) | (go_at_call 103; refine (innerFringe_c _ _ _ _ (by omega) (by omega) (by omega) (by omega)).mono ?_; rintro e w1 ⟨rfl, hb1⟩))
            have hsz := HF.out.lt
            go_roundw
            case rel => exact ⟨k + 1, by omega, by go_num, by rw [gradedTo, HG.out, HV.out, HI.out]; simp, HB.out.trans (hb1.mono (by omega)), HF.out.below hb1 hsz⟩
            case measure => simp [intOf]; omega
          · have hi' : ((innerOf F n.toNat k : Int) == 0) = true := by
              simp at hi ⊢; exact hi
            have HI := hide hi
            clear hi
            go_wp2_with (first | (refine wpList_mark arrA sizeB rowB rfl (.tmp _) (.tmp _) rfl F rfl k rfl (by omega) _ HV.out ?_) | (refine wpList_load_fam rowT sizeT rfl (.tmp _) rfl _ rfl _ _ HF.out ?_) | (go_at_call 103; refine (innerFringe_c _ _ _ _ (by omega) (by omega) (by omega) (by omega)).mono ?_; rintro e w1 ⟨rfl, hb1⟩))
            have hsz := HF.out.lt
            go_ret
            refine ⟨ret_b (gradedTo_false F n.toNat (k + 1) ?_ 128 (by omega)).symm, HB.out.trans (hb1.mono (by omega))⟩
            rw [gradedTo, HG.out, HV.out, HI.out]
            simp; omega
    · have hk' : k = 128 := by omega
      subst hk'
      have HG := hide hg
      clear hg
      go_wp2
      go_ret
      exact ⟨ret_b HG.out.symm, hb⟩

def setsTo (F : Nat → Bool) : Nat → List Int
  | 0 => []
  | k + 1 => if F k then setsTo F k ++ [(k : Int)] else setsTo F k
theorem setsTo_len (F : Nat → Bool) : ∀ k, (setsTo F k).length ≤ k
  | 0 => Nat.le_refl 0
  | k + 1 => by
    have := setsTo_len F k
    unfold setsTo
    split
    · simp; omega
    · omega

set_option maxHeartbeats 800000 in
theorem sets_c (n : Int) (F : Nat → Bool) (w : World) :
    Calls Try.prog 94 #[.agg (fam n F)] w fun e w' => ∃ v, e = .returned v ∧ own 3 w' w.heap.size v (setsTo F 128) ∧ Below w.heap.size w w' := by
  have hb0 : Below w.heap.size w (w.alloc (.cells (fam n F) 64)) := (Below.refl _ _).alloc (Nat.le_refl _) _
  go_enter Try.func94, Try.ntmps94
  go_wp2_with (refine wpList_load_marks rowA sizeA rfl (.tmp _) rfl _ rfl _ _ (famAt.new _ _ _ _) ?_)
  go_loopw [3, 8] (fun v i wr => ∃ k : Nat, k ≤ 128 ∧ i = .int .i64 k ∧ own 3 wr w.heap.size v (setsTo F k) ∧ Below w.heap.size w wr) (fun _ i _ => 128 - (intOf i).toNat)
  case atStart => exact ⟨0, by omega, rfl, own_nil _ _ _, hb0⟩
  case round =>
    obtain ⟨k, hk, rfl, ho, hb⟩ := hrel
    have hsz := hb.size
    by_cases hlt : k < 128
    · have hl := setsTo_len F k
      have HO := hide ho
      have HB := hide hb
      clear ho hb hb0
      cases hF : F k
      · have HV := hide hF
        go_wp2_with (refine wpList_mark arrA sizeB rowB rfl (.tmp _) (.tmp _) rfl F rfl k rfl (by omega) _ HV.out ?_)
        go_roundw
        case rel => exact ⟨k + 1, by omega, by go_num, by simp only [setsTo, HV.out]; exact HO.out, HB.out⟩
        case measure => simp [intOf]; omega
      · have HV := hide hF
        go_wp2_with (first | (refine wpList_mark arrA sizeB rowB rfl (.tmp _) (.tmp _) rfl F rfl k rfl (by omega) _ HV.out ?_) | (at_builtin; refine wpList_append1 sliceT intI rfl _ _ rfl w.heap.size _ _ rfl (HO.out.alloc _) _ (k : Int) rfl ?c1 (by simp; omega) (by omega) ?c2))
        case c1 => simp [go_sem]
        case c2 =>
        intro v' w' ho' hb'
        go_wp2
        go_roundw
        case rel => exact ⟨k + 1, by omega, by go_num, by simp only [setsTo, HV.out]; exact ho', (HB.out.alloc (by omega) _).trans hb'⟩
        case measure => simp [intOf]; omega
    · have hk' : k = 128 := by omega
      subst hk'
      have HO := hide ho
      clear ho
      go_wp2
      go_ret
      exact ⟨_, rfl, HO.out, hb⟩
end Go.Proofs.Ytagahoaogfogkaa
