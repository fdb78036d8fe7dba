/- Contracts of the program's functions, IV: what makes a family of sets a space. -/
import Derived.Test.YtlgcnablhkmdaaaImpC
import Derived.Test.YtlgcnablhkmdaaaSl
namespace Go.Proofs.Ytlgcnablhkmdaaa
open Go.RowKit
set_option maxRecDepth 100000

theorem sliceT : Try.prog.underlying 24 = some (.slice 3) := by kernel_rfl
theorem intI : (Try.prog.info? 3).map (fun i => (i.zero, i.size, i.bytes)) = some (some (.int .i64 0), 1, 8) := by kernel_rfl
theorem intS : (Try.prog.info? 3).map (·.size) = some 1 := by kernel_rfl

def gradedTo (F : Nat → Bool) (n : Nat) : Nat → Bool
  | 0 => true
  | k + 1 => gradedTo F n k && !(F k && k != 0 && innerOf F n k == 0)
theorem gradedTo_false (F : Nat → Bool) (n k : Nat) (h : gradedTo F n k = false) : ∀ m, k ≤ m → gradedTo F n m = false := by
  intro m hm
  induction m with
  | zero => have : k = 0 := by omega
            subst this; exact h
  | succ m ih =>
    rcases Nat.lt_or_ge k (m + 1) with h1 | h1
    · rw [gradedTo, ih (by omega)]; rfl
    · have : k = m + 1 := by omega
      subst this; exact h

def setsTo (F : Nat → Bool) : Nat → List Int
  | 0 => []
  | k + 1 => if F k then setsTo F k ++ [(k : Int)] else setsTo F k
theorem setsTo_len (F : Nat → Bool) : ∀ k, (setsTo F k).length ≤ k
  | 0 => Nat.le_refl 0
  | k + 1 => by
    have := setsTo_len F k
    unfold setsTo
    split
    · simp; omega
    · omega

set_option maxHeartbeats 800000 in
theorem sets_c (n : Int) (F : Nat → Bool) (w : World) :
    Calls Try.prog 38 #[.agg (fam n F)] w fun e w' => ∃ v, e = .returned v ∧ own 3 w' w.heap.size v (setsTo F 128) ∧ Below w.heap.size w w' := by
  have hb0 : Below w.heap.size w (w.alloc (.cells (fam n F) 46)) := (Below.refl _ _).alloc (Nat.le_refl _) _
  go_enter Try.func38, Try.ntmps38
  go_wp2_with (refine wpList_load_marks rowA sizeA rfl (.tmp _) rfl _ rfl _ _ (famAt.new _ _ _ _) ?_)
  go_loopw [3, 8] (fun v i wr => ∃ k : Nat, k ≤ 128 ∧ i = .int .i64 k ∧ own 3 wr w.heap.size v (setsTo F k) ∧ Below w.heap.size w wr) (fun _ i _ => 128 - (intOf i).toNat)
  case atStart => exact ⟨0, by omega, rfl, own_nil _ _ _, hb0⟩
  case round =>
    obtain ⟨k, hk, rfl, ho, hb⟩ := hrel
    have hsz := hb.size
    by_cases hlt : k < 128
    · have hl := setsTo_len F k
      have HO := hide ho
      have HB := hide hb
      clear ho hb hb0
      cases hF : F k
      · have HV := hide hF
        go_wp2_with (refine wpList_mark arrA sizeB rowB rfl (.tmp _) (.tmp _) rfl F rfl k rfl (by omega) _ HV.out ?_)
        go_roundw
        case rel => exact ⟨k + 1, by omega, by go_num, by simp only [setsTo, HV.out]; exact HO.out, HB.out⟩
        case measure => simp [intOf]; omega
      · have HV := hide hF
        go_wp2_with (first | (refine wpList_mark arrA sizeB rowB rfl (.tmp _) (.tmp _) rfl F rfl k rfl (by omega) _ HV.out ?_) | (at_builtin; refine wpList_append1 sliceT intI rfl _ _ rfl w.heap.size _ _ rfl (HO.out.alloc _) _ (k : Int) rfl ?c1 (by simp; omega) (by omega) ?c2))
        case c1 => simp [go_sem]
        case c2 =>
        intro v' w' ho' hb'
        go_wp2
        go_roundw
        case rel => exact ⟨k + 1, by omega, by go_num, by simp only [setsTo, HV.out]; exact ho', (HB.out.alloc (by omega) _).trans hb'⟩
        case measure => simp [intOf]; omega
    · have hk' : k = 128 := by omega
      subst hk'
      have HO := hide ho
      clear ho
      go_wp2
      go_ret
      exact ⟨_, rfl, HO.out, hb⟩
end Go.Proofs.Ytlgcnablhkmdaaa
