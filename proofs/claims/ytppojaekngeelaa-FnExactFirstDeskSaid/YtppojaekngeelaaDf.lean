/- Contracts: FirstDesk, both. -/
import Derived.Test.YtppojaekngeelaaDk
import Derived.Test.YtppojaekngeelaaIs
namespace Go.Proofs.Ytppojaekngeelaa
open Go.RowKit
set_option maxRecDepth 100000
set_option linter.unusedSimpArgs false
def dkF : List Int := [0, 1, 2, 3, 5, 6, 7]
theorem dkF_len : dkF.length < 1000000000 := by decide
set_option maxHeartbeats 1000000 in
theorem implFirstDesk_c (w : World) : Calls Try.prog 6 #[] w fun e w' => ∃ v, e = .returned (.agg #[.int .i64 3, v, .int .i64 0]) ∧ own 3 w' w.heap.size v dkF ∧ Below w.heap.size w w' := by
  have hz : (w.alloc (.cells #[.int .i64 3, .slice (some ⟨w.heap.size + 1, 0, none⟩) 7 7, .int .i64 0] 26)).heap.size = w.heap.size + 1 := by simp
  have hb : blk 3 ((w.alloc (.cells #[.int .i64 3, .slice (some ⟨w.heap.size + 1, 0, none⟩) 7 7, .int .i64 0] 26)).alloc (.cells #[.int .i64 0, .int .i64 1, .int .i64 2, .int .i64 3, .int .i64 5, .int .i64 6, .int .i64 7] 3)) (w.heap.size + 1) dkF := by
    have := hp_last (w.alloc (.cells #[.int .i64 3, .slice (some ⟨w.heap.size + 1, 0, none⟩) 7 7, .int .i64 0] 26)) (.cells #[.int .i64 0, .int .i64 1, .int .i64 2, .int .i64 3, .int .i64 5, .int .i64 6, .int .i64 7] 3)
    rw [hz] at this
    exact this
  have HO := hide (hb.own (Nat.le_succ w.heap.size) (by unfold maxLen; decide))
  have HB := hide (((Below.refl w.heap.size w).alloc (Nat.le_refl _) (.cells #[.int .i64 3, .slice (some ⟨w.heap.size + 1, 0, none⟩) 7 7, .int .i64 0] 26)).alloc (by simp) (.cells #[.int .i64 0, .int .i64 1, .int .i64 2, .int .i64 3, .int .i64 5, .int .i64 6, .int .i64 7] 3))
  clear hb hz
  go_enter Try.func6, Try.ntmps6
  go_wp2
  refine bodyPost_ret (v := .agg #[.int .i64 3, .slice (some ⟨w.heap.size + 1, 0, none⟩) 7 7, .int .i64 0]) (by simp [results, Try.results6, go_sem]) rfl ⟨_, rfl, HO.out, HB.out⟩
set_option maxHeartbeats 1000000 in
theorem specFirstDesk_c (w : World) : Calls Try.prog 5 #[] w fun e w' => ∃ v, e = .returned (.agg #[.int .i64 3, v, .int .i64 0]) ∧ own 3 w' w.heap.size v dkF ∧ Below w.heap.size w w' := by
  have hz : (w.alloc (.cells #[.int .i64 3, .slice (some ⟨w.heap.size + 1, 0, none⟩) 7 7, .int .i64 0] 26)).heap.size = w.heap.size + 1 := by simp
  have hb : blk 3 ((w.alloc (.cells #[.int .i64 3, .slice (some ⟨w.heap.size + 1, 0, none⟩) 7 7, .int .i64 0] 26)).alloc (.cells #[.int .i64 0, .int .i64 1, .int .i64 2, .int .i64 3, .int .i64 5, .int .i64 6, .int .i64 7] 3)) (w.heap.size + 1) dkF := by
    have := hp_last (w.alloc (.cells #[.int .i64 3, .slice (some ⟨w.heap.size + 1, 0, none⟩) 7 7, .int .i64 0] 26)) (.cells #[.int .i64 0, .int .i64 1, .int .i64 2, .int .i64 3, .int .i64 5, .int .i64 6, .int .i64 7] 3)
    rw [hz] at this
    exact this
  have HO := hide (hb.own (Nat.le_succ w.heap.size) (by unfold maxLen; decide))
  have HB := hide (((Below.refl w.heap.size w).alloc (Nat.le_refl _) (.cells #[.int .i64 3, .slice (some ⟨w.heap.size + 1, 0, none⟩) 7 7, .int .i64 0] 26)).alloc (by simp) (.cells #[.int .i64 0, .int .i64 1, .int .i64 2, .int .i64 3, .int .i64 5, .int .i64 6, .int .i64 7] 3))
  clear hb hz
  go_enter Try.func5, Try.ntmps5
  go_wp2
  refine bodyPost_ret (v := .agg #[.int .i64 3, .slice (some ⟨w.heap.size + 1, 0, none⟩) 7 7, .int .i64 0]) (by simp [results, Try.results5, go_sem]) rfl ⟨_, rfl, HO.out, HB.out⟩
end Go.Proofs.Ytppojaekngeelaa
