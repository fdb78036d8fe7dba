/- Contract: the place of a number in a list (slices.Index), where it is there. -/
import Derived.Test.YtagahoaogfogkaaHar
namespace Go.Proofs.Ytagahoaogfogkaa
open Go.RowKit
set_option maxRecDepth 100000
set_option maxHeartbeats 1000000 in
theorem index_c (v : Value) (l : List Int) (x : Int) (p : Nat) (w : World) (hl : ints w.heap.size w v l) (hlen : l.length < 1000000000) (hp : p < l.length) (hx : l[p]?.getD 0 = x) (hn : ∀ j, j < p → l[j]?.getD 0 ≠ x) :
    Calls Try.prog 62 #[v, .int .i64 x] w fun e w' => e = .returned (.int .i64 (p : Int)) ∧ w = w' := by
  have HL := hide hl
  have HX := hide hx
  have HN := hide hn
  clear hl hx hn
  go_enter Try.func62, Try.ntmps62
  go_wp2_with (refine wpList_len sliceT rfl (.tmp _) rfl v rfl _ l HL.out ?_)
  go_loop [8] (fun iv => ∃ k : Nat, k ≤ p ∧ iv = .int .i64 k) (fun iv => p + 1 - (intOf iv).toNat)
  case atStart => exact ⟨0, Nat.zero_le _, rfl⟩
  case round =>
    obtain ⟨k, hk, rfl⟩ := hrel
    have hkl : (k : Int) < (l.length : Int) := by omega
    have hkl2 : k < l.length := by omega
    by_cases hkp : k = p
    · have HY := hide (show l[k]?.getD 0 = x by rw [hkp]; exact HX.out)
      have hb : (x == x) = true := by simp
      have HK := hide hkp
      clear hkp
      go_wp2_with (refine wpList_at sliceT intS rfl (.tmp 12) (.tmp _) rfl v rfl k rfl _ l HL.out hkl2 ?_; intro ad hcell hblk; rw [HY.out] at hcell)
      go_ret
      exact ⟨by (rw [← HK.out]; rfl), rfl⟩
    · have hne := HN.out k (by omega)
      generalize hy : l[k]?.getD 0 = y at hne
      have HY := hide hy
      have hb : (x == y) = false := by simp; omega
      have HNE := hide hne
      clear hy hne
      go_wp2_with (refine wpList_at sliceT intS rfl (.tmp 12) (.tmp _) rfl v rfl k rfl _ l HL.out hkl2 ?_; intro ad hcell hblk; rw [HY.out] at hcell)
      go_round
      case rel => exact ⟨k + 1, by omega, by go_num⟩
      case measure => simp [intOf]; omega
end Go.Proofs.Ytagahoaogfogkaa
