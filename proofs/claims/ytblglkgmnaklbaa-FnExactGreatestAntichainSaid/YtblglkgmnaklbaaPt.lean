/- Contracts: paths, the program's. -/
import Derived.Test.YtblglkgmnaklbaaPm
import Derived.Test.YtblglkgmnaklbaaCnt
import Derived.Test.YtblglkgmnaklbaaOu
namespace Go.Proofs.Ytblglkgmnaklbaa
open Go.RowKit
set_option maxRecDepth 100000
attribute [local irreducible] p2 low memB risB
theorem inner_lt (F : Nat → Bool) (n s : Nat) (hn : n ≤ 7) : innerOf F n s < 128 := by
  have h1 : innerOf F n s < 2 ^ n := itemsOf_lt _ n
  have h2 := p2_le n 7 hn
  omega
theorem isPath_c (n : Int) (F : Nat → Bool) (s : Nat) (w : World) (h0 : 0 ≤ n) (h7 : n ≤ 7) (hs : s < 128) :
    Calls Try.prog 46 #[.agg (fam n F), .int .i64 (s : Int)] w fun e w' => e = .returned (.bool (pathF F n.toNat s)) ∧ Below w.heap.size w w' := by
  have HB := hide ((Below.refl w.heap.size w).alloc (Nat.le_refl _) (.cells (fam n F) 48))
  have HF := hide (famAt.new 48 w n F)
  have hc := HF.out.get s hs
  have hi := inner_lt F n.toNat s (by omega)
  cases hF : F s
  · rw [hF] at hc
    have HV := hide hF
    clear hF
    go_enter Try.func46, Try.ntmps46
    go_wp2
    go_ret
    exact ⟨ret_b (by simp [pathF, HV.out]), HB.out⟩
  · rw [hF] at hc
    have HQ := hide (show pathF F n.toNat s = (pc (innerOf F n.toNat s) == 1) by simp [pathF, hF])
    clear hF
    have HI : Hid (∀ (w1 : World), Calls Try.prog 60 #[.agg (fam n F), .int .i64 (s : Int)] w1 fun e w' => e = .returned (.int .i64 (innerOf F n.toNat s : Int)) ∧ Below w1.heap.size w1 w') := hide fun w1 => by
      have := innerFringe_c n F (s : Int) w1 h0 h7 (by omega) (by omega)
      rw [Int.toNat_natCast] at this
      exact this
    generalize innerOf F n.toNat s = I at hi HQ HI
    have HZ : Hid (∀ (w1 : World), Calls Try.prog 61 #[.int .i64 (I : Int)] w1 fun e w' => e = .returned (.int .i64 (pc I : Int)) ∧ w1 = w') := hide fun w1 => by
      have := size_c (I : Int) w1 (by omega) (by omega)
      rw [Int.toNat_natCast] at this
      exact this
    generalize pc I = C at HQ HZ
    go_enter Try.func46, Try.ntmps46
    go_wp2_with (first
      | (refine wpList_load_fam rowT sizeT rfl (.tmp _) rfl _ rfl n F HF.out ?_)
      | (go_at_call 60; refine (HI.out _).mono ?_; rintro e w1 ⟨rfl, hb1⟩; have HB1 := hide (HB.out.trans (hb1.mono (by simp))); clear hb1)
      | (go_at_call 61; refine (HZ.out _).mono ?_; rintro e w2 ⟨rfl, rfl⟩))
    go_ret
    exact ⟨ret_b (by rw [HQ.out, Bool.eq_iff_iff]; simp; try omega), HB1.out⟩

end Go.Proofs.Ytblglkgmnaklbaa
