/- Contracts of the program's functions, III: fringes, and what is within a set. -/
import Derived.Test.YtlgcnablhkmdaaaImpB
namespace Go.Proofs.Ytlgcnablhkmdaaa
open Go.RowKit
set_option maxRecDepth 100000

theorem ent_with : enters Try.prog 36 := enters_of Try.func36 (by kernel_rfl) (by kernel_rfl)
theorem isSet_c (n : Int) (F : Nat → Bool) (s : Int) (w : World) (h0 : 0 ≤ n) (h2 : n ≤ 7) : Calls Try.prog 33 #[.agg (fam n F), .int .i64 s] w fun e w' => e = .returned (.bool (decide (0 ≤ s ∧ s ≤ (low n.toNat : Int)))) ∧ Below w.heap.size w w' := by
  by_cases h : 0 ≤ s
  · go_enter Try.func33, Try.ntmps33
    go_wp2_with (first | (refine wpList_load_fam rowT sizeT rfl (.tmp _) rfl _ rfl _ _ (famAt.new _ _ _ _) ?_) | (go_at_call 25; refine (full_c _ _ _ (by omega) (by omega)).mono ?_; rintro e w' ⟨rfl, hb⟩))
    go_ret
    exact ⟨ret_b (by simp [h]), ((Below.refl _ _).alloc (Nat.le_refl _) _).trans (hb.mono (by simp))⟩
  · go_enter Try.func33, Try.ntmps33
    go_wp2
    go_ret
    exact ⟨ret_b (by rw [Bool.eq_iff_iff]; simp; omega), (Below.refl _ _).alloc (Nat.le_refl _) _⟩

def innerOf (F : Nat → Bool) (n s : Nat) : Nat := itemsOf (fun i => andNot s (p2 i) != s && F (andNot s (p2 i))) n
def outerOf (F : Nat → Bool) (n s : Nat) : Nat := itemsOf (fun i => (s ||| p2 i) != s && F (s ||| p2 i)) n
theorem andNot_lt128 (s t : Nat) (h : s < 128) : andNot s t < 128 := andNot_lt s t 7 h
theorem or_lt128 (s t : Nat) (h : s < 128) (h2 : t < 128) : s ||| t < 128 := Nat.or_lt_two_pow (n := 7) h h2

def pickIn (F : Nat → Bool) (lim s : Nat) : Nat := if F s && andNot s lim == 0 then s else 0
def withinOf (F : Nat → Bool) (n lim : Nat) : Nat := orTo (pickIn F lim) (2 ^ n)
theorem low_succ (n : Nat) : low n + 1 = 2 ^ n := by have := p2_pos n; unfold low; omega
theorem withinOf_lt (F : Nat → Bool) (n lim : Nat) : withinOf F n lim < 2 ^ n := orTo_lt _ n _ fun i hi => by
  unfold pickIn
  split
  · exact hi
  · exact p2_pos n

end Go.Proofs.Ytlgcnablhkmdaaa
