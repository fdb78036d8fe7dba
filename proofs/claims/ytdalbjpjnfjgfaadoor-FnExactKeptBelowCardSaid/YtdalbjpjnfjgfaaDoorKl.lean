/- Contracts: the cost of a word; CostOfWord, both. -/
import Derived.Test.YtdalbjpjnfjgfaaDoorKi
import Derived.Test.YtdalbjpjnfjgfaaDoorKb
import Derived.Test.YtdalbjpjnfjgfaaDoorFu
import Derived.Test.YtdalbjpjnfjgfaaDoorCh
namespace Go.Proofs.YtdalbjpjnfjgfaaDoor
open Go.RowKit
set_option maxRecDepth 100000
set_option linter.unusedSimpArgs false
attribute [local irreducible] p2 low memB risB
/-- Words whose items are items, and the sets of their beginnings. -/
def wOk (n : Nat) (w : List Int) : Prop := ∀ k, k < w.length → 0 ≤ w[k]?.getD 0 ∧ w[k]?.getD 0 < (n : Int)
theorem setTo_ltK {n : Nat} {w : List Int} (h7 : n ≤ 7) (h : wOk n w) : ∀ k, k ≤ w.length → setTo w k < 128
  | 0, _ => by show 0 < 128; omega
  | k + 1, hk => by
    have h1 := setTo_ltK h7 h k (by omega)
    have h2 := h k (by omega)
    rw [setTo]
    exact or_lt128 _ _ h1 (p2_lt128 _ (by omega))
theorem setTo_next (w : List Int) (k : Nat) : setTo w (k + 1) = setTo w k ||| p2 (w[k]?.getD 0).toNat := rfl
theorem l1Most_c (a b : Int) (w : World) : Calls Tryd.prog 152 #[.int .i64 a, .int .i64 b] w fun e w' => e = .returned (.int .i64 (mxi a b)) ∧ w = w' := by
  have HM := hide (show mxi a b = if a < b then b else a from rfl)
  by_cases h : b < a
  all_goals
    go_enter Tryd.func152, Tryd.ntmps152
    go_wp2
    go_ret
    exact ⟨ret_i (by rw [HM.out]; split <;> omega), rfl⟩
end Go.Proofs.YtdalbjpjnfjgfaaDoor
