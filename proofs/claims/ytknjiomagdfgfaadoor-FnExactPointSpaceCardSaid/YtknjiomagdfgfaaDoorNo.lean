/- Contracts: simplicial points: the program's and the specification's tests; SimplicialOf, both. -/
import Derived.Test.YtknjiomagdfgfaaDoorNh
namespace Go.Proofs.YtknjiomagdfgfaaDoor
open Go.RowKit
set_option maxRecDepth 100000
set_option linter.unusedSimpArgs false
theorem ent_withoutS : enters Tryd.prog 100 := enters_of Tryd.func100 (by kernel_rfl) (by kernel_rfl)
/-- Of the first k neighbours each one is a neighbour of the others. -/
def SiTo (l : List Int) (x : Nat) (k : Nat) : Prop := ∀ j, j < k → x.testBit j = true → andNot x (nth l j ||| p2 j) = 0
theorem SiTo.skip {l : List Int} {x k : Nat} (h : SiTo l x k) (hb : x.testBit k = false) : SiTo l x (k + 1) := by
  intro j hj hx
  rcases Nat.lt_or_ge j k with h' | h'
  · exact h j h' hx
  · rw [show j = k by omega, hb] at hx; cases hx
theorem SiTo.take {l : List Int} {x k : Nat} (h : SiTo l x k) (h0 : andNot x (nth l k ||| p2 k) = 0) : SiTo l x (k + 1) := by
  intro j hj hx
  rcases Nat.lt_or_ge j k with h' | h'
  · exact h j h' hx
  · rw [show j = k by omega]; exact h0
theorem SiTo.done {l : List Int} {s i n : Nat} (hx : nth l i < 2 ^ n) (h : SiTo l (nth l i &&& s) n) : simB l s i = true := by
  rw [simB_iff]
  intro j _ hb
  refine h j (bit_lt hx ?_) hb
  rw [Nat.testBit_and, Bool.and_eq_true] at hb
  exact hb.1
theorem SiTo.bad {l : List Int} {s i k : Nat} (hk : k < 7) (hb : (nth l i &&& s).testBit k = true) (h : ¬ andNot (nth l i &&& s) (nth l k ||| p2 k) = 0) : simB l s i = false := by
  cases e : simB l s i
  · rfl
  · rw [simB_iff] at e
    exact absurd (e k hk hb) h
theorem SiTo.items {l : List Int} {x : Nat} (hx : x < 128) (h : ∀ m, m < (itemsL x).length → andNot x (nth l (nth (itemsL x) m) ||| p2 (nth (itemsL x) m)) = 0) : ∀ n, SiTo l x n := by
  intro n j _ hb
  obtain ⟨m, hm, e⟩ := (items_mem hx).1 hb
  have := h m hm
  rw [e] at this
  exact this
theorem an_an (x p q : Nat) : (andNot (andNot x p) q == 0) = (andNot x (q ||| p) == 0) := by rw [andNot_andNot]
attribute [local irreducible] p2 low memB risB
end Go.Proofs.YtknjiomagdfgfaaDoor
/- Contracts: SimplicialOf, both. -/
namespace Go.Proofs.YtknjiomagdfgfaaDoor
open Go.RowKit
set_option maxRecDepth 100000
set_option linter.unusedSimpArgs false
def soB (l : List Int) (s : Int) : Bool := neB l && decide (0 ≤ s ∧ s ≤ (low l.length : Int))
def soR (l : List Int) (s : Int) : Int := if soB l s then (simS l s.toNat : Int) else 0
theorem so_no {l : List Int} {s : Int} (h : soB l s = false) : soR l s = 0 ∧ soB l s = false := by unfold soR; rw [h]; exact ⟨rfl, rfl⟩
theorem soB_no1 {l : List Int} {s : Int} (h : neB l = false) : soB l s = false := by unfold soB; rw [h]; rfl
theorem soB_is {l : List Int} {s : Int} (h : neB l = true) : soB l s = decide (0 ≤ s ∧ s ≤ (low l.length : Int)) := by unfold soB; rw [h]; rfl
theorem so_yes {l : List Int} {s : Nat} (h : soB l s = true) : soR l s = (simS l s : Int) ∧ soB l s = true := by unfold soR; rw [h]; exact ⟨rfl, rfl⟩
theorem soB_in {l : List Int} {s : Int} (h : soB l s = true) : neB l = true ∧ 0 ≤ s ∧ s ≤ (low l.length : Int) := by
  unfold soB at h; rw [Bool.and_eq_true, decide_eq_true_eq] at h; exact h
theorem itemsOf_next (K : Nat → Bool) (k : Nat) : itemsOf K (k + 1) = itemsOf K k ||| (if K k then p2 k else 0) := rfl
attribute [local irreducible] p2 low memB risB
end Go.Proofs.YtknjiomagdfgfaaDoor
