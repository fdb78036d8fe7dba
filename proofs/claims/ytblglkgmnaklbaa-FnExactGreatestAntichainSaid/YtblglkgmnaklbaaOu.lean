/- Contracts: the outer fringe, the program's and the specification's. -/
import Derived.Test.YtblglkgmnaklbaaFr
namespace Go.Proofs.Ytblglkgmnaklbaa
open Go.RowKit
set_option maxRecDepth 100000
attribute [local irreducible] p2 low memB risB
theorem ent_spIn : enters Try.prog 55 := enters_of Try.func55 (by kernel_rfl) (by kernel_rfl)

def outerSp (l : List Int) (s : Nat) (i : Nat) : Bool := !s.testBit i && memB l ((s ||| p2 i : Nat) : Int)

theorem outer_same (F : Nat → Bool) (l : List Int) (n s : Nat) (hn : n ≤ 7) (hs : s < 2 ^ n) (hF : ∀ x : Nat, x < 128 → F x = memB l (x : Int)) : outerOf F n s = itemsOf (outerSp l s) n := by
  have h7 := p2_le n 7 hn
  unfold outerOf
  refine itemsOf_congr n fun i hi => ?_
  unfold outerSp
  rw [hF _ (or_lt128 _ _ (by omega) (p2_lt128 _ (by omega)))]
  congr 1
  rw [Bool.eq_iff_iff]
  simp only [bne_iff_ne, ne_eq, Bool.not_eq_true']
  constructor
  · intro h
    cases hb : s.testBit i
    · rfl
    · exfalso
      apply h
      apply Nat.eq_of_testBit_eq
      intro j
      rw [Nat.testBit_or, p2_bit]
      by_cases hj : i = j
      · subst hj; simp [hb]
      · simp [hj]
  · intro h e
    have := congrArg (fun z => z.testBit i) e
    simp [p2_bit, h] at this

def outerR (n : Int) (l : List Int) (x : Int) : Int := if okOne n l x then (itemsOf (outerSp l x.toNat) n.toNat : Int) else 0
theorem outerR_no {n : Int} {l : List Int} {x : Int} (h : okOne n l x = false) : outerR n l x = 0 := by simp [outerR, h]
theorem outerR_yes {n : Int} {l : List Int} {x : Int} (h : okOne n l x = true) : outerR n l x = (itemsOf (outerSp l x.toNat) n.toNat : Int) := by simp [outerR, h]

end Go.Proofs.Ytblglkgmnaklbaa
