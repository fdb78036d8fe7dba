/- Plain mathematics: paths, in lists and in marks; those of a list that are wanted. -/
import Derived.Test.YtblglkgmnaklbaaCt
namespace Go.Proofs.Ytblglkgmnaklbaa
open Go.RowKit
set_option maxRecDepth 100000
def pathF (F : Nat → Bool) (n s : Nat) : Bool := F s && (pc (innerOf F n s) == 1)
def pathSp (l : List Int) (s : Nat) : Bool := memB l (s : Int) && (pc (itemsOf (innerSp l s) 7) == 1)
theorem path_same {n : Int} {l : List Int} (h : okSp n l = true) (s : Nat) (hs : s < 2 ^ n.toNat) : pathF (marksTo l l.length) n.toNat s = pathSp l s := by
  have hn := okSp_n h
  unfold pathF pathSp
  rw [okSp_marks h s, inner_same _ l n.toNat s (by omega) hs (fun y _ => okSp_marks h y)]
/-- Those of the first k numbers of a list that are wanted. -/
def paTo (P : Nat → Bool) (l : List Int) : Nat → List Int
  | 0 => []
  | k + 1 => if P (nth l k) then paTo P l k ++ [l[k]?.getD 0] else paTo P l k
theorem paTo_len (P : Nat → Bool) (l : List Int) : ∀ k, (paTo P l k).length ≤ k
  | 0 => Nat.le_refl 0
  | k + 1 => by
    have := paTo_len P l k
    unfold paTo
    split
    · simp; omega
    · omega
theorem paTo_take (P : Nat → Bool) (l : List Int) : ∀ k, k ≤ l.length → paTo P l k = (l.take k).filter fun a => P a.toNat
  | 0, _ => by simp [paTo]
  | k + 1, h => by
    have hk : k < l.length := by omega
    rw [paTo, paTo_take P l k (by omega), List.take_add_one, List.filter_append]
    simp only [List.getElem?_eq_getElem hk, Option.getD_some, Option.toList_some, nth]
    cases hP : P (l[k]).toNat <;> simp [hP]
theorem paTo_all (P : Nat → Bool) (l : List Int) : paTo P l l.length = l.filter fun a => P a.toNat := by
  rw [paTo_take P l _ (Nat.le_refl _), List.take_length]
theorem sets_filter (F P : Nat → Bool) : ∀ k, (setsTo F k).filter (fun a => P a.toNat) = setsTo (fun x => F x && P x) k
  | 0 => rfl
  | k + 1 => by
    have ih := sets_filter F P k
    rw [setsTo, setsTo]
    generalize hF : F k = b
    generalize hP : P k = c
    cases b <;> cases c <;> simp [List.filter_append, ih, hP]
theorem paTo_sets (F P : Nat → Bool) (k : Nat) : paTo P (setsTo F k) (setsTo F k).length = setsTo (fun x => F x && P x) k := by
  rw [paTo_all, sets_filter]
theorem sets_more (F : Nat → Bool) (N : Nat) (hF : ∀ x, F x = true → x < N) : ∀ k, N ≤ k → setsTo F k = setsTo F N
  | 0, h => by have : N = 0 := by omega
               subst this; rfl
  | k + 1, h => by
    rcases Nat.lt_or_ge k N with h1 | h1
    · have : N = k + 1 := by omega
      subst this; rfl
    · rw [setsTo, sets_more F N hF k h1]
      cases h2 : F k
      · simp
      · have := hF k h2; omega
/-- The wanted ones of a space's list, as the program finds them. -/
theorem paTo_sp {n : Int} {l : List Int} (h : okSp n l = true) (P Q : Nat → Bool) (hPQ : ∀ x, x < 2 ^ n.toNat → marksTo l l.length x = true → P x = Q x) (hQ : ∀ x, Q x = true → marksTo l l.length x = true) : paTo P l l.length = setsTo Q (2 ^ n.toNat) := by
  have hn := okSp_n h
  have hp := p2_le n.toNat 7 (by omega)
  have hlt : ∀ x, marksTo l l.length x = true → x < 2 ^ n.toNat := okSp_lt h
  have h1 : paTo P l l.length = setsTo (fun x => marksTo l l.length x && P x) 128 := by
    have h2 := okSp_list h
    have h3 := paTo_sets (marksTo l l.length) P 128
    rw [← h2] at h3
    exact h3
  rw [h1, ← sets_more Q (2 ^ n.toNat) (fun x hx => hlt x (hQ x hx)) 128 (by omega)]
  refine setsTo_congr 128 fun x hx => ?_
  cases hm : marksTo l l.length x
  · cases hq : Q x
    · rfl
    · have := hQ x hq; rw [hm] at this; cases this
  · rw [hPQ x (hlt x hm) hm]; rfl
end Go.Proofs.Ytblglkgmnaklbaa
