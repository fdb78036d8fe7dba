/- Contracts: paths, the specification's. -/
import Derived.Test.YtblglkgmnaklbaaPm
import Derived.Test.YtblglkgmnaklbaaCnt
import Derived.Test.YtblglkgmnaklbaaOu
import Derived.Test.YtblglkgmnaklbaaHar
namespace Go.Proofs.Ytblglkgmnaklbaa
open Go.RowKit
set_option maxRecDepth 100000
theorem paTo_paTo (P Q : Nat → Bool) (l : List Int) : paTo Q (paTo P l l.length) (paTo P l l.length).length = paTo (fun x => P x && Q x) l l.length := by
  rw [paTo_all, paTo_all, paTo_all, List.filter_filter]
  congr 1
  funext a
  exact Bool.and_comm _ _
theorem paTo_in (P : Nat → Bool) (l : List Int) (k : Nat) (hk : k ≤ l.length) : ∀ a ∈ paTo P l k, a ∈ l ∧ P a.toNat = true := by
  intro a ha
  rw [paTo_take P l k hk, List.mem_filter] at ha
  exact ⟨List.mem_of_mem_take ha.1, ha.2⟩
theorem paTo_nth (P : Nat → Bool) (l : List Int) (hl : ∀ j, j < l.length → 0 ≤ l[j]?.getD 0 ∧ l[j]?.getD 0 < 128) (j : Nat) (hj : j < (paTo P l l.length).length) :
    (paTo P l l.length)[j]?.getD 0 = (nth (paTo P l l.length) j : Int) ∧ nth (paTo P l l.length) j < 128 ∧ P (nth (paTo P l l.length) j) = true := by
  obtain ⟨h1, h2⟩ := paTo_in P l _ (Nat.le_refl _) ((paTo P l l.length)[j]) (List.getElem_mem hj)
  obtain ⟨i, hi, e⟩ := List.mem_iff_getElem.1 h1
  have h3 := hl i hi
  rw [List.getElem?_eq_getElem hi, Option.getD_some, e] at h3
  unfold nth
  rw [List.getElem?_eq_getElem hj, Option.getD_some]
  exact ⟨by omega, by omega, h2⟩
attribute [local irreducible] p2 low memB risB
end Go.Proofs.Ytblglkgmnaklbaa
