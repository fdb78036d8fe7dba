/- Mathematics: matchings told by the indices of the sets in their list. No program is named here. -/
import Derived.Test.YtblglkgmnaklbaaWdb
namespace Go.Proofs.Ytblglkgmnaklbaa
open Go.RowKit
set_option maxRecDepth 100000
set_option linter.unusedSimpArgs false
/-- The index of a set among the sets of P, or -1. -/
def ixP (P : Nat → Bool) (x : Nat) : Int := if P x = true ∧ x < 128 then ((setsTo P x).length : Int) else -1
section
variable {P : Nat → Bool}
theorem ix_none {x : Nat} (h : P x = false) : ixP P x = -1 := by unfold ixP; rw [if_neg (by rw [h]; simp)]
theorem setsTo_succ {x : Nat} (h : P x = true) : setsTo P (x + 1) = setsTo P x ++ [(x : Int)] := by simp [setsTo, h]
theorem sets_posW {x : Nat} (hx : x < 128) (h : P x = true) : (setsTo P x).length < (setsTo P 128).length ∧ nth (setsTo P 128) (setsTo P x).length = x := by
  have e := sets_split P (x + 1) 128 (by omega)
  rw [setsTo_succ h] at e
  rw [e]
  constructor
  · simp
  · unfold nth
    rw [List.append_assoc, List.getElem?_append_right (Nat.le_refl _), Nat.sub_self]
    simp
theorem nth_less {i j : Nat} (h : i < j) (hj : j < (setsTo P 128).length) : nth (setsTo P 128) i < nth (setsTo P 128) j := by
  have h1 := sets_inc P 128 i j h hj
  have h2 := setsTo_range P 128 i (by omega)
  have h3 := setsTo_range P 128 j hj
  unfold nth
  omega
theorem nth_inj {i j : Nat} (hi : i < (setsTo P 128).length) (hj : j < (setsTo P 128).length) (h : nth (setsTo P 128) i = nth (setsTo P 128) j) : i = j := by
  rcases Nat.lt_trichotomy i j with e | e | e
  · have := nth_less e hj; omega
  · exact e
  · have := nth_less e hi; omega
theorem nth_in {j : Nat} (hj : j < (setsTo P 128).length) : P (nth (setsTo P 128) j) = true := sets_at P j hj
theorem nth_lt128 {j : Nat} (hj : j < (setsTo P 128).length) : nth (setsTo P 128) j < 128 := by
  have h3 := setsTo_range P 128 j hj
  unfold nth
  omega
theorem nth_val {j : Nat} (hj : j < (setsTo P 128).length) : (setsTo P 128)[j]?.getD 0 = (nth (setsTo P 128) j : Int) := by
  have h3 := setsTo_range P 128 j hj
  unfold nth
  omega
theorem ix_nth {j : Nat} (hj : j < (setsTo P 128).length) : ixP P (nth (setsTo P 128) j) = (j : Int) := by
  have h1 := nth_in hj
  have h2 := nth_lt128 hj
  obtain ⟨h3, h4⟩ := sets_posW h2 h1
  unfold ixP
  rw [if_pos ⟨h1, h2⟩]
  have := nth_inj h3 hj h4
  omega
theorem nth_ix {x : Nat} (hx : x < 128) (h : P x = true) : ∃ j, j < (setsTo P 128).length ∧ nth (setsTo P 128) j = x ∧ ixP P x = (j : Int) := by
  obtain ⟨h3, h4⟩ := sets_posW hx h
  exact ⟨_, h3, h4, by unfold ixP; rw [if_pos ⟨h, hx⟩]⟩
/-- From where the search goes on behind the first j sets. -/
def frJ (L : List Int) (j : Nat) : Nat := if j = 0 then 0 else nth L (j - 1) + 1
theorem frJ_le {j : Nat} (hj : j < (setsTo P 128).length) : frJ (setsTo P 128) j ≤ nth (setsTo P 128) j := by
  unfold frJ
  split
  · omega
  · have := nth_less (P := P) (i := j - 1) (j := j) (by omega) hj
    omega
theorem frJ_succ (L : List Int) (j : Nat) : frJ L (j + 1) = nth L j + 1 := by unfold frJ; rw [if_neg (by omega), Nat.add_sub_cancel]
theorem frJ_gap {j k : Nat} (hj : j ≤ (setsTo P 128).length) (h1 : frJ (setsTo P 128) j ≤ k) (hk : k < 128) (h2 : j < (setsTo P 128).length → k < nth (setsTo P 128) j) : P k = false := by
  cases h : P k
  · rfl
  · obtain ⟨i, hi, he, _⟩ := nth_ix hk h
    exfalso
    rcases Nat.lt_or_ge i j with e | e
    · unfold frJ at h1
      rw [if_neg (by omega)] at h1
      rcases Nat.lt_or_ge i (j - 1) with e2 | e2
      · have := nth_less (P := P) e2 (by omega); omega
      · rw [show i = j - 1 by omega] at he; omega
    · have hjl : j < (setsTo P 128).length := by omega
      have := h2 hjl
      rcases Nat.lt_or_ge j i with e2 | e2
      · have := nth_less (P := P) e2 hi; omega
      · rw [show i = j by omega] at he; omega
theorem puM_skipTo {x : Nat} {s : Mst} {r : Bool} {t : Mst} : ∀ d g k, puM P g x k s = some (r, t) → (∀ k', k ≤ k' → k' < k + d → P k' = false) → ∃ g', g' ≤ g ∧ puM P g' x (k + d) s = some (r, t)
  | 0, g, k, h, _ => ⟨g, Nat.le_refl _, h⟩
  | d + 1, g, k, h, hn => by
    have hk := hn k (Nat.le_refl _) (by omega)
    have h1 : ∃ g', g' ≤ g ∧ puM P g' x (k + 1) s = some (r, t) := by
      obtain ⟨f, e0, hc⟩ := puM_cases h
      rcases hc with ⟨a1, a2, a3⟩ | ⟨a1, a2, a3⟩ | ⟨a1, a2, _⟩ | ⟨a1, a2, _⟩
      · subst a2 a3
        exact ⟨g, Nat.le_refl _, by rw [e0]; exact puM_end (by omega)⟩
      · exact ⟨f, by omega, a3⟩
      · rw [(fitM_iff.1 a2).1] at hk; cases hk
      · rw [(fitM_iff.1 a2).1] at hk; cases hk
    obtain ⟨g1, hg1, h2⟩ := h1
    obtain ⟨g2, hg2, h3⟩ := puM_skipTo d g1 (k + 1) h2 (fun k' a b => hn k' (by omega) (by omega))
    exact ⟨g2, by omega, by rw [show k + (d + 1) = k + 1 + d by omega]; exact h3⟩
/-- What follows is one of the sets. -/
def inN (P : Nat → Bool) (s : Mst) : Prop := ∀ j, s.nx j ≠ 0 → P (s.nx j) = true
theorem inN_put {s : Mst} {k x : Nat} (h : inN P s) (hx : P x = true) : inN P (s.put k x) := by
  intro j hj
  show P (updM s.nx k x j) = true
  have hj' : updM s.nx k x j ≠ 0 := hj
  unfold updM at hj' ⊢
  split
  · exact hx
  · rename_i e; rw [if_neg e] at hj'; exact h j hj'
theorem puM_inN : ∀ f x k s r t, puM P f x k s = some (r, t) → P x = true → inN P s → inN P t := by
  intro f
  induction f using Nat.strongRecOn with
  | ind f ih =>
    intro x k s r t h hx hs
    obtain ⟨g, e0, hc⟩ := puM_cases h
    clear h
    subst e0
    rcases hc with ⟨_, _, rfl⟩ | ⟨_, _, h⟩ | ⟨_, _, _, _, rfl⟩ | ⟨_, _, h3, r1, t1, h1, h2⟩
    · exact hs
    · exact ih g (by omega) _ _ _ _ _ h hx hs
    · exact inN_put (s := s.mark k) hs hx
    · have h4 := ih g (by omega) _ _ _ _ _ h1 (hs k h3) hs
      rcases h2 with ⟨_, _, rfl⟩ | ⟨_, h2⟩
      · exact inN_put h4 hx
      · exact ih g (by omega) _ _ _ _ _ h2 hx h4
theorem map_setW {α : Type} (i : Nat) (f g : Int → α) (hi : i < (setsTo P 128).length) (hf : ∀ j, j < (setsTo P 128).length → j ≠ i → g ((setsTo P 128)[j]?.getD 0) = f ((setsTo P 128)[j]?.getD 0)) :
    ((setsTo P 128).map f).set i (g ((setsTo P 128)[i]?.getD 0)) = (setsTo P 128).map g := by
  apply List.ext_getElem?
  intro j
  rw [List.getElem?_set, List.getElem?_map, List.length_map]
  by_cases e : i = j
  · subst e
    rw [if_pos rfl, if_pos hi]
    simp [hi]
  · rw [if_neg e, List.getElem?_map]
    rcases Nat.lt_or_ge j (setsTo P 128).length with h | h
    · have := hf j h (fun e2 => e e2.symm)
      simp [h] at this ⊢
      exact this.symm
    · simp [h]
/-- What is known on the way, by indices. -/
def bfL (P : Nat → Bool) (s : Mst) : List Int := (setsTo P 128).map fun a => ixP P (s.bf a.toNat)
def nxL (P : Nat → Bool) (s : Mst) : List Int := (setsTo P 128).map fun a => ixP P (s.nx a.toNat)
def trL (P : Nat → Bool) (s : Mst) : List Bool := (setsTo P 128).map fun a => s.tr a.toNat
theorem bfL_len (s : Mst) : (bfL P s).length = (setsTo P 128).length := by simp [bfL]
theorem nxL_len (s : Mst) : (nxL P s).length = (setsTo P 128).length := by simp [nxL]
theorem trL_len (s : Mst) : (trL P s).length = (setsTo P 128).length := by simp [trL]
theorem bfL_at (s : Mst) {j : Nat} (hj : j < (setsTo P 128).length) : (bfL P s)[j]?.getD 0 = ixP P (s.bf (nth (setsTo P 128) j)) := by unfold bfL nth; simp [hj]
theorem nxL_at (s : Mst) {j : Nat} (hj : j < (setsTo P 128).length) : (nxL P s)[j]?.getD 0 = ixP P (s.nx (nth (setsTo P 128) j)) := by unfold nxL nth; simp [hj]
theorem trL_at (s : Mst) {j : Nat} (hj : j < (setsTo P 128).length) : (trL P s)[j]?.getD false = s.tr (nth (setsTo P 128) j) := by unfold trL nth; simp [hj]
theorem nth_ne {i j : Nat} (hi : i < (setsTo P 128).length) (hj : j < (setsTo P 128).length) (h : j ≠ i) : ((setsTo P 128)[j]?.getD 0).toNat ≠ nth (setsTo P 128) i := fun e => h (nth_inj hj hi e)
theorem bfL_put (s : Mst) {i j : Nat} (hi : i < (setsTo P 128).length) (hj : j < (setsTo P 128).length) : (bfL P s).set i (j : Int) = bfL P (s.put (nth (setsTo P 128) j) (nth (setsTo P 128) i)) := by
  have h := map_setW (P := P) i (fun a => ixP P (s.bf a.toNat)) (fun a => ixP P ((s.put (nth (setsTo P 128) j) (nth (setsTo P 128) i)).bf a.toNat)) hi (fun k hk hne => by
    show ixP P (updM s.bf (nth (setsTo P 128) i) (nth (setsTo P 128) j) _) = _
    rw [updM_ne (nth_ne hi hk hne)])
  rw [← show ixP P ((s.put (nth (setsTo P 128) j) (nth (setsTo P 128) i)).bf ((setsTo P 128)[i]?.getD 0).toNat) = (j : Int) from by
    show ixP P (updM s.bf (nth (setsTo P 128) i) (nth (setsTo P 128) j) (nth (setsTo P 128) i)) = _
    rw [updM_at, ix_nth hj]]
  exact h
theorem nxL_put (s : Mst) {i j : Nat} (hi : i < (setsTo P 128).length) (hj : j < (setsTo P 128).length) : (nxL P s).set j (i : Int) = nxL P (s.put (nth (setsTo P 128) j) (nth (setsTo P 128) i)) := by
  have h := map_setW (P := P) j (fun a => ixP P (s.nx a.toNat)) (fun a => ixP P ((s.put (nth (setsTo P 128) j) (nth (setsTo P 128) i)).nx a.toNat)) hj (fun k hk hne => by
    show ixP P (updM s.nx (nth (setsTo P 128) j) (nth (setsTo P 128) i) _) = _
    rw [updM_ne (nth_ne hj hk hne)])
  rw [← show ixP P ((s.put (nth (setsTo P 128) j) (nth (setsTo P 128) i)).nx ((setsTo P 128)[j]?.getD 0).toNat) = (i : Int) from by
    show ixP P (updM s.nx (nth (setsTo P 128) j) (nth (setsTo P 128) i) (nth (setsTo P 128) j)) = _
    rw [updM_at, ix_nth hi]]
  exact h
theorem trL_mark (s : Mst) {j : Nat} (hj : j < (setsTo P 128).length) : (trL P s).set j true = trL P (s.mark (nth (setsTo P 128) j)) := by
  have h := map_setW (P := P) j (fun a => s.tr a.toNat) (fun a => (s.mark (nth (setsTo P 128) j)).tr a.toNat) hj (fun k hk hne => by
    show upd s.tr (nth (setsTo P 128) j) true _ = _
    unfold upd
    rw [if_neg (nth_ne hj hk hne)])
  rw [← show (s.mark (nth (setsTo P 128) j)).tr ((setsTo P 128)[j]?.getD 0).toNat = true from by
    show upd s.tr (nth (setsTo P 128) j) true (nth (setsTo P 128) j) = _
    unfold upd; rw [if_pos rfl]]
  exact h
theorem part_leW {a b : Nat} (h : andNot a b = 0) : a ≤ b := by
  have : a = a &&& b := by
    apply Nat.eq_of_testBit_eq
    intro i
    have h1 : (andNot a b).testBit i = false := by rw [h]; simp
    unfold andNot at h1
    rw [Nat.testBit_xor] at h1
    cases h2 : a.testBit i <;> cases h3 : (a &&& b).testBit i <;> simp_all
  rw [this]
  exact Nat.and_le_right
end
end Go.Proofs.Ytblglkgmnaklbaa
