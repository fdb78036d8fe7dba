/- Mathematics: how many of some lists are different; what a set of lists keeps. The specification's comparison of two lists. -/
import Derived.Test.YtknjiomagdfgfaaDoorAm
import Derived.Test.YtknjiomagdfgfaaDoorRw
namespace Go.Proofs.YtknjiomagdfgfaaDoor
open Go.RowKit
open Go.Maps (Keyed)
set_option maxRecDepth 100000
set_option linter.unusedSimpArgs false
theorem ownsW_keys {w : World} {b n : Nat} {D : DataW Unit} (h : ownsW w b n D) : ∃ es, D = .map es ∧ ∀ p ∈ es, ∃ l, l.length = 7 ∧ i64s l ∧ p.1 = kk l := by
  obtain ⟨es, clock, _, F, _, rfl⟩ := h
  refine ⟨_, rfl, fun p hp => ?_⟩
  obtain ⟨x, hx, rfl⟩ := List.mem_map.1 (mem_sorted.1 hp)
  obtain ⟨y, hy⟩ := F.reads x hx
  rw [WideElems.rg_of hy]
  obtain ⟨l, _, h1, h2, h3⟩ := keyOf7_inv (WideElems.rd_key hy)
  exact ⟨l, h1, h2, h3⟩
theorem size_zero {w : World} {b n : Nat} {D : DataW Unit} (h : ownsW w b n D) (hh : ∀ l : List Int, l.length = 7 → i64s l → Maps.has D (kk l) = false) : Maps.size D = 0 := by
  obtain ⟨es, rfl, hk⟩ := ownsW_keys h
  cases es with
  | nil => rfl
  | cons p es =>
    obtain ⟨l, h1, h2, h3⟩ := hk p (by simp)
    have := hh l h1 h2
    rw [Maps.has_eq, ← h3] at this
    simp [h3, kk, Lit.sameKey] at this
theorem size_pos {D : DataW Unit} {kl : Lit} (h : Maps.has D kl = true) (hm : Maps.IsMap D) : Maps.size D ≠ 0 := by
  obtain ⟨es, rfl⟩ := hm
  intro h0
  rw [Maps.size_eq] at h0
  have : es = [] := List.eq_nil_of_length_eq_zero h0
  subst this
  cases h
theorem cast_eq_dec (a b : Nat) : ((a : Int) == (b : Int)) = decide (a = b) := by
  by_cases h : a = b
  · rw [decide_eq_true h, h]; simp
  · rw [decide_eq_false h]; simp; omega
/-- The different ones of the first k lists. -/
def difL (L : List (List Int)) : Nat → List (List Int)
  | 0 => []
  | k + 1 => if (difL L k).any (fun m => decide (m = L[k]?.getD [])) then difL L k else difL L k ++ [L[k]?.getD []]
theorem dif_in (L : List (List Int)) : ∀ k, ∀ m ∈ difL L k, ∃ j, j < k ∧ m = L[j]?.getD []
  | 0, m, h => by simp [difL] at h
  | k + 1, m, h => by
    rw [difL] at h
    split at h
    · obtain ⟨j, hj, e⟩ := dif_in L k m h
      exact ⟨j, by omega, e⟩
    · rw [List.mem_append] at h
      rcases h with h | h
      · obtain ⟨j, hj, e⟩ := dif_in L k m h
        exact ⟨j, by omega, e⟩
      · exact ⟨k, by omega, by simpa using h⟩
theorem dif_len (L : List (List Int)) : ∀ k, (difL L k).length ≤ k
  | 0 => by simp [difL]
  | k + 1 => by
    have := dif_len L k
    rw [difL]
    split
    · omega
    · rw [List.length_append, List.length_singleton]; omega
theorem any_congr' {α : Type} {l : List α} {f g : α → Bool} (h : ∀ x ∈ l, f x = g x) : l.any f = l.any g := by
  induction l with
  | nil => rfl
  | cons x l ih =>
    rw [List.any_cons, List.any_cons, h x (by simp), ih fun y hy => h y (by simp [hy])]
theorem keys_fold {n : Nat} (h7 : n ≤ 7) (L : List (List Int)) (hl : ∀ j, j < L.length → (L[j]?.getD []).length = n) (hw : ∀ j, j < L.length → i64s (L[j]?.getD [])) : ∀ k, k ≤ L.length → (keysOf L k).foldl Maps.addKey [] = (difL L k).map fun l => kk (pad7 l)
  | 0, _ => rfl
  | k + 1, hk => by
    have ih := keys_fold h7 L hl hw k (by omega)
    have hk2 : k < L.length := by omega
    have e : keysOf L (k + 1) = keysOf L k ++ [kk (pad7 (L[k]?.getD []))] := by
      unfold keysOf
      rw [List.take_add_one, List.map_append, List.getElem?_eq_getElem hk2]
      rfl
    rw [e, List.foldl_append, ih]
    show Maps.addKey _ _ = _
    unfold Maps.addKey
    have ha : ((difL L k).map fun l => kk (pad7 l)).any (fun y => y.sameKey (kk (pad7 (L[k]?.getD [])))) = (difL L k).any (fun m => decide (m = L[k]?.getD [])) := by
      rw [List.any_map]
      refine any_congr' fun m hm => ?_
      obtain ⟨j, hj, rfl⟩ := dif_in L k m hm
      have l1 := hl j (by omega)
      have l2 := hl k hk2
      show (kk (pad7 (L[j]?.getD []))).sameKey (kk (pad7 (L[k]?.getD []))) = _
      rw [same_kk (pad7_len (by omega)) (pad7_wf (hw k hk2)) (pad7_len (by omega)) (pad7_wf (hw j (by omega))), decide_eq_decide]
      exact ⟨fun e => pad7_inj (by omega) e.symm, fun e => by rw [e]⟩
    rw [ha, difL]
    split
    · rfl
    · rw [List.map_append]; rfl
theorem kk_key (l : List Int) : WideAt.IsKeyLit (kk l) := trivial
theorem mapD_size {n : Nat} (h7 : n ≤ 7) (L : List (List Int)) (hl : ∀ j, j < L.length → (L[j]?.getD []).length = n) (hw : ∀ j, j < L.length → i64s (L[j]?.getD [])) : Maps.size (mapD L L.length) = (difL L L.length).length := by
  unfold mapD
  rw [Maps.size_setOf bT (keysOf L L.length) (fun x hx => by obtain ⟨l, _, rfl⟩ := List.mem_map.1 hx; exact kk_key _), keys_fold h7 L hl hw L.length (Nat.le_refl _), List.length_map]
theorem mapD_has (L : List (List Int)) (kl : Lit) : Maps.has (mapD L L.length) kl = (keysOf L L.length).any (fun x => x.sameKey kl) := by
  unfold mapD
  exact Maps.has_setOf bT kl (keysOf L L.length) (fun x hx => by obtain ⟨l, _, rfl⟩ := List.mem_map.1 hx; exact kk_key _)
theorem fw_pad {F : Nat → Bool} {n : Nat} {m : List Int} (h : m.length = n) : fw F n (pad7 m) = wordB F n m := by
  have e : (pad7 m).take n = m := by
    unfold pad7
    rw [List.take_append_of_le_length (by omega), List.take_of_length_le (by omega)]
  unfold fw
  rw [e, decide_eq_true h, Bool.true_and]
/-- Whether the first k lists are full words. -/
def fulB (n : Int) (l : List Int) (L : List (List Int)) : Nat → Bool
  | 0 => true
  | k + 1 => fulB n l L k && okFu n l (L[k]?.getD [])
theorem fulB_iff (n : Int) (l : List Int) (L : List (List Int)) : ∀ k, fulB n l L k = true ↔ ∀ j, j < k → okFu n l (L[j]?.getD []) = true
  | 0 => by simp [fulB]
  | k + 1 => by
    rw [fulB, Bool.and_eq_true, fulB_iff n l L k]
    constructor
    · rintro ⟨h1, h2⟩ j hj
      rcases Nat.lt_or_ge j k with h | h
      · exact h1 j h
      · have : j = k := by omega
        subst this; exact h2
    · intro h
      exact ⟨fun j hj => h j (by omega), h k (by omega)⟩
theorem fulB_false {n : Int} {l : List Int} {L : List (List Int)} {k : Nat} (h : okFu n l (L[k]?.getD []) = false) (m : Nat) (hm : k < m) : fulB n l L m = false := by
  cases h2 : fulB n l L m
  · rfl
  · have := (fulB_iff n l L m).1 h2 k hm
    rw [this] at h; cases h
def arOk (n : Int) (l : List Int) (L : List (List Int)) : Bool := okSp n l && decide (L.length ≤ 200)
def arB (n : Int) (l : List Int) (L : List (List Int)) : Bool := arOk n l L && (fulB n l L L.length && decide ((difL L L.length).length = cnt (marksTo l l.length) n.toNat 0))
theorem ar_no {n : Int} {l : List Int} {L : List (List Int)} (h : arOk n l L = false) : arB n l L = false ∧ arOk n l L = false := by simp [arB, h]
theorem ar_yes {n : Int} {l : List Int} {L : List (List Int)} (h : arOk n l L = true) : arB n l L = (fulB n l L L.length && decide ((difL L L.length).length = cnt (marksTo l l.length) n.toNat 0)) ∧ arOk n l L = true := by simp [arB, h]
/-- The program's way to the answer. -/
theorem ar_prog {w : World} {b c : Nat} {N : Nat} {l : List Int} {L : List (List Int)} {D : DataW Unit} {t : Nat} (hok : okSp (N : Int) l = true) (h7 : N ≤ 7) (hlen : lenB N L L.length = true) (hw : ∀ j, j < L.length → i64s (L[j]?.getD []))
    (ho : ownsW w b c D) (ht : t + Maps.size D = Maps.size (mapD L L.length)) (hh : ∀ l2 : List Int, l2.length = 7 → i64s l2 → Maps.has D (kk l2) = (Maps.has (mapD L L.length) (kk l2) && !fw (marksTo l l.length) N l2)) :
    (fulB (N : Int) l L L.length = true → Maps.size D = 0 ∧ t = (difL L L.length).length) ∧ (fulB (N : Int) l L L.length = false → Maps.size D ≠ 0) := by
  have hl := (lenB_iff N L L.length).1 hlen
  have hsz := mapD_size h7 L hl hw
  have hfu : ∀ j, j < L.length → okFu (N : Int) l (L[j]?.getD []) = wordB (marksTo l l.length) N (L[j]?.getD []) := fun j hj => by
    have e : ((L[j]?.getD []).length : Int) = (N : Int) := by rw [hl j hj]
    rw [okFu_eq e, okWd_yes hok, Int.toNat_natCast]
  constructor
  · intro hf
    have hf2 := (fulB_iff (N : Int) l L L.length).1 hf
    have h0 : Maps.size D = 0 := size_zero ho fun l2 h1 h2 => by
      rw [hh l2 h1 h2, mapD_has]
      cases ha : (keysOf L L.length).any (fun x => x.sameKey (kk l2))
      · rfl
      · obtain ⟨x, hx, hs⟩ := List.any_eq_true.1 ha
        unfold keysOf at hx
        rw [List.take_length] at hx
        obtain ⟨m, hm, rfl⟩ := List.mem_map.1 hx
        obtain ⟨j, hj, rfl⟩ := List.mem_iff_getElem.1 hm
        have e : L[j]?.getD [] = L[j] := by rw [List.getElem?_eq_getElem hj]; rfl
        have hlj := hl j hj
        have hwj := hw j hj
        have hfj := hfu j hj
        rw [hf2 j hj] at hfj
        rw [e] at hlj hwj hfj
        rw [same_kk h1 h2 (pad7_len (by omega)) (pad7_wf hwj), decide_eq_true_eq] at hs
        rw [hs, fw_pad hlj, ← hfj]
        rfl
    exact ⟨h0, by omega⟩
  · intro hf
    have hne : ¬ ∀ j, j < L.length → okFu (N : Int) l (L[j]?.getD []) = true := fun h => by
      rw [(fulB_iff (N : Int) l L L.length).2 h] at hf; cases hf
    have hex : ∃ j, j < L.length ∧ okFu (N : Int) l (L[j]?.getD []) = false := by
      refine Classical.byContradiction fun hc => hne fun j hj => ?_
      cases ho2 : okFu (N : Int) l (L[j]?.getD [])
      · exact absurd ⟨j, hj, ho2⟩ hc
      · rfl
    obtain ⟨j, hj, hj2⟩ := hex
    have hlj := hl j hj
    refine size_pos (kl := kk (pad7 (L[j]?.getD []))) ?_ (World.ownsMap.isMap ho)
    rw [hh _ (pad7_len (by omega)) (pad7_wf (hw j hj)), fw_pad hlj, ← hfu j hj, hj2, mapD_has]
    have : (keysOf L L.length).any (fun x => x.sameKey (kk (pad7 (L[j]?.getD [])))) = true := by
      refine List.any_eq_true.2 ⟨kk (pad7 (L[j]?.getD [])), ?_, WideAt.sameKey_self (kk_key _)⟩
      unfold keysOf
      rw [List.take_length]
      exact List.mem_map.2 ⟨L[j]?.getD [], by rw [List.getElem?_eq_getElem hj]; exact List.getElem_mem hj, rfl⟩
    rw [this]
    rfl
end Go.Proofs.YtknjiomagdfgfaaDoor
