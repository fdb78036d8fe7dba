/- SpaceOfClauses: mathematics: what can be learnt by clauses, made in two ways. -/
import Derived.Test.YtonimjpfaalniaaDoorWl
namespace Go.Proofs.YtonimjpfaalniaaDoor
open Go.RowKit
set_option maxRecDepth 100000
theorem pc_zeroC : ∀ x, x < 128 → pc x = 0 → x = 0 := by decide +kernel
theorem an0C (a b : Nat) : andNot a b = 0 ↔ ∀ i, a.testBit i = true → b.testBit i = true := by
  constructor
  · intro h i hi
    have := andNot_bit a b i
    rw [h, Nat.zero_testBit, hi] at this
    simpa using this
  · intro h
    apply Nat.eq_of_testBit_eq
    intro i
    rw [andNot_bit, Nat.zero_testBit]
    cases hi : a.testBit i
    · rfl
    · simp [h i hi]
def scI (L : List (List Int)) (k : Nat) : Nat := ((L[k]?.getD [])[0]?.getD 0).toNat
def scM (L : List (List Int)) (k : Nat) : Nat := ((L[k]?.getD [])[1]?.getD 0).toNat
def rowOk (n : Int) (r : List Int) : Bool := decide (r.length = 2) && (decide ((0 : Int) ≤ r[0]?.getD (0 : Int) ∧ r[0]?.getD (0 : Int) < n) && (decide ((0 : Int) ≤ r[1]?.getD (0 : Int) ∧ r[1]?.getD (0 : Int) ≤ (low n.toNat : Int)) && !((r[1]?.getD (0 : Int)).toNat.testBit (r[0]?.getD (0 : Int)).toNat)))
def rowsOk (n : Int) (L : List (List Int)) : Nat → Bool
  | 0 => true
  | k + 1 => rowsOk n L k && rowOk n (L[k]?.getD [])
theorem rowsOk_iff (n : Int) (L : List (List Int)) : ∀ k, rowsOk n L k = true ↔ ∀ j, j < k → rowOk n (L[j]?.getD []) = true
  | 0 => by simp [rowsOk]
  | k + 1 => by
    rw [rowsOk, Bool.and_eq_true, rowsOk_iff n L k]
    constructor
    · rintro ⟨h1, h2⟩ j hj
      rcases Nat.lt_or_ge j k with h | h
      · exact h1 j h
      · have : j = k := by omega
        subst this; exact h2
    · intro h
      exact ⟨fun j hj => h j (by omega), h k (by omega)⟩
theorem rowsOk_false {n : Int} {L : List (List Int)} {k : Nat} (h : rowOk n (L[k]?.getD []) = false) (m : Nat) (hm : k < m) : rowsOk n L m = false := by
  cases h2 : rowsOk n L m
  · rfl
  · have := (rowsOk_iff n L m).1 h2 k hm
    rw [this] at h; cases h
theorem rowOk_in {n : Int} {r : List Int} (h : rowOk n r = true) (_h7 : n ≤ 7) : r.length = 2 ∧ (∃ i s : Nat, r = [(i : Int), (s : Int)] ∧ (i : Int) < n ∧ s ≤ low n.toNat ∧ s.testBit i = false) := by
  unfold rowOk at h
  simp only [Bool.and_eq_true, decide_eq_true_eq, Bool.not_eq_true'] at h
  obtain ⟨h1, ⟨h2, h3⟩, ⟨h4, h5⟩, h6⟩ := h
  obtain ⟨x, y, rfl⟩ : ∃ x y, r = [x, y] := by
    match r, h1 with
    | [x, y], _ => exact ⟨x, y, rfl⟩
  simp only [List.getElem?_cons_zero, List.getElem?_cons_succ, Option.getD_some] at *
  obtain ⟨i, rfl⟩ := Int.eq_ofNat_of_zero_le h2
  obtain ⟨s, rfl⟩ := Int.eq_ofNat_of_zero_le h4
  exact ⟨rfl, i, s, rfl, h3, by omega, by simpa using h6⟩
/-- What can be learnt. -/
inductive Rch (L : List (List Int)) : Nat → Prop
  | zero : Rch L 0
  | step (a k : Nat) : Rch L a → k < L.length → andNot (scM L k) a = 0 → a.testBit (scI L k) = false → Rch L (a ||| p2 (scI L k))
theorem or_p2_has {a i : Nat} (h : a.testBit i = true) : a ||| p2 i = a := by
  apply Nat.eq_of_testBit_eq
  intro j
  rw [Nat.testBit_or, p2_bit]
  by_cases e : i = j
  · subst e; rw [h]; rfl
  · rw [decide_eq_false e, Bool.or_false]
theorem Rch.put {L : List (List Int)} {a k : Nat} (h : Rch L a) (hk : k < L.length) (hm : andNot (scM L k) a = 0) : Rch L (a ||| p2 (scI L k)) := by
  cases hb : a.testBit (scI L k)
  · exact .step a k h hk hm hb
  · rw [or_p2_has hb]; exact h
theorem or_ge (a b : Nat) : a ≤ a ||| b := Nat.left_le_or
theorem or_eq_has {a i : Nat} (h : a ||| p2 i = a) : a.testBit i = true := by
  have := congrArg (fun x => Nat.testBit x i) h
  simp only [Nat.testBit_or, p2_bit, decide_true, Bool.or_true] at this
  exact this.symm
/-! ### The program's way -/
def lbIn (L : List (List Int)) (s : Nat) (F : Nat → Bool) : Nat → (Nat → Bool)
  | 0 => F
  | k + 1 => if lbIn L s F k s = true ∧ andNot (scM L k) s = 0 then upd (lbIn L s F k) (s ||| p2 (scI L k)) true else lbIn L s F k
def lbOut (L : List (List Int)) : Nat → (Nat → Bool)
  | 0 => upd noSet 0 true
  | s + 1 => lbIn L s (lbOut L s) L.length
theorem lbIn_yes {L : List (List Int)} {s : Nat} {F : Nat → Bool} {k : Nat} (h : lbIn L s F k s = true ∧ andNot (scM L k) s = 0) : lbIn L s F (k + 1) = upd (lbIn L s F k) (s ||| p2 (scI L k)) true := by rw [lbIn, if_pos h]
theorem lbIn_no {L : List (List Int)} {s : Nat} {F : Nat → Bool} {k : Nat} (h : ¬ (lbIn L s F k s = true ∧ andNot (scM L k) s = 0)) : lbIn L s F (k + 1) = lbIn L s F k := by rw [lbIn, if_neg h]
theorem lbIn_low (L : List (List Int)) (s : Nat) (F : Nat → Bool) (x : Nat) (hx : x ≤ s) : ∀ k, lbIn L s F k x = F x
  | 0 => rfl
  | k + 1 => by
    have ih := lbIn_low L s F x hx k
    by_cases h : lbIn L s F k s = true ∧ andNot (scM L k) s = 0
    · rw [lbIn_yes h]
      unfold upd
      split
      · rename_i e
        have := or_ge s (p2 (scI L k))
        have : x = s := by omega
        subst this
        rw [← ih, h.1]
      · exact ih
    · rw [lbIn_no h]; exact ih
theorem lbIn_up (L : List (List Int)) (s : Nat) (F : Nat → Bool) (x k : Nat) (h : lbIn L s F k x = true) : lbIn L s F (k + 1) x = true := by
  by_cases h2 : lbIn L s F k s = true ∧ andNot (scM L k) s = 0
  · rw [lbIn_yes h2]
    unfold upd
    split
    · rfl
    · exact h
  · rw [lbIn_no h2]; exact h
theorem lbIn_mono (L : List (List Int)) (s : Nat) (F : Nat → Bool) (x : Nat) : ∀ d k, lbIn L s F k x = true → lbIn L s F (k + d) x = true
  | 0, _, h => h
  | d + 1, k, h => lbIn_up L s F x (k + d) (lbIn_mono L s F x d k h)
theorem lbIn_hit (L : List (List Int)) (s : Nat) (F : Nat → Bool) (hs : F s = true) (k K : Nat) (hk : k < K) (hm : andNot (scM L k) s = 0) : lbIn L s F K (s ||| p2 (scI L k)) = true := by
  have h1 : lbIn L s F (k + 1) (s ||| p2 (scI L k)) = true := by
    rw [lbIn_yes ⟨by rw [lbIn_low L s F s (Nat.le_refl _)]; exact hs, hm⟩]
    unfold upd; rw [if_pos rfl]
  obtain ⟨d, rfl⟩ := Nat.exists_eq_add_of_le (show k + 1 ≤ K from hk)
  exact lbIn_mono L s F _ d _ h1
theorem lbIn_rch (L : List (List Int)) (s : Nat) (F : Nat → Bool) (hF : ∀ x, F x = true → Rch L x) : ∀ k, k ≤ L.length → ∀ x, lbIn L s F k x = true → Rch L x
  | 0, _ => hF
  | k + 1, hk => fun x hx => by
    have ih := lbIn_rch L s F hF k (by omega)
    by_cases h2 : lbIn L s F k s = true ∧ andNot (scM L k) s = 0
    · rw [lbIn_yes h2] at hx
      unfold upd at hx
      split at hx
      · rename_i e; subst e
        exact (ih s h2.1).put (by omega) h2.2
      · exact ih x hx
    · rw [lbIn_no h2] at hx; exact ih x hx
theorem lbOut_rch (L : List (List Int)) : ∀ t x, lbOut L t x = true → Rch L x
  | 0, x, h => by
    simp only [lbOut, upd, noSet] at h
    split at h
    · rename_i e; subst e; exact .zero
    · cases h
  | t + 1, x, h => lbIn_rch L t (lbOut L t) (lbOut_rch L t) _ (Nat.le_refl _) x h
theorem lbOut_mono (L : List (List Int)) (x : Nat) : ∀ d t, lbOut L t x = true → lbOut L (t + d) x = true
  | 0, _, h => h
  | d + 1, t, h => by
    have := lbIn_mono L (t + d) (lbOut L (t + d)) x L.length 0 (lbOut_mono L x d t h)
    rw [Nat.zero_add] at this
    exact this
theorem rch_lb {L : List (List Int)} {x : Nat} (h : Rch L x) : lbOut L x x = true := by
  induction h with
  | zero => simp [lbOut, upd]
  | step a k h hk hm hb ih =>
    have h1 := lbIn_hit L a (lbOut L a) ih k L.length hk hm
    have h2 : lbOut L (a + 1) (a ||| p2 (scI L k)) = true := h1
    have h3 : a + 1 ≤ a ||| p2 (scI L k) := by
      have := or_ge a (p2 (scI L k))
      rcases Nat.lt_or_ge a (a ||| p2 (scI L k)) with h | h
      · exact h
      · have e : a ||| p2 (scI L k) = a := by omega
        rw [or_eq_has e] at hb; cases hb
    obtain ⟨d, hd⟩ := Nat.exists_eq_add_of_le h3
    have := lbOut_mono L (a ||| p2 (scI L k)) d _ h2
    rw [← hd] at this
    exact this
theorem lb_iff (L : List (List Int)) (N : Nat) (hN : ∀ x, Rch L x → x < N) (x : Nat) : lbOut L N x = true ↔ Rch L x := by
  refine ⟨lbOut_rch L N x, fun h => ?_⟩
  obtain ⟨d, hd⟩ := Nat.exists_eq_add_of_le (Nat.le_of_lt (hN x h))
  have := lbOut_mono L x d _ (rch_lb h)
  rw [← hd] at this
  exact this
/-! ### The specification's way -/
def scC (L : List (List Int)) (k a d : Nat) : Bool := decide (pc a = k) && (!a.testBit (scI L d) && decide (andNot (scM L d) a = 0))
def scIn (L : List (List Int)) (k a : Nat) (F : Nat → Bool) : Nat → (Nat → Bool)
  | 0 => F
  | d + 1 => if scC L k a d = true then upd (scIn L k a F d) (a ||| p2 (scI L d)) true else scIn L k a F d
def scMid (L : List (List Int)) (k : Nat) (S : List Int) (F : Nat → Bool) : Nat → (Nat → Bool)
  | 0 => F
  | j + 1 => scIn L k (nth S j) (scMid L k S F j) L.length
def scOut (L : List (List Int)) : Nat → (Nat → Bool)
  | 0 => upd noSet 0 true
  | k + 1 => scMid L k (setsTo (scOut L k) 128) (scOut L k) (setsTo (scOut L k) 128).length
theorem scIn_iff (L : List (List Int)) (k a : Nat) (F : Nat → Bool) (x : Nat) : ∀ D, scIn L k a F D x = true ↔ F x = true ∨ ∃ d, d < D ∧ scC L k a d = true ∧ x = a ||| p2 (scI L d)
  | 0 => by simp [scIn]
  | D + 1 => by
    have ih := scIn_iff L k a F x D
    constructor
    · intro h
      rw [scIn] at h
      split at h
      · rename_i hc
        unfold upd at h
        split at h
        · rename_i e; exact .inr ⟨D, by omega, hc, e⟩
        · rcases ih.1 h with h | ⟨d, h1, h2⟩
          · exact .inl h
          · exact .inr ⟨d, by omega, h2⟩
      · rcases ih.1 h with h | ⟨d, h1, h2⟩
        · exact .inl h
        · exact .inr ⟨d, by omega, h2⟩
    · intro h
      rw [scIn]
      have hrec : (F x = true ∨ ∃ d, d < D ∧ scC L k a d = true ∧ x = a ||| p2 (scI L d)) → (if scC L k a D = true then upd (scIn L k a F D) (a ||| p2 (scI L D)) true else scIn L k a F D) x = true := fun h => by
        split
        · unfold upd
          split
          · rfl
          · exact ih.2 h
        · exact ih.2 h
      rcases h with h | ⟨d, h1, h2, h3⟩
      · exact hrec (.inl h)
      · rcases Nat.lt_or_ge d D with hd | hd
        · exact hrec (.inr ⟨d, hd, h2, h3⟩)
        · have : d = D := by omega
          subst this
          rw [if_pos h2]
          unfold upd
          rw [if_pos h3]
theorem scMid_iff (L : List (List Int)) (k : Nat) (S : List Int) (F : Nat → Bool) (x : Nat) : ∀ J, scMid L k S F J x = true ↔ F x = true ∨ ∃ j, j < J ∧ ∃ d, d < L.length ∧ scC L k (nth S j) d = true ∧ x = nth S j ||| p2 (scI L d)
  | 0 => by simp [scMid]
  | J + 1 => by
    rw [scMid, scIn_iff, scMid_iff L k S F x J]
    constructor
    · rintro ((h | ⟨j, h1, h2⟩) | ⟨d, h⟩)
      · exact .inl h
      · exact .inr ⟨j, by omega, h2⟩
      · exact .inr ⟨J, by omega, d, h⟩
    · rintro (h | ⟨j, h1, h2⟩)
      · exact .inl (.inl h)
      · rcases Nat.lt_or_ge j J with hj | hj
        · exact .inl (.inr ⟨j, hj, h2⟩)
        · have : j = J := by omega
          subst this
          exact .inr h2
theorem pc_put : ∀ x, x < 128 → ∀ i, i < 7 → x.testBit i = false → pc (x ||| p2 i) = pc x + 1 := by decide +kernel
theorem pc_low : ∀ n, n ≤ 7 → ∀ x, x < 128 → x < 2 ^ n → pc x ≤ n := by decide +kernel
theorem scC_iff {L : List (List Int)} {k a d : Nat} : scC L k a d = true ↔ pc a = k ∧ a.testBit (scI L d) = false ∧ andNot (scM L d) a = 0 := by
  unfold scC
  rw [Bool.and_eq_true, Bool.and_eq_true, decide_eq_true_eq, decide_eq_true_eq, Bool.not_eq_true']
theorem scOut_iff (L : List (List Int)) (h128 : ∀ x, Rch L x → x < 128) (h7 : ∀ k, k < L.length → scI L k < 7) (x : Nat) : ∀ k, scOut L k x = true ↔ Rch L x ∧ pc x ≤ k := by
  intro k
  induction k generalizing x with
  | zero =>
    have hp0 : pc 0 = 0 := by decide
    constructor
    · intro h
      simp only [scOut, upd, noSet] at h
      split at h
      · rename_i e; subst e; exact ⟨.zero, by omega⟩
      · cases h
    · rintro ⟨h1, h2⟩
      have := pc_zeroC x (h128 x h1) (by omega)
      subst this
      simp [scOut, upd]
  | succ k ih =>
    rw [scOut, scMid_iff]
    constructor
    · rintro (h | ⟨j, h1, d, h2, h3, rfl⟩)
      · have := (ih x).1 h
        exact ⟨this.1, by omega⟩
      · have h4 := (ih _).1 (sets_of (scOut L k) 128 j h1)
        rw [scC_iff] at h3
        have h5 := pc_put _ (h128 _ h4.1) _ (h7 d h2) h3.2.1
        exact ⟨.step _ d h4.1 h2 h3.2.2 h3.2.1, by omega⟩
    · rintro ⟨h1, h2⟩
      by_cases hle : pc x ≤ k
      · exact .inl ((ih x).2 ⟨h1, hle⟩)
      · refine .inr ?_
        cases h1 with
        | zero => exact absurd (show pc 0 ≤ k by rw [show pc 0 = 0 by decide]; omega) hle
        | step a d h hd hm hb =>
          have h5 := pc_put a (h128 a h) _ (h7 d hd) hb
          have hak : pc a = k := by omega
          obtain ⟨j, hj, hj2⟩ := sets_mem (scOut L k) 128 a (h128 a h) ((ih a).2 ⟨h, by omega⟩)
          exact ⟨j, hj, d, hd, by rw [hj2, scC_iff]; exact ⟨hak, hb, hm⟩, by rw [hj2]⟩
/-! ### Both together -/
theorem rch_lt {L : List (List Int)} {n : Nat} (hI : ∀ k, k < L.length → scI L k < n) {x : Nat} (h : Rch L x) : x < 2 ^ n := by
  induction h with
  | zero => exact Nat.two_pow_pos n
  | step a k h hk hm hb ih => exact Nat.or_lt_two_pow ih (Nat.pow_lt_pow_right (by omega) (hI k hk))
theorem rch_or {L : List (List Int)} {a b : Nat} (ha : Rch L a) (hb : Rch L b) : Rch L (a ||| b) := by
  induction hb with
  | zero => rw [Nat.or_zero]; exact ha
  | step b k h hk hm hb ih =>
    rw [← Nat.or_assoc]
    refine ih.put hk ?_
    rw [an0C] at hm ⊢
    intro i hi
    rw [Nat.testBit_or, hm i hi, Bool.or_true]
theorem andNot_put {a i : Nat} (h : a.testBit i = false) : andNot (a ||| p2 i) (p2 i) = a := by
  apply Nat.eq_of_testBit_eq
  intro j
  rw [andNot_bit, Nat.testBit_or, p2_bit]
  by_cases e : i = j
  · subst e; rw [h]; simp
  · rw [decide_eq_false e]; simp
def scF (n : Nat) (L : List (List Int)) : Nat → Bool := lbOut L (2 ^ n)
theorem sc_same {n : Nat} {L : List (List Int)} (hn : n ≤ 7) (hI : ∀ k, k < L.length → scI L k < n) : setsTo (scOut L n) 128 = setsTo (scF n L) 128 := by
  have h128 : ∀ x, Rch L x → x < 128 := fun x h => by have := rch_lt hI h; have := p2_le n 7 hn; omega
  refine setsTo_congr _ fun x _ => ?_
  rw [Bool.eq_iff_iff, scOut_iff L h128 (fun k hk => by have := hI k hk; omega), scF, lb_iff L (2 ^ n) (fun x h => rch_lt hI h)]
  exact ⟨fun h => h.1, fun h => ⟨h, pc_low n hn x (h128 x h) (rch_lt hI h)⟩⟩
theorem sc_good {n : Nat} {L : List (List Int)} (h1 : 1 ≤ n) (hn : n ≤ 7) (hI : ∀ k, k < L.length → scI L k < n) : goodB (n : Int) (setsTo (scF n L) 128) = scF n L (low n) := by
  have hF := lb_iff L (2 ^ n) (fun x h => rch_lt hI h)
  have hlt : ∀ x, scF n L x = true → x < 2 ^ n := fun x h => rch_lt hI ((hF x).1 h)
  rw [← ok_good, okSp_sets n _ h1 hn hlt]
  cases hfull : scF n L (low n)
  · rw [← Bool.not_eq_true]
    intro h
    rw [((spc_iff hn hlt).1 h).full] at hfull; cases hfull
  · refine (spc_iff hn hlt).2 ⟨hlt, (hF 0).2 .zero, hfull, fun s hs h0 => ?_, fun a b ha hb => (hF _).2 (rch_or ((hF a).1 ha) ((hF b).1 hb))⟩
    have hs2 := (hF s).1 hs
    cases hs2 with
    | zero => exact absurd rfl h0
    | step a k h hk hm hb => exact ⟨scI L k, hI k hk, by rw [Nat.testBit_or, p2_bit]; simp, by rw [andNot_put hb]; exact (hF a).2 h⟩
def scA (n : Int) (L : List (List Int)) : Bool := decide (1 ≤ n ∧ n ≤ 7) && (decide (L.length ≤ 60) && rowsOk n L L.length)
def scB (n : Int) (L : List (List Int)) : Bool := scA n L && scF n.toNat L (low n.toNat)
def scN (n : Int) (L : List (List Int)) : Int := if scB n L then n else 0
def scL (n : Int) (L : List (List Int)) : List Int := if scB n L then setsTo (scF n.toNat L) 128 else []
theorem scL_len (n : Int) (L : List (List Int)) : (scL n L).length < 1000000000 := by
  unfold scL
  split
  · have := setsTo_len (scF n.toNat L) 128; omega
  · simp
theorem sc_no3 {n : Int} {L : List (List Int)} (h : scB n L = false) : scN n L = 0 ∧ scL n L = [] ∧ scB n L = false := by simp [scN, scL, h]
theorem sc_yes3 {n : Int} {L : List (List Int)} (h : scB n L = true) : scN n L = n ∧ scL n L = setsTo (scF n.toNat L) 128 ∧ scB n L = true := by simp [scN, scL, h]
theorem scB_no1 {n : Int} {L : List (List Int)} (h : scA n L = false) : scB n L = false := by simp [scB, h]
theorem scI_lt {n : Nat} {L : List (List Int)} (h7 : n ≤ 7) (h : rowsOk (n : Int) L L.length = true) : ∀ k, k < L.length → scI L k < n := fun k hk => by
  have := (rowsOk_iff (n : Int) L L.length).1 h k hk
  obtain ⟨_, i, s, e, hi, _⟩ := rowOk_in this (by omega)
  unfold scI
  rw [e]
  simp only [List.getElem?_cons_zero, Option.getD_some, Int.toNat_natCast]
  omega
end Go.Proofs.YtonimjpfaalniaaDoor
