/- Mathematics: the sets of points of a net that can be taken away one by one, each one simplicial in what is there: a space, if all can; the first elimination; orders that are eliminations. No program is named here. -/
import Derived.Test.YtonimjpfaalniaaDoorNa
import Derived.Test.YtonimjpfaalniaaDoorFm
import Derived.Test.YtonimjpfaalniaaDoorCh
namespace Go.Proofs.YtonimjpfaalniaaDoor
open Go.RowKit
set_option maxRecDepth 100000
/-- The sets that can be taken away one by one, each point simplicial in what is there: f points at most. -/
def elG (l : List Int) : Nat → Nat → Bool
  | 0, x => x == 0
  | f + 1, x => x == 0 || (List.range l.length).any fun i => x.testBit i && (elG l f (andNot x (p2 i)) && simB l (andNot (low l.length) (andNot x (p2 i))) i)
def elF (l : List Int) (x : Nat) : Bool := elG l 7 x
theorem elG_iff (l : List Int) (f x : Nat) : elG l (f + 1) x = true ↔ x = 0 ∨ ∃ i, i < l.length ∧ x.testBit i = true ∧ elG l f (andNot x (p2 i)) = true ∧ simB l (andNot (low l.length) (andNot x (p2 i))) i = true := by
  rw [elG, Bool.or_eq_true, beq_iff_eq, List.any_eq_true]
  constructor
  · rintro (h | ⟨i, hi, h⟩)
    · exact .inl h
    · rw [Bool.and_eq_true, Bool.and_eq_true] at h
      exact .inr ⟨i, List.mem_range.1 hi, h⟩
  · rintro (h | ⟨i, hi, h⟩)
    · exact .inl h
    · exact .inr ⟨i, List.mem_range.2 hi, by rw [Bool.and_eq_true, Bool.and_eq_true]; exact h⟩
theorem andNot_back {x i : Nat} (h : x.testBit i = true) : andNot x (p2 i) ||| p2 i = x := by
  apply Nat.eq_of_testBit_eq
  intro b
  rw [Nat.testBit_or, andNot_bit, p2_bit]
  by_cases hb : i = b
  · subst hb; simp [h]
  · simp [hb]
theorem or_back {x i : Nat} (h : x.testBit i = false) : andNot (x ||| p2 i) (p2 i) = x := by
  apply Nat.eq_of_testBit_eq
  intro b
  rw [andNot_bit, Nat.testBit_or, p2_bit]
  by_cases hb : i = b
  · subst hb; simp [h]
  · simp [hb]
theorem andNot_less {x i : Nat} (h : x.testBit i = true) : andNot x (p2 i) < x := by
  have h1 := andNot_back h
  have h2 : andNot x (p2 i) ≠ x := fun e => by
    have := andNot_bit x (p2 i) i
    rw [e, h, p2_bit] at this
    simp at this
  have h3 : andNot x (p2 i) ≤ andNot x (p2 i) ||| p2 i := Nat.left_le_or
  rw [h1] at h3
  omega
section
variable {l : List Int} (h7 : l.length ≤ 7)
include h7
omit h7 in
theorem elG_lt (f : Nat) : ∀ x, elG l f x = true → x < 2 ^ l.length := by
  induction f with
  | zero => intro x h; rw [elG, beq_iff_eq] at h; subst h; exact p2_pos _
  | succ f ih =>
    intro x h
    rcases (elG_iff l f x).1 h with h | ⟨i, hi, hb, h1, _⟩
    · subst h; exact p2_pos _
    · rw [← andNot_back hb]
      exact Nat.or_lt_two_pow (ih _ h1) (p2_lt _ _ hi)
omit h7 in
theorem elF_lt {x : Nat} (h : elF l x = true) : x < 2 ^ l.length := elG_lt 7 x h
theorem elF_128 {x : Nat} (h : elF l x = true) : x < 128 := by
  have := elF_lt h
  have := p2_le l.length 7 h7
  omega
theorem elG_more : ∀ f x, x < 128 → pc x ≤ f → elG l f x = elG l (f + 1) x
  | 0, x, hx, hp => by
    have : x = 0 := pc_zero x hx (by omega)
    subst this
    rw [elG, elG]; rfl
  | f + 1, x, hx, hp => by
    rw [Bool.eq_iff_iff, elG_iff, elG_iff]
    have key : ∀ i, i < l.length → x.testBit i = true → elG l f (andNot x (p2 i)) = elG l (f + 1) (andNot x (p2 i)) := by
      intro i hi hb
      have hd := pc_drop x hx i (by omega) hb
      have hl := andNot_less hb
      exact elG_more f _ (by omega) (by omega)
    constructor
    · rintro (h | ⟨i, hi, hb, h1, h2⟩)
      · exact .inl h
      · exact .inr ⟨i, hi, hb, by rw [← key i hi hb]; exact h1, h2⟩
    · rintro (h | ⟨i, hi, hb, h1, h2⟩)
      · exact .inl h
      · exact .inr ⟨i, hi, hb, by rw [key i hi hb]; exact h1, h2⟩
theorem elF_iff {x : Nat} (hx : x < 128) : elF l x = true ↔ x = 0 ∨ ∃ i, i < l.length ∧ x.testBit i = true ∧ elF l (andNot x (p2 i)) = true ∧ simB l (andNot (low l.length) (andNot x (p2 i))) i = true := by
  have h1 := elG_more h7 7 x hx (pc_le x)
  unfold elF
  rw [h1]
  exact elG_iff l 7 x
theorem elF_zero : elF l 0 = true := (elF_iff h7 (by omega)).2 (.inl rfl)
theorem elF_step {s i : Nat} (hs : elF l s = true) (hi : i < l.length) (hb : s.testBit i = false) (h : simB l (andNot (low l.length) s) i = true) : elF l (s ||| p2 i) = true := by
  have hs8 := elF_128 h7 hs
  refine (elF_iff h7 (Nat.or_lt_two_pow (n := 7) hs8 (p2_lt128 i (by omega)))).2 (.inr ⟨i, hi, ?_, ?_, ?_⟩)
  · rw [Nat.testBit_or, p2_bit]; simp
  · rw [or_back hb]; exact hs
  · rw [or_back hb]; exact h
/-- What holds of none, and with each set of one with a simplicial point more, holds of all. -/
theorem elF_ind {P : Nat → Prop} (h0 : P 0) (hst : ∀ s i, elF l s = true → P s → i < l.length → s.testBit i = false → simB l (andNot (low l.length) s) i = true → P (s ||| p2 i)) : ∀ n x, x < n → elF l x = true → P x
  | 0, x, hx, _ => by omega
  | n + 1, x, hx, h => by
    rcases (elF_iff h7 (elF_128 h7 h)).1 h with e | ⟨i, hi, hb, h1, h2⟩
    · subst e; exact h0
    · have hl := andNot_less hb
      have := hst _ i h1 (elF_ind h0 hst n _ (by omega) h1) hi (by rw [andNot_bit, p2_bit]; simp) h2
      rw [andNot_back hb] at this
      exact this
omit h7 in
theorem rest_anti {s t : Nat} (h : sub s t) : sub (andNot (low l.length) t) (andNot (low l.length) s) := by
  intro i hi
  rw [andNot_bit, Bool.and_eq_true] at hi ⊢
  refine ⟨hi.1, ?_⟩
  cases hb : s.testBit i
  · rfl
  · have := hi.2
    rw [h i hb] at this; cases this
/-- The first point of x that is not in s is simplicial in what s leaves. -/
theorem elF_out (s : Nat) {x : Nat} (hx : elF l x = true) : ¬ sub x s → ∃ i, i < l.length ∧ x.testBit i = true ∧ s.testBit i = false ∧ simB l (andNot (low l.length) s) i = true := by
  refine elF_ind (P := fun x => ¬ sub x s → ∃ i, i < l.length ∧ x.testBit i = true ∧ s.testBit i = false ∧ simB l (andNot (low l.length) s) i = true) h7 ?_ ?_ (x + 1) x (by omega) hx
  · intro h; exact absurd (fun i hi => by simp at hi) h
  · intro y i hy ih hi hb hs h
    by_cases hys : sub y s
    · have hsi : s.testBit i = false := by
        cases e : s.testBit i
        · rfl
        · exfalso; apply h
          intro j hj
          rw [Nat.testBit_or, Bool.or_eq_true, p2_bit, decide_eq_true_eq] at hj
          rcases hj with hj | hj
          · exact hys j hj
          · subst hj; exact e
      exact ⟨i, hi, by rw [Nat.testBit_or, p2_bit]; simp, hsi, simB_anti (rest_anti hys) hs⟩
    · obtain ⟨j, h1, h2, h3, h4⟩ := ih hys
      exact ⟨j, h1, by rw [Nat.testBit_or, h2]; rfl, h3, h4⟩
theorem elF_sim {s i : Nat} (h : elF l (s ||| p2 i) = true) (hb : s.testBit i = false) : simB l (andNot (low l.length) s) i = true := by
  obtain ⟨j, _, h2, h3, h4⟩ := elF_out h7 s h (fun hs => by
    have := hs i (by rw [Nat.testBit_or, p2_bit]; simp)
    rw [hb] at this; cases this)
  rw [Nat.testBit_or, h3, p2_bit] at h2
  have : i = j := by simpa using h2
  subst this; exact h4
theorem elF_uni {a b : Nat} (ha : elF l a = true) (hb : elF l b = true) : elF l (a ||| b) = true := by
  refine elF_ind (P := fun b => elF l (a ||| b) = true) h7 (by simpa using ha) ?_ (b + 1) b (by omega) hb
  intro y i hy ih hi hyi hs
  cases e : a.testBit i
  · rw [← Nat.or_assoc]
    refine elF_step h7 ih hi (by rw [Nat.testBit_or, e, hyi]; rfl) (simB_anti (rest_anti ?_) hs)
    intro j hj
    rw [Nat.testBit_or, hj]; simp
  · rw [← Nat.or_assoc]
    have : a ||| y ||| p2 i = a ||| y := by
      apply Nat.eq_of_testBit_eq
      intro j
      rw [Nat.testBit_or, Nat.testBit_or, p2_bit]
      by_cases hj : i = j
      · subst hj; simp [e]
      · simp [hj]
    rw [this]; exact ih
theorem elF_spc (hF : elF l (low l.length) = true) : Spc (elF l) l.length where
  lt := fun x h => elF_lt h
  zero := elF_zero h7
  full := hF
  grad := fun s hs h0 => by
    rcases (elF_iff h7 (elF_128 h7 hs)).1 hs with e | ⟨i, hi, hb, h1, _⟩
    · exact absurd e h0
    · exact ⟨i, hi, hb, h1⟩
  uni := fun a b ha hb => elF_uni h7 ha hb
omit h7 in
theorem elF_bit {s i : Nat} (h : elF l s = true) (hb : s.testBit i = true) : i < l.length := bit_lt (elF_lt h) hb
/-- The next points are the simplicial ones of what is left. -/
theorem elF_nxt {s : Nat} (hs : elF l s = true) : nxt (elF l) l.length (low l.length) s = simS l (andNot (low l.length) s) := by
  apply Nat.eq_of_testBit_eq
  intro i
  rw [nxt_bit, simS_bit, andNot_bit, low_bit]
  by_cases hi : i < l.length
  · cases hb : s.testBit i
    · have : elF l (s ||| p2 i) = simB l (andNot (low l.length) s) i := by
        rw [Bool.eq_iff_iff]
        exact ⟨fun h => elF_sim h7 h hb, fun h => elF_step h7 hs hi hb h⟩
      simp [hi, this]
    · simp
  · simp [hi]
/-- A set that leaves no simplicial point but points: then there is no elimination. -/
theorem elF_stuck {s : Nat} (hs : elF l s = true) (hne : s ≠ low l.length) (h : simS l (andNot (low l.length) s) = 0) : elF l (low l.length) = false := by
  cases hF : elF l (low l.length)
  · rfl
  · exfalso
    obtain ⟨i, h1, h2, h3, h4⟩ := elF_out h7 s hF (fun hsub => hne (by
      refine sub.anti (fun j hj => ?_) hsub
      rw [low_bit]; exact decide_eq_true (elF_bit hs hj)))
    have := simS_bit l (andNot (low l.length) s) i
    rw [h, andNot_bit, low_bit, h3, h4] at this
    simp [h1] at this
/-- A set is there exactly if a lesser one is, with a simplicial point of what that leaves more. -/
theorem elF_marks {x : Nat} (hx : x < 128) : elF l x = true ↔ x = 0 ∨ ∃ k, k < x ∧ elF l k = true ∧ ∃ i, (simS l (andNot (low l.length) k)).testBit i = true ∧ k ||| p2 i = x := by
  rw [elF_iff h7 hx]
  constructor
  · rintro (h | ⟨i, hi, hb, h1, h2⟩)
    · exact .inl h
    · refine .inr ⟨andNot x (p2 i), andNot_less hb, h1, i, ?_, andNot_back hb⟩
      rw [simS_bit, h2, andNot_bit, low_bit, andNot_bit, p2_bit]
      simp [hi]
  · rintro (h | ⟨k, hk, h1, i, h2, h3⟩)
    · exact .inl h
    · rw [simS_bit, andNot_bit, low_bit] at h2
      simp only [Bool.and_eq_true, decide_eq_true_eq, Bool.not_eq_true'] at h2
      have hb := h2.2.1.2
      refine .inr ⟨i, h2.1, by rw [← h3, Nat.testBit_or, p2_bit]; simp, ?_, ?_⟩
      · rw [← h3, or_back hb]; exact h1
      · rw [← h3, or_back hb]; exact h2.2.2
omit h7 in
theorem sim_up {k i : Nat} (hk : elF l k = true) (h : (simS l (andNot (low l.length) k)).testBit i = true) : i < l.length ∧ k.testBit i = false ∧ k < k ||| p2 i ∧ k ||| p2 i < 2 ^ l.length := by
  rw [simS_bit, andNot_bit, low_bit] at h
  simp only [Bool.and_eq_true, decide_eq_true_eq, Bool.not_eq_true'] at h
  have hb := h.2.1.2
  refine ⟨h.1, hb, ?_, Nat.or_lt_two_pow (elF_lt hk) (p2_lt _ _ h.1)⟩
  have := andNot_less (x := k ||| p2 i) (i := i) (by rw [Nat.testBit_or, p2_bit]; simp)
  rw [or_back hb] at this
  exact this
end
/-- The marks before the k-th set is looked at. -/
def ElTo (l : List Int) (k : Nat) (G : Nat → Bool) : Prop := ∀ x, x < 128 → (G x = true ↔ x = 0 ∨ ∃ y, y < k ∧ elF l y = true ∧ ∃ i, (simS l (andNot (low l.length) y)).testBit i = true ∧ y ||| p2 i = x)
theorem ElTo.at {l : List Int} {k : Nat} {G : Nat → Bool} (h : ElTo l k G) (h7 : l.length ≤ 7) (hk : k < 128) : G k = elF l k := by
  rw [Bool.eq_iff_iff, h k hk, elF_marks h7 hk]
theorem ElTo.skip {l : List Int} {k : Nat} {G : Nat → Bool} (h : ElTo l k G) (hk : elF l k = false) : ElTo l (k + 1) G := by
  intro x hx
  rw [h x hx]
  constructor
  · rintro (e | ⟨y, h1, h2⟩)
    · exact .inl e
    · exact .inr ⟨y, by omega, h2⟩
  · rintro (e | ⟨y, h1, h2, h3⟩)
    · exact .inl e
    · refine .inr ⟨y, ?_, h2, h3⟩
      rcases Nat.lt_or_ge y k with h' | h'
      · exact h'
      · have : y = k := by omega
        subst this; rw [hk] at h2; cases h2
theorem ElTo.done {l : List Int} {G : Nat → Bool} (h7 : l.length ≤ 7) (h : ElTo l (low l.length + 1) G) : ∀ x, x < 128 → G x = elF l x := by
  intro x hx
  rw [Bool.eq_iff_iff, h x hx, elF_marks h7 hx]
  have hl : low l.length + 1 = 2 ^ l.length := by have := p2_pos l.length; unfold low; omega
  constructor
  · rintro (e | ⟨y, h1, h2, i, h3, h4⟩)
    · exact .inl e
    · have := sim_up h2 h3
      exact .inr ⟨y, by omega, h2, i, h3, h4⟩
  · rintro (e | ⟨y, h1, h2, i, h3, h4⟩)
    · exact .inl e
    · have := elF_lt h2
      exact .inr ⟨y, by omega, h2, i, h3, h4⟩
/-- The first j of the items of S are marked with k. -/
def ElIn (l : List Int) (k : Nat) (I : List Int) (j : Nat) (G : Nat → Bool) : Prop := ∀ x, x < 128 → (G x = true ↔ (x = 0 ∨ ∃ y, y < k ∧ elF l y = true ∧ ∃ i, (simS l (andNot (low l.length) y)).testBit i = true ∧ y ||| p2 i = x) ∨ ∃ m, m < j ∧ k ||| p2 (nth I m) = x)
theorem ElIn.start {l : List Int} {k : Nat} {I : List Int} {G : Nat → Bool} (h : ElTo l k G) : ElIn l k I 0 G := by
  intro x hx
  rw [h x hx]
  constructor
  · exact .inl
  · rintro (h | ⟨m, hm, _⟩)
    · exact h
    · omega
theorem ElIn.next {l : List Int} {k : Nat} {I : List Int} {j : Nat} {G : Nat → Bool} (h : ElIn l k I j G) : ElIn l k I (j + 1) (upd G (k ||| p2 (nth I j)) true) := by
  intro x hx
  unfold upd
  by_cases e : x = k ||| p2 (nth I j)
  · rw [if_pos e]
    exact ⟨fun _ => .inr ⟨j, by omega, e.symm⟩, fun _ => rfl⟩
  · rw [if_neg e, h x hx]
    constructor
    · rintro (h | ⟨m, hm, h⟩)
      · exact .inl h
      · exact .inr ⟨m, by omega, h⟩
    · rintro (h' | ⟨m, hm, hm2⟩)
      · exact .inl h'
      · rcases Nat.lt_or_ge m j with h' | h'
        · exact .inr ⟨m, h', hm2⟩
        · have : m = j := by omega
          subst this; exact absurd hm2.symm e
theorem ElIn.end {l : List Int} {k : Nat} {G : Nat → Bool} (h7 : l.length ≤ 7) (hk : elF l k = true) (h : ElIn l k (itemsL (simS l (andNot (low l.length) k))) (itemsL (simS l (andNot (low l.length) k))).length G) : ElTo l (k + 1) G := by
  have hS := simS_lt h7 (andNot (low l.length) k)
  intro x hx
  rw [h x hx]
  constructor
  · rintro ((e | ⟨y, h1, h2⟩) | ⟨m, h1, h2⟩)
    · exact .inl e
    · exact .inr ⟨y, by omega, h2⟩
    · exact .inr ⟨k, by omega, hk, _, (items_mem hS).2 ⟨m, h1, rfl⟩, h2⟩
  · rintro (e | ⟨y, h1, h2, i, h3, h4⟩)
    · exact .inl (.inl e)
    · rcases Nat.lt_or_ge y k with h' | h'
      · exact .inl (.inr ⟨y, h', h2, i, h3, h4⟩)
      · have : y = k := by omega
        subst this
        obtain ⟨m, hm, e⟩ := (items_mem hS).1 h3
        exact .inr ⟨m, hm, by rw [e]; exact h4⟩
theorem ElTo.first (l : List Int) : ElTo l 0 (upd noSet 0 true) := by
  intro x hx
  unfold upd noSet
  by_cases e : x = 0
  · simp [e]
  · simp [e]

/-! ### Orders that are eliminations -/
/-- Whether a list is an elimination. -/
def eliB (l o : List Int) : Bool := decide (o.length = l.length) && wordTo (elF l) l.length o o.length
theorem elF_set {l o : List Int} (h7 : l.length ≤ 7) : ∀ k, wordTo (elF l) l.length o k = true → elF l (setTo o k) = true
  | 0, _ => elF_zero h7
  | k + 1, h => by
    rw [wordTo, Bool.and_eq_true] at h
    have h2 := h.2
    unfold stepB at h2
    rw [Bool.and_eq_true, Bool.and_eq_true] at h2
    exact h2.2.2
theorem word_pcN {F : Nat → Bool} {n : Nat} {o : List Int} (h7 : n ≤ 7) : ∀ k, wordTo F n o k = true → pc (setTo o k) = k
  | 0, _ => by simp [setTo, pc]
  | k + 1, h => by
    have h0 := h
    rw [wordTo, Bool.and_eq_true] at h
    have h2 := h.2
    unfold stepB at h2
    rw [Bool.and_eq_true, Bool.and_eq_true, decide_eq_true_eq, Bool.not_eq_true'] at h2
    have h3 := setTo_lt k h.1
    have h4 := p2_le n 7 h7
    have := pc_or (setTo o k) (by omega) (o[k]?.getD 0).toNat (by omega) h2.2.1
    rw [word_pcN h7 k h.1] at this
    exact this
theorem pc_low_all : ∀ n, n ≤ 7 → pc (low n) = n := by decide +kernel
theorem pc_full_all : ∀ n, n ≤ 7 → ∀ s, s < 128 → s < 2 ^ n → pc s = n → s = low n := by
  intro n hn s hs h hp
  have hl : low n < 128 := by have := p2_le n 7 hn; have := p2_pos n; unfold low; omega
  have hsub : sub s (low n) := fun i hi => by rw [low_bit]; exact decide_eq_true (bit_lt h hi)
  by_cases e : s = low n
  · exact e
  · have := pc_subN hs hl hsub e
    rw [pc_low_all n hn] at this; omega
/-- One step of an order: the point has to be one that is left and simplicial. -/
theorem step_sim {l o : List Int} (h7 : l.length ≤ 7) {k : Nat} (hw : wordTo (elF l) l.length o k = true) (x : Int) :
    stepB (elF l) l.length (setTo o k) x = (decide (0 ≤ x ∧ x < (l.length : Int)) && (simS l (andNot (low l.length) (setTo o k))).testBit x.toNat) := by
  have hs := elF_set h7 k hw
  unfold stepB
  by_cases hx : 0 ≤ x ∧ x < (l.length : Int)
  · rw [decide_eq_true hx, Bool.true_and, Bool.true_and, ← elF_nxt h7 hs, nxt_bit, low_bit, decide_eq_true (show x.toNat < l.length by omega)]
    simp
  · rw [decide_eq_false hx]; rfl
theorem eli_end {l o : List Int} (h7 : l.length ≤ 7) (hw : wordTo (elF l) l.length o o.length = true) : eliB l o = (andNot (low l.length) (setTo o o.length) == 0) := by
  have hp := word_pcN h7 _ hw
  have hlt := setTo_lt _ hw
  have h8 := p2_le l.length 7 h7
  unfold eliB
  rw [hw, Bool.and_true, Bool.eq_iff_iff, decide_eq_true_eq, beq_iff_eq]
  constructor
  · intro h
    rw [pc_full_all l.length h7 _ (by omega) hlt (by omega), sub_or]
    exact fun _ h => h
  · intro h
    rw [sub_or] at h
    have e : setTo o o.length = low l.length := sub.anti (fun i hi => by rw [low_bit]; exact decide_eq_true (bit_lt hlt hi)) h
    rw [e, pc_low_all _ h7] at hp
    exact hp.symm
theorem eli_no {l o : List Int} {k : Nat} (hk : k < o.length) (h : stepB (elF l) l.length (setTo o k) (o[k]?.getD 0) = false) : eliB l o = false := by
  cases e : eliB l o
  · rfl
  · unfold eliB at e
    rw [Bool.and_eq_true, wordTo_iff] at e
    have := e.2 k hk
    rw [h] at this; cases this
theorem eli_len {l o : List Int} (h : o.length ≠ l.length) : eliB l o = false := by
  unfold eliB; rw [decide_eq_false h]; rfl
theorem eli_ord {l o : List Int} (h1 : 1 ≤ l.length) (h7 : l.length ≤ 7) (h : okOrd o = false) : eliB l o = false := by
  cases e : eliB l o
  · rfl
  · exfalso
    unfold eliB at e
    rw [Bool.and_eq_true, decide_eq_true_eq, wordTo_iff] at e
    have : okOrd o = true := by
      unfold okOrd
      rw [Bool.and_eq_true, decide_eq_true_eq, wordTo_iff]
      refine ⟨by omega, fun j hj => ?_⟩
      have := e.2 j hj
      unfold stepB at *
      rw [Bool.and_eq_true, Bool.and_eq_true] at *
      exact ⟨by rw [e.1]; exact this.1, this.2.1, rfl⟩
    rw [this] at h; cases h
/-- One step of an order with all points once. -/
theorem ord_step {l o : List Int} (h7 : l.length ≤ 7) (ho : okOrd o = true) (hl : o.length = l.length) {k : Nat} (hk : k < o.length) (hw : wordTo (elF l) l.length o k = true) :
    (0 ≤ o[k]?.getD 0 ∧ o[k]?.getD 0 < (l.length : Int)) ∧ (setTo o k).testBit (o[k]?.getD 0).toNat = false ∧ stepB (elF l) l.length (setTo o k) (o[k]?.getD 0) = simB l (andNot (low l.length) (setTo o k)) (o[k]?.getD 0).toNat := by
  unfold okOrd at ho
  rw [Bool.and_eq_true, wordTo_iff] at ho
  have h := ho.2 k hk
  unfold stepB at h
  rw [Bool.and_eq_true, Bool.and_eq_true, decide_eq_true_eq, Bool.not_eq_true'] at h
  rw [hl] at h
  refine ⟨h.1, h.2.1, ?_⟩
  rw [step_sim h7 hw, decide_eq_true h.1, Bool.true_and, simS_bit, andNot_bit, low_bit, h.2.1, decide_eq_true (show (o[k]?.getD 0).toNat < l.length by omega)]
  simp
end Go.Proofs.YtonimjpfaalniaaDoor
