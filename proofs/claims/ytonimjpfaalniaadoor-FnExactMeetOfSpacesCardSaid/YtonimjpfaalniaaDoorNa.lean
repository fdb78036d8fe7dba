/- Mathematics: nets told by the lists of their neighbours, what is reached in them within a set, joined sets, trees, ways, simplicial points. No program is named here. -/
import Derived.Test.YtonimjpfaalniaaDoorPs
import Derived.Test.YtonimjpfaalniaaDoorTz
import Derived.Test.YtonimjpfaalniaaDoorUn
import Derived.Test.YtonimjpfaalniaaDoorFre
namespace Go.Proofs.YtonimjpfaalniaaDoor
open Go.RowKit
set_option maxRecDepth 100000
/-- A net: its points' neighbours are sets of its points, none its own, all both ways. -/
def neP (l : List Int) (i j : Nat) : Bool := !((nth l i).testBit j && (decide (i = j) || !(nth l j).testBit i))
def neRow (l : List Int) (i : Nat) : Nat → Bool
  | 0 => true
  | k + 1 => neRow l i k && neP l i k
def neTo (l : List Int) : Nat → Bool
  | 0 => true
  | k + 1 => neTo l k && neRow l k l.length
def neA (l : List Int) : Bool := decide (1 ≤ (l.length : Int) ∧ (l.length : Int) ≤ 7) && allTo 0 (low l.length) l l.length
def neB (l : List Int) : Bool := neA l && neTo l l.length
theorem neRow_iff (l : List Int) (i : Nat) : ∀ k, neRow l i k = true ↔ ∀ j, j < k → neP l i j = true
  | 0 => by simp [neRow]
  | k + 1 => by
    rw [neRow, Bool.and_eq_true, neRow_iff l i k]
    constructor
    · rintro ⟨h1, h2⟩ j hj
      rcases Nat.lt_or_ge j k with h | h
      · exact h1 j h
      · rw [show j = k by omega]; exact h2
    · intro h; exact ⟨fun j hj => h j (by omega), h k (by omega)⟩
theorem neTo_iff (l : List Int) : ∀ k, neTo l k = true ↔ ∀ j, j < k → neRow l j l.length = true
  | 0 => by simp [neTo]
  | k + 1 => by
    rw [neTo, Bool.and_eq_true, neTo_iff l k]
    constructor
    · rintro ⟨h1, h2⟩ j hj
      rcases Nat.lt_or_ge j k with h | h
      · exact h1 j h
      · rw [show j = k by omega]; exact h2
    · intro h; exact ⟨fun j hj => h j (by omega), h k (by omega)⟩
theorem neA_in {l : List Int} (h : neA l = true) : (1 ≤ l.length ∧ l.length ≤ 7) ∧ ∀ j, j < l.length → 0 ≤ l[j]?.getD 0 ∧ l[j]?.getD 0 ≤ (low l.length : Int) := by
  unfold neA at h
  rw [Bool.and_eq_true, decide_eq_true_eq, allTo_iff] at h
  exact ⟨by omega, h.2⟩
theorem neA_lt {l : List Int} (h : neA l = true) (j : Nat) : nth l j < 2 ^ l.length := by
  obtain ⟨h1, h2⟩ := neA_in h
  have hp := p2_pos l.length
  rcases Nat.lt_or_ge j l.length with hj | hj
  · have := h2 j hj
    unfold nth low at *
    omega
  · have : nth l j = 0 := by unfold nth; rw [List.getElem?_eq_none hj]; rfl
    omega
theorem neA_128 {l : List Int} (h : neA l = true) (j : Nat) : nth l j < 128 := by
  have h1 := neA_lt h j
  have h2 := p2_le l.length 7 (neA_in h).1.2
  omega
theorem neA_cast {l : List Int} (h : neA l = true) (j : Nat) (hj : j < l.length) : l[j]?.getD 0 = (nth l j : Int) := by
  have := (neA_in h).2 j hj
  unfold nth; omega
theorem neB_A {l : List Int} (h : neB l = true) : neA l = true := by
  unfold neB at h; rw [Bool.and_eq_true] at h; exact h.1
theorem bit_lt {x n i : Nat} (h : x < 2 ^ n) (hb : x.testBit i = true) : i < n := by
  rcases Nat.lt_or_ge i n with h1 | h1
  · exact h1
  · rw [Nat.testBit_lt_two_pow (Nat.lt_of_lt_of_le h (p2_le _ _ h1))] at hb; cases hb
theorem neB_irr {l : List Int} (h : neB l = true) (i : Nat) : (nth l i).testBit i = false := by
  cases hb : (nth l i).testBit i
  · rfl
  · have hA := neB_A h
    have hi := bit_lt (neA_lt hA i) hb
    unfold neB at h
    rw [Bool.and_eq_true, neTo_iff] at h
    have := (neRow_iff l i l.length).1 (h.2 i hi) i hi
    simp [neP, hb] at this
theorem neB_sym {l : List Int} (h : neB l = true) (i j : Nat) (hb : (nth l i).testBit j = true) : (nth l j).testBit i = true := by
  have hA := neB_A h
  have hj := bit_lt (neA_lt hA i) hb
  have hi : i < l.length := by
    rcases Nat.lt_or_ge i l.length with h1 | h1
    · exact h1
    · have : nth l i = 0 := by unfold nth; rw [List.getElem?_eq_none h1]; rfl
      rw [this] at hb; simp at hb
  unfold neB at h
  rw [Bool.and_eq_true, neTo_iff] at h
  have := (neRow_iff l i l.length).1 (h.2 i hi) j hj
  unfold neP at this
  rw [hb] at this
  simp at this
  exact this.2

/-! ### What is reached -/
def rdG (l : List Int) (s x p : Nat) : Nat := if x.testBit p then nth l p &&& s else 0
/-- One round: the neighbours within s of all that is reached. -/
def rd (l : List Int) (s x : Nat) : Nat := x ||| orTo (rdG l s x) 7
def rdTo (l : List Int) (s x : Nat) : Nat → Nat
  | 0 => x
  | k + 1 => rd l s (rdTo l s x k)
def reachS (l : List Int) (s i : Nat) : Nat := rdTo l s (p2 i) 7
def Closed (l : List Int) (s X : Nat) : Prop := ∀ p q, X.testBit p = true → (nth l p).testBit q = true → s.testBit q = true → X.testBit q = true
def sub (a b : Nat) : Prop := ∀ i, a.testBit i = true → b.testBit i = true
theorem sub.trans {a b c : Nat} (h : sub a b) (k : sub b c) : sub a c := fun i hi => k i (h i hi)
theorem sub.anti {a b : Nat} (h : sub a b) (k : sub b a) : a = b := by
  apply Nat.eq_of_testBit_eq
  intro i
  rw [Bool.eq_iff_iff]
  exact ⟨h i, k i⟩
theorem rd_bit (l : List Int) (s x q : Nat) : (rd l s x).testBit q = true ↔ x.testBit q = true ∨ ∃ p, p < 7 ∧ x.testBit p = true ∧ (nth l p).testBit q = true ∧ s.testBit q = true := by
  rw [rd, Nat.testBit_or, Bool.or_eq_true, orTo_bit, decide_eq_true_eq]
  constructor
  · rintro (h | ⟨p, hp, h⟩)
    · exact .inl h
    · unfold rdG at h
      split at h
      · rename_i hx
        rw [Nat.testBit_and, Bool.and_eq_true] at h
        exact .inr ⟨p, hp, hx, h.1, h.2⟩
      · simp at h
  · rintro (h | ⟨p, hp, hx, h1, h2⟩)
    · exact .inl h
    · exact .inr ⟨p, hp, by unfold rdG; rw [if_pos hx, Nat.testBit_and, h1, h2]; rfl⟩
theorem rd_up (l : List Int) (s x : Nat) : sub x (rd l s x) := fun q h => (rd_bit l s x q).2 (.inl h)
theorem rd_lt {l : List Int} {s x : Nat} (hx : x < 128) (hs : s < 128) : rd l s x < 128 := by
  refine Nat.or_lt_two_pow (n := 7) hx (orTo_lt _ 7 7 fun i _ => ?_)
  unfold rdG
  split
  · exact Nat.lt_of_le_of_lt Nat.and_le_right hs
  · omega
theorem rdTo_lt {l : List Int} {s x : Nat} (hx : x < 128) (hs : s < 128) : ∀ k, rdTo l s x k < 128
  | 0 => hx
  | k + 1 => rd_lt (rdTo_lt hx hs k) hs
theorem rdTo_up (l : List Int) (s x : Nat) : ∀ k, sub x (rdTo l s x k)
  | 0 => fun _ h => h
  | k + 1 => (rdTo_up l s x k).trans (rd_up l s _)
theorem rdTo_mono (l : List Int) (s x k : Nat) : ∀ m, k ≤ m → sub (rdTo l s x k) (rdTo l s x m) := by
  intro m hm
  induction m with
  | zero => rw [show k = 0 by omega]; exact fun _ h => h
  | succ m ih =>
    rcases Nat.lt_or_ge k (m + 1) with h | h
    · exact (ih (by omega)).trans (rd_up l s _)
    · rw [show k = m + 1 by omega]; exact fun _ h => h
theorem rdTo_min {l : List Int} {s x X : Nat} (hc : Closed l s X) (hx : sub x X) : ∀ k, sub (rdTo l s x k) X
  | 0 => hx
  | k + 1 => by
    intro q hq
    rcases (rd_bit l s _ q).1 hq with h | ⟨p, _, h1, h2, h3⟩
    · exact rdTo_min hc hx k q h
    · exact hc p q (rdTo_min hc hx k p h1) h2 h3
theorem closed_of_rd {l : List Int} {s x : Nat} (hx : x < 128) (h : rd l s x = x) : Closed l s x := by
  intro p q h1 h2 h3
  rw [← h]
  exact (rd_bit l s x q).2 (.inr ⟨p, bit_lt (n := 7) hx h1, h1, h2, h3⟩)
theorem pc_sub_all : ∀ a, a < 128 → ∀ b, b < 128 → andNot a b = 0 → a ≠ b → pc a < pc b := by decide +kernel
theorem pc_subN {a b : Nat} (ha : a < 128) (hb : b < 128) (h : sub a b) (hne : a ≠ b) : pc a < pc b := pc_sub_all a ha b hb (sub_or.2 h) hne
theorem pc_sub_le {a b : Nat} (ha : a < 128) (hb : b < 128) (h : sub a b) : pc a ≤ pc b := by
  by_cases e : a = b
  · rw [e]; exact Nat.le_refl _
  · exact Nat.le_of_lt (pc_subN ha hb h e)
theorem rd_stays {l : List Int} {s x : Nat} (k : Nat) (h : rd l s (rdTo l s x k) = rdTo l s x k) : ∀ m, k ≤ m → rdTo l s x m = rdTo l s x k := by
  intro m hm
  induction m with
  | zero => rw [show k = 0 by omega]
  | succ m ih =>
    rcases Nat.lt_or_ge k (m + 1) with h1 | h1
    · rw [rdTo, ih (by omega), h]
    · rw [show k = m + 1 by omega]
/-- After k rounds all is reached, or at least k + 1 points are. -/
theorem rd_grows {l : List Int} {s x : Nat} (hx : x < 128) (hs : s < 128) (h1 : 1 ≤ pc x) : ∀ k, rd l s (rdTo l s x k) = rdTo l s x k ∨ k + 1 ≤ pc (rdTo l s x k)
  | 0 => .inr h1
  | k + 1 => by
    rcases rd_grows hx hs h1 k with h | h
    · left
      rw [rdTo, h, h]
    · by_cases e : rd l s (rdTo l s x k) = rdTo l s x k
      · left; rw [rdTo, e, e]
      · right
        have := pc_subN (rdTo_lt hx hs k) (rd_lt (rdTo_lt hx hs k) hs) (rd_up l s _) (fun h => e h.symm)
        rw [rdTo]; omega
theorem pc_p2 : ∀ i, i < 7 → pc (p2 i) = 1 := by decide +kernel
theorem p2_sub {i X : Nat} (h : X.testBit i = true) : sub (p2 i) X := by
  intro j hj
  rw [p2_bit, decide_eq_true_eq] at hj
  subst hj; exact h
theorem sub_p2 {i X : Nat} (h : sub (p2 i) X) : X.testBit i = true := h i (by rw [p2_bit]; simp)
section
variable {l : List Int} {s i : Nat}
theorem reach_lt (hi : i < 7) (hs : s < 128) : reachS l s i < 128 := rdTo_lt (p2_lt128 i hi) hs 7
theorem reach_start : (reachS l s i).testBit i = true := rdTo_up l s (p2 i) 7 i (by rw [p2_bit]; simp)
theorem reach_closed (hi : i < 7) (hs : s < 128) : Closed l s (reachS l s i) := by
  refine closed_of_rd (reach_lt hi hs) ?_
  rcases rd_grows (p2_lt128 i hi) hs (by rw [pc_p2 i hi]; exact Nat.le_refl _) 7 with h | h
  · exact h
  · have := pc_le (rdTo l s (p2 i) 7); omega
theorem reach_min {X : Nat} (hc : Closed l s X) (hX : X.testBit i = true) : sub (reachS l s i) X := rdTo_min hc (p2_sub hX) 7
theorem reach_sub (hi : s.testBit i = true) : sub (reachS l s i) s := reach_min (fun _ _ _ _ h => h) hi
theorem reach_eq {X : Nat} (hi : i < 7) (hs : s < 128) (h1 : X.testBit i = true) (hc : Closed l s X) (hm : ∀ Y, Closed l s Y → Y.testBit i = true → sub X Y) : reachS l s i = X :=
  (reach_min hc h1).anti (hm _ (reach_closed hi hs) reach_start)
/-- As many rounds as there are points are enough to reach all, if all can be reached. -/
theorem reach_rounds (hs : s < 128) (hi : s.testBit i = true) : (rdTo l s (p2 i) (pc s) = s ↔ reachS l s i = s) := by
  have hi7 := bit_lt (n := 7) hs hi
  have h7 := pc_le s
  constructor
  · intro h
    refine (reach_sub hi).anti ?_
    have := rdTo_mono l s (p2 i) (pc s) 7 h7
    rw [h] at this
    exact this
  · intro h
    have hsub : sub (rdTo l s (p2 i) (pc s)) s := rdTo_min (fun _ _ _ _ h => h) (p2_sub hi) (pc s)
    rcases rd_grows (l := l) (p2_lt128 i hi7) hs (by rw [pc_p2 i hi7]; exact Nat.le_refl _) (pc s) with e | e
    · rw [← rd_stays (pc s) e 7 h7]; exact h
    · have := pc_sub_le (rdTo_lt (p2_lt128 i hi7) hs (pc s)) hs hsub
      omega
end
/-- Whether a set is none, or joined. -/
def jnB (l : List Int) (s : Nat) : Bool := s == 0 || reachS l s (tzN s) == s
def endsTo (l : List Int) : Nat → Nat
  | 0 => 0
  | k + 1 => endsTo l k + pc (nth l k)
def trB (l : List Int) : Bool := jnB l (low l.length) && (endsTo l l.length == 2 * (l.length - 1))
/-- Whether it is a net and a tree. -/
def treB (l : List Int) : Bool := neB l && trB l

/-! ### The ends of the lines are even -/
def row1 (l : List Int) (i : Nat) : Nat → Nat
  | 0 => 0
  | k + 1 => row1 l i k + (if (nth l i).testBit k then 1 else 0)
def sq (l : List Int) (n : Nat) : Nat → Nat
  | 0 => 0
  | k + 1 => sq l n k + row1 l k n
def col1 (l : List Int) (j : Nat) : Nat → Nat
  | 0 => 0
  | k + 1 => col1 l j k + (if (nth l k).testBit j then 1 else 0)
theorem sq_next (l : List Int) (n : Nat) : ∀ k, sq l (n + 1) k = sq l n k + col1 l n k
  | 0 => rfl
  | k + 1 => by rw [sq, sq_next l n k, sq, col1, row1]; omega
theorem col_row {l : List Int} (h : ∀ i j, (nth l i).testBit j = (nth l j).testBit i) (j : Nat) : ∀ k, col1 l j k = row1 l j k
  | 0 => rfl
  | k + 1 => by rw [col1, row1, col_row h j k, h k j]
theorem sq_even {l : List Int} (h : ∀ i j, (nth l i).testBit j = (nth l j).testBit i) (hi : ∀ i, (nth l i).testBit i = false) : ∀ n, sq l n n % 2 = 0
  | 0 => rfl
  | n + 1 => by
    have := sq_even h hi n
    rw [sq, sq_next, row1, hi n, col_row h]
    simp; omega
theorem pc_row : ∀ x, x < 128 → pc x = (if x.testBit 0 then 1 else 0) + (if x.testBit 1 then 1 else 0) + (if x.testBit 2 then 1 else 0) + (if x.testBit 3 then 1 else 0) + (if x.testBit 4 then 1 else 0) + (if x.testBit 5 then 1 else 0) + (if x.testBit 6 then 1 else 0) := by decide +kernel
theorem row1_7 {l : List Int} {i : Nat} (h : nth l i < 128) : row1 l i 7 = pc (nth l i) := by
  rw [pc_row _ h]
  simp [row1]
theorem row1_n {l : List Int} {i n : Nat} (h : nth l i < 2 ^ n) : ∀ m, n ≤ m → row1 l i m = row1 l i n := by
  intro m hm
  induction m with
  | zero => rw [show n = 0 by omega]
  | succ m ih =>
    rcases Nat.lt_or_ge n (m + 1) with h1 | h1
    · rw [row1, ih (by omega), Nat.testBit_lt_two_pow (Nat.lt_of_lt_of_le h (p2_le n m (by omega)))]; rfl
    · rw [show n = m + 1 by omega]
theorem ends_sq {l : List Int} (h : neA l = true) : ∀ k, endsTo l k = sq l l.length k
  | 0 => rfl
  | k + 1 => by
    rw [endsTo, sq, ends_sq h k, ← row1_n (neA_lt h k) 7 (neA_in h).1.2, row1_7 (neA_128 h k)]
theorem ends_even {l : List Int} (h : neB l = true) : endsTo l l.length % 2 = 0 := by
  rw [ends_sq (neB_A h)]
  refine sq_even (fun i j => ?_) (neB_irr h) _
  rw [Bool.eq_iff_iff]
  exact ⟨neB_sym h i j, neB_sym h j i⟩
theorem ends_le {l : List Int} : ∀ k, endsTo l k ≤ 7 * k
  | 0 => Nat.le_refl _
  | k + 1 => by
    have := ends_le (l := l) k
    have := pc_le (nth l k)
    rw [endsTo]; omega

/-! ### Ways in a tree -/
theorem reach_sym {l : List Int} {s a b : Nat} (hN : neB l = true) (hs : s < 128) (ha : s.testBit a = true) (hb : (reachS l s a).testBit b = true) : (reachS l s b).testBit a = true := by
  have ha7 := bit_lt (n := 7) hs ha
  have hbs := reach_sub ha b hb
  have hb7 := bit_lt (n := 7) hs hbs
  cases hab : (reachS l s b).testBit a
  · exfalso
    have hc : Closed l s (andNot (reachS l s a) (reachS l s b)) := by
      intro p q hp hpq hq
      rw [andNot_bit, Bool.and_eq_true] at hp ⊢
      refine ⟨reach_closed ha7 hs p q hp.1 hpq hq, ?_⟩
      cases hqb : (reachS l s b).testBit q
      · rfl
      · have := reach_closed hb7 hs q p hqb (neB_sym hN p q hpq) (reach_sub ha p hp.1)
        rw [this] at hp; simp at hp
    have := reach_min (l := l) (s := s) (i := a) hc (by rw [andNot_bit, reach_start, hab]; rfl) b hb
    rw [andNot_bit, reach_start] at this
    simp at this
  · rfl
theorem reach_mono {l : List Int} {s t a : Nat} (ha : a < 7) (ht : t < 128) (h : sub s t) : sub (reachS l s a) (reachS l t a) :=
  reach_min (fun p q h1 h2 h3 => reach_closed ha ht p q h1 h2 (h q h3)) reach_start
/-- What is reached is joined. -/
theorem reach_joined {l : List Int} {s a : Nat} (hN : neB l = true) (hs : s < 128) (ha : s.testBit a = true) : jnB l (reachS l s a) = true := by
  have ha7 := bit_lt (n := 7) hs ha
  have hL : reachS l s a < 128 := reach_lt ha7 hs
  have hne : reachS l s a ≠ 0 := fun h => by have := reach_start (l := l) (s := s) (i := a); rw [h] at this; simp at this
  have hf := tzN_bit _ hL hne
  have haL : (reachS l s a).testBit a = true := reach_start
  unfold jnB
  rw [Bool.or_eq_true]
  right
  rw [beq_iff_eq]
  generalize hLL : reachS l s a = L at *
  have h1 : sub L (reachS l L a) := by
    have := reach_min (l := l) (s := s) (i := a) (X := reachS l L a) (fun p q hp hpq hq => by
      have hpL := reach_sub haL p hp
      rw [← hLL] at hpL
      have hqL := reach_closed ha7 hs p q hpL hpq hq
      rw [hLL] at hqL
      exact reach_closed ha7 hL p q hp hpq hqL) reach_start
    rw [hLL] at this
    exact this
  have h2 := reach_sym hN hL haL (h1 _ hf)
  refine (reach_sub hf).anti (h1.trans ?_)
  exact reach_min (reach_closed (bit_lt (n := 7) hL hf) hL) h2
/-- In a joined set each point reaches each other one. -/
theorem joined_reach {l : List Int} {L a : Nat} (hN : neB l = true) (hL : L < 128) (h : jnB l L = true) (ha : L.testBit a = true) : reachS l L a = L := by
  have hne : L ≠ 0 := fun h => by rw [h] at ha; simp at ha
  have hf := tzN_bit _ hL hne
  unfold jnB at h
  rw [Bool.or_eq_true, beq_iff_eq, beq_iff_eq] at h
  have h := h.resolve_left hne
  have h1 : (reachS l L (tzN L)).testBit a = true := by rw [h]; exact ha
  have h2 := reach_sym hN hL hf h1
  refine (reach_sub ha).anti ?_
  have h3 : sub (reachS l L (tzN L)) (reachS l L a) := reach_min (reach_closed (bit_lt (n := 7) hL ha) hL) h2
  rw [h] at h3
  exact h3
/-- i is left out by a joined set with a and b just if b is reached from a without it. -/
theorem way_iff {l : List Int} {S a b : Nat} (hN : neB l = true) (hS : S < 128) (ha : S.testBit a = true) :
    (reachS l S a).testBit b = true ↔ ∃ L, sub L S ∧ L.testBit a = true ∧ L.testBit b = true ∧ jnB l L = true := by
  constructor
  · intro h
    exact ⟨reachS l S a, reach_sub ha, reach_start, h, reach_joined hN hS ha⟩
  · rintro ⟨L, h1, h2, h3, h4⟩
    have hL : L < 2 ^ 7 := by
      apply Nat.lt_pow_two_of_testBit
      intro i hi
      cases hb : L.testBit i
      · rfl
      · have := bit_lt (n := 7) hS (h1 i hb); omega
    have := joined_reach hN hL h4 h2
    have h5 := reach_mono (l := l) (a := a) (bit_lt (n := 7) hS ha) hS h1 b (by rw [this]; exact h3)
    exact h5
/-- The family of a tree's space. -/
def treK (l : List Int) (s : Nat) : Bool := jnB l (andNot (low l.length) s)
def wayK (l : List Int) (a b i : Nat) : Bool := (decide (i = a) || decide (i = b)) || !(reachS l (andNot (low l.length) (p2 i)) a).testBit b
def wayS (l : List Int) (a b : Nat) : Nat := itemsOf (wayK l a b) l.length
/-! ### Simplicial points -/
def simB (l : List Int) (s i : Nat) : Bool := (List.range 7).all fun j => !(nth l i &&& s).testBit j || (andNot (nth l i &&& s) (nth l j ||| p2 j) == 0)
theorem simB_iff (l : List Int) (s i : Nat) : simB l s i = true ↔ ∀ j, j < 7 → (nth l i &&& s).testBit j = true → andNot (nth l i &&& s) (nth l j ||| p2 j) = 0 := by
  unfold simB
  rw [List.all_eq_true]
  constructor
  · intro h j hj hb
    have := h j (by simpa using hj)
    rw [hb] at this
    simpa using this
  · intro h j hj
    rw [List.mem_range] at hj
    cases hb : (nth l i &&& s).testBit j
    · rfl
    · rw [h j hj hb]; rfl
def simS (l : List Int) (s : Nat) : Nat := itemsOf (fun i => s.testBit i && simB l s i) l.length
theorem andNot_andNot (a b c : Nat) : andNot (andNot a b) c = andNot a (c ||| b) := by
  apply Nat.eq_of_testBit_eq
  intro i
  rw [andNot_bit, andNot_bit, andNot_bit, Nat.testBit_or]
  cases a.testBit i <;> cases b.testBit i <;> cases c.testBit i <;> rfl
theorem simB_anti {l : List Int} {s t i : Nat} (h : sub t s) (hs : simB l s i = true) : simB l t i = true := by
  rw [simB_iff] at *
  intro j hj hb
  rw [Nat.testBit_and, Bool.and_eq_true] at hb
  have h1 := hs j hj (by rw [Nat.testBit_and, hb.1, h j hb.2]; rfl)
  rw [sub_or] at h1 ⊢
  intro k hk
  rw [Nat.testBit_and, Bool.and_eq_true] at hk
  exact h1 k (by rw [Nat.testBit_and, hk.1, h k hk.2]; rfl)
theorem simS_bit (l : List Int) (s i : Nat) : (simS l s).testBit i = (decide (i < l.length) && (s.testBit i && simB l s i)) := itemsOf_bit _ _ _
theorem simS_lt {l : List Int} (h : l.length ≤ 7) (s : Nat) : simS l s < 128 := Nat.lt_of_lt_of_le (itemsOf_lt _ _) (p2_le _ 7 h)
theorem low_sub (n s : Nat) : sub (andNot (low n) s) (low n) := fun i h => by rw [andNot_bit, Bool.and_eq_true] at h; exact h.1
/-! ### The items of a set -/
theorem items_mem {S i : Nat} (hS : S < 128) : S.testBit i = true ↔ ∃ m, m < (itemsL S).length ∧ nth (itemsL S) m = i := by
  have e : ∀ m, m < (itemsL S).length → nth (itemsL S) m = (itemsN S)[m]?.getD 0 := by
    intro m hm
    unfold nth itemsL
    rw [List.getElem?_map]
    have : m < (itemsN S).length := by simpa [itemsL] using hm
    rw [List.getElem?_eq_getElem this]
    simp
  have hl : (itemsL S).length = (itemsN S).length := by simp [itemsL]
  constructor
  · intro h
    have hm : i ∈ itemsN S := by
      unfold itemsN
      rw [List.mem_filter]
      exact ⟨List.mem_range.2 (bit_lt (n := 7) hS h), h⟩
    obtain ⟨m, hm1, hm2⟩ := List.mem_iff_getElem.1 hm
    refine ⟨m, by omega, ?_⟩
    rw [e m (by omega), List.getElem?_eq_getElem hm1]
    exact hm2
  · rintro ⟨m, hm, h⟩
    rw [e m hm] at h
    have h2 : m < (itemsN S).length := by omega
    rw [List.getElem?_eq_getElem h2] at h
    have : i ∈ itemsN S := by rw [← h]; exact List.getElem_mem h2
    unfold itemsN at this
    rw [List.mem_filter] at this
    exact this.2
theorem item_at {S m : Nat} (hS : S < 128) (hm : m < (itemsL S).length) : (itemsL S)[m]?.getD 0 = (nth (itemsL S) m : Int) ∧ nth (itemsL S) m < 7 ∧ S.testBit (nth (itemsL S) m) = true := by
  have hb := (items_mem hS).2 ⟨m, hm, rfl⟩
  refine ⟨?_, bit_lt (n := 7) hS hb, hb⟩
  unfold nth itemsL
  have h2 : m < (itemsN S).length := by simpa [itemsL] using hm
  rw [List.getElem?_map, List.getElem?_eq_getElem h2]
  simp
theorem items_short (S : Nat) : (itemsL S).length ≤ 7 := by
  have : (itemsL S).length ≤ (List.range 7).length := by
    unfold itemsL itemsN
    rw [List.length_map]
    exact List.length_filter_le _ _
  simpa using this
/-! ### Nets, one line after the other -/
theorem ne_bad {l : List Int} {i j : Nat} (hi : i < l.length) (hj : j < l.length) (h : neP l i j = false) : neB l = false := by
  cases e : neB l
  · rfl
  · unfold neB at e
    rw [Bool.and_eq_true, neTo_iff] at e
    rw [(neRow_iff l i l.length).1 (e.2 i hi) j hj] at h
    cases h
theorem neP_item {l : List Int} {i j : Nat} (h : (nth l i).testBit j = true) : neP l i j = !(decide (i = j) || !(nth l j).testBit i) := by
  unfold neP; rw [h]; rfl
theorem ne_row {l : List Int} {i : Nat} (h8 : nth l i < 128) (h : ∀ m, m < (itemsL (nth l i)).length → neP l i (nth (itemsL (nth l i)) m) = true) : neRow l i l.length = true := by
  rw [neRow_iff]
  intro j hj
  cases hb : (nth l i).testBit j
  · unfold neP; rw [hb]; rfl
  · obtain ⟨m, hm, e⟩ := (items_mem h8).1 hb
    rw [← e]; exact h m hm
theorem neTo_next (l : List Int) (k : Nat) : neTo l (k + 1) = (neTo l k && neRow l k l.length) := rfl
theorem neRow_next (l : List Int) (i k : Nat) : neRow l i (k + 1) = (neRow l i k && neP l i k) := rfl
theorem neB_no1 {l : List Int} (h : neA l = false) : neB l = false := by unfold neB; rw [h]; rfl
theorem neB_yes {l : List Int} (h : neA l = true) (h2 : neTo l l.length = true) : neB l = true := by unfold neB; rw [h, h2]; rfl
theorem neA_yes {l : List Int} (h : 1 ≤ (l.length : Int) ∧ (l.length : Int) ≤ 7) : neA l = allTo 0 (low l.length) l l.length := by unfold neA; rw [decide_eq_true h]; rfl
theorem neA_no {l : List Int} (h : ¬ (1 ≤ (l.length : Int) ∧ (l.length : Int) ≤ 7)) : neA l = false := by unfold neA; rw [decide_eq_false h]; rfl
end Go.Proofs.YtonimjpfaalniaaDoor
