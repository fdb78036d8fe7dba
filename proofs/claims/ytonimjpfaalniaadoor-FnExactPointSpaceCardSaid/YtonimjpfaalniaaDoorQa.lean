/- Mathematics: points of the plane with whole numbers: turns, what lies between two points or within three. No program is named here. -/
import Derived.Test.YtonimjpfaalniaaDoorLib
import Derived.Test.YtonimjpfaalniaaDoorNa
namespace Go.Proofs.YtonimjpfaalniaaDoor
open Go.RowKit
theorem lt_orI (a b : Int) : a < b ∨ b ≤ a := by omega
/-- Twice the area of a, b, p, with a sign. -/
def tn (ax ay bx b_y px py : Int) : Int := (bx - ax) * (py - ay) - (b_y - ay) * (px - ax)
def dotI (ax ay bx b_y px py : Int) : Int := (px - ax) * (px - bx) + (py - ay) * (py - b_y)
theorem sq_nn (x : Int) : 0 ≤ x * x := by
  rcases Int.le_total 0 x with h | h
  · exact Int.mul_nonneg h h
  · have := Int.mul_nonneg (show 0 ≤ -x by omega) (show 0 ≤ -x by omega)
    rw [Int.neg_mul_neg] at this; exact this
/-- Parallel ways with a product of at most 0 are so in each direction. -/
theorem par_le (u1 u2 v1 v2 : Int) (hc : u1 * v2 = u2 * v1) (hd : u1 * v1 + u2 * v2 ≤ 0) : u1 * v1 ≤ 0 ∧ u2 * v2 ≤ 0 := by
  have key : (u1 * v1) * (u2 * v2) = (u1 * v2) * (u1 * v2) := by
    have : (u1 * v1) * (u2 * v2) = (u1 * v2) * (u2 * v1) := by grind
    rw [this, ← hc]
  have hsq := sq_nn (u1 * v2)
  generalize u1 * v1 = a at *
  generalize u2 * v2 = b at *
  generalize u1 * v2 = c at *
  constructor
  · rcases lt_orI 0 a with h | h
    · have hb : b < 0 := by omega
      have := Int.mul_neg_of_pos_of_neg h hb
      omega
    · exact h
  · rcases lt_orI 0 b with h | h
    · have ha : a < 0 := by omega
      have := Int.mul_neg_of_neg_of_pos ha h
      omega
    · exact h
/-- Parallel ways with a product greater than 0 go the same way in each direction. -/
theorem par_pos (u1 u2 v1 v2 : Int) (hc : u1 * v2 = u2 * v1) (hd : 0 < u1 * v1 + u2 * v2) : 0 ≤ u1 * v1 ∧ 0 ≤ u2 * v2 ∧ (u1 = 0 → v1 = 0) ∧ (u2 = 0 → v2 = 0) := by
  have key : (u1 * v1) * (u2 * v2) = (u1 * v2) * (u1 * v2) := by
    have : (u1 * v1) * (u2 * v2) = (u1 * v2) * (u2 * v1) := by grind
    rw [this, ← hc]
  have hsq := sq_nn (u1 * v2)
  refine ⟨?_, ?_, ?_, ?_⟩
  · generalize u1 * v1 = a at *
    generalize u2 * v2 = b at *
    generalize u1 * v2 = c at *
    rcases lt_orI a 0 with h | h
    · have := Int.mul_neg_of_neg_of_pos h (show 0 < b by omega)
      omega
    · exact h
  · generalize u1 * v1 = a at *
    generalize u2 * v2 = b at *
    generalize u1 * v2 = c at *
    rcases lt_orI b 0 with h | h
    · have := Int.mul_neg_of_pos_of_neg (show 0 < a by omega) h
      omega
    · exact h
  · intro h
    subst h
    rw [Int.zero_mul] at hc hd
    rw [Int.zero_add] at hd
    rcases Int.mul_eq_zero.1 hc.symm with h | h
    · subst h; rw [Int.zero_mul] at hd; omega
    · exact h
  · intro h
    subst h
    rw [Int.zero_mul] at hc hd
    rw [Int.add_zero] at hd
    rcases Int.mul_eq_zero.1 hc with h | h
    · subst h; rw [Int.zero_mul] at hd; omega
    · exact h
theorem pr_le {u v : Int} (h : u * v ≤ 0) : (u ≤ 0 ∧ 0 ≤ v) ∨ (0 ≤ u ∧ v ≤ 0) := by
  rcases Int.lt_trichotomy u 0 with h1 | h1 | h1
  · left
    refine ⟨by omega, ?_⟩
    rcases lt_orI v 0 with h2 | h2
    · have := Int.mul_pos_of_neg_of_neg h1 h2; omega
    · exact h2
  · subst h1; rcases Int.le_total 0 v with h2 | h2
    · left; omega
    · right; omega
  · right
    refine ⟨by omega, ?_⟩
    rcases lt_orI 0 v with h2 | h2
    · have := Int.mul_pos h1 h2; omega
    · exact h2
theorem pr_nn {u v : Int} (h : 0 ≤ u * v) : (0 ≤ u ∧ 0 ≤ v) ∨ (u ≤ 0 ∧ v ≤ 0) := by
  have := pr_le (u := -u) (v := v) (by rw [Int.neg_mul]; omega)
  omega
/-- The program's test: not on both sides, and within the box. -/
def isWP (px py ax ay bx b_y cx cy : Int) : Prop :=
  ¬ (min (tn ax ay bx b_y px py) (min (tn bx b_y cx cy px py) (tn cx cy ax ay px py)) < 0 ∧ 0 < max (tn ax ay bx b_y px py) (max (tn bx b_y cx cy px py) (tn cx cy ax ay px py)))
  ∧ (min ax (min bx cx) ≤ px ∧ px ≤ max ax (max bx cx)) ∧ (min ay (min b_y cy) ≤ py ∧ py ≤ max ay (max b_y cy))
def btP (px py ax ay bx b_y : Int) : Prop := tn ax ay bx b_y px py = 0 ∧ dotI ax ay bx b_y px py ≤ 0
def wiP (px py ax ay bx b_y cx cy : Int) : Prop := tn ax ay bx b_y cx cy ≠ 0 ∧
  ((0 ≤ tn ax ay bx b_y px py ∧ 0 ≤ tn bx b_y cx cy px py ∧ 0 ≤ tn cx cy ax ay px py) ∨ (tn ax ay bx b_y px py ≤ 0 ∧ tn bx b_y cx cy px py ≤ 0 ∧ tn cx cy ax ay px py ≤ 0))
theorem tn_sum (px py ax ay bx b_y cx cy : Int) : tn ax ay bx b_y px py + tn bx b_y cx cy px py + tn cx cy ax ay px py = tn ax ay bx b_y cx cy := by
  unfold tn; grind
theorem tn_x (px py ax ay bx b_y cx cy : Int) : tn ax ay bx b_y cx cy * px = tn bx b_y cx cy px py * ax + tn cx cy ax ay px py * bx + tn ax ay bx b_y px py * cx := by
  unfold tn; grind
theorem tn_y (px py ax ay bx b_y cx cy : Int) : tn ax ay bx b_y cx cy * py = tn bx b_y cx cy px py * ay + tn cx cy ax ay px py * b_y + tn ax ay bx b_y px py * cy := by
  unfold tn; grind
/-- On a straight line, between both: within the box. -/
theorem bt_box {px py ax ay bx b_y : Int} (h : btP px py ax ay bx b_y) : (min ax bx ≤ px ∧ px ≤ max ax bx) ∧ (min ay b_y ≤ py ∧ py ≤ max ay b_y) := by
  obtain ⟨h1, h2⟩ := h
  unfold tn at h1
  unfold dotI at h2
  have hp := par_le (px - ax) (py - ay) (px - bx) (py - b_y) (by grind) h2
  have h3 := pr_le hp.1
  have h4 := pr_le hp.2
  omega
theorem box_bt {px py ax ay bx b_y : Int} (h1 : tn ax ay bx b_y px py = 0) (hx : min ax bx ≤ px ∧ px ≤ max ax bx) (hy : min ay b_y ≤ py ∧ py ≤ max ay b_y) : btP px py ax ay bx b_y := by
  refine ⟨h1, ?_⟩
  unfold dotI
  have k : ∀ a b p : Int, min a b ≤ p ∧ p ≤ max a b → (p - a) * (p - b) ≤ 0 := by
    intro a b p h
    rcases Int.le_total a b with h' | h'
    · exact Int.mul_nonpos_of_nonneg_of_nonpos (by omega) (by omega)
    · exact Int.mul_nonpos_of_nonpos_of_nonneg (by omega) (by omega)
  have := k ax bx px hx
  have := k ay b_y py hy
  omega
theorem tn_self (ax ay bx b_y : Int) : tn ax ay bx b_y ax ay = 0 ∧ tn ax ay bx b_y bx b_y = 0 ∧ tn ax ay ax ay bx b_y = 0 := by
  unfold tn
  refine ⟨by grind, by grind, by grind⟩
theorem tn_swap (ax ay bx b_y px py : Int) : tn bx b_y ax ay px py = - tn ax ay bx b_y px py := by
  unfold tn; grind
/-- A triangle's inside is in its box. -/
theorem wi_side {D y z x px a b c : Int} (hD : 0 < D) (hs : x + y + z = D) (h : D * px = y * a + z * b + x * c) (hx : 0 ≤ x) (hy : 0 ≤ y) (hz : 0 ≤ z) : min a (min b c) ≤ px ∧ px ≤ max a (max b c) := by
  constructor
  · generalize hm : min a (min b c) = m
    rcases lt_orI px m with h' | h'
    · exfalso
      have e : D * (m - px) + (y * (a - m) + z * (b - m) + x * (c - m)) = 0 := by grind
      have h1 := Int.mul_pos hD (show 0 < m - px by omega)
      have h2 := Int.mul_nonneg hy (show 0 ≤ a - m by omega)
      have h3 := Int.mul_nonneg hz (show 0 ≤ b - m by omega)
      have h4 := Int.mul_nonneg hx (show 0 ≤ c - m by omega)
      omega
    · exact h'
  · generalize hm : max a (max b c) = m
    rcases lt_orI m px with h' | h'
    · exfalso
      have e : D * (px - m) + (y * (m - a) + z * (m - b) + x * (m - c)) = 0 := by grind
      have h1 := Int.mul_pos hD (show 0 < px - m by omega)
      have h2 := Int.mul_nonneg hy (show 0 ≤ m - a by omega)
      have h3 := Int.mul_nonneg hz (show 0 ≤ m - b by omega)
      have h4 := Int.mul_nonneg hx (show 0 ≤ m - c by omega)
      omega
    · exact h'
theorem wi_isW {px py ax ay bx b_y cx cy : Int} (h : wiP px py ax ay bx b_y cx cy) : isWP px py ax ay bx b_y cx cy := by
  obtain ⟨h0, h1⟩ := h
  have hs := tn_sum px py ax ay bx b_y cx cy
  have ex := tn_x px py ax ay bx b_y cx cy
  have ey := tn_y px py ax ay bx b_y cx cy
  unfold isWP
  generalize tn ax ay bx b_y px py = x at *
  generalize tn bx b_y cx cy px py = y at *
  generalize tn cx cy ax ay px py = z at *
  generalize tn ax ay bx b_y cx cy = D at *
  rcases h1 with h1 | h1
  · exact ⟨by omega, wi_side (D := D) (y := y) (z := z) (x := x) (by omega) (by omega) ex h1.1 h1.2.1 h1.2.2, wi_side (D := D) (y := y) (z := z) (x := x) (by omega) (by omega) ey h1.1 h1.2.1 h1.2.2⟩
  · have ex' : (-D) * px = (-y) * ax + (-z) * bx + (-x) * cx := by grind
    have ey' : (-D) * py = (-y) * ay + (-z) * b_y + (-x) * cy := by grind
    exact ⟨by omega, wi_side (D := -D) (y := -y) (z := -z) (x := -x) (by omega) (by omega) ex' (by omega) (by omega) (by omega), wi_side (D := -D) (y := -y) (z := -z) (x := -x) (by omega) (by omega) ey' (by omega) (by omega) (by omega)⟩
/-- Not on both sides of a triangle that is none: on all three lines. -/
theorem flat {px py ax ay bx b_y cx cy : Int} (h : isWP px py ax ay bx b_y cx cy) (h0 : tn ax ay bx b_y cx cy = 0) : tn ax ay bx b_y px py = 0 ∧ tn bx b_y cx cy px py = 0 ∧ tn cx cy ax ay px py = 0 := by
  have hs := tn_sum px py ax ay bx b_y cx cy
  have h1 := h.1
  omega
theorem isW_in {px py ax ay bx b_y cx cy : Int} (h : isWP px py ax ay bx b_y cx cy) : wiP px py ax ay bx b_y cx cy ∨ btP px py ax ay bx b_y ∨ btP px py bx b_y cx cy ∨ btP px py ax ay cx cy := by
  by_cases h0 : tn ax ay bx b_y cx cy = 0
  · right
    obtain ⟨f1, f2, f3⟩ := flat h h0
    obtain ⟨_, hx, hy⟩ := h
    have f3' : tn ax ay cx cy px py = 0 := by rw [tn_swap]; omega
    by_cases k1 : dotI ax ay bx b_y px py ≤ 0
    · exact .inl ⟨f1, k1⟩
    by_cases k2 : dotI bx b_y cx cy px py ≤ 0
    · exact .inr (.inl ⟨f2, k2⟩)
    by_cases k3 : dotI ax ay cx cy px py ≤ 0
    · exact .inr (.inr ⟨f3', k3⟩)
    exfalso
    unfold tn at f1 f2 f3'
    unfold dotI at k1 k2 k3
    have p1 := par_pos (px - ax) (py - ay) (px - bx) (py - b_y) (by grind) (by omega)
    have p2 := par_pos (px - bx) (py - b_y) (px - cx) (py - cy) (by grind) (by omega)
    have p3 := par_pos (px - ax) (py - ay) (px - cx) (py - cy) (by grind) (by omega)
    have q1 := par_pos (px - bx) (py - b_y) (px - ax) (py - ay) (by grind) (by have e1 := Int.mul_comm (px - ax) (px - bx); have e2 := Int.mul_comm (py - ay) (py - b_y); omega)
    have q2 := par_pos (px - cx) (py - cy) (px - bx) (py - b_y) (by grind) (by have e1 := Int.mul_comm (px - bx) (px - cx); have e2 := Int.mul_comm (py - b_y) (py - cy); omega)
    have s1 := pr_nn p1.1
    have s2 := pr_nn p2.1
    have s3 := pr_nn p3.1
    have t1 := pr_nn p1.2.1
    have t2 := pr_nn p2.2.1
    have t3 := pr_nn p3.2.1
    have hpx : px - ax = 0 := by omega
    have hpy : py - ay = 0 := by omega
    rw [hpx, hpy] at k1
    rw [Int.zero_mul, Int.zero_mul] at k1
    omega
  · left
    refine ⟨h0, ?_⟩
    have h1 := h.1
    omega
/-- One corner, two, three. -/
theorem isW_one {px py ax ay : Int} : isWP px py ax ay ax ay ax ay ↔ px = ax ∧ py = ay := by
  have h1 := tn_self ax ay px py
  unfold isWP
  rw [h1.2.2]
  omega
theorem bt_isW {px py ax ay bx b_y : Int} (h : btP px py ax ay bx b_y) : isWP px py ax ay bx b_y bx b_y := by
  have hb := bt_box h
  have e1 := h.1
  have e2 := (tn_self bx b_y px py).2.2
  have e3 := tn_swap ax ay bx b_y px py
  unfold isWP
  rw [e1, e2, e3, e1]
  omega
theorem isW_two {px py ax ay bx b_y : Int} (h : isWP px py ax ay bx b_y bx b_y) : btP px py ax ay bx b_y := by
  have e2 := (tn_self bx b_y px py).2.2
  have e3 := tn_swap ax ay bx b_y px py
  unfold isWP at h
  rw [e2, e3] at h
  exact box_bt (by omega) (by omega) (by omega)
theorem isW_two' {px py ax ay bx b_y : Int} (h : isWP px py ax ay ax ay bx b_y) : btP px py ax ay bx b_y := by
  have e2 := (tn_self ax ay px py).2.2
  have e3 := tn_swap ax ay bx b_y px py
  unfold isWP at h
  rw [e2, e3] at h
  exact box_bt (by omega) (by omega) (by omega)
theorem bt_self {px py ax ay : Int} (h : btP px py ax ay ax ay) : px = ax ∧ py = ay := by
  have := bt_box h; omega
end Go.Proofs.YtonimjpfaalniaaDoor
/- Mathematics: points told by their lists. No program is named here. -/
namespace Go.Proofs.YtonimjpfaalniaaDoor
open Go.RowKit
set_option maxRecDepth 100000
/-! ### Points told by their lists -/
def ptX (L : List (List Int)) (i : Nat) : Int := (L[i]?.getD [])[0]?.getD 0
def ptY (L : List (List Int)) (i : Nat) : Int := (L[i]?.getD [])[1]?.getD 0
def plB (x : Int) : Bool := decide (-20 ≤ x ∧ x ≤ 20)
/-- Whether a list is a point. -/
def ptRow (r : List Int) : Bool := decide (r.length = 2) && (plB (r[0]?.getD 0) && plB (r[1]?.getD 0))
/-- Whether the k-th one is a point, and not one of those before it. -/
def ptNew (L : List (List Int)) (k : Nat) : Bool := !((List.range k).any fun j => decide (ptX L j = ptX L k) && decide (ptY L j = ptY L k))
def ptTo (L : List (List Int)) : Nat → Bool
  | 0 => true
  | k + 1 => ptTo L k && (ptRow (L[k]?.getD []) && ptNew L k)
def ptB (L : List (List Int)) : Bool := decide (1 ≤ (L.length : Int) ∧ (L.length : Int) ≤ 7) && ptTo L L.length
theorem ptTo_iff (L : List (List Int)) : ∀ k, ptTo L k = true ↔ ∀ j, j < k → ptRow (L[j]?.getD []) = true ∧ ptNew L j = true
  | 0 => by simp [ptTo]
  | k + 1 => by
    rw [ptTo, Bool.and_eq_true, Bool.and_eq_true, ptTo_iff L k]
    constructor
    · rintro ⟨h1, h2⟩ j hj
      rcases Nat.lt_or_ge j k with h | h
      · exact h1 j h
      · rw [show j = k by omega]; exact h2
    · intro h; exact ⟨fun j hj => h j (by omega), h k (by omega)⟩
theorem ptB_n {L : List (List Int)} (h : ptB L = true) : 1 ≤ L.length ∧ L.length ≤ 7 := by
  unfold ptB at h; rw [Bool.and_eq_true, decide_eq_true_eq] at h; omega
theorem ptB_in {L : List (List Int)} (h : ptB L = true) (j : Nat) (hj : j < L.length) : ((-20 ≤ ptX L j ∧ ptX L j ≤ 20) ∧ -20 ≤ ptY L j ∧ ptY L j ≤ 20) ∧ ∀ i, i < j → ¬ (ptX L i = ptX L j ∧ ptY L i = ptY L j) := by
  unfold ptB at h
  rw [Bool.and_eq_true, ptTo_iff] at h
  obtain ⟨h1, h2⟩ := h.2 j hj
  unfold ptRow plB at h1
  rw [Bool.and_eq_true, Bool.and_eq_true, decide_eq_true_eq, decide_eq_true_eq, decide_eq_true_eq] at h1
  refine ⟨h1.2, fun i hi he => ?_⟩
  unfold ptNew at h2
  rw [Bool.not_eq_true', ← Bool.not_eq_true, List.any_eq_true] at h2
  exact h2 ⟨i, List.mem_range.2 hi, by rw [Bool.and_eq_true, decide_eq_true_eq, decide_eq_true_eq]; exact he⟩
theorem pt_same {L : List (List Int)} (h : ptB L = true) {i j : Nat} (hi : i < L.length) (hj : j < L.length) (hx : ptX L i = ptX L j) (hy : ptY L i = ptY L j) : i = j := by
  rcases Nat.lt_trichotomy i j with h1 | h1 | h1
  · exact absurd ⟨hx, hy⟩ ((ptB_in h j hj).2 i h1)
  · exact h1
  · exact absurd ⟨hx.symm, hy.symm⟩ ((ptB_in h i hi).2 j h1)
end Go.Proofs.YtonimjpfaalniaaDoor
/- Mathematics: points told by their lists: what a set of them covers, its corners, and the triples that the program looks at. No program is named here. -/
namespace Go.Proofs.YtonimjpfaalniaaDoor
open Go.RowKit
set_option maxRecDepth 100000
def isWL (L : List (List Int)) (i a b c : Nat) : Prop := isWP (ptX L i) (ptY L i) (ptX L a) (ptY L a) (ptX L b) (ptY L b) (ptX L c) (ptY L c)
def btL (L : List (List Int)) (i a b : Nat) : Prop := btP (ptX L i) (ptY L i) (ptX L a) (ptY L a) (ptX L b) (ptY L b)
def wiL (L : List (List Int)) (i a b c : Nat) : Prop := wiP (ptX L i) (ptY L i) (ptX L a) (ptY L a) (ptX L b) (ptY L b) (ptX L c) (ptY L c)
instance (L : List (List Int)) (i a b : Nat) : Decidable (btL L i a b) := by unfold btL btP; exact inferInstance
instance (L : List (List Int)) (i a b c : Nat) : Decidable (wiL L i a b c) := by unfold wiL wiP; exact inferInstance
instance (L : List (List Int)) (i a b c : Nat) : Decidable (isWL L i a b c) := by unfold isWL isWP; exact inferInstance
/-- A point is covered by a pair of a set, or by a triple with a third point before them. -/
def cvPair (L : List (List Int)) (s i a b : Nat) : Bool := s.testBit a && (s.testBit b && (decide (btL L i a b) || (List.range b).any fun c => s.testBit c && decide (wiL L i a b c)))
def cvB (L : List (List Int)) (s i : Nat) : Bool := s.testBit i || (List.range L.length).any fun a => (List.range a).any fun b => cvPair L s i a b
theorem cvPair_iff (L : List (List Int)) (s i a b : Nat) : cvPair L s i a b = true ↔ s.testBit a = true ∧ s.testBit b = true ∧ (btL L i a b ∨ ∃ c, c < b ∧ s.testBit c = true ∧ wiL L i a b c) := by
  unfold cvPair
  rw [Bool.and_eq_true, Bool.and_eq_true, Bool.or_eq_true, decide_eq_true_eq, List.any_eq_true]
  simp only [List.mem_range, Bool.and_eq_true, decide_eq_true_eq]
theorem cvB_iff (L : List (List Int)) (s i : Nat) : cvB L s i = true ↔ s.testBit i = true ∨ ∃ a, a < L.length ∧ ∃ b, b < a ∧ cvPair L s i a b = true := by
  unfold cvB
  rw [Bool.or_eq_true, List.any_eq_true]
  simp only [List.mem_range, List.any_eq_true]
/-- The program looks at triples with repetitions. -/
theorem cov_iff {L : List (List Int)} (hL : ptB L = true) {s i : Nat} (hs : s < 2 ^ L.length) (hi : i < L.length) :
    (∃ a b c, s.testBit a = true ∧ s.testBit b = true ∧ s.testBit c = true ∧ b ≤ a ∧ c ≤ b ∧ isWL L i a b c) ↔ cvB L s i = true := by
  rw [cvB_iff]
  constructor
  · rintro ⟨a, b, c, ha, hb, hc, h1, h2, h⟩
    have hal := bit_lt hs ha
    have key : ∀ x y, s.testBit x = true → s.testBit y = true → y ≤ x → btL L i x y → s.testBit i = true ∨ ∃ a, a < L.length ∧ ∃ b, b < a ∧ cvPair L s i a b = true := by
      intro x y hx hy hxy hbt
      rcases Nat.lt_or_ge y x with h' | h'
      · exact .inr ⟨x, bit_lt hs hx, y, h', (cvPair_iff L s i x y).2 ⟨hx, hy, .inl hbt⟩⟩
      · have e : y = x := by omega
        subst e
        have := bt_self hbt
        left
        rw [pt_same hL hi (bit_lt hs hx) this.1 this.2]; exact hx
    rcases Nat.lt_or_ge b a with h3 | h3
    · rcases Nat.lt_or_ge c b with h4 | h4
      · rcases isW_in h with h5 | h5 | h5 | h5
        · exact .inr ⟨a, hal, b, h3, (cvPair_iff L s i a b).2 ⟨ha, hb, .inr ⟨c, h4, hc, h5⟩⟩⟩
        · exact key a b ha hb h1 h5
        · exact key b c hb hc h2 h5
        · exact key a c ha hc (by omega) h5
      · have e : c = b := by omega
        subst e
        exact key a c ha hc h1 (isW_two h)
    · have e : b = a := by omega
      subst e
      exact key b c hb hc h2 (isW_two' h)
  · rintro (h | ⟨a, _, b, hab, h⟩)
    · exact ⟨i, i, i, h, h, h, Nat.le_refl _, Nat.le_refl _, isW_one.2 ⟨rfl, rfl⟩⟩
    · obtain ⟨ha, hb, h | ⟨c, hc, hcs, h⟩⟩ := (cvPair_iff L s i a b).1 h
      · exact ⟨a, b, b, ha, hb, hb, by omega, Nat.le_refl _, bt_isW h⟩
      · exact ⟨a, b, c, ha, hb, hcs, by omega, by omega, wi_isW h⟩
/-- All points that a set covers; its corners. -/
def cvS (L : List (List Int)) (s : Nat) : Nat := itemsOf (cvB L s) L.length
def crS (L : List (List Int)) (s : Nat) : Nat := itemsOf (fun i => s.testBit i && !cvB L (andNot s (p2 i)) i) L.length
theorem items_inc (s : Nat) : ∀ i j, i < j → j < (itemsL s).length → nth (itemsL s) i < nth (itemsL s) j := by
  intro i j hij hj
  have hl : (itemsL s).length = (itemsN s).length := by simp [itemsL]
  have e : ∀ m, m < (itemsN s).length → nth (itemsL s) m = (itemsN s)[m]?.getD 0 := by
    intro m hm
    unfold nth itemsL
    rw [List.getElem?_map, List.getElem?_eq_getElem hm]
    simp
  have hp : List.Pairwise (· < ·) (itemsN s) := List.Pairwise.filter _ List.pairwise_lt_range
  rw [e i (by omega), e j (by omega), List.getElem?_eq_getElem (by omega), List.getElem?_eq_getElem (by omega)]
  exact List.pairwise_iff_getElem.1 hp i j (by omega) (by omega) hij
/-- The triples that the program looks at, by their places among the items. -/
def trB3 (L : List (List Int)) (I : List Int) (i x y z : Nat) : Bool := decide (isWL L i (nth I x) (nth I y) (nth I z))
theorem tri_iff {L : List (List Int)} (hL : ptB L = true) {s i : Nat} (hs : s < 2 ^ L.length) (hi : i < L.length) :
    (∃ x, x < (itemsL s).length ∧ ∃ y, y < x + 1 ∧ ∃ z, z < y + 1 ∧ trB3 L (itemsL s) i x y z = true) ↔ cvB L s i = true := by
  have hs8 : s < 128 := by have h1 := p2_le L.length 7 (ptB_n hL).2; omega
  rw [← cov_iff hL hs hi]
  unfold trB3
  simp only [decide_eq_true_eq]
  have mono : ∀ x y, x < (itemsL s).length → y < x + 1 → nth (itemsL s) y ≤ nth (itemsL s) x := by
    intro x y hx hy
    rcases Nat.lt_or_ge y x with h | h
    · exact Nat.le_of_lt (items_inc s y x h hx)
    · rw [show y = x by omega]; exact Nat.le_refl _
  have back : ∀ x y, x < (itemsL s).length → y < (itemsL s).length → nth (itemsL s) y ≤ nth (itemsL s) x → y < x + 1 := by
    intro x y hx hy h
    rcases Nat.lt_or_ge x y with h' | h'
    · have := items_inc s x y h' hy; omega
    · omega
  constructor
  · rintro ⟨x, hx, y, hy, z, hz, h⟩
    exact ⟨_, _, _, (item_at hs8 hx).2.2, (item_at hs8 (show y < _ by omega)).2.2, (item_at hs8 (show z < _ by omega)).2.2, mono x y hx hy, mono y z (by omega) hz, h⟩
  · rintro ⟨a, b, c, ha, hb, hc, h1, h2, h⟩
    obtain ⟨x, hx, rfl⟩ := (items_mem hs8).1 ha
    obtain ⟨y, hy, rfl⟩ := (items_mem hs8).1 hb
    obtain ⟨z, hz, rfl⟩ := (items_mem hs8).1 hc
    exact ⟨x, hx, y, back x y hx hy h1, z, back y z hy hz h2, h⟩
end Go.Proofs.YtonimjpfaalniaaDoor
