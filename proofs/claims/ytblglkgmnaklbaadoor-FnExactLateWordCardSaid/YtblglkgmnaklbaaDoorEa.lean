/- Mathematics: orders from both ends: pairs and turned pairs, ranks, the order that follows, sets that leave all between. No program is named here. -/
import Derived.Test.YtblglkgmnaklbaaDoorOs
import Derived.Test.YtblglkgmnaklbaaDoorUs
namespace Go.Proofs.YtblglkgmnaklbaaDoor
open Go.RowKit
set_option maxRecDepth 100000
def pa (L : List (List Int)) (j : Nat) : Nat := (r0 (L[j]?.getD [])).toNat
def pb (L : List (List Int)) (j : Nat) : Nat := (r1 (L[j]?.getD [])).toNat
def turnL (L : List (List Int)) : List (List Int) := L.map fun r => [r1 r, r0 r]
theorem turn_len (L : List (List Int)) : (turnL L).length = L.length := by simp [turnL]
theorem turn_at (L : List (List Int)) (j : Nat) (h : j < L.length) : (turnL L)[j]?.getD [] = [r1 (L[j]?.getD []), r0 (L[j]?.getD [])] := by
  unfold turnL
  rw [List.getElem?_map, List.getElem?_eq_getElem h]; rfl
theorem turn_pa (L : List (List Int)) (j : Nat) (h : j < L.length) : pa (turnL L) j = pb L j := by unfold pa pb; rw [turn_at L j h]; rfl
theorem turn_pb (L : List (List Int)) (j : Nat) (h : j < L.length) : pb (turnL L) j = pa L j := by unfold pa pb; rw [turn_at L j h]; rfl
theorem prA_pairs {n : Int} {L : List (List Int)} (h : prA n L = true) (j : Nat) (hj : j < L.length) : r0 (L[j]?.getD []) = (pa L j : Int) ∧ r1 (L[j]?.getD []) = (pb L j : Int) ∧ pa L j < n.toNat ∧ pb L j < n.toNat ∧ pa L j ≠ pb L j := by
  obtain ⟨_, h1, h2, h3, h4, h5⟩ := pairB_in ((prA_in h).2 j hj)
  unfold pa pb
  refine ⟨by omega, by omega, by omega, by omega, fun e => h5 ?_⟩
  omega
theorem turn_prA {n : Int} {L : List (List Int)} (h : prA n L = true) : prA n (turnL L) = true := by
  obtain ⟨h1, h2⟩ := prA_in h
  unfold prA
  rw [Bool.and_eq_true, decide_eq_true_eq, prTo_iff, turn_len]
  refine ⟨h1, fun j hj => ?_⟩
  obtain ⟨g0, g1, g2, g3, g4, g5⟩ := pairB_in (h2 j hj)
  rw [turn_at L j hj]
  unfold pairB
  rw [Bool.and_eq_true, Bool.and_eq_true, Bool.and_eq_true, decide_eq_true_eq, decide_eq_true_eq, decide_eq_true_eq, Bool.not_eq_true', beq_eq_false_iff_ne]
  exact ⟨rfl, ⟨⟨g3, g4⟩, g1, g2⟩, fun e => g5 e.symm⟩
theorem kp_iff (L : List (List Int)) (s : Nat) : ∀ k, kpTo L s k = true ↔ ∀ j, j < k → s.testBit (pb L j) = true → s.testBit (pa L j) = true
  | 0 => by simp [kpTo]
  | k + 1 => by
    rw [kpTo, Bool.and_eq_true, kp_iff L s k]
    constructor
    · rintro ⟨h1, h2⟩ j hj hb
      rcases Nat.lt_or_ge j k with h | h
      · exact h1 j h hb
      · have : j = k := by omega
        subst this
        unfold pb at hb
        unfold pa
        rw [hb] at h2
        simpa using h2
    · intro h
      refine ⟨fun j hj => h j (by omega), ?_⟩
      cases e : s.testBit (r1 (L[k]?.getD [])).toNat
      · rfl
      · have := h k (by omega) e
        unfold pa at this
        rw [this]; rfl
theorem osK_iff (L : List (List Int)) (s : Nat) : osK L s = true ↔ ∀ j, j < L.length → s.testBit (pb L j) = true → s.testBit (pa L j) = true := kp_iff L s L.length
def osF (n : Nat) (L : List (List Int)) : Nat → Bool := cutAt (osK L) (low n + 1)
theorem osF_iff {n : Nat} {L : List (List Int)} {s : Nat} : osF n L s = true ↔ s < 2 ^ n ∧ ∀ j, j < L.length → s.testBit (pb L j) = true → s.testBit (pa L j) = true := by
  have := low_succ n
  unfold osF cutAt
  rw [Bool.and_eq_true, decide_eq_true_eq, osK_iff, this]
theorem osB_spc {n : Nat} {L : List (List Int)} (h1 : 1 ≤ n) (h7 : n ≤ 7) (hA : prA (n : Int) L = true) : osB (n : Int) L = true ↔ Spc (osF n L) n := by
  unfold osB ordOk
  rw [decide_eq_true (show 1 ≤ (n : Int) ∧ (n : Int) ≤ 7 by omega), hA, Bool.true_and, Bool.true_and, Int.toNat_natCast]
  exact spc_iff h7 fun x hx => (osF_iff.1 hx).1
/-- Ranks that rise along all pairs. -/
def RankP (L : List (List Int)) : Prop := ∃ r : Nat → Nat, (∀ x, r x ≤ 7) ∧ ∀ j, j < L.length → r (pa L j) < r (pb L j)
theorem rank_turn {L : List (List Int)} (h : RankP L) : RankP (turnL L) := by
  obtain ⟨r, h1, h2⟩ := h
  refine ⟨fun x => 7 - r x, fun x => (show 7 - r x ≤ 7 by omega), fun j hj => ?_⟩
  rw [turn_len] at hj
  rw [turn_pa L j hj, turn_pb L j hj]
  have := h2 j hj
  have := h1 (pb L j)
  show 7 - r (pb L j) < 7 - r (pa L j)
  omega
theorem rank_back {L : List (List Int)} (h : RankP (turnL L)) : RankP L := by
  obtain ⟨r, h1, h2⟩ := h
  refine ⟨fun x => 7 - r x, fun x => (show 7 - r x ≤ 7 by omega), fun j hj => ?_⟩
  have := h2 j (by rw [turn_len]; exact hj)
  rw [turn_pa L j hj, turn_pb L j hj] at this
  have := h1 (pa L j)
  show 7 - r (pa L j) < 7 - r (pb L j)
  omega
theorem rank_max (r : Nat → Nat) (h7 : ∀ x, r x ≤ 7) (s : Nat) : ∀ m i, s.testBit i = true → 7 - r i ≤ m → ∃ i', s.testBit i' = true ∧ ∀ k, s.testBit k = true → r k ≤ r i'
  | 0, i, hi, hm => ⟨i, hi, fun k _ => by have := h7 k; have := h7 i; omega⟩
  | m + 1, i, hi, hm => by
    by_cases h : ∃ k, s.testBit k = true ∧ r i < r k
    · obtain ⟨k, hk, hr⟩ := h
      exact rank_max r h7 s m k hk (by have := h7 k; omega)
    · refine ⟨i, hi, fun k hk => ?_⟩
      rcases Nat.lt_or_ge (r i) (r k) with h' | h'
      · exact absurd ⟨k, hk, h'⟩ h
      · exact h'
theorem bit_ltE {x n i : Nat} (h : x < 2 ^ n) (hb : x.testBit i = true) : i < n := by
  rcases Nat.lt_or_ge i n with h1 | h1
  · exact h1
  · rw [Nat.testBit_lt_two_pow (Nat.lt_of_lt_of_le h (p2_le _ _ h1))] at hb; cases hb
theorem some_bit {s : Nat} (h : s ≠ 0) : ∃ i, s.testBit i = true :=
  Classical.byContradiction fun h' => h (Nat.eq_of_testBit_eq fun i => by
    rw [Nat.zero_testBit]
    cases e : s.testBit i
    · rfl
    · exact absurd ⟨i, e⟩ h')
theorem rank_spc {n : Nat} {L : List (List Int)} (hA : prA (n : Int) L = true) (h : RankP L) : Spc (osF n L) n where
  lt := fun x hx => (osF_iff.1 hx).1
  zero := osF_iff.2 ⟨p2_pos n, fun j _ hb => by simp at hb⟩
  full := osF_iff.2 ⟨by have := p2_pos n; unfold low; omega, fun j hj _ => by
    have := (prA_pairs hA j hj).2.2.1
    rw [low_bit]; exact decide_eq_true (by simpa using this)⟩
  grad := fun s hs h0 => by
    obtain ⟨hs1, hs2⟩ := osF_iff.1 hs
    obtain ⟨r, r1, r2⟩ := h
    obtain ⟨i0, hi0⟩ := some_bit h0
    obtain ⟨i, hi, hmax⟩ := rank_max r r1 s 7 i0 hi0 (by omega)
    refine ⟨i, bit_ltE hs1 hi, hi, osF_iff.2 ⟨andNot_lt _ _ _ hs1, fun j hj hb => ?_⟩⟩
    rw [andNot_bit, Bool.and_eq_true, Bool.not_eq_true'] at hb ⊢
    refine ⟨hs2 j hj hb.1, ?_⟩
    rw [p2_bit, decide_eq_false_iff_not]
    intro e
    have h1 := r2 j hj
    have h2 := hmax _ hb.1
    rw [← e] at h1
    omega
  uni := fun a b ha hb => by
    obtain ⟨a1, a2⟩ := osF_iff.1 ha
    obtain ⟨b1, b2⟩ := osF_iff.1 hb
    refine osF_iff.2 ⟨Nat.or_lt_two_pow a1 b1, fun j hj h => ?_⟩
    rw [Nat.testBit_or, Bool.or_eq_true] at h ⊢
    rcases h with h | h
    · exact .inl (a2 j hj h)
    · exact .inr (b2 j hj h)
theorem pc_dropE : ∀ x, x < 128 → ∀ i, i < 7 → x.testBit i = true → pc (andNot x (p2 i)) + 1 = pc x := by decide +kernel
theorem andNot_lessE {x i : Nat} (h : x.testBit i = true) : andNot x (p2 i) < x := by
  have h1 : andNot x (p2 i) ||| p2 i = x := by
    apply Nat.eq_of_testBit_eq
    intro b
    rw [Nat.testBit_or, andNot_bit, p2_bit]
    by_cases hb : i = b
    · subst hb; simp [h]
    · simp [hb]
  have h2 : andNot x (p2 i) ≠ x := fun e => by
    have := andNot_bit x (p2 i) i
    rw [e, h, p2_bit] at this
    simp at this
  have h3 : andNot x (p2 i) ≤ andNot x (p2 i) ||| p2 i := Nat.left_le_or
  rw [h1] at h3
  omega
theorem spc_rank {n : Nat} {L : List (List Int)} (h7 : n ≤ 7) (hA : prA (n : Int) L = true) (h : Spc (osF n L) n) : ∀ m s, s < m → osF n L s = true → ∃ r : Nat → Nat, (∀ x, r x ≤ pc s) ∧ ∀ j, j < L.length → s.testBit (pa L j) = true → s.testBit (pb L j) = true → r (pa L j) < r (pb L j)
  | 0, s, hs, _ => by omega
  | m + 1, s, hs, hF => by
    by_cases h0 : s = 0
    · subst h0
      exact ⟨fun _ => 0, fun _ => Nat.zero_le _, fun j _ hb => by simp at hb⟩
    · obtain ⟨i, hi, hb, h1⟩ := h.grad s hF h0
      have hl := andNot_lessE hb
      obtain ⟨r, r1, r2⟩ := spc_rank h7 hA h m _ (by omega) h1
      have hs2 := (osF_iff.1 hF).1
      have hs8 : s < 128 := by have := p2_le n 7 h7; omega
      have hpc := pc_dropE s hs8 i (by omega) hb
      have h1' := (osF_iff.1 h1).2
      refine ⟨fun x => if x = i then pc s else r x, fun x => ?_, fun j hj ha hb2 => ?_⟩
      · show (if x = i then pc s else r x) ≤ pc s
        split
        · exact Nat.le_refl _
        · have := r1 x; omega
      · show (if pa L j = i then pc s else r (pa L j)) < (if pb L j = i then pc s else r (pb L j))
        have hne := (prA_pairs hA j hj).2.2.2.2
        by_cases e2 : pb L j = i
        · rw [if_pos e2, if_neg (fun e => hne (e.trans e2.symm))]
          have := r1 (pa L j); omega
        · have hb3 : (andNot s (p2 i)).testBit (pb L j) = true := by
            rw [andNot_bit, hb2, p2_bit]
            simp only [Bool.true_and, Bool.not_eq_true', decide_eq_false_iff_not]
            exact fun e => e2 e.symm
          have ha3 := h1' j hj hb3
          have e1 : ¬ pa L j = i := fun e => by
            rw [andNot_bit, p2_bit, Bool.and_eq_true, Bool.not_eq_true', decide_eq_false_iff_not] at ha3
            exact ha3.2 e.symm
          rw [if_neg e1, if_neg e2]
          exact r2 j hj ha3 hb3
theorem os_rank {n : Nat} {L : List (List Int)} (h1 : 1 ≤ n) (h7 : n ≤ 7) (hA : prA (n : Int) L = true) : osB (n : Int) L = true ↔ RankP L := by
  rw [osB_spc h1 h7 hA]
  constructor
  · intro h
    obtain ⟨r, r1, r2⟩ := spc_rank h7 hA h (low n + 1) (low n) (by omega) h.full
    refine ⟨r, fun x => Nat.le_trans (r1 x) (pc_le _), fun j hj => r2 j hj ?_ ?_⟩
    · have := (prA_pairs hA j hj).2.2.1
      rw [low_bit]; exact decide_eq_true (by simpa using this)
    · have := (prA_pairs hA j hj).2.2.2.1
      rw [low_bit]; exact decide_eq_true (by simpa using this)
  · exact rank_spc hA
theorem os_turn {n : Nat} {L : List (List Int)} (h1 : 1 ≤ n) (h7 : n ≤ 7) (hA : prA (n : Int) L = true) : osB (n : Int) (turnL L) = osB (n : Int) L := by
  rw [Bool.eq_iff_iff, os_rank h1 h7 hA, os_rank h1 h7 (turn_prA hA)]
  exact ⟨rank_back, rank_turn⟩
/-! ### The order that follows -/
/-- M has for each item all lesser ones. -/
structure Clo (n : Nat) (L : List (List Int)) (M : Nat → Nat) : Prop where
  lt : ∀ i, M i < 2 ^ n
  base : ∀ j, j < L.length → (M (pb L j)).testBit (pa L j) = true
  trans : ∀ i k x, (M i).testBit k = true → (M k).testBit x = true → (M i).testBit x = true
  least : ∀ R : Nat → Nat → Prop, (∀ x y z, R x y → R y z → R x z) → (∀ j, j < L.length → R (pa L j) (pb L j)) → ∀ i x, (M i).testBit x = true → R x i
theorem pc_subE : ∀ a, a < 128 → ∀ b, b < 128 → andNot a b = 0 → a ≠ b → pc a < pc b := by decide +kernel
theorem clo_rank {n : Nat} {L : List (List Int)} {M : Nat → Nat} (h7 : n ≤ 7) (hM : Clo n L M) : (∀ i, (M i).testBit i = false) ↔ RankP L := by
  have h8 := p2_le n 7 h7
  constructor
  · intro h
    refine ⟨fun x => pc (M x), fun x => pc_le _, fun j hj => ?_⟩
    have hb := hM.base j hj
    refine pc_subE _ (by have := hM.lt (pa L j); omega) _ (by have := hM.lt (pb L j); omega) ?_ ?_
    · rw [sub_or]
      exact fun x hx => hM.trans _ _ x hb hx
    · intro e
      rw [← e, h] at hb; cases hb
  · rintro ⟨r, r1, r2⟩ i
    cases e : (M i).testBit i
    · rfl
    · have := hM.least (fun x y => r x < r y) (fun x y z => Nat.lt_trans) r2 i i e
      omega
/-- A set that has with no two of what it leaves one between them. -/
def fitP (n : Nat) (M : Nat → Nat) (s : Nat) : Prop := ∀ i j k, i < n → j < n → k < n → s.testBit i = false → s.testBit j = false → (M k).testBit i = true → (M j).testBit k = true → s.testBit k = false
theorem fit_iff {n : Nat} {L : List (List Int)} {M : Nat → Nat} (hA : prA (n : Int) L = true) (hM : Clo n L M) {s : Nat} (hs : s < 2 ^ n) :
    fitP n M s ↔ ∃ D U, osF n L D = true ∧ osF n (turnL L) U = true ∧ D ||| U = s := by
  have hbase := fun j hj => (prA_pairs hA j hj).2.2
  constructor
  · intro h
    -- what nothing left is less than; what nothing left is greater than
    have hDb := fun k => itemsOf_bit (fun k => s.testBit k && !((List.range n).any fun i => !s.testBit i && (M k).testBit i)) n k
    have hUb := fun k => itemsOf_bit (fun k => s.testBit k && !((List.range n).any fun i => !s.testBit i && (M i).testBit k)) n k
    have hDl := itemsOf_lt (fun k => s.testBit k && !((List.range n).any fun i => !s.testBit i && (M k).testBit i)) n
    have hUl := itemsOf_lt (fun k => s.testBit k && !((List.range n).any fun i => !s.testBit i && (M i).testBit k)) n
    generalize itemsOf (fun k => s.testBit k && !((List.range n).any fun i => !s.testBit i && (M k).testBit i)) n = D at *
    generalize itemsOf (fun k => s.testBit k && !((List.range n).any fun i => !s.testBit i && (M i).testBit k)) n = U at *
    have hD : ∀ k, D.testBit k = true ↔ k < n ∧ s.testBit k = true ∧ ∀ i, i < n → s.testBit i = false → (M k).testBit i = false := by
      intro k
      rw [hDb k, Bool.and_eq_true, Bool.and_eq_true, decide_eq_true_eq, Bool.not_eq_true', ← Bool.not_eq_true, List.any_eq_true]
      constructor
      · rintro ⟨h1, h2, h3⟩
        refine ⟨h1, h2, fun i hi hsi => ?_⟩
        cases e : (M k).testBit i
        · rfl
        · exact absurd ⟨i, List.mem_range.2 hi, by rw [hsi, e]; rfl⟩ h3
      · rintro ⟨h1, h2, h3⟩
        refine ⟨h1, h2, ?_⟩
        rintro ⟨i, hi, he⟩
        rw [Bool.and_eq_true, Bool.not_eq_true'] at he
        rw [h3 i (List.mem_range.1 hi) he.1] at he
        cases he.2
    have hU : ∀ k, U.testBit k = true ↔ k < n ∧ s.testBit k = true ∧ ∀ i, i < n → s.testBit i = false → (M i).testBit k = false := by
      intro k
      rw [hUb k, Bool.and_eq_true, Bool.and_eq_true, decide_eq_true_eq, Bool.not_eq_true', ← Bool.not_eq_true, List.any_eq_true]
      constructor
      · rintro ⟨h1, h2, h3⟩
        refine ⟨h1, h2, fun i hi hsi => ?_⟩
        cases e : (M i).testBit k
        · rfl
        · exact absurd ⟨i, List.mem_range.2 hi, by rw [hsi, e]; rfl⟩ h3
      · rintro ⟨h1, h2, h3⟩
        refine ⟨h1, h2, ?_⟩
        rintro ⟨i, hi, he⟩
        rw [Bool.and_eq_true, Bool.not_eq_true'] at he
        rw [h3 i (List.mem_range.1 hi) he.1] at he
        cases he.2
    refine ⟨D, U, osF_iff.2 ⟨hDl, fun j hj hb => ?_⟩, osF_iff.2 ⟨hUl, fun j hj hb => ?_⟩, ?_⟩
    · obtain ⟨g1, g2, g3⟩ := (hD _).1 hb
      have hm := hM.base j hj
      have hpa : pa L j < n := by simpa using (hbase j hj).1
      refine (hD _).2 ⟨hpa, ?_, fun i hi hsi => ?_⟩
      · cases e : s.testBit (pa L j)
        · rw [g3 _ hpa e] at hm; cases hm
        · rfl
      · cases e : (M (pa L j)).testBit i
        · rfl
        · have := hM.trans _ _ i hm e
          rw [g3 i hi hsi] at this; cases this
    · rw [turn_len] at hj
      rw [turn_pb L j hj] at hb
      rw [turn_pa L j hj]
      obtain ⟨g1, g2, g3⟩ := (hU _).1 hb
      have hm := hM.base j hj
      have hpb : pb L j < n := by simpa using (hbase j hj).2.1
      refine (hU _).2 ⟨hpb, ?_, fun i hi hsi => ?_⟩
      · cases e : s.testBit (pb L j)
        · rw [g3 _ hpb e] at hm; cases hm
        · rfl
      · cases e : (M i).testBit (pb L j)
        · rfl
        · have := hM.trans _ _ _ e hm
          rw [g3 i hi hsi] at this; cases this
    · apply Nat.eq_of_testBit_eq
      intro k
      rw [Bool.eq_iff_iff, Nat.testBit_or, Bool.or_eq_true]
      constructor
      · rintro (h' | h')
        · exact ((hD k).1 h').2.1
        · exact ((hU k).1 h').2.1
      · intro hk
        have hkn := bit_ltE hs hk
        by_cases e : ∃ i, i < n ∧ s.testBit i = false ∧ (M k).testBit i = true
        · obtain ⟨i, hi, hsi, hki⟩ := e
          right
          refine (hU k).2 ⟨hkn, hk, fun j hj hsj => ?_⟩
          cases e2 : (M j).testBit k
          · rfl
          · have := h i j k hi hj hkn hsi hsj hki e2
            rw [this] at hk; cases hk
        · left
          refine (hD k).2 ⟨hkn, hk, fun i hi hsi => ?_⟩
          cases e2 : (M k).testBit i
          · rfl
          · exact absurd ⟨i, hi, hsi, e2⟩ e
  · rintro ⟨D, U, hD, hU, rfl⟩ i j k hi hj hk hsi hsj hki hjk
    obtain ⟨_, d2⟩ := osF_iff.1 hD
    obtain ⟨_, u2⟩ := osF_iff.1 hU
    rw [Nat.testBit_or, Bool.or_eq_false_iff] at hsi hsj ⊢
    have down : ∀ x y, (M y).testBit x = true → D.testBit y = true → D.testBit x = true := fun x y h => hM.least (fun x y => D.testBit y = true → D.testBit x = true) (fun x y z h1 h2 h3 => h1 (h2 h3)) (fun j hj => d2 j hj) y x h
    have up : ∀ x y, (M y).testBit x = true → U.testBit x = true → U.testBit y = true := fun x y h => hM.least (fun x y => U.testBit x = true → U.testBit y = true) (fun x y z h1 h2 h3 => h2 (h1 h3)) (fun j hj => by
      have := u2 j (by rw [turn_len]; exact hj)
      rw [turn_pa L j hj, turn_pb L j hj] at this
      exact this) y x h
    constructor
    · cases e : D.testBit k
      · rfl
      · rw [down i k hki e] at hsi; cases hsi.1
    · cases e : U.testBit k
      · rfl
      · rw [up k j hjk e] at hsj; cases hsj.2
/-! ### Closing step by step -/
/-- The state before the k-th item is looked at. -/
structure CloTo (n : Nat) (L : List (List Int)) (k : Nat) (M : Nat → Nat) : Prop where
  lt : ∀ i, M i < 2 ^ n
  base : ∀ j, j < L.length → (M (pb L j)).testBit (pa L j) = true
  trans : ∀ i m x, m < k → (M i).testBit m = true → (M m).testBit x = true → (M i).testBit x = true
  least : ∀ R : Nat → Nat → Prop, (∀ x y z, R x y → R y z → R x z) → (∀ j, j < L.length → R (pa L j) (pb L j)) → ∀ i x, (M i).testBit x = true → R x i
theorem CloTo.done {n : Nat} {L : List (List Int)} {M : Nat → Nat} (h : CloTo n L n M) : Clo n L M where
  lt := h.lt
  base := h.base
  trans := fun i k x h1 h2 => h.trans i k x (bit_ltE (h.lt i) h1) h1 h2
  least := h.least
def cloStep (M : Nat → Nat) (k : Nat) : Nat → Nat := fun i => if (M i).testBit k then M i ||| M k else M i
theorem step_bit (M : Nat → Nat) (k i x : Nat) : (cloStep M k i).testBit x = true ↔ (M i).testBit x = true ∨ ((M i).testBit k = true ∧ (M k).testBit x = true) := by
  unfold cloStep
  split
  · rename_i h
    rw [Nat.testBit_or, Bool.or_eq_true]
    constructor
    · rintro (h1 | h1)
      · exact .inl h1
      · exact .inr ⟨h, h1⟩
    · rintro (h1 | h1)
      · exact .inl h1
      · exact .inr h1.2
  · rename_i h
    constructor
    · exact .inl
    · rintro (h1 | h1)
      · exact h1
      · exact absurd h1.1 h
theorem CloTo.next {n : Nat} {L : List (List Int)} {k : Nat} {M : Nat → Nat} (h : CloTo n L k M) : CloTo n L (k + 1) (cloStep M k) where
  lt := fun i => by
    unfold cloStep
    split
    · exact Nat.or_lt_two_pow (h.lt i) (h.lt k)
    · exact h.lt i
  base := fun j hj => (step_bit M k _ _).2 (.inl (h.base j hj))
  trans := fun i m x hm h1 h2 => by
    rw [step_bit] at h1 h2 ⊢
    rcases Nat.lt_or_ge m k with hmk | hmk
    · rcases h1 with h1 | ⟨h1, h1'⟩
      · rcases h2 with h2 | ⟨h2, h2'⟩
        · exact .inl (h.trans i m x hmk h1 h2)
        · exact .inr ⟨h.trans i m k hmk h1 h2, h2'⟩
      · rcases h2 with h2 | ⟨_, h2'⟩
        · exact .inr ⟨h1, h.trans k m x hmk h1' h2⟩
        · exact .inr ⟨h1, h2'⟩
    · have e : m = k := by omega
      subst e
      rcases h1 with h1 | ⟨h1, _⟩
      · rcases h2 with h2 | ⟨_, h2'⟩
        · exact .inr ⟨h1, h2⟩
        · exact .inr ⟨h1, h2'⟩
      · rcases h2 with h2 | ⟨_, h2'⟩
        · exact .inr ⟨h1, h2⟩
        · exact .inr ⟨h1, h2'⟩
  least := fun R ht hb i x hx => by
    rcases (step_bit M k i x).1 hx with h1 | ⟨h1, h2⟩
    · exact h.least R ht hb i x h1
    · exact ht x k i (h.least R ht hb k x h2) (h.least R ht hb i k h1)
end Go.Proofs.YtblglkgmnaklbaaDoor
