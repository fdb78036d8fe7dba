/- Mathematics: the greatest space whose sets are sets of two spaces. No program is named here. -/
import Derived.Test.YtonimjpfaalniaaDoorRb
import Derived.Test.YtonimjpfaalniaaDoorFo
import Derived.Test.YtonimjpfaalniaaDoorPm
namespace Go.Proofs.YtonimjpfaalniaaDoor
open Go.RowKit
set_option maxRecDepth 100000
theorem sets_topM (G : Nat → Bool) (s : Nat) (hs : s < 128) (hG : ∀ x, G x = true → x < s) : setsTo (upd G s true) 128 = setsTo G 128 ++ [(s : Int)] := by
  have h1 : setsTo G 128 = setsTo G s := sets_more G s hG 128 (by omega)
  have h2 : setsTo (upd G s true) 128 = setsTo (upd G s true) (s + 1) := sets_more (upd G s true) (s + 1) (fun x hx => by
    unfold upd at hx
    split at hx
    · omega
    · have := hG x hx; omega) 128 (by omega)
  rw [h1, h2, setsTo, if_pos (by simp [upd])]
  congr 1
  exact setsTo_congr s fun i hi => by
    unfold upd
    rw [if_neg (by omega)]
theorem sets_nthM (H : Nat → Bool) (j : Nat) (hj : j < (setsTo H 128).length) : (setsTo H 128)[j]?.getD 0 = (nth (setsTo H 128) j : Int) := by
  have h := (setsTo_range H 128 j hj).1
  unfold nth
  rw [Int.toNat_of_nonneg h]
theorem mem_sets (H : Nat → Bool) (x : Nat) : memB (setsTo H 128) (x : Int) = true ↔ x < 128 ∧ H x = true := by
  rw [mem_iff, ← sets_iff H x 128]
  constructor
  · rintro ⟨j, h1, h2⟩
    exact ⟨j, h1, by unfold nth; rw [h2, Int.toNat_natCast]⟩
  · rintro ⟨j, h1, h2⟩
    refine ⟨j, h1, ?_⟩
    rw [(sets_nthM H j h1), h2]
theorem andNot_backM {x i : Nat} (h : x.testBit i = true) : andNot x (p2 i) ||| p2 i = x := by
  apply Nat.eq_of_testBit_eq
  intro b
  rw [Nat.testBit_or, andNot_bit, p2_bit]
  by_cases hb : i = b
  · subst hb; simp [h]
  · simp [hb]
theorem or_backM {x i : Nat} (h : x.testBit i = false) : andNot (x ||| p2 i) (p2 i) = x := by
  apply Nat.eq_of_testBit_eq
  intro b
  rw [andNot_bit, Nat.testBit_or, p2_bit]
  by_cases hb : i = b
  · subst hb; simp [h]
  · simp [hb]
theorem xor_backM {x i : Nat} (h : x.testBit i = true) : x ^^^ p2 i = andNot x (p2 i) := by
  apply Nat.eq_of_testBit_eq
  intro b
  rw [andNot_bit, Nat.testBit_xor, p2_bit]
  by_cases hb : i = b
  · subst hb; simp [h]
  · simp [hb]
theorem andNot_lessM {x i : Nat} (h : x.testBit i = true) : andNot x (p2 i) < x := by
  have h1 := andNot_backM h
  have h2 : andNot x (p2 i) ≠ x := fun e => by
    have := andNot_bit x (p2 i) i
    rw [e, h, p2_bit] at this
    simp at this
  have h3 : andNot x (p2 i) ≤ andNot x (p2 i) ||| p2 i := Nat.left_le_or
  rw [h1] at h3
  omega
theorem items_nz (K : Nat → Bool) (n : Nat) : itemsOf K n ≠ 0 ↔ ∃ i, i < n ∧ K i = true := by
  constructor
  · intro h
    rcases Classical.em (∃ i, i < n ∧ K i = true) with h1 | h1
    · exact h1
    · exfalso
      apply h
      apply Nat.eq_of_testBit_eq
      intro i
      rw [itemsOf_bit, Nat.zero_testBit]
      by_cases hi : i < n
      · cases e : K i
        · simp
        · exact absurd ⟨i, hi, e⟩ h1
      · simp [hi]
  · rintro ⟨i, h1, h2⟩ e
    have := itemsOf_bit K n i
    rw [e, Nat.zero_testBit, decide_eq_true h1, h2] at this
    cases this
/-- What can be learnt next in both. -/
def mnN (F G : Nat → Bool) (N a : Nat) : Nat := outerOf F N a &&& outerOf G N a
theorem mn_lt (F G : Nat → Bool) (N a : Nat) : mnN F G N a < 2 ^ N := Nat.lt_of_le_of_lt Nat.and_le_left (itemsOf_lt _ _)
theorem mn_bit (F G : Nat → Bool) (N a i : Nat) : (mnN F G N a).testBit i = true ↔ i < N ∧ a.testBit i = false ∧ F (a ||| p2 i) = true ∧ G (a ||| p2 i) = true := by
  have hne : ((a ||| p2 i) != a) = !a.testBit i := by
    cases e : a.testBit i
    · simp only [Bool.not_false, bne_iff_ne, ne_eq]
      intro h
      have := congrArg (fun z => Nat.testBit z i) h
      simp [Nat.testBit_or, p2_bit, e] at this
    · have : a ||| p2 i = a := by
        apply Nat.eq_of_testBit_eq
        intro b
        rw [Nat.testBit_or, p2_bit]
        by_cases hb : i = b
        · subst hb; simp [e]
        · simp [hb]
      rw [this]; simp
  unfold mnN outerOf
  rw [Nat.testBit_and, itemsOf_bit, itemsOf_bit, hne]
  cases a.testBit i <;> cases F (a ||| p2 i) <;> cases G (a ||| p2 i) <;> simp
section
variable {F G : Nat → Bool} {N : Nat} (hF : F 0 = true) (hG : G 0 = true) (h7 : N ≤ 7)
theorem me_iff (x : Nat) : RchN (mnN F G N) x ↔ x = 0 ∨ ∃ i, i < N ∧ x.testBit i = true ∧ RchN (mnN F G N) (andNot x (p2 i)) ∧ F x = true ∧ G x = true := by
  constructor
  · intro h
    cases h with
    | zero => exact .inl rfl
    | step a i ha hi =>
      obtain ⟨h1, h2, h3, h4⟩ := (mn_bit F G N a i).1 hi
      exact .inr ⟨i, h1, by rw [Nat.testBit_or, p2_bit]; simp, by rw [or_backM h2]; exact ha, h3, h4⟩
  · rintro (rfl | ⟨i, h1, h2, h3, h4, h5⟩)
    · exact .zero
    · have h6 := RchN.step (nx := mnN F G N) _ i h3 ((mn_bit F G N _ i).2 ⟨h1, by rw [andNot_bit, p2_bit]; simp, by rw [andNot_backM h2]; exact h4, by rw [andNot_backM h2]; exact h5⟩)
      rw [andNot_backM h2] at h6
      exact h6
include hF hG in
theorem me_in {x : Nat} (h : RchN (mnN F G N) x) : F x = true ∧ G x = true := by
  rcases (me_iff x).1 h with rfl | ⟨_, _, _, _, h1, h2⟩
  · exact ⟨hF, hG⟩
  · exact ⟨h1, h2⟩
def meR (F G : Nat → Bool) (N : Nat) : Nat → Bool := rbOut (mnN F G N) (2 ^ N)
include h7 in
theorem meR_iff (x : Nat) : meR F G N x = true ↔ RchN (mnN F G N) x := rb_iff h7 (fun a _ => mn_lt F G N a) x
include hF hG h7 in
/-- How the specification finds whether a set of both is one. -/
theorem meR_step {y : Nat} (hy : y < 2 ^ N) (hFy : F y = true) : meR F G N y = (G y && (decide (y = 0) || !decide (itemsOf (innerSp (setsTo (cutAt (meR F G N) y) 128) y) 7 = 0))) := by
  have h128 := p2_le N 7 h7
  rw [Bool.eq_iff_iff, meR_iff h7, Bool.and_eq_true, Bool.or_eq_true, decide_eq_true_eq, Bool.not_eq_true', decide_eq_false_iff_not, ← ne_eq, items_nz]
  have hmem : ∀ i, i < 7 → y.testBit i = true → (innerSp (setsTo (cutAt (meR F G N) y) 128) y i = true ↔ RchN (mnN F G N) (andNot y (p2 i))) := by
    intro i _ hb
    have hl := andNot_lessM hb
    unfold innerSp
    rw [hb, Bool.true_and, xor_backM hb, mem_sets, ← meR_iff h7]
    unfold cutAt
    rw [Bool.and_eq_true, decide_eq_true_eq]
    exact ⟨fun h => h.2.2, fun h => ⟨by omega, hl, h⟩⟩
  constructor
  · intro h
    refine ⟨(me_in hF hG h).2, ?_⟩
    rcases (me_iff y).1 h with rfl | ⟨i, h1, h2, h3, _⟩
    · exact .inl rfl
    · exact .inr ⟨i, by omega, (hmem i (by omega) h2).2 h3⟩
  · rintro ⟨h1, rfl | ⟨i, h2, h3⟩⟩
    · exact .zero
    · have hb : y.testBit i = true := by unfold innerSp at h3; rw [Bool.and_eq_true] at h3; exact h3.1
      exact (me_iff y).2 (.inr ⟨i, bit_lt hy hb, hb, (hmem i h2 hb).1 h3, hFy, h1⟩)
end
/-- The number that ends what is looked at. -/
def bnd (la : List Int) (k : Nat) : Nat := if k < la.length then nth la k else 128
section
variable {n : Int} {la : List Int} (ha : okSp n la = true) {R : Nat → Bool} (hR : ∀ x, R x = true → marksTo la la.length x = true)
include ha hR
theorem bnd_iff {k : Nat} (hk : k < la.length) {x : Nat} (hx : R x = true) : x < bnd la (k + 1) ↔ x ≤ nth la k := by
  obtain ⟨j, hj, rfl⟩ := (okSp_has ha x).1 (hR x hx)
  have hmono : ∀ i j, i < j → j < la.length → nth la i < nth la j := fun i j hij hj => by
    have h1 := okSp_inc ha i j hij hj
    rw [nth_cast ha i (by omega), nth_cast ha j hj] at h1
    omega
  have h8 := okSp_lt128 ha _ ((okSp_has ha (nth la j)).2 ⟨j, hj, rfl⟩)
  unfold bnd
  split
  · rename_i h
    constructor
    · intro hlt
      rcases Nat.lt_trichotomy j k with h1 | h1 | h1
      · exact Nat.le_of_lt (hmono j k h1 hk)
      · subst h1; exact Nat.le_refl _
      · rcases Nat.lt_or_ge (k + 1) j with h2 | h2
        · have := hmono (k + 1) j h2 hj; omega
        · have : j = k + 1 := by omega
          subst this; omega
    · intro hle
      have := hmono k (k + 1) (by omega) h
      omega
  · constructor
    · intro _
      rcases Nat.lt_trichotomy j k with h1 | h1 | h1
      · exact Nat.le_of_lt (hmono j k h1 hk)
      · subst h1; exact Nat.le_refl _
      · omega
    · intro _; exact h8
theorem cut_yes {k : Nat} (hk : k < la.length) (hy : R (nth la k) = true) : setsTo (cutAt R (bnd la (k + 1))) 128 = setsTo (cutAt R (bnd la k)) 128 ++ [(nth la k : Int)] := by
  have h8 := okSp_lt128 ha _ ((okSp_has ha (nth la k)).2 ⟨k, hk, rfl⟩)
  have hbk : bnd la k = nth la k := by unfold bnd; rw [if_pos hk]
  rw [hbk, ← sets_topM (cutAt R (nth la k)) (nth la k) h8 (fun x hx => by
    unfold cutAt at hx
    rw [Bool.and_eq_true, decide_eq_true_eq] at hx
    exact hx.1)]
  refine setsTo_congr 128 fun x _ => ?_
  unfold upd cutAt
  split
  · rename_i e
    subst e
    rw [hy, decide_eq_true ((bnd_iff ha hR hk hy).2 (Nat.le_refl _))]
    rfl
  · rename_i e
    cases hx : R x
    · simp
    · have := bnd_iff ha hR hk hx
      rw [Bool.and_true, Bool.and_true, decide_eq_decide]
      omega
theorem cut_no {k : Nat} (hk : k < la.length) (hy : R (nth la k) = false) : setsTo (cutAt R (bnd la (k + 1))) 128 = setsTo (cutAt R (bnd la k)) 128 := by
  have hbk : bnd la k = nth la k := by unfold bnd; rw [if_pos hk]
  rw [hbk]
  refine setsTo_congr 128 fun x _ => ?_
  unfold cutAt
  cases hx : R x
  · simp
  · have h1 := bnd_iff ha hR hk hx
    have h2 : x ≠ nth la k := fun e => by rw [e, hy] at hx; cases hx
    rw [Bool.and_true, Bool.and_true, decide_eq_decide]
    omega
theorem cut_start : setsTo (cutAt R (bnd la 0)) 128 = [] := by
  rw [sets_none]
  refine setsTo_congr 128 fun x _ => ?_
  unfold cutAt noSet
  cases hx : R x
  · simp
  · obtain ⟨j, hj, e⟩ := (okSp_has ha x).1 (hR x hx)
    have h0 : 0 < la.length := by omega
    have hbk : bnd la 0 = nth la 0 := by unfold bnd; rw [if_pos h0]
    have : ¬ x < nth la 0 := by
      rw [← e]
      rcases Nat.eq_zero_or_pos j with z | z
      · subst z; omega
      · have h1 := okSp_inc ha 0 j z hj
        rw [nth_cast ha 0 h0, nth_cast ha j hj] at h1
        omega
    rw [hbk, decide_eq_false this]; rfl
end
theorem cut_all (R : Nat → Bool) (la : List Int) : setsTo (cutAt R (bnd la la.length)) 128 = setsTo R 128 := by
  refine setsTo_congr 128 fun x hx => ?_
  unfold cutAt bnd
  rw [if_neg (by omega), decide_eq_true hx, Bool.true_and]
/-! ### Answers -/
def meF (n : Int) (la lb : List Int) : Nat → Bool := meR (marksTo la la.length) (marksTo lb lb.length) n.toNat
def meB (n : Int) (la : List Int) (m : Int) (lb : List Int) : Bool := fbB n la m lb && (decide (n = m) && meF n la lb (low n.toNat))
def meN (n : Int) (la : List Int) (m : Int) (lb : List Int) : Int := if meB n la m lb then n else 0
def meL (n : Int) (la : List Int) (m : Int) (lb : List Int) : List Int := if meB n la m lb then setsTo (meF n la lb) 128 else []
theorem meL_len (n m : Int) (la lb : List Int) : (meL n la m lb).length < 1000000000 := by
  unfold meL
  split
  · have := setsTo_len (meF n la lb) 128; omega
  · simp
theorem me_no {n m : Int} {la lb : List Int} (h : meB n la m lb = false) : meN n la m lb = 0 ∧ meL n la m lb = [] ∧ meB n la m lb = false := by simp [meN, meL, h]
theorem me_yes {n m : Int} {la lb : List Int} (h : meB n la m lb = true) : meN n la m lb = n ∧ meL n la m lb = setsTo (meF n la lb) 128 ∧ meB n la m lb = true := by simp [meN, meL, h]
theorem meB_no1 {n m : Int} {la lb : List Int} (h : fbB n la m lb = false) : meB n la m lb = false := by simp [meB, h]
theorem meB_no2 {n m : Int} {la lb : List Int} (h : ¬ n = m) : meB n la m lb = false := by simp [meB, h]
theorem meB_is {n m : Int} {la lb : List Int} (h : fbB n la m lb = true) (h2 : n = m) : meB n la m lb = meF n la lb (low n.toNat) := by unfold meB; rw [h, decide_eq_true h2]; rfl
theorem meF_in {n : Int} {la lb : List Int} (ha : okSp n la = true) (hb : okSp n lb = true) (x : Nat) (h : meF n la lb x = true) : marksTo la la.length x = true := by
  have h7 : n.toNat ≤ 7 := by have := okSp_n ha; omega
  exact (me_in (okSp_spc ha).zero (okSp_spc hb).zero ((meR_iff h7 x).1 h)).1
end Go.Proofs.YtonimjpfaalniaaDoor
