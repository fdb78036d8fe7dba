/- Mathematics: tasks told by their lists, costs, the item that comes next, greedy words, the greatest cost of a word. No program is named here. -/
import Derived.Test.YtblglkgmnaklbaaDoorFm
import Derived.Test.YtblglkgmnaklbaaDoorKt
namespace Go.Proofs.YtblglkgmnaklbaaDoor
set_option maxRecDepth 100000
theorem bit_ltK {x n i : Nat} (h : x < 2 ^ n) (hb : x.testBit i = true) : i < n := by
  rcases Nat.lt_or_ge i n with h1 | h1
  · exact h1
  · have := Nat.lt_of_lt_of_le h (Nat.pow_le_pow_right (by omega : 0 < 2) h1)
    rw [Nat.testBit_lt_two_pow this] at hb; cases hb
/-! ### Costs -/
def tmTo (T : List Tsk) (s : Nat) : Nat → Int
  | 0 => 0
  | k + 1 => tmTo T s k + if s.testBit k then 0 else tkT T k
def coT (T : List Tsk) (s i : Nat) : Int := tkR T i * tmTo T s T.length + tkB T i
theorem tm_bd {T : List Tsk} (s : Nat) : ∀ k, tkTo T k = true → 0 ≤ tmTo T s k ∧ tmTo T s k ≤ 9 * (k : Int)
  | 0, _ => by simp [tmTo]
  | k + 1, h => by
    rw [tkTo, Bool.and_eq_true] at h
    have h1 := tm_bd s k h.1
    have h2 := ((oneB_iff _ _ _).1 h.2).1
    rw [tmTo]
    split <;> omega
theorem tm_mono {T : List Tsk} {s t : Nat} (hst : ∀ i, s.testBit i = true → t.testBit i = true) : ∀ k, tkTo T k = true → tmTo T t k ≤ tmTo T s k
  | 0, _ => Int.le_refl _
  | k + 1, h => by
    rw [tkTo, Bool.and_eq_true] at h
    have h1 := tm_mono hst k h.1
    have h2 := ((oneB_iff _ _ _).1 h.2).1
    rw [tmTo, tmTo]
    cases hs : s.testBit k
    · split <;> simp <;> omega
    · rw [hst k hs]; simp; exact h1
theorem mul_le9 {r x : Int} (hr : 0 ≤ r ∧ r ≤ 9) (hx : 0 ≤ x) : 0 ≤ r * x ∧ r * x ≤ 9 * x :=
  ⟨Int.mul_nonneg hr.1 hx, Int.mul_le_mul_of_nonneg_right hr.2 hx⟩
theorem co_bd {T : List Tsk} {n : Int} (h : taB T n = true) (s : Nat) {i : Nat} (hi : i < T.length) : -100 ≤ coT T s i ∧ coT T s i ≤ 667 ∧ 0 ≤ tkR T i * tmTo T s T.length ∧ tkR T i * tmTo T s T.length ≤ 567 := by
  obtain ⟨h1, h2, h3⟩ := taB_is h
  have h4 := tm_bd s _ h3
  have h5 := (oneB_iff _ _ _).1 ((tkTo_iff T _).1 h3 i hi)
  have h6 := mul_le9 h5.2.1 h4.1
  unfold coT
  omega
theorem co_mono {T : List Tsk} {n : Int} (h : taB T n = true) {s t : Nat} (hst : ∀ i, s.testBit i = true → t.testBit i = true) {i : Nat} (hi : i < T.length) : coT T t i ≤ coT T s i := by
  obtain ⟨_, _, h3⟩ := taB_is h
  have h5 := (oneB_iff _ _ _).1 ((tkTo_iff T _).1 h3 i hi)
  have h6 := tm_mono hst _ h3
  unfold coT
  have := Int.mul_le_mul_of_nonneg_left h6 h5.2.1.1
  omega
/-- Times of the items of a set, and their sum. -/
def sumZ (l : List Int) : Nat → Int
  | 0 => 0
  | k + 1 => sumZ l k + l[k]?.getD 0
def tmL (T : List Tsk) (x : Nat) : List Int := (itemsN x).map (tkT T)
theorem sumZ_app (l : List Int) (x : Int) : ∀ k, k ≤ l.length → sumZ (l ++ [x]) k = sumZ l k
  | 0, _ => rfl
  | k + 1, h => by
    rw [sumZ, sumZ, sumZ_app l x k (by omega), List.getElem?_append_left (by omega)]
theorem sumZ_snoc (l : List Int) (x : Int) : sumZ (l ++ [x]) (l ++ [x]).length = sumZ l l.length + x := by
  rw [List.length_append, List.length_singleton, sumZ, sumZ_app l x _ (Nat.le_refl _)]
  simp
theorem tm_items (T : List Tsk) (s n : Nat) (h7 : n ≤ 7) : sumZ (tmL T (andNot (low n) s)) (tmL T (andNot (low n) s)).length = tmTo T s n := by
  have key : ∀ k, let l := ((List.range k).filter fun i => (andNot (low n) s).testBit i).map (tkT T); sumZ l l.length = tmTo T s (min k n) := by
    intro k
    induction k with
    | zero => simp [sumZ, tmTo]
    | succ k ih =>
      intro l
      show sumZ l l.length = _
      have hl : l = ((List.range k).filter fun i => (andNot (low n) s).testBit i).map (tkT T) ++ (if (andNot (low n) s).testBit k then [tkT T k] else []) := by
        show ((List.range (k + 1)).filter _).map _ = _
        rw [List.range_succ, List.filter_append, List.map_append]
        congr 1
        cases h : (andNot (low n) s).testBit k <;> simp [h]
      rw [andNot_bit, low_bit] at hl
      by_cases hkn : k < n
      · rw [show min (k + 1) n = min k n + 1 by omega, show min k n = k by omega, tmTo]
        rw [show min k n = k by omega] at ih
        cases hs : s.testBit k
        · rw [hs, decide_eq_true hkn] at hl
          simp only [Bool.not_false, Bool.and_self, if_true] at hl
          rw [hl, sumZ_snoc, ih]
          simp
        · rw [hs] at hl
          simp only [Bool.not_true, Bool.and_false] at hl
          rw [hl]
          simpa using ih
      · rw [show min (k + 1) n = n by omega]
        rw [show min k n = n by omega] at ih
        rw [decide_eq_false hkn] at hl
        simp only [Bool.false_and] at hl
        rw [hl]
        simpa using ih
  have h := key 7
  rw [show min 7 n = n by omega] at h
  exact h
/-! ### What comes next -/
def NextOf (c : Nat → Int) (O i : Nat) : Prop := O.testBit i = true ∧ (∀ j, O.testBit j = true → c i ≤ c j) ∧ ∀ j, O.testBit j = true → c j = c i → i ≤ j
theorem NextOf.uniq {c : Nat → Int} {O i j : Nat} (hi : NextOf c O i) (hj : NextOf c O j) : i = j := by
  have h1 := hi.2.1 j hj.1
  have h2 := hj.2.1 i hi.1
  have h3 := hi.2.2 j hj.1 (by omega)
  have h4 := hj.2.2 i hi.1 (by omega)
  omega
def mnTo (c : Nat → Int) (O : Nat) : Nat → Int
  | 0 => -1
  | k + 1 => if (O.testBit k && (decide (mnTo c O k < 0) || decide (c k < c (mnTo c O k).toNat))) = true then (k : Int) else mnTo c O k
theorem mnTo_next (c : Nat → Int) (O k : Nat) : mnTo c O (k + 1) = if (O.testBit k && (decide (mnTo c O k < 0) || decide (c k < c (mnTo c O k).toNat))) = true then (k : Int) else mnTo c O k := rfl
theorem mnTo_is (c : Nat → Int) (O : Nat) : ∀ k, (mnTo c O k = -1 ∧ ∀ j, j < k → O.testBit j = false) ∨
    ∃ i : Nat, mnTo c O k = (i : Int) ∧ i < k ∧ O.testBit i = true ∧ (∀ j, j < k → O.testBit j = true → c i ≤ c j) ∧ ∀ j, j < k → O.testBit j = true → c j = c i → i ≤ j
  | 0 => .inl ⟨rfl, fun j hj => by omega⟩
  | k + 1 => by
    rw [mnTo]
    cases hb : O.testBit k
    · simp only [Bool.false_and, Bool.false_eq_true, if_false]
      rcases mnTo_is c O k with ⟨h1, h2⟩ | ⟨i, h1, h2, h3, h4, h5⟩
      · left
        refine ⟨h1, fun j hj => ?_⟩
        rcases Nat.lt_or_ge j k with h | h
        · exact h2 j h
        · rw [show j = k by omega]; exact hb
      · right
        refine ⟨i, h1, by omega, h3, fun j hj hjb => ?_, fun j hj hjb hc => ?_⟩
        · rcases Nat.lt_or_ge j k with h | h
          · exact h4 j h hjb
          · rw [show j = k by omega, hb] at hjb; cases hjb
        · rcases Nat.lt_or_ge j k with h | h
          · exact h5 j h hjb hc
          · rw [show j = k by omega, hb] at hjb; cases hjb
    · rcases mnTo_is c O k with ⟨h1, h2⟩ | ⟨i, h1, h2, h3, h4, h5⟩
      · right
        rw [h1]
        refine ⟨k, by simp, by omega, hb, fun j hj hjb => ?_, fun j hj hjb hc => ?_⟩
        · rcases Nat.lt_or_ge j k with h | h
          · rw [h2 j h] at hjb; cases hjb
          · rw [show j = k by omega]; exact Int.le_refl _
        · rcases Nat.lt_or_ge j k with h | h
          · rw [h2 j h] at hjb; cases hjb
          · omega
      · rw [h1]
        have hn : decide ((i : Int) < 0) = false := by rw [decide_eq_false_iff_not]; omega
        rw [hn, Int.toNat_natCast]
        right
        by_cases hc : c k < c i
        · rw [decide_eq_true hc]
          refine ⟨k, by simp, by omega, hb, fun j hj hjb => ?_, fun j hj hjb he => ?_⟩
          · rcases Nat.lt_or_ge j k with h | h
            · have := h4 j h hjb; omega
            · rw [show j = k by omega]; exact Int.le_refl _
          · rcases Nat.lt_or_ge j k with h | h
            · have := h4 j h hjb; omega
            · omega
        · rw [decide_eq_false hc]
          refine ⟨i, by simp, by omega, h3, fun j hj hjb => ?_, fun j hj hjb he => ?_⟩
          · rcases Nat.lt_or_ge j k with h | h
            · exact h4 j h hjb
            · rw [show j = k by omega]; omega
          · rcases Nat.lt_or_ge j k with h | h
            · exact h5 j h hjb he
            · omega
def mnI (c : Nat → Int) (O : Nat) : Nat := (mnTo c O 7).toNat
theorem mnTo_of {c : Nat → Int} {O k i : Nat} (hk : O < 2 ^ k) (h : NextOf c O i) : mnTo c O k = (i : Int) := by
  have hik := bit_ltK hk h.1
  rcases mnTo_is c O k with ⟨_, h2⟩ | ⟨j, h1, h2, h3, h4, h5⟩
  · have h3 := h.1
    rw [h2 i hik] at h3; cases h3
  · have : NextOf c O j := ⟨h3, fun x hx => h4 x (bit_ltK hk hx) hx, fun x hx hc => h5 x (bit_ltK hk hx) hx hc⟩
    rw [h1, this.uniq h]
theorem next_ex {c : Nat → Int} {O : Nat} (hO : O < 128) (h0 : O ≠ 0) : NextOf c O (mnI c O) := by
  have hO7 : O < 2 ^ 7 := hO
  rcases mnTo_is c O 7 with ⟨_, h2⟩ | ⟨i, h1, h2, h3, h4, h5⟩
  · exfalso
    have h := tz_bit O hO h0
    rw [h2 _ (tz_lt7 O hO)] at h; cases h
  · unfold mnI
    rw [h1, Int.toNat_natCast]
    exact ⟨h3, fun x hx => h4 x (bit_ltK hO7 hx) hx, fun x hx hc => h5 x (bit_ltK hO7 hx) hx hc⟩
theorem mnI_of {c : Nat → Int} {O i : Nat} (hO : O < 128) (h : NextOf c O i) : mnI c O = i := by
  unfold mnI; rw [mnTo_of (k := 7) hO h, Int.toNat_natCast]
/-! ### The greedy word -/
def gs (c : Nat → Nat → Int) (O : Nat → Nat) : Nat → Nat
  | 0 => 0
  | k + 1 => gs c O k ||| p2 (mnI (c (gs c O k)) (O (gs c O k)))
def gi (c : Nat → Nat → Int) (O : Nat → Nat) (k : Nat) : Nat := mnI (c (gs c O k)) (O (gs c O k))
theorem gs_next (c : Nat → Nat → Int) (O : Nat → Nat) (k : Nat) : gs c O (k + 1) = gs c O k ||| p2 (gi c O k) := rfl
def grW (c : Nat → Nat → Int) (O : Nat → Nat) : Nat → List Int
  | 0 => []
  | k + 1 => grW c O k ++ [(gi c O k : Int)]
theorem grW_next (c : Nat → Nat → Int) (O : Nat → Nat) (k : Nat) : grW c O (k + 1) = grW c O k ++ [(gi c O k : Int)] := rfl
theorem grW_len (c : Nat → Nat → Int) (O : Nat → Nat) : ∀ k, (grW c O k).length = k
  | 0 => rfl
  | k + 1 => by rw [grW, List.length_append, grW_len c O k]; rfl
theorem grW_at (c : Nat → Nat → Int) (O : Nat → Nat) : ∀ k j, j < k → (grW c O k)[j]?.getD 0 = (gi c O j : Int)
  | 0, j, h => by omega
  | k + 1, j, h => by
    rw [grW]
    rcases Nat.lt_or_ge j k with h1 | h1
    · rw [List.getElem?_append_left (by rw [grW_len]; exact h1), grW_at c O k j h1]
    · rw [show j = k by omega, List.getElem?_append_right (by rw [grW_len]; exact Nat.le_refl _), grW_len]; simp
theorem outer_in {F : Nat → Bool} {n s i : Nat} (h : (outerOf F n s).testBit i = true) : i < n ∧ s.testBit i = false ∧ F (s ||| p2 i) = true := by
  rw [outer_bit] at h
  simp only [Bool.and_eq_true, decide_eq_true_eq, Bool.not_eq_true'] at h
  exact ⟨h.1, h.2.1, h.2.2⟩
theorem outer_mem {F : Nat → Bool} {n s i : Nat} (h1 : i < n) (h2 : s.testBit i = false) (h3 : F (s ||| p2 i) = true) : (outerOf F n s).testBit i = true := by
  rw [outer_bit, decide_eq_true h1, h2]
  show (true && (!false && F (s ||| p2 i))) = true
  rw [h3]; rfl
theorem outer_ne {F : Nat → Bool} {n : Nat} (h : Spc F n) (h7 : n ≤ 7) {s : Nat} (hs : F s = true) (hne : s ≠ low n) : outerOf F n s ≠ 0 := by
  have hsn := h.lt s hs
  have hng : andNot (low n) s ≠ 0 := by
    intro h0
    apply hne
    apply Nat.eq_of_testBit_eq
    intro i
    rw [Bool.eq_iff_iff]
    refine ⟨fun hi => ?_, (an0 _ _).1 h0 i⟩
    rw [low_bit, decide_eq_true_eq]
    exact bit_ltK hsn hi
  obtain ⟨j, hj1, hj2, _, hj4⟩ := fin_ex h h7 hs (low n) h.full ((an0 _ _).2 fun _ h => h) hng
  intro h0
  have := outer_mem hj1 hj2 hj4
  rw [h0, Nat.zero_testBit] at this
  cases this
theorem pc_low : ∀ n, n ≤ 7 → pc (low n) = n := by decide +kernel
theorem pc_is_low : ∀ n, n ≤ 7 → ∀ x, x < 128 → x < 2 ^ n → pc x = n → x = low n := by decide +kernel
theorem pc_stepK (s i : Nat) (hs : s < 128) (hi : i < 7) (hb : s.testBit i = false) : pc (s ||| p2 i) = pc s + 1 := pc_or s hs i hi hb
attribute [local irreducible] p2 low memB risB
theorem low_lt2 (n : Nat) : low n < 2 ^ n := by
  have h1 := p2_pos n
  have : low n + 1 = 2 ^ n := by unfold low; omega
  omega
/-- What holds of the first k items of the greedy word. -/
theorem gs_ok (c : Nat → Nat → Int) {F : Nat → Bool} {n : Nat} (h : Spc F n) (h7 : n ≤ 7) : ∀ k, k ≤ n → F (gs c (outerOf F n) k) = true ∧ pc (gs c (outerOf F n) k) = k
  | 0, _ => ⟨h.zero, by show pc 0 = 0; decide⟩
  | k + 1, hk => by
    obtain ⟨h1, h2⟩ := gs_ok c h h7 k (by omega)
    have hp := p2_le n 7 h7
    have hs := h.lt _ h1
    have hne : gs c (outerOf F n) k ≠ low n := by
      intro e
      rw [e, pc_low n h7] at h2
      omega
    have hO := outer_lt F n (gs c (outerOf F n) k) h7
    have hx := next_ex (c := c (gs c (outerOf F n) k)) hO (outer_ne h h7 h1 hne)
    obtain ⟨i1, i2, i3⟩ := outer_in hx.1
    refine ⟨i3, ?_⟩
    rw [gs_next, gi, pc_stepK _ _ (by omega) (by omega) i2, h2]
theorem gs_ne (c : Nat → Nat → Int) {F : Nat → Bool} {n : Nat} (h : Spc F n) (h7 : n ≤ 7) {k : Nat} (hk : k < n) : gs c (outerOf F n) k ≠ low n := by
  intro e
  have := (gs_ok c h h7 k (by omega)).2
  rw [e, pc_low n h7] at this
  omega
theorem gs_full (c : Nat → Nat → Int) {F : Nat → Bool} {n : Nat} (h : Spc F n) (h7 : n ≤ 7) : gs c (outerOf F n) n = low n := by
  obtain ⟨h1, h2⟩ := gs_ok c h h7 n (Nat.le_refl _)
  have hp := p2_le n 7 h7
  have hs := h.lt _ h1
  exact pc_is_low n h7 _ (by omega) hs h2
theorem gi_ok (c : Nat → Nat → Int) {F : Nat → Bool} {n : Nat} (h : Spc F n) (h7 : n ≤ 7) {k : Nat} (hk : k < n) : NextOf (c (gs c (outerOf F n) k)) (outerOf F n (gs c (outerOf F n) k)) (gi c (outerOf F n) k) :=
  next_ex (outer_lt F n _ h7) (outer_ne h h7 (gs_ok c h h7 k (by omega)).1 (gs_ne c h h7 hk))
theorem gi_in (c : Nat → Nat → Int) {F : Nat → Bool} {n : Nat} (h : Spc F n) (h7 : n ≤ 7) {k : Nat} (hk : k < n) : gi c (outerOf F n) k < n ∧ (gs c (outerOf F n) k).testBit (gi c (outerOf F n) k) = false :=
  ⟨(outer_in (gi_ok c h h7 hk).1).1, (outer_in (gi_ok c h h7 hk).1).2.1⟩
theorem gs_set (c : Nat → Nat → Int) (O : Nat → Nat) (m : Nat) : ∀ k, k ≤ m → setTo (grW c O m) k = gs c O k
  | 0, _ => rfl
  | k + 1, h => by
    rw [setTo, gs_set c O m k (by omega), grW_at c O m k (by omega), Int.toNat_natCast, gs_next]
end Go.Proofs.YtblglkgmnaklbaaDoor
