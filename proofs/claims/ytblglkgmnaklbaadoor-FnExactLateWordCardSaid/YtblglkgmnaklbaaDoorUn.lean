/- Plain mathematics: unions of two spaces' sets; the least space with given sets. -/
import Derived.Test.YtblglkgmnaklbaaDoorRn
namespace Go.Proofs.YtblglkgmnaklbaaDoor
open Go.RowKit
set_option maxRecDepth 100000

def prIn (lb : List Int) (x : Nat) (G : Nat → Bool) : Nat → (Nat → Bool)
  | 0 => G
  | k + 1 => upd (prIn lb x G k) (x ||| nth lb k) true
def prOut (la lb : List Int) : Nat → (Nat → Bool)
  | 0 => noSet
  | k + 1 => prIn lb (nth la k) (prOut la lb k) lb.length
theorem prIn_iff (lb : List Int) (x : Nat) (G : Nat → Bool) (y : Nat) : ∀ k, prIn lb x G k y = true ↔ G y = true ∨ ∃ j, j < k ∧ x ||| nth lb j = y
  | 0 => by simp [prIn]
  | k + 1 => by
    rw [prIn, upd]
    by_cases hx : y = x ||| nth lb k
    · rw [if_pos hx]; exact ⟨fun _ => .inr ⟨k, by omega, hx.symm⟩, fun _ => rfl⟩
    · rw [if_neg hx, prIn_iff lb x G y k]
      constructor
      · rintro (h | ⟨j, h1, h2⟩)
        · exact .inl h
        · exact .inr ⟨j, by omega, h2⟩
      · rintro (h | ⟨j, h1, h2⟩)
        · exact .inl h
        · refine .inr ⟨j, ?_, h2⟩
          rcases Nat.lt_or_ge j k with h | h
          · exact h
          · have : j = k := by omega
            subst this; exact absurd h2.symm hx
theorem prOut_iff (la lb : List Int) (y : Nat) : ∀ k, prOut la lb k y = true ↔ ∃ i, i < k ∧ ∃ j, j < lb.length ∧ nth la i ||| nth lb j = y
  | 0 => by simp [prOut, noSet]
  | k + 1 => by
    rw [prOut, prIn_iff, prOut_iff la lb y k]
    constructor
    · rintro (⟨i, h1, h2⟩ | h)
      · exact ⟨i, by omega, h2⟩
      · exact ⟨k, by omega, h⟩
    · rintro ⟨i, h1, h2⟩
      rcases Nat.lt_or_ge i k with h | h
      · exact .inl ⟨i, h, h2⟩
      · have : i = k := by omega
        subst this; exact .inr h2
theorem nth_left (a b : List Int) (j : Nat) (h : j < a.length) : nth (a ++ b) j = nth a j := by
  unfold nth; rw [List.getElem?_append_left h]
theorem nth_right (a b : List Int) (j : Nat) : nth (a ++ b) (a.length + j) = nth b j := by
  unfold nth; rw [List.getElem?_append_right (by omega), Nat.add_sub_cancel_left]
theorem nth_both (a b : List Int) (p : Nat → Prop) (ha : ∀ j, j < a.length → p (nth a j)) (hb : ∀ j, j < b.length → p (nth b j)) : ∀ j, j < (a ++ b).length → p (nth (a ++ b) j) := by
  intro j hj
  rcases Nat.lt_or_ge j a.length with h | h
  · rw [nth_left a b j h]; exact ha j h
  · obtain ⟨k, rfl⟩ := Nat.exists_eq_add_of_le h
    rw [nth_right]
    exact hb k (by simp at hj; omega)
theorem unionsF_or {l : List Int} (hl : ∀ j, j < l.length → nth l j < 128) (x : Nat) (hx : unionsF l x = true) (k : Nat) (hk : k < l.length) : unionsF l (x ||| nth l k) = true := uni_or l hl k l.length hk (Nat.le_refl _) x hx
/-- Unions are closed under unions. -/
theorem unionsF_uni {l : List Int} (hl : ∀ j, j < l.length → nth l j < 128) (x y : Nat) (hx : unionsF l x = true) (hy : unionsF l y = true) : unionsF l (x ||| y) = true := by
  have : ∀ k, k ≤ l.length → ∀ y, unionsTo l k y = true → unionsF l (x ||| y) = true := by
    intro k
    induction k with
    | zero =>
      intro _ y h
      simp only [unionsTo, upd, noSet] at h
      split at h
      · rename_i e; subst e; rw [Nat.or_zero]; exact hx
      · cases h
    | succ k ih =>
      intro hk y h
      rcases (step_iff _ _ y 128).1 h with h | ⟨i, _, h1, h2⟩
      · exact ih (by omega) y h
      · rw [← h2, ← Nat.or_assoc]
        exact unionsF_or hl _ (ih (by omega) i h1) k (by omega)
  exact this l.length (Nat.le_refl _) y hy
theorem both_same {n : Int} {la lb : List Int} (ha : okSp n la = true) (hb : okSp n lb = true) :
    unionsF (setsTo (marksTo la la.length) 128 ++ setsTo (marksTo lb lb.length) 128) = prOut la lb la.length := by
  have hA := okSp_spc ha
  have hB := okSp_spc hb
  generalize hL : setsTo (marksTo la la.length) 128 ++ setsTo (marksTo lb lb.length) 128 = L
  have hl : ∀ j, j < L.length → nth L j < 128 := by
    rw [← hL]
    exact nth_both _ _ (fun x => x < 128) (fun j hj => okSp_lt128 ha _ (sets_at _ j hj)) (fun j hj => okSp_lt128 hb _ (sets_at _ j hj))
  have inA : ∀ a, marksTo la la.length a = true → ∃ j, j < L.length ∧ nth L j = a := by
    intro a h
    obtain ⟨j, hj, e⟩ := (sets_iff _ a 128).2 ⟨okSp_lt128 ha a h, h⟩
    refine ⟨j, by rw [← hL]; simp; omega, ?_⟩
    rw [← hL, nth_left _ _ _ hj]; exact e
  have inB : ∀ a, marksTo lb lb.length a = true → ∃ j, j < L.length ∧ nth L j = a := by
    intro a h
    obtain ⟨j, hj, e⟩ := (sets_iff _ a 128).2 ⟨okSp_lt128 hb a h, h⟩
    refine ⟨(setsTo (marksTo la la.length) 128).length + j, by rw [← hL]; simp; omega, ?_⟩
    rw [← hL, nth_right]; exact e
  have hP : ∀ y, prOut la lb la.length y = true ↔ ∃ a b, marksTo la la.length a = true ∧ marksTo lb lb.length b = true ∧ a ||| b = y := by
    intro y
    rw [prOut_iff]
    constructor
    · rintro ⟨i, hi, j, hj, e⟩
      exact ⟨_, _, (okSp_has ha _).2 ⟨i, hi, rfl⟩, (okSp_has hb _).2 ⟨j, hj, rfl⟩, e⟩
    · rintro ⟨a, b, h1, h2, e⟩
      obtain ⟨i, hi, e1⟩ := (okSp_has ha a).1 h1
      obtain ⟨j, hj, e2⟩ := (okSp_has hb b).1 h2
      exact ⟨i, hi, j, hj, by rw [e1, e2]; exact e⟩
  funext y
  rw [Bool.eq_iff_iff]
  constructor
  · intro h
    refine uni_in L (prOut la lb la.length) ?_ ?_ ?_ L.length (Nat.le_refl _) y h
    · exact (hP 0).2 ⟨0, 0, hA.zero, hB.zero, rfl⟩
    · rw [← hL]
      refine nth_both _ _ (fun x => prOut la lb la.length x = true) (fun j hj => ?_) (fun j hj => ?_)
      · exact (hP _).2 ⟨_, 0, sets_at _ j hj, hB.zero, by rw [Nat.or_zero]⟩
      · exact (hP _).2 ⟨0, _, hA.zero, sets_at _ j hj, by rw [Nat.zero_or]⟩
    · intro x y hx hy
      obtain ⟨a, b, h1, h2, e⟩ := (hP x).1 hx
      obtain ⟨c, d, h3, h4, e2⟩ := (hP y).1 hy
      refine (hP _).2 ⟨a ||| c, b ||| d, hA.uni _ _ h1 h3, hB.uni _ _ h2 h4, ?_⟩
      rw [← e, ← e2]
      apply Nat.eq_of_testBit_eq
      intro i
      simp only [Nat.testBit_or]
      cases a.testBit i <;> cases b.testBit i <;> cases c.testBit i <;> cases d.testBit i <;> rfl
  · intro h
    obtain ⟨a, b, h1, h2, e⟩ := (hP y).1 h
    obtain ⟨i, hi, e1⟩ := inA a h1
    obtain ⟨j, hj, e2⟩ := inB b h2
    have h3 : unionsF L a = true := by rw [← e1]; exact uni_has L hl i hi
    have h4 := unionsF_or hl a h3 j hj
    rw [e2, e] at h4
    exact h4

/-! ### The least space with given sets -/
/-- 0 and the first k of the given sets. -/
def givTo (l : List Int) : Nat → (Nat → Bool)
  | 0 => upd noSet 0 true
  | k + 1 => upd (givTo l k) (nth l k) true
theorem giv_iff (l : List Int) (x : Nat) : ∀ k, givTo l k x = true ↔ x = 0 ∨ ∃ j, j < k ∧ nth l j = x
  | 0 => by
    simp only [givTo, upd, noSet]
    by_cases hx : x = 0
    · rw [if_pos hx]; exact ⟨fun _ => .inl hx, fun _ => rfl⟩
    · rw [if_neg hx]
      constructor
      · intro h; cases h
      · rintro (h | ⟨j, h, _⟩)
        · exact absurd h hx
        · omega
  | k + 1 => by
    rw [givTo, upd]
    by_cases hx : x = nth l k
    · rw [if_pos hx]; exact ⟨fun _ => .inr ⟨k, by omega, hx.symm⟩, fun _ => rfl⟩
    · rw [if_neg hx, giv_iff l x k]
      constructor
      · rintro (h | ⟨j, h1, h2⟩)
        · exact .inl h
        · exact .inr ⟨j, by omega, h2⟩
      · rintro (h | ⟨j, h1, h2⟩)
        · exact .inl h
        · refine .inr ⟨j, ?_, h2⟩
          rcases Nat.lt_or_ge j k with h | h
          · exact h
          · have : j = k := by omega
            subst this; exact absurd h2.symm hx
/-- Unions of the given sets, and of the given sets in order with 0, are the same. -/
theorem unions_giv (l : List Int) (hl : ∀ j, j < l.length → nth l j < 128) : unionsF (setsTo (givTo l l.length) 128) = unionsF l := by
  have hG : ∀ x, givTo l l.length x = true → x < 128 := by
    intro x hx
    rcases (giv_iff l x _).1 hx with h | ⟨j, hj, e⟩
    · omega
    · rw [← e]; exact hl j hj
  have hl2 : ∀ j, j < (setsTo (givTo l l.length) 128).length → nth (setsTo (givTo l l.length) 128) j < 128 := fun j hj => hG _ (sets_at _ j hj)
  funext y
  rw [Bool.eq_iff_iff]
  constructor
  · intro h
    refine uni_in _ (unionsF l) (uni_zero l _) (fun j hj => ?_) (fun a b => unionsF_uni hl a b) _ (Nat.le_refl _) y h
    rcases (giv_iff l _ _).1 (sets_at _ j hj) with h | ⟨i, hi, e⟩
    · rw [h]; exact uni_zero l _
    · rw [← e]; exact uni_has l hl i hi
  · intro h
    refine uni_in _ (unionsF (setsTo (givTo l l.length) 128)) (uni_zero _ _) (fun j hj => ?_) (fun a b => unionsF_uni hl2 a b) _ (Nat.le_refl _) y h
    obtain ⟨i, hi, e⟩ := (sets_iff (givTo l l.length) (nth l j) 128).2 ⟨hl j hj, (giv_iff l _ _).2 (.inr ⟨j, hj, rfl⟩)⟩
    rw [← e]; exact uni_has _ hl2 i hi
theorem sub_or {a b : Nat} : andNot a b = 0 ↔ ∀ i, a.testBit i = true → b.testBit i = true := by
  constructor
  · intro h i hi
    have := congrArg (fun z => z.testBit i) h
    simp [andNot_bit, hi] at this
    exact this
  · intro h
    apply Nat.eq_of_testBit_eq
    intro i
    rw [andNot_bit, Nat.zero_testBit]
    cases hi : a.testBit i
    · rfl
    · rw [h i hi]; rfl
/-- The given sets make a space if each can be learnt and they have all items together. -/
theorem given_space (n : Nat) (l : List Int) (h7 : n ≤ 7) (hl : ∀ j, j < l.length → nth l j < 2 ^ n) (hg : gradedTo (givTo l l.length) n 128 = true) :
    spaceB (unionsF l) n = (withinOf (givTo l l.length) n (low n) == low n) := by
  have h128 := p2_le n 7 h7
  have hl128 : ∀ j, j < l.length → nth l j < 128 := fun j hj => by have := hl j hj; omega
  have hlow := low_succ n
  have hpos := p2_pos n
  have hgiv : ∀ x, givTo l l.length x = true → x < 2 ^ n := by
    intro x hx
    rcases (giv_iff l x _).1 hx with h | ⟨j, hj, e⟩
    · omega
    · rw [← e]; exact hl j hj
  have hU : ∀ x, unionsF l x = true → x < 2 ^ n := by
    intro x hx
    have := uni_in l (fun x => decide (x < 2 ^ n)) (decide_eq_true hpos) (fun j hj => by simpa using hl j hj) (fun a b ha hb => by
      rw [decide_eq_true_eq] at ha hb ⊢; exact Nat.or_lt_two_pow ha hb) l.length (Nat.le_refl _) x hx
    simpa using this
  have hgU : ∀ x, givTo l l.length x = true → unionsF l x = true := by
    intro x hx
    rcases (giv_iff l x _).1 hx with h | ⟨j, hj, e⟩
    · rw [h]; exact uni_zero l _
    · rw [← e]; exact uni_has l hl128 j hj
  have hg2 := (graded_iff (givTo l l.length) n 128).1 hg
  -- graded
  have down : ∀ m g, g < m → givTo l l.length g = true → ∀ y, unionsF l y = true → andNot g y ≠ 0 → ∃ i, i < n ∧ (y ||| g).testBit i = true ∧ unionsF l (andNot (y ||| g) (p2 i)) = true := by
    intro m
    induction m with
    | zero => intro g hg; omega
    | succ m ih =>
      intro g hgm hgg y hy hne
      have g0 : g ≠ 0 := by
        intro e; subst e; apply hne
        apply Nat.eq_of_testBit_eq
        intro i
        rw [andNot_bit]; simp
      obtain ⟨i, hi, hb, hf⟩ := inner_some.1 (hg2 g (by have := hgiv g hgg; omega) hgg g0)
      by_cases hyi : y.testBit i = true
      · have hlt2 : andNot g (p2 i) < g := by
          apply Nat.lt_of_le_of_ne
          · apply Nat.le_of_not_lt
            intro hgt
            have h3 : g ||| andNot g (p2 i) = g := by
              apply Nat.eq_of_testBit_eq
              intro j
              rw [Nat.testBit_or, andNot_bit]
              cases g.testBit j <;> simp
            have := Nat.right_le_or (n := g) (m := andNot g (p2 i))
            omega
          · intro e
            have := congrArg (fun z => z.testBit i) e
            simp [andNot_bit, p2_bit, hb] at this
        have e : y ||| andNot g (p2 i) = y ||| g := by
          apply Nat.eq_of_testBit_eq
          intro j
          rw [Nat.testBit_or, Nat.testBit_or, andNot_bit, p2_bit]
          by_cases hij : i = j
          · subst hij; rw [hyi]; rfl
          · rw [decide_eq_false hij]; simp
        have := ih (andNot g (p2 i)) (by omega) hf y hy (by
          intro h0
          apply hne
          rw [sub_or] at h0 ⊢
          intro j hj
          by_cases hij : i = j
          · subst hij; exact hyi
          · exact h0 j (by rw [andNot_bit, p2_bit, hj, decide_eq_false hij]; rfl))
        rwa [e] at this
      · refine ⟨i, hi, by rw [Nat.testBit_or, hb, Bool.or_true], ?_⟩
        have e : andNot (y ||| g) (p2 i) = y ||| andNot g (p2 i) := by
          apply Nat.eq_of_testBit_eq
          intro j
          rw [Nat.testBit_or, andNot_bit, andNot_bit, p2_bit, Nat.testBit_or]
          by_cases hij : i = j
          · subst hij
            simp at hyi
            rw [hyi]; simp
          · rw [decide_eq_false hij]; simp
        rw [e]
        exact unionsF_uni hl128 _ _ hy (hgU _ hf)
  have grad : ∀ k, k ≤ l.length → ∀ x, unionsTo l k x = true → x ≠ 0 → ∃ i, i < n ∧ x.testBit i = true ∧ unionsF l (andNot x (p2 i)) = true := by
    intro k
    induction k with
    | zero =>
      intro _ x h h0
      simp only [unionsTo, upd, noSet] at h
      split at h
      · rename_i e; exact absurd e h0
      · cases h
    | succ k ih =>
      intro hk x h h0
      rcases (step_iff _ _ x 128).1 h with h | ⟨y, _, h1, h2⟩
      · exact ih (by omega) x h h0
      · change y ||| nth l k = x at h2
        have hy : unionsF l y = true := uni_mono l k l.length y (by omega) h1
        by_cases hne : andNot (nth l k) y = 0
        · have e : x = y := by
            rw [← h2]
            apply Nat.eq_of_testBit_eq
            intro j
            rw [Nat.testBit_or]
            cases hj : (nth l k).testBit j
            · simp
            · rw [sub_or.1 hne j hj]; rfl
          rw [e] at h0 ⊢
          exact ih (by omega) y h1 h0
        · rw [← h2]
          exact down (nth l k + 1) (nth l k) (by omega) ((giv_iff l _ _).2 (.inr ⟨k, by omega, rfl⟩)) y hy hne
  have hW : unionsF l (withinOf (givTo l l.length) n (low n)) = true := by
    have : ∀ k, k ≤ 2 ^ n → unionsF l (orTo (pickIn (givTo l l.length) (low n)) k) = true := by
      intro k
      induction k with
      | zero => intro _; exact uni_zero l _
      | succ k ih =>
        intro hk
        show unionsF l (orTo (pickIn (givTo l l.length) (low n)) k ||| pickIn (givTo l l.length) (low n) k) = true
        refine unionsF_uni hl128 _ _ (ih (by omega)) ?_
        unfold pickIn
        split
        · rename_i hc
          rw [Bool.and_eq_true] at hc
          exact hgU _ hc.1
        · exact uni_zero l _
    exact this (2 ^ n) (Nat.le_refl _)
  rw [Bool.eq_iff_iff, spc_iff h7 hU, beq_iff_eq]
  constructor
  · intro hs
    apply Nat.eq_of_testBit_eq
    intro i
    rw [low_bit, Bool.eq_iff_iff, decide_eq_true_eq]
    constructor
    · intro hb
      rcases Nat.lt_or_ge i n with h | h
      · exact h
      · rw [Nat.testBit_lt_two_pow (Nat.lt_of_lt_of_le (withinOf_lt _ n _) (p2_le n i h))] at hb; cases hb
    · intro hi
      have h1 := uni_in l (fun x => andNot x (withinOf (givTo l l.length) n (low n)) == 0) (by
        rw [beq_iff_eq, sub_or]; intro i hi; simp at hi) (fun j hj => by
        rw [beq_iff_eq, sub_or]
        intro b hb
        show (orTo (pickIn (givTo l l.length) (low n)) (2 ^ n)).testBit b = true
        rw [orTo_bit, decide_eq_true_eq]
        refine ⟨nth l j, hl j hj, ?_⟩
        have e1 : givTo l l.length (nth l j) = true := (giv_iff l _ _).2 (.inr ⟨j, hj, rfl⟩)
        have e2 : andNot (nth l j) (low n) = 0 := by
          rw [sub_or]
          intro c hc
          rw [low_bit, decide_eq_true_eq]
          rcases Nat.lt_or_ge c n with h | h
          · exact h
          · rw [Nat.testBit_lt_two_pow (Nat.lt_of_lt_of_le (hl j hj) (p2_le n c h))] at hc; cases hc
        unfold pickIn
        rw [e1, e2]
        exact hb) (fun a b ha hb => by
        rw [beq_iff_eq, sub_or] at ha hb ⊢
        intro i hi
        rw [Nat.testBit_or, Bool.or_eq_true] at hi
        rcases hi with hi | hi
        · exact ha i hi
        · exact hb i hi) l.length (Nat.le_refl _) (low n) hs.full
      rw [beq_iff_eq, sub_or] at h1
      exact h1 i (by rw [low_bit, decide_eq_true_eq]; exact hi)
  · intro e
    refine ⟨hU, uni_zero l _, by rw [← e]; exact hW, fun s hs h0 => grad l.length (Nat.le_refl _) s hs h0, fun a b => unionsF_uni hl128 a b⟩
end Go.Proofs.YtblglkgmnaklbaaDoor
