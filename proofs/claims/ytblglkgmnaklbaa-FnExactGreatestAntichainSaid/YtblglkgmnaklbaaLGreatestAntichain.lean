import Derived.Test.YtblglkgmnaklbaaWdi
import Derived.Test.YtblglkgmnaklbaaIa
import Derived.Test.YtblglkgmnaklbaaTw
import Derived.Test.YtblglkgmnaklbaaAp
import Derived.Test.YtblglkgmnaklbaaAx
import Derived.Test.YtblglkgmnaklbaaRows
import Derived.Test.YtblglkgmnaklbaaHar
import Derived.ProofKit
import Derived.OpenShut
import Derived.Lib.SmallJoins
/- Mathematics: as many chains as the greatest antichain has sets. No program is named here. -/
namespace Go.Proofs.Ytblglkgmnaklbaa
open Go.RowKit
set_option maxRecDepth 100000
set_option linter.unusedSimpArgs false
/-- One set is part of another one, and less. -/
def ptB (P : Nat → Bool) (j x : Nat) : Prop := P j = true ∧ j < x ∧ andNot j x = 0
/-- What cannot be put elsewhere: a set of sets with followers, with all parts of these. -/
def clM (P : Nat → Bool) (s : Mst) (D : Nat → Prop) : Prop := ∀ k, D k → s.nx k ≠ 0 ∧ ∀ j, ptB P j (s.nx k) → D j
section
variable {P : Nat → Bool}
theorem puM_keep : ∀ f x k s t, puM P f x k s = some (false, t) → t.nx = s.nx ∧ t.bf = s.bf := by
  intro f
  induction f using Nat.strongRecOn with
  | ind f ih =>
    intro x k s t h
    obtain ⟨g, e0, hc⟩ := puM_cases h
    clear h
    subst e0
    rcases hc with ⟨_, _, rfl⟩ | ⟨_, _, h⟩ | ⟨_, _, _, h, _⟩ | ⟨_, _, _, r1, t1, h1, h2⟩
    · exact ⟨rfl, rfl⟩
    · exact ih g (by omega) _ _ _ _ h
    · cases h
    · rcases h2 with ⟨_, h2, _⟩ | ⟨h3, h2⟩
      · cases h2
      · subst h3
        have q1 := ih g (by omega) _ _ _ _ h1
        have q2 := ih g (by omega) _ _ _ _ h2
        exact ⟨q2.1.trans q1.1, q2.2.trans q1.2⟩
theorem fit_pt {s : Mst} {x k : Nat} (hk : k < x) (h : fitM P s x k = true) : ptB P k x := by
  obtain ⟨h1, h2, _⟩ := fitM_iff.1 h
  exact ⟨h1, hk, h2⟩
theorem clM.same {s t : Mst} {D : Nat → Prop} (h : clM P s D) (e : t.nx = s.nx) : clM P t D := by
  intro k hk
  rw [e]
  exact h k hk
theorem puM_stuck {D : Nat → Prop} : ∀ f x k s r t, puM P f x k s = some (r, t) → clM P s D → (∀ j, ptB P j x → D j) → r = false := by
  intro f
  induction f using Nat.strongRecOn with
  | ind f ih =>
    intro x k s r t h hD hx
    obtain ⟨g, e0, hc⟩ := puM_cases h
    clear h
    subst e0
    rcases hc with ⟨_, h, _⟩ | ⟨_, _, h⟩ | ⟨h1, h2, h3, _, _⟩ | ⟨h1, h2, h3, r1, t1, h4, h5⟩
    · exact h
    · exact ih g (by omega) _ _ _ _ _ h hD hx
    · exact absurd h3 (hD k (hx k (fit_pt h1 h2))).1
    · have hDk := hx k (fit_pt h1 h2)
      have q := ih g (by omega) _ _ _ _ _ h4 (hD.same (t := s.mark k) rfl) (hD k hDk).2
      subst q
      rcases h5 with ⟨h5, _⟩ | ⟨_, h5⟩
      · cases h5
      · exact ih g (by omega) _ _ _ _ _ h5 (hD.same (puM_keep _ _ _ _ _ h4).1) hx
theorem puM_fixed {D : Nat → Prop} : ∀ f x k s r t, puM P f x k s = some (r, t) → clM P s D → ∀ j, D j → t.nx j = s.nx j := by
  intro f
  induction f using Nat.strongRecOn with
  | ind f ih =>
    intro x k s r t h hD j hj
    obtain ⟨g, e0, hc⟩ := puM_cases h
    clear h
    subst e0
    rcases hc with ⟨_, _, rfl⟩ | ⟨_, _, h⟩ | ⟨h1, h2, h3, _, rfl⟩ | ⟨h1, h2, h3, r1, t1, h4, h5⟩
    · rfl
    · exact ih g (by omega) _ _ _ _ _ h hD j hj
    · have hne : j ≠ k := fun e => by rw [e] at hj; exact (hD k hj).1 h3
      show updM s.nx k x j = s.nx j
      exact updM_ne hne
    · have hm := hD.same (t := s.mark k) rfl
      have q1 := ih g (by omega) _ _ _ _ _ h4 hm j hj
      rcases h5 with ⟨h5, _, rfl⟩ | ⟨h5, h6⟩
      · subst h5
        have hne : j ≠ k := fun e => by
          rw [e] at hj
          have := puM_stuck _ _ _ _ _ _ h4 hm (hD k hj).2
          cases this
        show updM t1.nx k x j = s.nx j
        rw [updM_ne hne]; exact q1
      · subst h5
        have e := (puM_keep _ _ _ _ _ h4).1
        have q2 := ih g (by omega) _ _ _ _ _ h6 (hD.same e) j hj
        rw [q2, e]; rfl
theorem clM.put {D : Nat → Prop} {f x k : Nat} {s t : Mst} {r : Bool} (h : puM P f x k s = some (r, t)) (hD : clM P s D) : clM P t D := by
  intro j hj
  rw [puM_fixed _ _ _ _ _ _ h hD j hj]
  exact hD j hj
/-- What a search that fails has tried is such a set. -/
theorem puM_tried : ∀ f x k s t, puM P f x k s = some (false, t) → (∀ j, k ≤ j → ptB P j x → t.tr j = true) ∧ ∀ j, t.tr j = true → s.tr j = true ∨ (s.nx j ≠ 0 ∧ ∀ i, ptB P i (s.nx j) → t.tr i = true) := by
  intro f
  induction f using Nat.strongRecOn with
  | ind f ih =>
    intro x k s t h
    have hmono := puM_tr _ _ _ _ _ _ h
    obtain ⟨g, e0, hc⟩ := puM_cases h
    clear h
    subst e0
    rcases hc with ⟨h1, _, rfl⟩ | ⟨h1, h2, h⟩ | ⟨_, _, _, h, _⟩ | ⟨h1, h2, h3, r1, t1, h4, h5⟩
    · exact ⟨fun j hj hp => by have := hp.2.1; omega, fun j hj => .inl hj⟩
    · obtain ⟨q1, q2⟩ := ih g (by omega) _ _ _ _ h
      refine ⟨fun j hj hp => ?_, q2⟩
      rcases Nat.lt_or_ge k j with e | e
      · exact q1 j (by omega) hp
      · have : j = k := by omega
        subst this
        refine hmono j ?_
        cases e2 : s.tr j
        · have : fitM P s x j = true := fitM_iff.2 ⟨hp.1, hp.2.2, e2⟩
          rw [this] at h2; cases h2
        · rfl
    · cases h
    · rcases h5 with ⟨_, h5, _⟩ | ⟨h5, h6⟩
      · cases h5
      · subst h5
        have e := (puM_keep _ _ _ _ _ h4).1
        have m4 := puM_tr _ _ _ _ _ _ h4
        have m6 := puM_tr _ _ _ _ _ _ h6
        obtain ⟨a1, a2⟩ := ih g (by omega) _ _ _ _ h4
        obtain ⟨b1, b2⟩ := ih g (by omega) _ _ _ _ h6
        refine ⟨fun j hj hp => ?_, fun j hj => ?_⟩
        · rcases Nat.lt_or_ge k j with e2 | e2
          · exact b1 j (by omega) hp
          · have : j = k := by omega
            subst this
            exact m6 j (m4 j (show upd s.tr j true j = true by unfold upd; rw [if_pos rfl]))
        · rcases b2 j hj with c | ⟨c1, c2⟩
          · rcases a2 j c with d | ⟨d1, d2⟩
            · have d' : upd s.tr k true j = true := d
              unfold upd at d'
              by_cases e3 : j = k
              · subst e3
                exact .inr ⟨h3, fun i hi => m6 i (a1 i (Nat.zero_le _) hi)⟩
              · rw [if_neg e3] at d'; exact .inl d'
            · exact .inr ⟨d1, fun i hi => m6 i (d2 i hi)⟩
          · rw [e] at c1 c2
            exact .inr ⟨c1, c2⟩
theorem puM_bf (h0 : P 0 = false) : ∀ f x k s r t, puM P f x k s = some (r, t) → (∀ y, s.bf y ≠ 0 → t.bf y ≠ 0) ∧ (r = true → t.bf x ≠ 0) := by
  intro f
  induction f using Nat.strongRecOn with
  | ind f ih =>
    intro x k s r t h
    obtain ⟨g, e0, hc⟩ := puM_cases h
    clear h
    subst e0
    have hput : ∀ (t1 : Mst) (k : Nat), P k = true → (∀ y, t1.bf y ≠ 0 → (t1.put k x).bf y ≠ 0) ∧ (t1.put k x).bf x ≠ 0 := by
      intro t1 k hk
      have hk0 : k ≠ 0 := fun e => by rw [e, h0] at hk; cases hk
      refine ⟨fun y hy => ?_, ?_⟩
      · show updM t1.bf x k y ≠ 0
        unfold updM; split
        · exact hk0
        · exact hy
      · show updM t1.bf x k x ≠ 0
        rw [updM_at]; exact hk0
    rcases hc with ⟨_, h1, rfl⟩ | ⟨_, _, h⟩ | ⟨_, h2, _, _, rfl⟩ | ⟨_, h2, _, r1, t1, h4, h5⟩
    · exact ⟨fun y hy => hy, fun e => by rw [h1] at e; cases e⟩
    · exact ih g (by omega) _ _ _ _ _ h
    · have := hput (s.mark k) k (fitM_iff.1 h2).1
      exact ⟨this.1, fun _ => this.2⟩
    · have q := ih g (by omega) _ _ _ _ _ h4
      rcases h5 with ⟨_, _, rfl⟩ | ⟨_, h6⟩
      · have := hput t1 k (fitM_iff.1 h2).1
        exact ⟨fun y hy => this.1 y (q.1 y hy), fun _ => this.2⟩
      · have q2 := ih g (by omega) _ _ _ _ _ h6
        exact ⟨fun y hy => q2.1 y (q.1 y hy), q2.2⟩
/-- All that was not put is stuck. -/
def stM (P : Nat → Bool) (X : Nat) (s : Mst) : Prop := ∃ D : Nat → Prop, clM P s D ∧ ∀ y, y < X → P y = true → s.bf y = 0 → ∀ j, ptB P j y → D j
theorem maTo_st (h0 : P 0 = false) (hP : ∀ x, P x = true → x < 128) : ∀ X, stM P X (maTo P X)
  | 0 => ⟨fun _ => False, fun k hk => hk.elim, fun y hy => by omega⟩
  | X + 1 => by
    obtain ⟨D, hD, hU⟩ := maTo_st h0 hP X
    cases hp : P X
    · rw [maTo_no hp]
      refine ⟨D, hD, fun y hy hPy => ?_⟩
      rcases Nat.lt_or_ge y X with e | e
      · exact hU y e hPy
      · rw [show y = X by omega, hp] at hPy; cases hPy
    · rw [maTo_yes hp]
      obtain ⟨r, hpu, _⟩ := maSt_some h0 hP (maTo_at h0 hP X) hp
      generalize maTo P X = s at *
      generalize maSt P X s = t at *
      have hDf : clM P s.fresh D := hD.same rfl
      have hbf := puM_bf h0 _ _ _ _ _ _ hpu
      cases r
      · obtain ⟨e1, e2⟩ := puM_keep _ _ _ _ _ hpu
        obtain ⟨q1, q2⟩ := puM_tried _ _ _ _ _ hpu
        refine ⟨fun j => D j ∨ t.tr j = true, fun k hk => ?_, fun y hy hPy hby j hj => ?_⟩
        · rw [e1]
          rcases hk with hk | hk
          · exact ⟨(hD k hk).1, fun j hj => .inl ((hD k hk).2 j hj)⟩
          · rcases q2 k hk with c | ⟨c1, c2⟩
            · cases c
            · exact ⟨c1, fun j hj => .inr (c2 j hj)⟩
        · rcases Nat.lt_or_ge y X with e | e
          · exact .inl (hU y e hPy (by rw [e2] at hby; exact hby) j hj)
          · rw [show y = X by omega] at hj
            exact .inr (q1 j (Nat.zero_le _) hj)
      · refine ⟨D, clM.put hpu hDf, fun y hy hPy hby j hj => ?_⟩
        rcases Nat.lt_or_ge y X with e | e
        · refine hU y e hPy ?_ j hj
          by_cases e3 : s.bf y = 0
          · exact e3
          · exact absurd hby (hbf.1 y e3)
        · rw [show y = X by omega] at hby
          exact absurd hby (hbf.2 rfl)
end
/-! ### Counting -/
/-- How many of the first k numbers are marked. -/
def ctW (F : Nat → Bool) (k : Nat) : Nat := (setsTo F k).length
theorem ctW_succ (F : Nat → Bool) (k : Nat) : ctW F (k + 1) = ctW F k + if F k = true then 1 else 0 := by
  unfold ctW
  by_cases h : F k = true
  · rw [setsTo_succ h, if_pos h]; simp
  · rw [setsTo_noW h, if_neg h]; rfl
theorem ctW_less (G : Nat → Bool) (y : Nat) : ∀ N, y < N → G y = true → ctW (upd G y false) N + 1 = ctW G N
  | 0, h, _ => by omega
  | N + 1, h, hy => by
    rw [ctW_succ, ctW_succ]
    rcases Nat.lt_or_ge y N with e | e
    · have := ctW_less G y N e hy
      have e2 : upd G y false N = G N := by unfold upd; rw [if_neg (by omega)]
      rw [e2]; omega
    · have : y = N := by omega
      subst this
      have e2 : upd G y false y = false := by unfold upd; rw [if_pos rfl]
      have e3 : ctW (upd G y false) y = ctW G y := by
        unfold ctW
        rw [setsTo_congr y (fun i hi => by unfold upd; rw [if_neg (by omega)])]
      rw [e2, hy, e3]; simp
/-- As many at most, if each one has one of its own. -/
theorem ctW_inj (f : Nat → Nat) (M : Nat) : ∀ (N : Nat) (F G : Nat → Bool), (∀ x, x < N → F x = true → f x < M ∧ G (f x) = true) → (∀ x y, x < N → y < N → F x = true → F y = true → f x = f y → x = y) → ctW F N ≤ ctW G M
  | 0, F, G, _, _ => by simp [ctW, setsTo]
  | N + 1, F, G, h1, h2 => by
    rw [ctW_succ]
    by_cases h : F N = true
    · obtain ⟨a1, a2⟩ := h1 N (by omega) h
      rw [if_pos h, ← ctW_less G (f N) M a1 a2]
      have := ctW_inj f M N F (upd G (f N) false) (fun x hx hF => by
        obtain ⟨b1, b2⟩ := h1 x (by omega) hF
        refine ⟨b1, ?_⟩
        unfold upd
        rw [if_neg (fun e => by have := h2 x N (by omega) (by omega) hF h e; omega)]
        exact b2) (fun x y hx hy => h2 x y (by omega) (by omega))
      omega
    · rw [if_neg h]
      exact ctW_inj f M N F G (fun x hx => h1 x (by omega)) (fun x y hx hy => h2 x y (by omega) (by omega))
end Go.Proofs.Ytblglkgmnaklbaa
/- Mathematics: the width of sets is the greatest number of them that are an antichain. No program is named here. -/
namespace Go.Proofs.Ytblglkgmnaklbaa
open Go.RowKit
set_option maxRecDepth 100000
set_option linter.unusedSimpArgs false
/-- Marks of sets none of which is part of another one. -/
def antF (A : Nat → Bool) : Prop := ∀ x y, A x = true → A y = true → x < y → andNot x y ≠ 0
theorem andNot_zeroW {a b : Nat} : andNot a b = 0 ↔ ∀ i, a.testBit i = true → b.testBit i = true := by
  constructor
  · intro h i hi
    have h1 : (andNot a b).testBit i = false := by rw [h]; simp
    unfold andNot at h1
    rw [Nat.testBit_xor, Nat.testBit_and, hi] at h1
    simpa using h1
  · intro h
    apply Nat.eq_of_testBit_eq
    intro i
    unfold andNot
    rw [Nat.testBit_xor, Nat.testBit_and, Nat.zero_testBit]
    cases h1 : a.testBit i
    · simp
    · rw [h i h1]; rfl
theorem andNot_trans {a b c : Nat} (h1 : andNot a b = 0) (h2 : andNot b c = 0) : andNot a c = 0 := by
  rw [andNot_zeroW] at *
  exact fun i hi => h2 i (h1 i hi)
section
variable {P : Nat → Bool} {s : Mst} (h0 : P 0 = false) (hP : ∀ x, P x = true → x < 128) (hs : OkM P s)
include h0 hP hs
omit hP in
theorem bf_less {y : Nat} (hy : P y = true) (h : s.bf y ≠ 0) : s.bf y < y ∧ andNot (s.bf y) y = 0 ∧ P (s.bf y) = true ∧ s.nx (s.bf y) = y := by
  have h1 := hs.b y h
  have hy0 : y ≠ 0 := fun e => by rw [e, h0] at hy; cases hy
  have h2 := hs.w (s.bf y) (by rw [h1]; exact hy0)
  rw [h1] at h2
  exact ⟨h2.2.2.1, h2.2.2.2, h2.1, h1⟩
omit h0 hP hs in
/-- The first set of the chain of a set. -/
def hdM (s : Mst) : Nat → Nat → Nat
  | 0, x => x
  | f + 1, x => if s.bf x = 0 then x else hdM s f (s.bf x)
omit hP in
theorem hdM_ok : ∀ f x, P x = true → x ≤ f → P (hdM s f x) = true ∧ s.bf (hdM s f x) = 0 ∧ hdM s f x ≤ x
  | 0, x, hx, h => by have : x = 0 := by omega
                      rw [this, h0] at hx; cases hx
  | f + 1, x, hx, h => by
    rw [hdM]
    by_cases e : s.bf x = 0
    · rw [if_pos e]; exact ⟨hx, e, Nat.le_refl _⟩
    · rw [if_neg e]
      obtain ⟨q1, _, q3, _⟩ := bf_less h0 hs hx e
      obtain ⟨a, b, c⟩ := hdM_ok f (s.bf x) q3 (by omega)
      exact ⟨a, b, by omega⟩
omit hP in
theorem hdM_more : ∀ f g x, P x = true → x ≤ f → x ≤ g → hdM s f x = hdM s g x
  | 0, _, x, hx, h, _ => by have : x = 0 := by omega
                            rw [this, h0] at hx; cases hx
  | _ + 1, 0, x, hx, _, h => by have : x = 0 := by omega
                                rw [this, h0] at hx; cases hx
  | f + 1, g + 1, x, hx, h1, h2 => by
    rw [hdM, hdM]
    by_cases e : s.bf x = 0
    · rw [if_pos e, if_pos e]
    · rw [if_neg e, if_neg e]
      obtain ⟨q1, _, q3, _⟩ := bf_less h0 hs hx e
      exact hdM_more f g _ q3 (by omega) (by omega)
theorem hdM_bf {x : Nat} (hx : P x = true) (e : s.bf x ≠ 0) : hdM s 128 x = hdM s 128 (s.bf x) := by
  have h8 := hP x hx
  obtain ⟨q1, _, q3, _⟩ := bf_less h0 hs hx e
  have h1 : hdM s 128 x = hdM s 127 (s.bf x) := by rw [hdM, if_neg e]
  rw [h1]
  exact hdM_more h0 hs 127 128 _ q3 (by omega) (by omega)
omit h0 hP hs in
theorem hdM_top {x : Nat} (e : s.bf x = 0) : hdM s 128 x = x := by rw [hdM, if_pos e]
/-- Of two sets of one chain, one is part of the other one. -/
theorem chain_part : ∀ n x y, x + y ≤ n → P x = true → P y = true → x < y → hdM s 128 x = hdM s 128 y → s.nx x ≠ 0 ∧ s.nx x ≤ y ∧ andNot x y = 0
  | 0, x, y, h, _, _, h2, _ => by omega
  | n + 1, x, y, h, hx, hy, hxy, he => by
    have hy8 := hP y hy
    have hx8 := hP x hx
    have hbf : s.bf y ≠ 0 := by
      intro e
      rw [hdM_top e] at he
      have := (hdM_ok h0 hs 128 x hx (by omega)).2.2
      omega
    obtain ⟨q1, q2, q3, q4⟩ := bf_less h0 hs hy hbf
    have he2 := hdM_bf h0 hP hs hy hbf
    have hy0 : y ≠ 0 := by omega
    rcases Nat.lt_trichotomy (s.bf y) x with e | e | e
    · have q := chain_part n (s.bf y) x (by omega) q3 hx e (by rw [← he2, he])
      rw [q4] at q
      omega
    · rw [e] at q4 q2
      exact ⟨by rw [q4]; exact hy0, by omega, q2⟩
    · have q := chain_part n x (s.bf y) (by omega) hx q3 e (by rw [he, he2])
      exact ⟨q.1, by omega, andNot_trans q.2.2 q2⟩
/-- An antichain has no more sets than there are chains. -/
theorem ant_le {A : Nat → Bool} (hA : antF A) (hAP : ∀ x, A x = true → P x = true) : ctW A 128 ≤ ctW (rmTo P s.nx 128) 128 := by
  refine ctW_inj (hdM s 128) 128 128 A _ (fun x hx hAx => ?_) (fun x y hx hy hAx hAy e => ?_)
  · obtain ⟨a, b, c⟩ := hdM_ok h0 hs 128 x (hAP x hAx) (by omega)
    refine ⟨by omega, ?_⟩
    rw [rm_bf h0 hP hs, a, b]; rfl
  · rcases Nat.lt_trichotomy x y with h | h | h
    · exact absurd (chain_part h0 hP hs _ x y (Nat.le_refl _) (hAP x hAx) (hAP y hAy) h e).2.2 (hA x y hAx hAy h)
    · exact h
    · exact absurd (chain_part h0 hP hs _ y x (Nat.le_refl _) (hAP y hAy) (hAP x hAx) h e.symm).2.2 (hA y x hAy hAx h)
/-- Some antichain has a set of each chain. -/
theorem ant_ex (hst : stM P 128 s) : ∃ A : Nat → Bool, antF A ∧ (∀ x, A x = true → P x = true) ∧ ctW (rmTo P s.nx 128) 128 ≤ ctW A 128 := by
  classical
  obtain ⟨D, hD, hU⟩ := hst
  have hT : ∀ x, P x = true → (s.bf x = 0 ∨ D (s.bf x)) → ∀ j, ptB P j x → D j := by
    intro x hx h j hj
    by_cases e : s.bf x = 0
    · exact hU x (hP x hx) hx e j hj
    · rcases h with h | h
      · exact absurd h e
      · have h2 := (hD _ h).2 j
        rw [hs.b x e] at h2
        exact h2 hj
  refine ⟨fun x => P x && decide (¬ D x ∧ (s.bf x = 0 ∨ D (s.bf x))), fun x y hx hy hxy e => ?_, fun x hx => ?_, ?_⟩
  · rw [Bool.and_eq_true, decide_eq_true_eq] at hx hy
    exact hx.2.1 (hT y hy.1 hy.2.2 x ⟨hx.1, hxy, e⟩)
  · rw [Bool.and_eq_true] at hx; exact hx.1
  · -- along the chain of a first set, the first one that is not stuck
    have hex : ∀ n u, 128 ≤ n + u → P u = true → (s.bf u = 0 ∨ D (s.bf u)) → ∃ y, u ≤ y ∧ P y = true ∧ ¬ D y ∧ (s.bf y = 0 ∨ D (s.bf y)) ∧ hdM s 128 y = hdM s 128 u := by
      intro n
      induction n with
      | zero => intro u h hu _; have := hP u hu; omega
      | succ n ih =>
        intro u h hu hb
        by_cases e : D u
        · have h1 := (hD u e).1
          have h2 := hs.w u h1
          have h3 := hs.a u h1
          have hu0 : u ≠ 0 := fun e => by rw [e, h0] at hu; cases hu
          obtain ⟨y, a, b, c, d, f⟩ := ih (s.nx u) (by omega) h2.2.1 (.inr (by rw [h3]; exact e))
          refine ⟨y, by omega, b, c, d, ?_⟩
          rw [f, hdM_bf h0 hP hs h2.2.1 (by rw [h3]; exact hu0), h3]
        · exact ⟨u, Nat.le_refl _, hu, e, hb, rfl⟩
    let f : Nat → Nat := fun u => if h : P u = true ∧ s.bf u = 0 then (hex 128 u (by omega) h.1 (.inl h.2)).choose else 0
    have hf : ∀ u, P u = true → s.bf u = 0 → P (f u) = true ∧ ¬ D (f u) ∧ (s.bf (f u) = 0 ∨ D (s.bf (f u))) ∧ hdM s 128 (f u) = u := by
      intro u h1 h2
      have e : f u = (hex 128 u (by omega) h1 (.inl h2)).choose := by show (if h : P u = true ∧ s.bf u = 0 then _ else 0) = _; rw [dif_pos ⟨h1, h2⟩]
      have q := (hex 128 u (by omega) h1 (.inl h2)).choose_spec
      rw [← e, hdM_top h2] at q
      exact ⟨q.2.1, q.2.2.1, q.2.2.2.1, q.2.2.2.2⟩
    have hr : ∀ u, rmTo P s.nx 128 u = true → P u = true ∧ s.bf u = 0 := by
      intro u h
      rw [rm_bf h0 hP hs, Bool.and_eq_true, beq_iff_eq] at h
      exact h
    refine ctW_inj f 128 128 _ _ (fun u _ hu => ?_) (fun u v _ _ hu hv e => ?_)
    · obtain ⟨a, b⟩ := hr u hu
      obtain ⟨c1, c2, c3, _⟩ := hf u a b
      refine ⟨hP _ c1, ?_⟩
      rw [c1, Bool.true_and, decide_eq_true_eq]
      exact ⟨c2, c3⟩
    · obtain ⟨a, b⟩ := hr u hu
      obtain ⟨a2, b2⟩ := hr v hv
      rw [← (hf u a b).2.2.2, e]
      exact (hf v a2 b2).2.2.2
end
/-- The width of marked sets. -/
def wdW (Q : Nat → Bool) : Nat := ctW (rmTo Q (maTo Q 128).nx 128) 128
section
variable {Q : Nat → Bool} (h0 : Q 0 = false) (hQ : ∀ x, Q x = true → x < 128)
include h0 hQ
theorem wdW_le {A : Nat → Bool} (hA : antF A) (hAQ : ∀ x, A x = true → Q x = true) : ctW A 128 ≤ wdW Q := ant_le h0 hQ (maTo_at h0 hQ 128).ok hA hAQ
theorem wdW_ex : ∃ A : Nat → Bool, antF A ∧ (∀ x, A x = true → Q x = true) ∧ ctW A 128 = wdW Q := by
  obtain ⟨A, h1, h2, h3⟩ := ant_ex h0 hQ (maTo_at h0 hQ 128).ok (maTo_st h0 hQ 128)
  exact ⟨A, h1, h2, Nat.le_antisymm (wdW_le h0 hQ h1 h2) h3⟩
end
end Go.Proofs.Ytblglkgmnaklbaa
/- Mathematics: the first greatest antichain, found with and without trying. No program is named here. -/
namespace Go.Proofs.Ytblglkgmnaklbaa
open Go.RowKit
set_option maxRecDepth 100000
set_option linter.unusedSimpArgs false
/-- What is behind a set by its number and does not have all its items. -/
def lbF (Q : Nat → Bool) (x : Nat) : Nat → Bool := fun y => Q y && (decide (x < y) && !(andNot x y == 0))
theorem lbF_iff {Q : Nat → Bool} {x y : Nat} : lbF Q x y = true ↔ Q y = true ∧ x < y ∧ andNot x y ≠ 0 := by
  unfold lbF
  rw [Bool.and_eq_true, Bool.and_eq_true, decide_eq_true_eq, Bool.not_eq_true', beq_eq_false_iff_ne]
def geF (Q : Nat → Bool) (h : Nat) : Nat → Bool := fun y => Q y && decide (h ≤ y)
theorem geF_iff {Q : Nat → Bool} {h y : Nat} : geF Q h y = true ↔ Q y = true ∧ h ≤ y := by unfold geF; rw [Bool.and_eq_true, decide_eq_true_eq]
theorem ctW_none {A : Nat → Bool} : ∀ N, (∀ x, x < N → A x = false) → ctW A N = 0
  | 0, _ => rfl
  | N + 1, h => by rw [ctW_succ, ctW_none N (fun x hx => h x (by omega)), h N (by omega)]; rfl
theorem ctW_list : ∀ (r : List Int) (A : Nat → Bool), (∀ x, A x = true → x < 128 ∧ (x : Int) ∈ r) → ctW A 128 ≤ r.length
  | [], A, h => by
    rw [ctW_none 128 (fun x _ => by cases e : A x; rfl; exact absurd (h x e).2 (by simp))]; exact Nat.zero_le _
  | b :: r, A, h => by
    by_cases e : A b.toNat = true ∧ 0 ≤ b
    · have h1 := ctW_less A b.toNat 128 (h _ e.1).1 e.1
      have h2 := ctW_list r (upd A b.toNat false) (fun x hx => by
        unfold upd at hx
        split at hx
        · cases hx
        · rename_i hne
          obtain ⟨a1, a2⟩ := h x hx
          refine ⟨a1, ?_⟩
          rcases List.mem_cons.1 a2 with a3 | a3
          · omega
          · exact a3)
      rw [List.length_cons]; omega
    · have h2 := ctW_list r A (fun x hx => by
        obtain ⟨a1, a2⟩ := h x hx
        refine ⟨a1, ?_⟩
        rcases List.mem_cons.1 a2 with a3 | a3
        · exfalso; apply e; rw [← a3]; exact ⟨by rw [Int.toNat_natCast]; exact hx, by omega⟩
        · exact a3)
      rw [List.length_cons]; omega
theorem antF_sub {A B : Nat → Bool} (hA : antF A) (h : ∀ x, B x = true → A x = true) : antF B := fun x y hx hy => hA x y (h x hx) (h y hy)
/-- One more set, ahead of an antichain of what is behind it. -/
theorem wdW_more {Q : Nat → Bool} (h0 : Q 0 = false) (hQ : ∀ x, Q x = true → x < 128) {x h : Nat} (hx : Q x = true) (hh : h ≤ x) : wdW (lbF Q x) + 1 ≤ wdW (geF Q h) := by
  have g0 : geF Q h 0 = false := by unfold geF; rw [h0]; rfl
  have gQ : ∀ y, geF Q h y = true → y < 128 := fun y hy => hQ y (geF_iff.1 hy).1
  have l0 : lbF Q x 0 = false := by unfold lbF; rw [h0]; rfl
  have lQ : ∀ y, lbF Q x y = true → y < 128 := fun y hy => hQ y (lbF_iff.1 hy).1
  obtain ⟨A, a1, a2, a3⟩ := wdW_ex l0 lQ
  have hAx : A x = false := by
    cases e : A x
    · rfl
    · have := (lbF_iff.1 (a2 x e)).2.1; omega
  have e1 : ctW (upd (upd A x true) x false) 128 + 1 = ctW (upd A x true) 128 := ctW_less (upd A x true) x 128 (hQ x hx) (by unfold upd; rw [if_pos rfl])
  have e2 : upd (upd A x true) x false = A := by
    funext y
    unfold upd
    split
    · rename_i e; rw [e, hAx]
    · rfl
  rw [e2, a3] at e1
  rw [e1]
  refine wdW_le g0 gQ (fun y z hy hz hyz => ?_) (fun y hy => ?_)
  · unfold upd at hy hz
    split at hz
    · rename_i e
      split at hy
      · omega
      · have := (lbF_iff.1 (a2 y hy)).2.1; omega
    · split at hy
      · rename_i e; rw [e]; exact (lbF_iff.1 (a2 z hz)).2.2
      · exact a1 y z hy hz hyz
  · unfold upd at hy
    split at hy
    · rename_i e; rw [e]; exact geF_iff.2 ⟨hx, hh⟩
    · have := lbF_iff.1 (a2 y hy); exact geF_iff.2 ⟨this.1, by omega⟩
/-- Without a set, if with it it is not the greatest. -/
theorem wdW_skip {Q : Nat → Bool} (h0 : Q 0 = false) (hQ : ∀ x, Q x = true → x < 128) {x k : Nat} (hk : k + 1 ≤ wdW (geF Q x)) (hn : ¬ k ≤ wdW (lbF Q x)) : k + 1 ≤ wdW (geF Q (x + 1)) := by
  have g0 : ∀ h, geF Q h 0 = false := fun h => by unfold geF; rw [h0]; rfl
  have gQ : ∀ h y, geF Q h y = true → y < 128 := fun h y hy => hQ y (geF_iff.1 hy).1
  have l0 : lbF Q x 0 = false := by unfold lbF; rw [h0]; rfl
  have lQ : ∀ y, lbF Q x y = true → y < 128 := fun y hy => hQ y (lbF_iff.1 hy).1
  obtain ⟨A, a1, a2, a3⟩ := wdW_ex (g0 x) (gQ x)
  cases hAx : A x
  · refine Nat.le_trans (by rw [← a3] at hk; exact hk) (wdW_le (g0 _) (gQ _) a1 fun y hy => ?_)
    obtain ⟨b1, b2⟩ := geF_iff.1 (a2 y hy)
    refine geF_iff.2 ⟨b1, ?_⟩
    have : y ≠ x := fun e => by rw [e, hAx] at hy; cases hy
    omega
  · exfalso
    apply hn
    have e1 := ctW_less A x 128 (gQ x x (a2 x hAx)) hAx
    have e2 : ctW (upd A x false) 128 ≤ wdW (lbF Q x) := wdW_le l0 lQ (antF_sub a1 (fun y hy => by
      unfold upd at hy; split at hy
      · cases hy
      · exact hy)) (fun y hy => by
      unfold upd at hy
      split at hy
      · cases hy
      · rename_i hne
        obtain ⟨b1, b2⟩ := geF_iff.1 (a2 y hy)
        exact lbF_iff.2 ⟨b1, by omega, a1 x y hAx hy (by omega)⟩)
    omega
theorem wdW_mono {Q R : Nat → Bool} (h0 : R 0 = false) (hR : ∀ x, R x = true → x < 128) (h : ∀ x, Q x = true → R x = true) : wdW Q ≤ wdW R := by
  have q0 : Q 0 = false := by
    cases e : Q 0
    · rfl
    · rw [h 0 e] at h0; cases h0
  obtain ⟨A, a1, a2, a3⟩ := wdW_ex q0 (fun x hx => hR x (h x hx))
  rw [← a3]
  exact wdW_le h0 hR a1 fun x hx => h x (a2 x hx)
theorem wdW_list {Q : Nat → Bool} (h0 : Q 0 = false) (hQ : ∀ x, Q x = true → x < 128) (r : List Int) (h : ∀ x, Q x = true → (x : Int) ∈ r) : wdW Q ≤ r.length := by
  obtain ⟨A, a1, a2, a3⟩ := wdW_ex h0 hQ
  rw [← a3]
  exact ctW_list r A fun x hx => ⟨hQ x (a2 x hx), h x (a2 x hx)⟩
/-! ### Lists -/
/-- The choice that is told by widths. -/
def gaT : List Int → (Nat → Bool) → Nat → List Int
  | [], _, _ => []
  | a :: r, Q, k => if Q a.toNat = true ∧ wdW (lbF Q a.toNat) + 1 = k then a :: gaT r (lbF Q a.toNat) (k - 1) else gaT r Q k
def gaG : List Int → (Nat → Bool) → Nat → List Int
  | _, _, 0 => []
  | [], _, _ + 1 => []
  | a :: r, Q, k + 1 => if Q a.toNat = true ∧ k ≤ wdW (lbF Q a.toNat) then a :: gaG r (lbF Q a.toNat) k else gaG r Q (k + 1)
/-- The search. -/
def cfT : List Int → List Int → Nat → Option (List Int)
  | _, sm, 0 => some sm
  | [], _, _ + 1 => none
  | a :: r, sm, k + 1 => if (a :: r).length < k + 1 then none else if acB (sm ++ [a]) = true then (match cfT r (sm ++ [a]) k with | some o => some o | none => cfT r sm (k + 1)) else cfT r sm (k + 1)
theorem gaT_zero : ∀ (r : List Int) (Q : Nat → Bool), gaT r Q 0 = []
  | [], _ => rfl
  | a :: r, Q => by rw [gaT, if_neg (by omega)]; exact gaT_zero r Q
theorem gaT_gaG : ∀ (r : List Int) (Q : Nat → Bool) (k : Nat), Q 0 = false → (∀ x, Q x = true → x < 128) → wdW Q = k → gaT r Q k = gaG r Q k
  | r, Q, 0, _, _, _ => by rw [gaT_zero]; cases r <;> rfl
  | [], Q, k + 1, _, _, _ => rfl
  | a :: r, Q, k + 1, h0, hQ, hw => by
    rw [gaT, gaG]
    have hge : geF Q 0 = Q := by funext y; unfold geF; simp
    by_cases h : Q a.toNat = true ∧ k ≤ wdW (lbF Q a.toNat)
    · have h1 := wdW_more h0 hQ h.1 (Nat.zero_le a.toNat)
      rw [hge, hw] at h1
      have e : wdW (lbF Q a.toNat) = k := by omega
      rw [if_pos ⟨h.1, by omega⟩, if_pos h, Nat.add_sub_cancel]
      congr 1
      exact gaT_gaG r _ k (by unfold lbF; rw [h0]; rfl) (fun x hx => hQ x (lbF_iff.1 hx).1) e
    · rw [if_neg (fun e => h ⟨e.1, by omega⟩), if_neg h]
      exact gaT_gaG r Q (k + 1) h0 hQ hw
theorem nth_appW (q : List Int) (a : Int) (i : Nat) (h : i < q.length) : nth (q ++ [a]) i = nth q i := by unfold nth; rw [List.getElem?_append_left h]
theorem nth_endW (q : List Int) (a : Int) : nth (q ++ [a]) q.length = a.toNat := by unfold nth; simp
/-- One more set behind an antichain. -/
theorem acB_add (q : List Int) (a : Int) : acB (q ++ [a]) = true ↔ acB q = true ∧ ∀ i, i < q.length → andNot (nth q i) a.toNat ≠ 0 ∧ andNot a.toNat (nth q i) ≠ 0 := by
  rw [acB_iff, acB_iff]
  rw [List.length_append, List.length_singleton]
  constructor
  · intro h
    refine ⟨fun i hi j hj hij => ?_, fun i hi => ⟨?_, ?_⟩⟩
    · have := h i (by omega) j (by omega) hij
      rwa [nth_appW _ _ _ hi, nth_appW _ _ _ hj] at this
    · have := h i (by omega) q.length (by omega) (by omega)
      rwa [nth_appW _ _ _ hi, nth_endW] at this
    · have := h q.length (by omega) i (by omega) (by omega)
      rwa [nth_appW _ _ _ hi, nth_endW] at this
  · rintro ⟨h1, h2⟩ i hi j hj hij
    rcases Nat.lt_or_ge i q.length with a1 | a1
    · rw [nth_appW _ _ _ a1]
      rcases Nat.lt_or_ge j q.length with b1 | b1
      · rw [nth_appW _ _ _ b1]; exact h1 i a1 j b1 hij
      · rw [show j = q.length by omega, nth_endW]; exact (h2 i a1).1
    · rw [show i = q.length by omega, nth_endW]
      rcases Nat.lt_or_ge j q.length with b1 | b1
      · rw [nth_appW _ _ _ b1]; exact (h2 j b1).2
      · omega
theorem not_part {a b : Nat} (h : b < a) : andNot a b ≠ 0 := fun e => by have := part_leW e; omega
theorem cf_ga : ∀ (r : List Int) (Q : Nat → Bool) (sm : List Int) (k h : Nat), Q 0 = false → (∀ x, Q x = true → x < 128) → r.Pairwise (· < ·) → (∀ a ∈ r, (h : Int) ≤ a) → (∀ x, Q x = true → h ≤ x → (x : Int) ∈ r) →
    acB sm = true → (∀ a ∈ r, acB (sm ++ [a]) = Q a.toNat) → cfT r sm k = if k ≤ wdW (geF Q h) then some (sm ++ gaG r Q k) else none
  | r, Q, sm, 0, h, _, _, _, _, _, _, _ => by rw [if_pos (Nat.zero_le _)]; cases r <;> simp [cfT, gaG]
  | [], Q, sm, k + 1, h, h0, hQ, _, _, hm, _, _ => by
    have : wdW (geF Q h) ≤ ([] : List Int).length := wdW_list (by unfold geF; rw [h0]; rfl) (fun x hx => hQ x (geF_iff.1 hx).1) [] (fun x hx => hm x (geF_iff.1 hx).1 (geF_iff.1 hx).2)
    rw [if_neg (by simp at this; omega)]; rfl
  | a :: r, Q, sm, k + 1, h, h0, hQ, hp, hr, hm, hsm, hc => by
    have hah := hr a (List.mem_cons_self ..)
    have ha0 : 0 ≤ a := by omega
    obtain ⟨x, rfl⟩ := Int.eq_ofNat_of_zero_le ha0
    have hp' := (List.pairwise_cons.1 hp)
    have hrx : ∀ b ∈ r, ((x + 1 : Nat) : Int) ≤ b := fun b hb => by have := hp'.1 b hb; omega
    have hmx : ∀ (R : Nat → Bool), (∀ y, R y = true → Q y = true) → ∀ y, R y = true → x + 1 ≤ y → (y : Int) ∈ r := fun R hR y hy hxy => by
      rcases List.mem_cons.1 (hm y (hR y hy) (by omega)) with e | e
      · omega
      · exact e
    have hg0 : geF Q h 0 = false := by unfold geF; rw [h0]; rfl
    have hgQ : ∀ y, geF Q h y = true → y < 128 := fun y hy => hQ y (geF_iff.1 hy).1
    have hlen : wdW (geF Q h) ≤ ((x : Int) :: r).length := wdW_list hg0 hgQ _ (fun y hy => hm y (geF_iff.1 hy).1 (geF_iff.1 hy).2)
    have hca := hc x (List.mem_cons_self ..)
    rw [Int.toNat_natCast] at hca
    have hgx : geF Q h = geF Q x := by
      funext y
      rw [Bool.eq_iff_iff, geF_iff, geF_iff]
      constructor
      · rintro ⟨b1, b2⟩
        refine ⟨b1, ?_⟩
        rcases List.mem_cons.1 (hm y b1 b2) with e | e
        · omega
        · have := hp'.1 _ e; omega
      · rintro ⟨b1, b2⟩; exact ⟨b1, by omega⟩
    have IHs := cf_ga r Q sm (k + 1) (x + 1) h0 hQ hp'.2 hrx (hmx Q fun y hy => hy) hsm (fun b hb => hc b (List.mem_cons_of_mem _ hb))
    rw [cfT, gaG, Int.toNat_natCast]
    by_cases hl : ((x : Int) :: r).length < k + 1
    · rw [if_pos hl, if_neg (by omega)]
    · rw [if_neg hl, hca]
      cases hQx : Q x
      · have e : geF Q x = geF Q (x + 1) := by
          funext y
          rw [Bool.eq_iff_iff, geF_iff, geF_iff]
          constructor
          · rintro ⟨b1, b2⟩
            have : y ≠ x := fun e => by rw [e, hQx] at b1; cases b1
            exact ⟨b1, by omega⟩
          · rintro ⟨b1, b2⟩; exact ⟨b1, by omega⟩
        rw [if_neg (show ¬ (false = true) by simp), if_neg (show ¬ (false = true ∧ k ≤ wdW (lbF Q x)) by simp), IHs, hgx, e]
      · have IHt := cf_ga r (lbF Q x) (sm ++ [(x : Int)]) k (x + 1) (by unfold lbF; rw [h0]; rfl) (fun y hy => hQ y (lbF_iff.1 hy).1) hp'.2 hrx (hmx _ fun y hy => (lbF_iff.1 hy).1) (by rw [hca, hQx]) (fun b hb => by
          have hb0 := hrx b hb
          obtain ⟨y, rfl⟩ := Int.eq_ofNat_of_zero_le (show 0 ≤ b by omega)
          have hxy : x < y := by omega
          have hcb := hc y (List.mem_cons_of_mem _ hb)
          rw [Int.toNat_natCast] at hcb ⊢
          rw [Bool.eq_iff_iff, acB_add (sm ++ [(x : Int)]) y, lbF_iff, ← hcb, acB_add sm y]
          rw [Int.toNat_natCast]
          constructor
          · rintro ⟨_, b2⟩
            refine ⟨⟨hsm, fun i hi => ?_⟩, hxy, ?_⟩
            · have := b2 i (by simp; omega)
              rwa [nth_appW _ _ _ hi] at this
            · have := (b2 sm.length (by simp)).1
              rwa [nth_endW, Int.toNat_natCast] at this
          · rintro ⟨⟨_, b2⟩, _, b3⟩
            refine ⟨by rw [hca, hQx], fun i hi => ?_⟩
            rcases Nat.lt_or_ge i sm.length with e | e
            · rw [nth_appW _ _ _ e]; exact b2 i e
            · have : i = sm.length := by simp at hi; omega
              rw [this, nth_endW, Int.toNat_natCast]
              exact ⟨b3, not_part hxy⟩)
        have e : geF (lbF Q x) (x + 1) = lbF Q x := by
          funext y
          rw [Bool.eq_iff_iff, geF_iff]
          exact ⟨fun b => b.1, fun b => ⟨b, (lbF_iff.1 b).2.1⟩⟩
        rw [e] at IHt
        rw [if_pos (show true = true from rfl), IHt]
        by_cases hk : k ≤ wdW (lbF Q x)
        · have := wdW_more h0 hQ hQx (show h ≤ x by omega)
          rw [if_pos hk, if_pos (show k + 1 ≤ wdW (geF Q h) by omega), if_pos (show true = true ∧ k ≤ wdW (lbF Q x) from ⟨rfl, hk⟩)]
          simp
        · rw [if_neg hk, if_neg (show ¬ (true = true ∧ k ≤ wdW (lbF Q x)) from fun e => hk e.2)]
          show cfT r sm (k + 1) = _
          rw [IHs, hgx]
          by_cases hk2 : k + 1 ≤ wdW (geF Q x)
          · rw [if_pos hk2, if_pos (wdW_skip h0 hQ hk2 hk)]
          · rw [if_neg hk2, if_neg (fun e => hk2 (Nat.le_trans e (wdW_mono (by unfold geF; rw [h0]; rfl) (fun y hy => hQ y (geF_iff.1 hy).1) (fun y hy => geF_iff.2 ⟨(geF_iff.1 hy).1, by have := (geF_iff.1 hy).2; omega⟩))))]
theorem acB_one (a : Int) : acB [a] = true := by rw [acB_iff]; intro i hi j hj hij; simp at hi hj; omega
theorem cf_top {P : Nat → Bool} (h0 : P 0 = false) (hP : ∀ x, P x = true → x < 128) : cfT (setsTo P 128) [] (wdW P) = some (gaT (setsTo P 128) P (wdW P)) := by
  have hge : geF P 0 = P := by funext y; unfold geF; simp
  have h := cf_ga (setsTo P 128) P [] (wdW P) 0 h0 hP (sets_pair P 128) (fun a ha => by
    obtain ⟨i, hi, rfl⟩ := List.mem_iff_getElem.1 ha
    have := setsTo_range P 128 i hi
    rw [List.getElem?_eq_getElem hi, Option.getD_some] at this
    exact this.1) (fun x hx _ => by
    obtain ⟨j, hj, he, _⟩ := nth_ix (hP x hx) hx
    have := nth_val (P := P) hj
    rw [he, List.getElem?_eq_getElem hj, Option.getD_some] at this
    rw [← this]; exact List.getElem_mem hj) (by decide) (fun a ha => by
    rw [List.nil_append, acB_one]
    obtain ⟨i, hi, rfl⟩ := List.mem_iff_getElem.1 ha
    have := nth_in (P := P) hi
    unfold nth at this
    rw [List.getElem?_eq_getElem hi, Option.getD_some] at this
    exact this.symm)
  rw [hge, if_pos (Nat.le_refl _), List.nil_append, ← gaT_gaG _ _ _ h0 hP rfl] at h
  exact h
end Go.Proofs.Ytblglkgmnaklbaa
/- Contracts: the first greatest antichain, the program's. -/
namespace Go.Proofs.Ytblglkgmnaklbaa
open Go.RowKit
set_option maxRecDepth 100000
set_option linter.unusedSimpArgs false
section
variable {P : Program} {ops : Array Oper} {Q : Exit → Act → World → Prop} {a : Act} {w : World}
theorem region_join1 {id : Nat} {b : Bool} {A : Nat → Act} (F : Nat → World → Prop)
    (h1 : (∀ B W, F B W → Q .normal (A B) W) → (Code.region id ops b).wp P Q a w)
    (h2 : ∀ B W, F B W → Q .normal (A B) W) : (Code.region id ops b).wp P Q a w := h1 h2
theorem exec_alloc_fam {T : TypeId} (hz : ((P.info? T).bind (·.zero)).map Value.cells = some (fam 0 noSet)) {o : Oper} (ho : o.op = .alloc T) (w : World) : (execOp a.eval o).run P w = .ok (.value (.pointer (some ⟨w.heap.size, 0, none⟩))) (w.alloc (.cells (fam 0 noSet) T)) := by
  have hrun : (Instr.alloc T true (.tuple #[])).run P w = .ok (.pointer (some ⟨w.heap.size, 0, none⟩)) (w.alloc (.cells (fam 0 noSet) T)) := by
    cases hq : P.info? T with
    | none => simp [hq] at hz
    | some i =>
      cases hv : i.zero with
      | none => simp [hq, hv] at hz
      | some v =>
        have hc : v.cells = fam 0 noSet := by simpa [hq, hv] using hz
        have hzv : (zeroValue T).run P w = .ok v w := by simp [zeroValue, typeInfo, hq, hv]
        unfold Instr.alloc
        simp only [Sem.run_bind, hzv, Result.andThen_ok]
        simp [newVar, newRow, hc]
  unfold execOp
  simp only [ho, Sem.run_bind, hrun, Sem.run_pure, Result.andThen_ok]
end
theorem ent_lb1 : enters Try.prog 64 := enters_of Try.func64 (by kernel_rfl) (by kernel_rfl)
attribute [local irreducible] p2 low memB risB famAt own
set_option maxHeartbeats 2000000 in
theorem lb1_c (n : Int) (Q : Nat → Bool) (x y g gi : Nat) (w : World) (hx : x < 128) (hy : y < 128) (hf : famAt 48 w g n Q) (hgi : w.cell? ⟨gi, 0, none⟩ = some (.int .i64 (x : Int))) :
    Calls Try.prog 64 #[.int .i64 (y : Int), .pointer (some ⟨g, 0, none⟩), .pointer (some ⟨gi, 0, none⟩)] w fun e w' => e = .returned (.bool (lbF Q x y)) ∧ Below w.heap.size w w' := by
  have c1 := hf.get y hy
  have HGI := hide hgi
  cases hq : Q y
  · have HE := hide (show lbF Q x y = false by unfold lbF; rw [hq]; rfl)
    rw [hq] at c1
    go_enter Try.func64, Try.ntmps64
    go_wp2
    go_ret
    exact ⟨by rw [HE.out]; rfl, Below.refl _ _⟩
  · rw [hq] at c1
    by_cases hlt : x < y
    · have hd : decide ((x : Int) < (y : Int)) = true := by simp; omega
      have hgt : (y : Int) > (x : Int) := by omega
      cases hw : (andNot x y == 0)
      · have HW := hide hw
        have HE := hide (show lbF Q x y = true by unfold lbF; rw [hq, hw, decide_eq_true hlt]; rfl)
        go_enter Try.func64, Try.ntmps64
        go_wp2_with (go_at_call 65; refine (within_c (x : Int) (y : Int) _ (by omega) (by omega) (by omega)).mono ?_; rw [Int.toNat_natCast, Int.toNat_natCast, HW.out]; rintro e w3 ⟨rfl, rfl⟩)
        go_ret
        exact ⟨by rw [HE.out]; rfl, Below.refl _ _⟩
      · have HW := hide hw
        have HE := hide (show lbF Q x y = false by unfold lbF; rw [hq, hw]; simp)
        go_enter Try.func64, Try.ntmps64
        go_wp2_with (go_at_call 65; refine (within_c (x : Int) (y : Int) _ (by omega) (by omega) (by omega)).mono ?_; rw [Int.toNat_natCast, Int.toNat_natCast, HW.out]; rintro e w3 ⟨rfl, rfl⟩)
        go_ret
        exact ⟨by rw [HE.out]; rfl, Below.refl _ _⟩
    · have hd : decide ((x : Int) < (y : Int)) = false := by simp; omega
      have hgt : ¬ ((x : Int) < (y : Int)) := by omega
      have HE := hide (show lbF Q x y = false by unfold lbF; rw [decide_eq_false hlt]; simp)
      go_enter Try.func64, Try.ntmps64
      go_wp2
      go_ret
      exact ⟨by rw [HE.out]; rfl, Below.refl _ _⟩
theorem lbF_cut {m : Nat} {Q : Nat → Bool} (x : Nat) (hQ : ∀ y, Q y = true → y < low m + 1) : cutAt (lbF Q x) (low m + 1) = lbF Q x := by
  funext y
  unfold cutAt
  cases h : lbF Q x y
  · simp
  · rw [decide_eq_true (hQ y (lbF_iff.1 h).1)]; rfl
set_option maxHeartbeats 2000000 in
theorem laterBeside_c (m : Nat) (Q : Nat → Bool) (x : Nat) (w : World) (hm7 : m ≤ 7) (hx : x < 128) (hQ : ∀ y, Q y = true → y < low m + 1) :
    Calls Try.prog 53 #[.agg (fam (m : Int) Q), .int .i64 (x : Int)] w fun e w' => e = .returned (.agg (fam (m : Int) (lbF Q x))) ∧ Below w.heap.size w w' := by
  have hls := low_succ m
  have hlo := low_lt m hm7
  have HZ := hide (show (((w.alloc (.cells (fam (m : Int) Q) 48)).alloc (.cells #[.int .i64 (x : Int)] 63)).alloc (.cells (fam 0 noSet) 48)).heap.size = w.heap.size + 3 by simp)
  have hf0 : famAt 48 (((w.alloc (.cells (fam (m : Int) Q) 48)).alloc (.cells #[.int .i64 (x : Int)] 63)).alloc (.cells (fam 0 noSet) 48)) w.heap.size (m : Int) Q := ((famAt.new 48 w (m : Int) Q).alloc _).alloc _
  have hgi : (((w.alloc (.cells (fam (m : Int) Q) 48)).alloc (.cells #[.int .i64 (x : Int)] 63)).alloc (.cells (fam 0 noSet) 48)).cell? ⟨w.heap.size + 1, 0, none⟩ = some (.int .i64 (x : Int)) := by
    have h1 := hp_last (w.alloc (.cells (fam (m : Int) Q) 48)) (.cells #[.int .i64 (x : Int)] 63)
    rw [show (w.alloc (.cells (fam (m : Int) Q) 48)).heap.size = w.heap.size + 1 by simp] at h1
    have h2 := (hp_old ((w.alloc (.cells (fam (m : Int) Q) 48)).alloc (.cells #[.int .i64 (x : Int)] 63)) (.cells (fam 0 noSet) 48) (w.heap.size + 1) (by simp)).trans h1
    rw [hp_cell h2]; rfl
  have HR := hide (show famAt 48 (((w.alloc (.cells (fam (m : Int) Q) 48)).alloc (.cells #[.int .i64 (x : Int)] 63)).alloc (.cells (fam 0 noSet) 48)) (w.heap.size + 2) 0 noSet by have h := famAt.new 48 ((w.alloc (.cells (fam (m : Int) Q) 48)).alloc (.cells #[.int .i64 (x : Int)] 63)) 0 noSet; simpa using h)
  have HB0 := hide ((((Below.refl w.heap.size w).alloc (Nat.le_refl _) (.cells (fam (m : Int) Q) 48)).alloc (by simp) (.cells #[.int .i64 (x : Int)] 63)).alloc (by simp; omega) (.cells (fam 0 noSet) 48))
  have hg0 := hf0.get0
  have HFW := hide (familyWhere_c m 64 #[] #[.pointer (some ⟨w.heap.size, 0, none⟩), .pointer (some ⟨w.heap.size + 1, 0, none⟩)] (lbF Q x) (((w.alloc (.cells (fam (m : Int) Q) 48)).alloc (.cells #[.int .i64 (x : Int)] 63)).alloc (.cells (fam 0 noSet) 48)) hm7 ent_lb1 (fun y w1 hy hb => lb1_c (m : Int) Q x y w.heap.size (w.heap.size + 1) w1 hx (by omega) (hf0.below hb (by rw [HZ.out]; omega)) ((hb.cell (p := ⟨w.heap.size + 1, 0, none⟩) (by rw [HZ.out]; show w.heap.size + 1 < _; omega)).trans hgi)))
  rw [lbF_cut x hQ] at HFW
  generalize lbF Q x = G at *
  clear hf0 hgi
  go_enter Try.func53, Try.ntmps53
  go_wp2_with (first
    | (refine wpList_alloc_fam zeroT rfl rfl _ (by first | (simp only [World.size_alloc]; rfl) | rfl) ?_)
    | (go_at_call 45; refine HFW.out.mono ?_; rintro e w1 ⟨rfl, hb1⟩; have hz1 := hb1.size; rw [HZ.out] at hz1 hb1; have HR1 := hide (HR.out.below hb1 (by omega)); have HB1 := hide (HB0.out.trans (hb1.mono (by omega))); clear hb1)
    | (refine wpList_store_fam sizeT rfl (.tmp 4) (.tmp _) rfl (w.heap.size + 2) (m : Int) G rfl rfl 0 noSet HR1.out ?_))
  exact bodyPost_ret (v := .agg (fam (m : Int) G)) (results_fam rowT sizeT rfl _ _ (w.heap.size + 2) rfl _ _ (HR1.out.row _ _)) rfl ⟨rfl, bl_row HB1.out (by omega) _⟩
end Go.Proofs.Ytblglkgmnaklbaa
/- Contracts: the whole search for the greatest antichain, the program's. -/
namespace Go.Proofs.Ytblglkgmnaklbaa
open Go.RowKit
set_option maxRecDepth 100000
set_option linter.unusedSimpArgs false
theorem wdN_W {m : Nat} (hm : m ≤ 7) {Q : Nat → Bool} (hQ : ∀ y, Q y = true → y < low m + 1) : wdN m Q = wdW Q := by
  unfold wdN wdF wdW ctW
  rw [maTo_low hm hQ]
theorem own.under {I : TypeId} {w w' : World} {base B : Nat} {v : Value} {l : List Int} (h : own I w base v l) (hb : Below B w w') (hlt : ∀ g, v.ownBlock = some g → g < B) : own I w' base v l := by
  obtain ⟨q1, q2⟩ := h
  refine ⟨q1, ?_⟩
  rcases q2 with q2 | ⟨g, cap, cur, e, hg, hh, r⟩
  · exact .inl q2
  · exact .inr ⟨g, cap, cur, e, hg, (hb.block g (hlt g (by rw [e]; rfl))).trans hh, r⟩
theorem own.rowLowW {I : TypeId} {w : World} {base : Nat} {v : Value} {l : List Int} (h : own I w base v l) (b : Nat) (hb : b < base) (c : Array Value) : own I (w.setRow b c) base v l := by
  obtain ⟨h1, h2⟩ := h
  refine ⟨h1, ?_⟩
  rcases h2 with h2 | ⟨g, cap, cur, e, hg, hh, r⟩
  · exact .inl h2
  · exact .inr ⟨g, cap, cur, e, hg, (hp_rowO w b g c (by omega)).trans hh, r⟩
theorem famAt.otherW {T : TypeId} {v : Value} {w w' : World} {b : Nat} {n : Int} {F : Nat → Bool} (h : famAt T w b n F) (ho : Other v w w') (hne : v.ownBlock ≠ some b) : famAt T w' b n F := (ho.block b h.lt hne).trans h
theorem gaT_yes {a : Int} {r : List Int} {Q : Nat → Bool} {k : Nat} (h : Q a.toNat = true) (h2 : wdW (lbF Q a.toNat) + 1 = k) : gaT (a :: r) Q k = a :: gaT r (lbF Q a.toNat) (k - 1) := by rw [gaT, if_pos ⟨h, h2⟩]
theorem gaT_no {a : Int} {r : List Int} {Q : Nat → Bool} {k : Nat} (h : ¬ (Q a.toNat = true ∧ wdW (lbF Q a.toNat) + 1 = k)) : gaT (a :: r) Q k = gaT r Q k := by rw [gaT, if_neg h]
theorem ent_width : enters Try.prog 32 := enters_of Try.func32 (by kernel_rfl) (by kernel_rfl)
theorem wdW_128 (Q : Nat → Bool) : wdW Q ≤ 128 := setsTo_len _ 128
attribute [local irreducible] p2 low memB risB famAt own
theorem widthW_c (m : Nat) (Q : Nat → Bool) (w : World) (hm7 : m ≤ 7) (q0 : Q 0 = false) (qQ : ∀ y, Q y = true → y < low m + 1) :
    Calls Try.prog 32 #[.agg (fam (m : Int) Q)] w fun e w' => e = .returned (.int .i64 (wdW Q : Int)) ∧ Below w.heap.size w w' := by
  have hlo := low_lt m hm7
  have h := width_c m Q w hm7 q0 (fun y hy => by have := qQ y hy; omega)
  rw [wdN_W hm7 qQ] at h
  exact h
set_option maxHeartbeats 16000000 in
theorem greatestAntichain_c (m : Nat) (P : Nat → Bool) (w : World) (hm7 : m ≤ 7) (h0 : P 0 = false) (hP : ∀ y, P y = true → y < low m + 1) :
    Calls Try.prog 35 #[.agg (fam (m : Int) P)] w fun e w' => ∃ v, e = .returned v ∧ own 3 w' w.heap.size v (gaT (setsTo P 128) P (wdW P)) ∧ Below w.heap.size w w' := by
  have hlo := low_lt m hm7
  have hP8 : ∀ y, P y = true → y < 128 := fun y hy => by have := hP y hy; omega
  have HF0 := hide (famAt.new 48 w (m : Int) P)
  have HB0 := hide ((Below.refl w.heap.size w).alloc (Nat.le_refl _) (.cells (fam (m : Int) P) 48))
  have HZ0 := hide (show (w.alloc (.cells (fam (m : Int) P) 48)).heap.size = w.heap.size + 1 by simp)
  have HWD := hide (fun (Q : Nat → Bool) w1 q0 qQ => widthW_c m Q w1 hm7 q0 qQ)
  have HLB := hide (fun (Q : Nat → Bool) x w1 hx qQ => laterBeside_c m Q x w1 hm7 hx qQ)
  have HWX := hide (fun w1 => widthW_c m P w1 hm7 h0 hP)
  go_enter Try.func35, Try.ntmps35
  go_wp2_with fail
  generalize w.alloc (.cells (fam (m : Int) P) 48) = W at *
  apply region_join1 (F := fun B W' => Below w.heap.size w W' ∧ famAt 48 W' B (m : Int) P ∧ famAt 48 W' w.heap.size (m : Int) P ∧ w.heap.size < B ∧ B < W'.heap.size)
  · intro hK
    have hzW := HZ0.out
    refine wp_region_held (S := fun w' => Below w.heap.size w w' ∧ famAt 48 w' w.heap.size (m : Int) P) (by kernel_rfl) ?_
    have hS0 : Below w.heap.size w { W with drawn := W.drawn + 1 } ∧ famAt 48 { W with drawn := W.drawn + 1 } w.heap.size (m : Int) P := ⟨HB0.out.trans ((Below.refl _ _).drew), HF0.out.below (Below.refl W.heap.size W).drew (by omega)⟩
    have hz0 : w.heap.size < ({ W with drawn := W.drawn + 1 } : World).heap.size := by show w.heap.size < W.heap.size; omega
    generalize ({ W with drawn := W.drawn + 1 } : World) = C0 at hS0 hz0 ⊢
    refine wpAnyH_take (i := 0) rfl (by kernel_rfl) (by kernel_rfl) (by kernel_rfl) (fun _ _ _ h => h) (yields_load_fam rowT sizeT rfl (.tmp 1) rfl w.heap.size rfl (m : Int) P (fun w' h => h.2)) hS0 ?_
    refine wpAnyH_take (i := 1) rfl (by kernel_rfl) (by kernel_rfl) (by kernel_rfl) (fun _ _ _ h => h) (yields_load_fam rowT sizeT rfl (.tmp 1) rfl w.heap.size rfl (m : Int) P (fun w' h => h.2)) hS0 ?_
    simp only [Act.put, List.getElem_toArray, List.getElem_cons_zero, List.getElem_cons_succ, List.setIfInBounds_toArray, List.set_cons_zero, List.set_cons_succ]
    refine wpAnyH_all (rs := [2, 3]) (by kernel_rfl) (by simp) fun i hi => ?_
    rcases (show i = 2 ∨ i = 3 by simpa using hi) with rfl | rfl
    · show wpOp _ _ _ _ _ _ _
      refine wpOp_call rfl rfl 32 ent_width _ _ rfl #[.agg (fam (m : Int) P)] rfl (HWX.out C0) ?_
      rintro e C1 ⟨rfl, hb1⟩
      have hz1 := hb1.size
      have hS1 : Below w.heap.size w C1 ∧ famAt 48 C1 w.heap.size (m : Int) P := ⟨hS0.1.trans (hb1.mono (by omega)), hS0.2.below hb1 (by omega)⟩
      refine ⟨_, rfl, hS1, ?_⟩
      simp only [Act.put, List.getElem_toArray, List.getElem_cons_zero, List.getElem_cons_succ, List.setIfInBounds_toArray, List.set_cons_zero, List.set_cons_succ]
      obtain ⟨B, hB⟩ : ∃ B, B = C1.heap.size := ⟨_, rfl⟩
      have hS2 : Below w.heap.size w (C1.alloc (.cells (fam 0 noSet) 48)) ∧ famAt 48 (C1.alloc (.cells (fam 0 noSet) 48)) w.heap.size (m : Int) P := ⟨hS1.1.alloc (by omega) _, hS1.2.alloc _⟩
      have hfn := famAt.new 48 C1 0 noSet
      have hz2 : (C1.alloc (.cells (fam 0 noSet) 48)).heap.size = B + 1 := by simp [hB]
      rw [← hB] at hfn
      refine anyH_op (i := 3) (by kernel_rfl) rfl rfl (.pointer (some ⟨B, 0, none⟩)) (C1.alloc (.cells (fam 0 noSet) 48)) (by rw [hB]; exact exec_alloc_fam zeroT rfl C1) hS2 ?_
      generalize C1.alloc (.cells (fam 0 noSet) 48) = C2 at hS2 hfn hz2 ⊢
      simp only [Act.put, List.getElem_toArray, List.getElem_cons_zero, List.getElem_cons_succ, List.setIfInBounds_toArray, List.set_cons_zero, List.set_cons_succ]
      have hS3 : Below w.heap.size w (C2.setRow B (fam (m : Int) P)) ∧ famAt 48 (C2.setRow B (fam (m : Int) P)) w.heap.size (m : Int) P := ⟨bl_row hS2.1 (by omega) _, hS2.2.rowO B (by omega) _⟩
      refine anyH_store_fam sizeT (i := 4) (by kernel_rfl) rfl rfl (.tmp 4) (.tmp 9) rfl B (m : Int) P rfl rfl 0 noSet hfn hS3 ?_
      simp only [Act.put, List.getElem_toArray, List.getElem_cons_zero, List.getElem_cons_succ, List.setIfInBounds_toArray, List.set_cons_zero, List.set_cons_succ]
      refine anyH_op (i := 5) (by kernel_rfl) rfl rfl (.int .i64 (wdW P : Int)) _ (by simp [go_sem]) hS3 ?_
      refine wpAnyH_done (by kernel_rfl) ?_ _
      simp only [Act.put, List.getElem_toArray, List.getElem_cons_zero, List.getElem_cons_succ, List.setIfInBounds_toArray, List.set_cons_zero, List.set_cons_succ]
      exact hK B _ ⟨hS3.1, hfn.row _ _, hS3.2, by omega, by simp [World.setRow]; omega⟩
    · show wpOp _ _ _ _ _ _ _
      obtain ⟨B, hB⟩ : ∃ B, B = C0.heap.size := ⟨_, rfl⟩
      have hS1 : Below w.heap.size w (C0.alloc (.cells (fam 0 noSet) 48)) ∧ famAt 48 (C0.alloc (.cells (fam 0 noSet) 48)) w.heap.size (m : Int) P := ⟨hS0.1.alloc (by omega) _, hS0.2.alloc _⟩
      have hfn1 := famAt.new 48 C0 0 noSet
      have hz1 : (C0.alloc (.cells (fam 0 noSet) 48)).heap.size = B + 1 := by simp [hB]
      rw [← hB] at hfn1
      refine wpOp_val rfl rfl (.pointer (some ⟨B, 0, none⟩)) (C0.alloc (.cells (fam 0 noSet) 48)) (by rw [hB]; exact exec_alloc_fam zeroT rfl C0) ⟨hS1, ?_⟩
      generalize C0.alloc (.cells (fam 0 noSet) 48) = C1 at hS1 hfn1 hz1 ⊢
      simp only [Act.put, List.getElem_toArray, List.getElem_cons_zero, List.getElem_cons_succ, List.setIfInBounds_toArray, List.set_cons_zero, List.set_cons_succ]
      refine anyH_call (i := 2) (by kernel_rfl) rfl rfl 32 ent_width _ _ rfl #[.agg (fam (m : Int) P)] rfl (HWX.out C1) ?_
      rintro e C2 ⟨rfl, hb2⟩
      have hz2a := hb2.size
      have hS2 : Below w.heap.size w C2 ∧ famAt 48 C2 w.heap.size (m : Int) P := ⟨hS1.1.trans (hb2.mono (by omega)), hS1.2.below hb2 (by omega)⟩
      have hfn := hfn1.below hb2 (by omega)
      have hz2 : B + 1 ≤ C2.heap.size := by omega
      refine ⟨_, rfl, hS2, ?_⟩
      simp only [Act.put, List.getElem_toArray, List.getElem_cons_zero, List.getElem_cons_succ, List.setIfInBounds_toArray, List.set_cons_zero, List.set_cons_succ]
      have hS3 : Below w.heap.size w (C2.setRow B (fam (m : Int) P)) ∧ famAt 48 (C2.setRow B (fam (m : Int) P)) w.heap.size (m : Int) P := ⟨bl_row hS2.1 (by omega) _, hS2.2.rowO B (by omega) _⟩
      refine anyH_store_fam sizeT (i := 4) (by kernel_rfl) rfl rfl (.tmp 4) (.tmp 9) rfl B (m : Int) P rfl rfl 0 noSet hfn hS3 ?_
      simp only [Act.put, List.getElem_toArray, List.getElem_cons_zero, List.getElem_cons_succ, List.setIfInBounds_toArray, List.set_cons_zero, List.set_cons_succ]
      refine anyH_op (i := 5) (by kernel_rfl) rfl rfl (.int .i64 (wdW P : Int)) _ (by simp [go_sem]) hS3 ?_
      refine wpAnyH_done (by kernel_rfl) ?_ _
      simp only [Act.put, List.getElem_toArray, List.getElem_cons_zero, List.getElem_cons_succ, List.setIfInBounds_toArray, List.set_cons_zero, List.set_cons_succ]
      exact hK B _ ⟨hS3.1, hfn.row _ _, hS3.2, by omega, by simp [World.setRow]; omega⟩
  · rintro B W1 ⟨hb1, hf1, hg1, hB1, hB2⟩
    have HB1 := hide hb1
    have HF1 := hide hf1
    have HG1 := hide hg1
    clear hb1 hf1 hg1
    have hz1 := HB1.out.size
    have HSE := hide (fun w1 => sets_c (m : Int) P w1)
    have hL128 := setsTo_len P 128
    have HRG := hide (setsTo_range P 128)
    go_wp2_with (first
      | (refine wpList_load_fam rowT sizeT rfl (.tmp 1) rfl w.heap.size rfl (m : Int) P HG1.out ?_)
      | (go_at_call 52; refine (HSE.out _).mono ?_; rintro e w2 ⟨v2, rfl, ho2, hb2⟩; have hz2 := hb2.size; have HO2 := hide ho2; have HL2 := hide ho2.blockLt; have HF2 := hide (HF1.out.below hb2 hB2); have HB2 := hide (HB1.out.trans (hb2.mono hz1)); clear ho2 hb2)
      | (refine wpList_len sliceT rfl (.tmp _) rfl _ rfl w2.heap.size (setsTo P 128) HO2.out.ints ?_))
    generalize hLd : setsTo P 128 = L at *
    have HGA := hide (show [] ++ gaT (L.drop 0) P (wdW P) = gaT L P (wdW P) from rfl)
    have hw8 := wdW_128 P
    have HLD := hide hLd
    clear hLd
    go_loopw [3, 5, 15] (fun o y z wr => ∃ (k : Nat) (Q : Nat → Bool) (mis : Nat) (A : List Int), k ≤ L.length ∧ z = .int .i64 (k : Int) ∧ y = .int .i64 (mis : Int) ∧ A.length ≤ k ∧ mis ≤ 128 ∧ Hid (A ++ gaT (L.drop k) Q mis = gaT L P (wdW P)) ∧ Hid (Q 0 = false ∧ ∀ y, Q y = true → y < low m + 1) ∧ Hid (own 3 wr w2.heap.size o A) ∧ Hid (own 3 wr W1.heap.size v2 L) ∧ Hid (famAt 48 wr B (m : Int) Q) ∧ Hid (w2.heap.size ≤ wr.heap.size) ∧ Hid (Below w.heap.size w wr)) (fun _ _ z _ => L.length - (intOf z).toNat)
    case atStart => exact ⟨0, P, wdW P, [], Nat.zero_le _, rfl, rfl, Nat.le_refl _, hw8, HGA, ⟨h0, hP⟩, own_nil _ _ _, HO2, HF2, Nat.le_refl _, HB2⟩
    case round =>
      clear HGA HO2 HF2 HB2 HF1 HG1 HB1
      obtain ⟨k, Q, mis, A, hk, rfl, rfl, hAk, hmis, HG, HQ, HO, HLL, HF, HZ, HB⟩ := hrel
      have hz := HZ.out
      have hBw : B < w2.heap.size := by omega
      by_cases hlt : k < L.length
      · have hr := HRG.out k hlt
        have hx : L[k]?.getD 0 = (nth L k : Int) := by unfold nth; omega
        have HX := hide hx
        have hx8 : nth L k < 128 := by rw [hx] at hr; omega
        have hdr : L.drop k = (nth L k : Int) :: L.drop (k + 1) := by
          rw [List.drop_eq_getElem_cons hlt]
          rw [List.getElem?_eq_getElem hlt, Option.getD_some] at hx
          rw [hx]
        have hGA := HG.out
        rw [hdr] at hGA
        have HGA := hide hGA
        have HLx := hide (fun w1 => HLB.out Q (nth L k) w1 hx8 HQ.out.2)
        have HQ2 := hide (show lbF Q (nth L k) 0 = false ∧ ∀ y, lbF Q (nth L k) y = true → y < low m + 1 from ⟨by unfold lbF; rw [HQ.out.1]; rfl, fun y hy => HQ.out.2 y (lbF_iff.1 hy).1⟩)
        have HWQ := hide (fun w1 => HWD.out (lbF Q (nth L k)) w1 HQ2.out.1 HQ2.out.2)
        have hwd8 := wdW_128 (lbF Q (nth L k))
        have HY := hide (fun h h2 => gaT_yes (a := (nth L k : Int)) (r := L.drop (k + 1)) (Q := Q) (k := mis) h h2)
        have HN := hide (fun h => gaT_no (a := (nth L k : Int)) (r := L.drop (k + 1)) (Q := Q) (k := mis) h)
        rw [Int.toNat_natCast] at HY HN
        clear hr hx hdr hGA
        generalize nth L k = x at *
        generalize hG2 : lbF Q x = G at *
        generalize hwdd : wdW G = wd at *
        clear hG2 hwdd
        have HII := hide (HLL.out.ints)
        cases hq : Q x
        · have HQX := hide hq
          have HN2 := hide (HN.out (by rw [hq]; simp))
          clear hq
          go_wp2_with (first
            | (refine wpList_at sliceT intS rfl (.tmp 13) (.tmp 15) rfl _ rfl k rfl wr.heap.size L HII.out hlt ?_; intro ad hcell hblk; rw [HX.out] at hcell)
            | (refine wpList_load_fam rowT sizeT rfl (.tmp 4) rfl B rfl (m : Int) Q HF.out ?_)
            | (go_at_call 53; refine (HLx.out _).mono ?_; rintro e w4 ⟨rfl, hb4⟩; have hz4 := hb4.size; have HF4 := hide (HF.out.below hb4 (by omega)); have HO4 := hide (HO.out.kept hb4); have HL4 := hide (HLL.out.kept hb4); have HB4 := hide (HB.out.trans (hb4.mono (by omega))); have hx1 := (HF4.out.alloc (.cells (fam 0 noSet) 48)).rowO w4.heap.size (by omega) (fam (m : Int) G); have HF5 := hide hx1; have hcQ := hx1.get x hx8; rw [HQX.out] at hcQ; have HG5 := hide ((famAt.new 48 w4 0 noSet).row (m : Int) G); have HO5 := hide ((HO4.out.alloc (.cells (fam 0 noSet) 48)).rowO w4.heap.size (fun g hg => by have := HO4.out.blockLt g hg; omega) (fam (m : Int) G)); have HL5 := hide ((HL4.out.alloc (.cells (fam 0 noSet) 48)).rowO w4.heap.size (fun g hg => by have := HL4.out.blockLt g hg; omega) (fam (m : Int) G)); have HB5 := hide (bl_row (HB4.out.alloc (by omega) (.cells (fam 0 noSet) 48)) (show w.heap.size ≤ w4.heap.size by omega) (fam (m : Int) G)); have HZ5 := hide (show ((w4.alloc (.cells (fam 0 noSet) 48)).setRow w4.heap.size (fam (m : Int) G)).heap.size = w4.heap.size + 1 by simp [World.setRow]); clear hb4 hx1)
            | (refine wpList_alloc_fam zeroT rfl rfl _ (by first | (simp only [World.size_alloc]; rfl) | rfl) ?_)
            | (refine wpList_store_fam sizeT rfl (.tmp 8) (.tmp _) rfl w4.heap.size _ _ rfl rfl _ _ (famAt.new _ _ _ _) ?_)
            )
          go_roundw
          case rel => exact ⟨k + 1, Q, mis, A, by omega, by go_num, rfl, by omega, hmis, hide (by have := HGA.out; rwa [HN2.out] at this), HQ, HO5, HL5, HF5, hide (by rw [HZ5.out]; omega), HB5⟩
          case measure => (simp [intOf] <;> omega)
        · have HQX := hide hq
          by_cases hc : wd + 1 = mis
          · have HY2 := hide (HY.out hq hc)
            have hcb : ((wd : Int) == (mis : Int) - 1) = true := by simp; omega
            have hmw : IntKind.i64.wrap ((mis : Int) - 1) = (mis : Int) - 1 := IntWalk.i64_in _ (by omega)
            have hm1 : ((mis - 1 : Nat) : Int) = (mis : Int) - 1 := by omega
            have HM1 := hide hm1
            have hAl : A.length < 1000000000 := by omega
            have HOB := hide HO.out.base
            have HOL := hide HO.out.blockLt
            clear hq hc hm1
            go_wp2_with (first
              | (refine wpList_at sliceT intS rfl (.tmp 13) (.tmp 15) rfl _ rfl k rfl wr.heap.size L HII.out hlt ?_; intro ad hcell hblk; rw [HX.out] at hcell)
              | (refine wpList_load_fam rowT sizeT rfl (.tmp 4) rfl B rfl (m : Int) Q HF.out ?_)
              | (go_at_call 53; refine (HLx.out _).mono ?_; rintro e w4 ⟨rfl, hb4⟩; have hz4 := hb4.size; have HF4 := hide (HF.out.below hb4 (by omega)); have HO4 := hide (HO.out.kept hb4); have HL4 := hide (HLL.out.kept hb4); have HB4 := hide (HB.out.trans (hb4.mono (by omega))); have hx1 := (HF4.out.alloc (.cells (fam 0 noSet) 48)).rowO w4.heap.size (by omega) (fam (m : Int) G); have HF5 := hide hx1; have hcQ := hx1.get x hx8; rw [HQX.out] at hcQ; have HG5 := hide ((famAt.new 48 w4 0 noSet).row (m : Int) G); have HO5 := hide ((HO4.out.alloc (.cells (fam 0 noSet) 48)).rowO w4.heap.size (fun g hg => by have := HO4.out.blockLt g hg; omega) (fam (m : Int) G)); have HL5 := hide ((HL4.out.alloc (.cells (fam 0 noSet) 48)).rowO w4.heap.size (fun g hg => by have := HL4.out.blockLt g hg; omega) (fam (m : Int) G)); have HB5 := hide (bl_row (HB4.out.alloc (by omega) (.cells (fam 0 noSet) 48)) (show w.heap.size ≤ w4.heap.size by omega) (fam (m : Int) G)); have HZ5 := hide (show ((w4.alloc (.cells (fam 0 noSet) 48)).setRow w4.heap.size (fam (m : Int) G)).heap.size = w4.heap.size + 1 by simp [World.setRow]); clear hb4 hx1)
              | (refine wpList_alloc_fam zeroT rfl rfl _ (by first | (simp only [World.size_alloc]; rfl) | rfl) ?_)
              | (refine wpList_store_fam sizeT rfl (.tmp 8) (.tmp _) rfl w4.heap.size _ _ rfl rfl _ _ (famAt.new _ _ _ _) ?_)
              | (refine wpList_load_fam rowT sizeT rfl (.tmp 8) rfl w4.heap.size rfl (m : Int) G HG5.out ?_)
              | (go_at_call 32; refine (HWQ.out _).mono ?_; rintro e w6 ⟨rfl, hb6⟩; have hz6 := hb6.size; rw [HZ5.out] at hz6; have HF6 := hide (HF5.out.below hb6 (by rw [HZ5.out]; omega)); have HG6 := hide (HG5.out.below hb6 (by rw [HZ5.out]; omega)); have HO6 := hide (HO5.out.kept hb6); have HL6 := hide (HL5.out.kept hb6); have HB6 := hide (HB5.out.trans (hb6.mono (by rw [HZ5.out]; omega))); clear hb6)
              | (at_builtin; refine wpList_append1_at sliceT intI rfl _ _ rfl w2.heap.size _ _ rfl (HO6.out.alloc _) _ (x : Int) rfl (by simp [go_sem]) (by simp; omega) hAl ?_; intro v8 w8 ho8 hoth8 _; have hz8 := hoth8.size; simp only [World.size_alloc] at hz8; have HO8 := hide ho8; have HF8 := hide ((HF6.out.alloc _).otherW hoth8 (fun e => by have := HOB.out _ e; omega)); have HG8 := hide ((HG6.out.alloc _).otherW hoth8 (fun e => by have := HOL.out _ e; omega)); have HL8 := hide ((HL6.out.alloc _).other hoth8 (fun g hg e => by have h1 := HOB.out _ e; have h2 := HL2.out _ hg; omega)); have HB8 := hide ((HB6.out.alloc (by omega) _).trans (hoth8.below w.heap.size (fun g hg => by have := HOB.out _ hg; omega) (by simp; omega))); clear ho8 hoth8)
              | (refine wpList_load_fam rowT sizeT rfl (.tmp 8) rfl w4.heap.size rfl (m : Int) G HG8.out ?_)
              | (refine wpList_store_fam sizeT rfl (.tmp 4) (.tmp _) rfl B (m : Int) G rfl rfl (m : Int) Q HF8.out ?_))
            go_roundw
            case rel => exact ⟨k + 1, G, mis - 1, A ++ [(x : Int)], by omega, by go_num, by rw [HM1.out], by simp; omega, by omega, hide (by have := HGA.out; rw [HY2.out] at this; rw [← this]; simp), HQ2, HO8.out.rowLowW B (by omega) _, HL8.out.rowLowW B (by omega) _, HF8.out.row _ _, hide (by simp [World.setRow]; omega), hide (bl_row HB8.out (by omega) _)⟩
            case measure => (simp [intOf] <;> omega)
          · have HN2 := hide (HN.out (fun e => hc e.2))
            have hcb : ((wd : Int) == (mis : Int) - 1) = false := by simp; omega
            have hmw : IntKind.i64.wrap ((mis : Int) - 1) = (mis : Int) - 1 := IntWalk.i64_in _ (by omega)
            clear hq hc
            go_wp2_with (first
              | (refine wpList_at sliceT intS rfl (.tmp 13) (.tmp 15) rfl _ rfl k rfl wr.heap.size L HII.out hlt ?_; intro ad hcell hblk; rw [HX.out] at hcell)
              | (refine wpList_load_fam rowT sizeT rfl (.tmp 4) rfl B rfl (m : Int) Q HF.out ?_)
              | (go_at_call 53; refine (HLx.out _).mono ?_; rintro e w4 ⟨rfl, hb4⟩; have hz4 := hb4.size; have HF4 := hide (HF.out.below hb4 (by omega)); have HO4 := hide (HO.out.kept hb4); have HL4 := hide (HLL.out.kept hb4); have HB4 := hide (HB.out.trans (hb4.mono (by omega))); have hx1 := (HF4.out.alloc (.cells (fam 0 noSet) 48)).rowO w4.heap.size (by omega) (fam (m : Int) G); have HF5 := hide hx1; have hcQ := hx1.get x hx8; rw [HQX.out] at hcQ; have HG5 := hide ((famAt.new 48 w4 0 noSet).row (m : Int) G); have HO5 := hide ((HO4.out.alloc (.cells (fam 0 noSet) 48)).rowO w4.heap.size (fun g hg => by have := HO4.out.blockLt g hg; omega) (fam (m : Int) G)); have HL5 := hide ((HL4.out.alloc (.cells (fam 0 noSet) 48)).rowO w4.heap.size (fun g hg => by have := HL4.out.blockLt g hg; omega) (fam (m : Int) G)); have HB5 := hide (bl_row (HB4.out.alloc (by omega) (.cells (fam 0 noSet) 48)) (show w.heap.size ≤ w4.heap.size by omega) (fam (m : Int) G)); have HZ5 := hide (show ((w4.alloc (.cells (fam 0 noSet) 48)).setRow w4.heap.size (fam (m : Int) G)).heap.size = w4.heap.size + 1 by simp [World.setRow]); clear hb4 hx1)
              | (refine wpList_alloc_fam zeroT rfl rfl _ (by first | (simp only [World.size_alloc]; rfl) | rfl) ?_)
              | (refine wpList_store_fam sizeT rfl (.tmp 8) (.tmp _) rfl w4.heap.size _ _ rfl rfl _ _ (famAt.new _ _ _ _) ?_)
              | (refine wpList_load_fam rowT sizeT rfl (.tmp 8) rfl w4.heap.size rfl (m : Int) G HG5.out ?_)
              | (go_at_call 32; refine (HWQ.out _).mono ?_; rintro e w6 ⟨rfl, hb6⟩; have hz6 := hb6.size; rw [HZ5.out] at hz6; have HF6 := hide (HF5.out.below hb6 (by rw [HZ5.out]; omega)); have HO6 := hide (HO5.out.kept hb6); have HL6 := hide (HL5.out.kept hb6); have HB6 := hide (HB5.out.trans (hb6.mono (by rw [HZ5.out]; omega))); clear hb6))
            go_roundw
            case rel => exact ⟨k + 1, Q, mis, A, by omega, by go_num, rfl, by omega, hmis, hide (by have := HGA.out; rwa [HN2.out] at this), HQ, HO6, HL6, HF6, hide (by omega), HB6⟩
            case measure => (simp [intOf] <;> omega)
      · have hke : k = L.length := by omega
        have HE := hide (show A = gaT L P (wdW P) by
          have := HG.out
          rw [hke, List.drop_length] at this
          rw [← this]; simp [gaT])
        go_wp2
        go_ret
        exact ⟨_, rfl, by rw [HLD.out, ← HE.out]; exact HO.out.mono (by omega), HB.out⟩
/-- The first greatest antichain of a space. -/
def gaV (n : Int) (l : List Int) : List Int := if okSp n l then gaT (setsTo (phF n.toNat (marksTo l l.length)) 128) (phF n.toNat (marksTo l l.length)) (wdW (phF n.toNat (marksTo l l.length))) else []
theorem gaT_len : ∀ (r : List Int) (Q : Nat → Bool) (k : Nat), (gaT r Q k).length ≤ r.length
  | [], _, _ => Nat.le_refl _
  | a :: r, Q, k => by
    rw [gaT]
    split
    · rw [List.length_cons, List.length_cons]; have := gaT_len r (lbF Q a.toNat) (k - 1); omega
    · rw [List.length_cons]; have := gaT_len r Q k; omega
theorem gaV_len (n : Int) (l : List Int) : (gaV n l).length < 1000000000 := by
  unfold gaV
  split
  · have h1 := gaT_len (setsTo (phF n.toNat (marksTo l l.length)) 128) (phF n.toNat (marksTo l l.length)) (wdW (phF n.toNat (marksTo l l.length)))
    have h2 := setsTo_len (phF n.toNat (marksTo l l.length)) 128
    omega
  · simp
set_option maxHeartbeats 4000000 in
theorem implGreatestAntichain_c (n : Int) (v : Value) (l : List Int) (w : World) (hl : ints w.heap.size w v l) (hlen : l.length < 1000000000) :
    Calls Try.prog 21 #[.agg #[.int .i64 n, v]] w fun e w' => ∃ v', e = .returned (.tuple #[v', .bool (okSp n l)]) ∧ own 3 w' w.heap.size v' (gaV n l) ∧ Below w.heap.size w w' := by
  have HL := hide ((hl.alloc (.cells #[.int .i64 n, v] 28)).mono (show w.heap.size ≤ (w.alloc (.cells #[.int .i64 n, v] 28)).heap.size by simp))
  have H0 := hide ((Below.refl w.heap.size w).alloc (Nat.le_refl _) (.cells #[.int .i64 n, v] 28))
  have HZ := hide (show (w.alloc (.cells #[.int .i64 n, v] 28)).heap.size = w.heap.size + 1 by simp)
  clear hl
  obtain ⟨N, F, b, hv, hN, hb, hr⟩ : ∃ (N : Nat) (F : Nat → Bool) (b : Bool), famVal n l = .tuple #[.agg (fam (N : Int) F), .bool b] ∧ N ≤ 7 ∧ okSp n l = b ∧ gaV n l = gaT (setsTo (phF N F) 128) (phF N F) (wdW (phF N F)) := by
    cases hok : okSp n l
    · refine ⟨0, noSet, false, famVal_no n l hok, by omega, rfl, ?_⟩
      have h : phF 0 noSet = noSet := by funext x; unfold phF cutAt pathF noSet; simp
      unfold gaV
      rw [hok, h, ← (by decide +kernel : ([] : List Int) = setsTo noSet 128)]; rfl
    · have hn := okSp_n hok
      obtain ⟨N, rfl⟩ := Int.eq_ofNat_of_zero_le (show 0 ≤ n by omega)
      exact ⟨N, marksTo l l.length, true, famVal_yes _ l hok, by omega, rfl, by unfold gaV; rw [hok, Int.toNat_natCast]; rfl⟩
  have HV := hide hv
  have HPA := hide (fun w1 => paths_c N F w1 hN)
  have HGA := hide (fun w1 => greatestAntichain_c N (phF N F) w1 hN phF_zero (fun y hy => phF_low hy))
  rw [hb, hr]
  clear hv hb hr
  generalize gaT (setsTo (phF N F) 128) (phF N F) (wdW (phF N F)) = R at *
  generalize phF N F = G at *
  go_enter Try.func21, Try.ntmps21
  go_wp2_with (first
    | (go_at_call 30; refine (familyOf_c n v l _ HL.out hlen).mono ?_; rw [HV.out]; rintro e w1 ⟨rfl, hb⟩; have hz1 := hb.size; rw [HZ.out] at hz1; have HH := hide ((famAt.new 48 w1 0 noSet).row (N : Int) F); have HB := hide (bl_row ((H0.out.trans (hb.mono (by rw [HZ.out]; omega))).alloc (by omega) (.cells (fam 0 noSet) 48)) (show w.heap.size ≤ w1.heap.size by omega) (fam (N : Int) F)); clear hb)
    | (refine wpList_alloc_fam zeroT rfl rfl _ (by first | (simp only [World.size_alloc]; rfl) | rfl) ?_)
    | (refine wpList_store_fam sizeT rfl (.tmp _) (.tmp _) rfl w1.heap.size _ _ rfl rfl _ _ (famAt.new _ _ _ _) ?_)
    | (refine wpList_load_fam rowT sizeT rfl (.tmp 4) rfl w1.heap.size rfl (N : Int) F HH.out ?_)
    | (go_at_call 31; refine (HPA.out _).mono ?_; rintro e w2 ⟨rfl, hb2⟩; have HB2 := hide (HB.out.trans (hb2.mono HB.out.size)); clear hb2)
    | (go_at_call 35; refine (HGA.out _).mono ?_; rintro e w3 ⟨v3, rfl, ho3, hb3⟩; have HO3 := hide (ho3.mono HB2.out.size); have HB3 := hide (HB2.out.trans (hb3.mono HB2.out.size)); clear ho3 hb3))
  go_ret2
  exact ⟨_, rfl, HO3.out, HB3.out⟩
end Go.Proofs.Ytblglkgmnaklbaa
/- Contracts: the first greatest antichain, the specification's. -/
namespace Go.Proofs.Ytblglkgmnaklbaa
open Go.RowKit
set_option maxRecDepth 100000
set_option linter.unusedSimpArgs false
section
variable {P : Program} {ops : Array Oper} {Q : Exit → Act → World → Prop} {a : Act} {w : World}
theorem region_join2 {id : Nat} {b : Bool} {A : Nat → Value → Value → Act} (F : Nat → Value → Value → World → Prop)
    (h1 : (∀ B u v W, F B u v W → Q .normal (A B u v) W) → (Code.region id ops b).wp P Q a w)
    (h2 : ∀ B u v W, F B u v W → Q .normal (A B u v) W) : (Code.region id ops b).wp P Q a w := h1 h2
theorem yields_atW {S : World → Prop} {t I : TypeId} (ht : P.underlying t = some (.slice I)) (hI : (P.info? I).map (·.size) = some 1) {o : Oper} (hw : Region.wanted o (yielded ops a.tmps) = true) (x y : Operand) (ho : o.op = .indexAddr t x y)
    (b of n c k : Nat) (hx : a.eval x = .slice (some ⟨b, of, none⟩) n c) (hy : a.eval y = .int .i64 (k : Int)) (hk : k < n) : YieldsIf P ops S o (.pointer (some ⟨b, of + k, none⟩)) a := by
  have he : P.underlying t = some (.slice (P.elem t)) := by
    rw [ht]; simp [Program.elem, ht]
  have hE : P.elem t = I := by simp [Program.elem, ht]
  refine .inl ⟨hw, fun w _ => ?_⟩
  have hr : (Instr.indexAt t (.slice (some ⟨b, of, none⟩) n c) (.int .i64 (k : Int))).run P w = .ok (.pointer (some ⟨b, of + k, none⟩)) w := by
    rw [run_indexAt_slice (h := he), if_pos (by omega), hE, run_sizeOf' hI]
    simp [Addr.add]
  unfold execOp
  simp only [ho, hx, hy, Sem.run_bind, Sem.run_pure, hr, Result.andThen_ok]
end
theorem cfT_skip {a : Int} {r sm : List Int} {k : Nat} (hl : ¬ (a :: r).length < k + 1) (h : acB (sm ++ [a]) = false) : cfT (a :: r) sm (k + 1) = cfT r sm (k + 1) := by rw [cfT, if_neg hl, if_neg (by rw [h]; simp)]
theorem cfT_some {a : Int} {r sm o : List Int} {k : Nat} (hl : ¬ (a :: r).length < k + 1) (h : acB (sm ++ [a]) = true) (h2 : cfT r (sm ++ [a]) k = some o) : cfT (a :: r) sm (k + 1) = some o := by rw [cfT, if_neg hl, if_pos h, h2]
theorem cfT_none {a : Int} {r sm : List Int} {k : Nat} (hl : ¬ (a :: r).length < k + 1) (h : acB (sm ++ [a]) = true) (h2 : cfT r (sm ++ [a]) k = none) : cfT (a :: r) sm (k + 1) = cfT r sm (k + 1) := by rw [cfT, if_neg hl, if_pos h, h2]
theorem cfT_end {r sm : List Int} {k : Nat} (hl : r.length < k + 1) : cfT r sm (k + 1) = none := by
  cases r with
  | nil => rfl
  | cons a r => rw [cfT, if_pos hl]
theorem cfT_zero (r sm : List Int) : cfT r sm 0 = some sm := by cases r <;> rfl
theorem ent_l1Own : enters Try.prog 50 := enters_of Try.func50 (by kernel_rfl) (by kernel_rfl)
attribute [local irreducible] p2 low memB risB own
set_option maxHeartbeats 16000000 in
theorem cnFirst_c (v : Value) (L : List Int) (B0 : Nat) (hL8 : L.length ≤ 128) (hLR : ∀ j, j < L.length → 0 ≤ L[j]?.getD 0 ∧ L[j]?.getD 0 < 128) : ∀ (k i : Nat) (u : Value) (sm : List Int) (w : World), i ≤ L.length → k ≤ 128 → sm.length ≤ i → (∀ j, j < sm.length → 0 ≤ sm[j]?.getD 0 ∧ sm[j]?.getD 0 < 128) →
    ints B0 w v L → own 3 w B0 u sm → B0 ≤ w.heap.size →
    Calls Try.prog 34 #[v, u, .int .i64 (i : Int), .int .i64 (k : Int)] w fun e w' => ∃ v', e = .returned (.tuple #[v', .bool (cfT (L.drop i) sm k).isSome]) ∧ own 3 w' B0 v' ((cfT (L.drop i) sm k).getD []) ∧ Below w.heap.size w w' := by
  intro k
  induction k with
  | zero =>
    intro i u sm w hi hk hsl hsr hv hu hB
    have HU := hide hu
    rw [cfT_zero]
    go_enter Try.func34, Try.ntmps34
    go_wp2
    go_ret2
    exact ⟨_, rfl, HU.out, Below.refl _ _⟩
  | succ k ih =>
    intro i u sm w hi hk hsl hsr hv hu hB
    have IH := hide ih
    have HU := hide hu
    have HV := hide hv
    have HSR := hide hsr
    have HLR := hide hLR
    have hk0 : ¬ (((k + 1 : Nat) : Int) = 0) := by omega
    have hkb : ((((k + 1 : Nat) : Int)) == 0) = false := by simp; omega
    generalize hR : cfT (L.drop i) sm (k + 1) = R
    have HR := hide hR
    clear ih hu hv hsr hLR hR
    obtain ⟨K1, hK1⟩ : ∃ K1 : Nat, K1 = k + 1 := ⟨_, rfl⟩
    rw [← hK1] at hk0 hkb ⊢
    have HK1 := hide hK1
    have hK1a : 1 ≤ K1 ∧ K1 ≤ 128 := by omega
    clear hK1
    go_enter Try.func34, Try.ntmps34
    go_wp2_with fail
    go_loopw [10] (fun z wr => ∃ j : Nat, i ≤ j ∧ j ≤ L.length ∧ z = .int .i64 (j : Int) ∧ Hid (cfT (L.drop j) sm (k + 1) = R) ∧ Hid (Below w.heap.size w wr)) (fun z _ => L.length + 1 - (intOf z).toNat)
    case atStart => exact ⟨i, Nat.le_refl _, hi, rfl, HR, Below.refl _ _⟩
    case round =>
      clear HR
      obtain ⟨j, hij, hj, rfl, HR, HB⟩ := hrel
      have hsz := HB.out.size
      have HVW := hide (HV.out.below HB.out hB)
      have HUW := hide (HU.out.kept HB.out)
      by_cases hlt : j + K1 ≤ L.length
      · have hjl : j < L.length := by omega
        have hr := HLR.out j hjl
        have hx : L[j]?.getD 0 = (nth L j : Int) := by unfold nth; omega
        have hx8 : nth L j < 128 := by omega
        have hdr : L.drop j = (nth L j : Int) :: L.drop (j + 1) := by
          rw [List.drop_eq_getElem_cons hjl]
          rw [List.getElem?_eq_getElem hjl, Option.getD_some] at hx
          rw [hx]
        have hk1 := HK1.out
        have hRR := HR.out
        rw [hdr] at hRR
        have hln : ¬ ((nth L j : Int) :: L.drop (j + 1)).length < k + 1 := by rw [← hdr, List.length_drop]; omega
        have HRR := hide hRR
        have HLN := hide hln
        clear hln
        obtain ⟨vb, vo, vc, hve, hvb, hvc⟩ : ∃ b o c, v = .slice (some ⟨b, o, none⟩) L.length c ∧ b < wr.heap.size ∧ wr.cell? ⟨b, o + j, none⟩ = some (.int .i64 (nth L j : Int)) := by
          rcases HVW.out with ⟨h0, _⟩ | ⟨b, o, c, h3, h4, h5, h6⟩
          · exfalso; rw [h0] at hjl; simp at hjl
          · exact ⟨b, o, c, h3, h5, by rw [h6 j hjl, hx]⟩
        have HOW := hide (fun w1 (h : Below wr.heap.size wr w1) => l1Own_c u sm w1 ((HUW.out.kept h).ints) (by omega))
        have hle : (j : Int) + (K1 : Int) ≤ (L.length : Int) := by omega
        clear hr hx hdr hRR hk1
        generalize nth L j = x at *
        have HIV := hide (HVW.out.mono (show B0 ≤ wr.heap.size by omega))
        go_wp2_with (refine wpList_len sliceT rfl (.tmp _) rfl _ rfl wr.heap.size L HIV.out ?_)
        subst hve
        apply region_join2 (F := fun B u2 v3 W' => Below wr.heap.size wr W' ∧ own 3 W' wr.heap.size v3 (sm ++ [(x : Int)]))
        · intro hK
          refine wp_region_held (S := fun w' => Below wr.heap.size wr w') (by kernel_rfl) ?_
          have hS0 : Below wr.heap.size wr { wr with drawn := wr.drawn + 1 } := (Below.refl _ _).drew
          generalize ({ wr with drawn := wr.drawn + 1 } : World) = C0 at hS0 ⊢
          have hz0 := hS0.size
          refine wpAnyH_take (i := 0) (v := u) rfl (by kernel_rfl) (by kernel_rfl) (by kernel_rfl) (fun _ _ _ h => h) (.inl ⟨rfl, fun w' _ => by go_simp⟩) hS0 ?_
          refine wpAnyH_take (i := 2) (v := .slice (some ⟨vb, vo, none⟩) L.length vc) rfl (by kernel_rfl) (by kernel_rfl) (by kernel_rfl) (fun _ _ _ h => h) (.inl ⟨rfl, fun w' _ => by go_simp⟩) hS0 ?_
          refine wpAnyH_take (i := 3) (v := .int .i64 (j : Int)) rfl (by kernel_rfl) (by kernel_rfl) (by kernel_rfl) (fun _ _ _ h => h) (.inl ⟨rfl, fun w' _ => by go_simp⟩) hS0 ?_
          simp only [Act.put, List.getElem_toArray, List.getElem_cons_zero, List.getElem_cons_succ, List.setIfInBounds_toArray, List.set_cons_zero, List.set_cons_succ]
          refine wpAnyH_take (i := 4) rfl (by kernel_rfl) (by kernel_rfl) (by kernel_rfl) (fun _ _ _ h => h) (yields_atW sliceT intS rfl (.tmp _) (.tmp _) rfl vb vo L.length vc j rfl rfl hjl) hS0 ?_
          simp only [Act.put, List.getElem_toArray, List.getElem_cons_zero, List.getElem_cons_succ, List.setIfInBounds_toArray, List.set_cons_zero, List.set_cons_succ]
          refine wpAnyH_take (i := 5) rfl (by kernel_rfl) (by kernel_rfl) (by kernel_rfl) (fun _ _ _ h => h) (yields_load_cell rowI rfl (.tmp _) rfl ⟨vb, vo + j, none⟩ rfl (.int .i64 (x : Int)) (fun w' h => (h.cell (p := ⟨vb, vo + j, none⟩) hvb).trans hvc)) hS0 ?_
          simp only [Act.put, List.getElem_toArray, List.getElem_cons_zero, List.getElem_cons_succ, List.setIfInBounds_toArray, List.set_cons_zero, List.set_cons_succ]
          refine wpAnyH_all (rs := [1, 6]) (by kernel_rfl) (by simp) fun q hq => ?_
          rcases (show q = 1 ∨ q = 6 by simpa using hq) with rfl | rfl
          · show wpOp _ _ _ _ _ _ _
            refine wpOp_call rfl rfl 50 ent_l1Own _ _ rfl #[u] rfl (HOW.out C0 hS0) ?_
            rintro e C1 ⟨u2, rfl, ho1, hb1⟩
            have hz1 := hb1.size
            have hS1 : Below wr.heap.size wr C1 := hS0.trans (hb1.mono (by omega))
            refine ⟨_, rfl, hS1, ?_⟩
            simp only [Act.put, List.getElem_toArray, List.getElem_cons_zero, List.getElem_cons_succ, List.setIfInBounds_toArray, List.set_cons_zero, List.set_cons_succ]
            obtain ⟨B, hB⟩ : ∃ B, B = C1.heap.size := ⟨_, rfl⟩
            have hS2 : Below wr.heap.size wr (C1.alloc (.cells #[.int .i64 (x : Int)] 3)) := hS1.alloc (by omega) _
            have ho2 := (ho1.mono (show wr.heap.size ≤ C0.heap.size by omega)).alloc (.cells #[.int .i64 (x : Int)] 3)
            have hb2 : (C1.alloc (.cells #[.int .i64 (x : Int)] 3)).cell? ⟨B, 0, none⟩ = some (.int .i64 (x : Int)) := by rw [hB]; simp
            have hz2 : (C1.alloc (.cells #[.int .i64 (x : Int)] 3)).heap.size = C1.heap.size + 1 := by simp
            refine anyH_op (i := 6) (by kernel_rfl) rfl rfl (.slice (some ⟨B, 0, none⟩) 1 1) (C1.alloc (.cells #[.int .i64 (x : Int)] 3)) (by simp [go_sem, hB]) hS2 ?_
            generalize C1.alloc (.cells #[.int .i64 (x : Int)] 3) = C2 at hS2 ho2 hb2 hz2 ⊢
            simp only [Act.put, List.getElem_toArray, List.getElem_cons_zero, List.getElem_cons_succ, List.setIfInBounds_toArray, List.set_cons_zero, List.set_cons_succ]
            refine anyH_oneX (i := 7) (by kernel_rfl) rfl rfl ?_
            intro Q1 hQ1
            refine wpList_append1 sliceT intI rfl (.tmp _) (.tmp _) rfl wr.heap.size _ sm rfl ho2 B (x : Int) rfl hb2 (by omega) (by omega) ?_
            intro v3 C3 ho3 hb3
            refine wpList_nil ?_
            have hS3 : Below wr.heap.size wr C3 := hS2.trans hb3
            refine hQ1 _ _ hS3 ?_
            simp only [Act.put, List.getElem_toArray, List.getElem_cons_zero, List.getElem_cons_succ, List.setIfInBounds_toArray, List.set_cons_zero, List.set_cons_succ]
            refine anyH_op (i := 8) (by kernel_rfl) rfl rfl v3 C3 (by simp [go_sem]) hS3 ?_
            refine wpAnyH_done (by kernel_rfl) ?_ _
            simp only [Act.put, List.getElem_toArray, List.getElem_cons_zero, List.getElem_cons_succ, List.setIfInBounds_toArray, List.set_cons_zero, List.set_cons_succ]
            exact hK B u2 v3 C3 ⟨hS3, ho3⟩
          · show wpOp _ _ _ _ _ _ _
            obtain ⟨B, hB⟩ : ∃ B, B = C0.heap.size := ⟨_, rfl⟩
            have hS1 : Below wr.heap.size wr (C0.alloc (.cells #[.int .i64 (x : Int)] 3)) := hS0.alloc (by omega) _
            have hb1 : (C0.alloc (.cells #[.int .i64 (x : Int)] 3)).cell? ⟨B, 0, none⟩ = some (.int .i64 (x : Int)) := by rw [hB]; simp
            have hz1 : (C0.alloc (.cells #[.int .i64 (x : Int)] 3)).heap.size = B + 1 := by simp [hB]
            refine wpOp_val rfl rfl (.slice (some ⟨B, 0, none⟩) 1 1) (C0.alloc (.cells #[.int .i64 (x : Int)] 3)) (by simp [go_sem, hB]) ⟨hS1, ?_⟩
            generalize C0.alloc (.cells #[.int .i64 (x : Int)] 3) = C1 at hS1 hb1 hz1 ⊢
            simp only [Act.put, List.getElem_toArray, List.getElem_cons_zero, List.getElem_cons_succ, List.setIfInBounds_toArray, List.set_cons_zero, List.set_cons_succ]
            refine anyH_call (i := 1) (by kernel_rfl) rfl rfl 50 ent_l1Own _ _ rfl #[u] rfl (HOW.out C1 hS1) ?_
            rintro e C2 ⟨u2, rfl, ho1, hbb⟩
            have hz2 := hbb.size
            have hS2 : Below wr.heap.size wr C2 := hS1.trans (hbb.mono (by omega))
            have ho2 := ho1.mono (show wr.heap.size ≤ C1.heap.size by omega)
            have hb2 : C2.cell? ⟨B, 0, none⟩ = some (.int .i64 (x : Int)) := (hbb.cell (p := ⟨B, 0, none⟩) (by show B < C1.heap.size; omega)).trans hb1
            refine ⟨_, rfl, hS2, ?_⟩
            simp only [Act.put, List.getElem_toArray, List.getElem_cons_zero, List.getElem_cons_succ, List.setIfInBounds_toArray, List.set_cons_zero, List.set_cons_succ]
            refine anyH_oneX (i := 7) (by kernel_rfl) rfl rfl ?_
            intro Q1 hQ1
            refine wpList_append1 sliceT intI rfl (.tmp _) (.tmp _) rfl wr.heap.size _ sm rfl ho2 B (x : Int) rfl hb2 (by omega) (by omega) ?_
            intro v3 C3 ho3 hb3
            refine wpList_nil ?_
            have hS3 : Below wr.heap.size wr C3 := hS2.trans hb3
            refine hQ1 _ _ hS3 ?_
            simp only [Act.put, List.getElem_toArray, List.getElem_cons_zero, List.getElem_cons_succ, List.setIfInBounds_toArray, List.set_cons_zero, List.set_cons_succ]
            refine anyH_op (i := 8) (by kernel_rfl) rfl rfl v3 C3 (by simp [go_sem]) hS3 ?_
            refine wpAnyH_done (by kernel_rfl) ?_ _
            simp only [Act.put, List.getElem_toArray, List.getElem_cons_zero, List.getElem_cons_succ, List.setIfInBounds_toArray, List.set_cons_zero, List.set_cons_succ]
            exact hK B u2 v3 C3 ⟨hS3, ho3⟩
        · rintro B u2 v3 W3 ⟨hb3, ho3⟩
          have HB3 := hide (HB.out.trans (hb3.mono hsz))
          have HO3 := hide ho3
          have hz3 := hb3.size
          have HSX := hide (show ∀ q, q < (sm ++ [(x : Int)]).length → 0 ≤ (sm ++ [(x : Int)])[q]?.getD 0 ∧ (sm ++ [(x : Int)])[q]?.getD 0 < 128 from fun q hq => by
            rcases Nat.lt_or_ge q sm.length with e | e
            · rw [List.getElem?_append_left e]; exact HSR.out q e
            · have : q = sm.length := by simp at hq; omega
              rw [this]; simp; omega)
          have hsx : (sm ++ [(x : Int)]).length ≤ j + 1 := by simp; omega
          have HV3 := hide (HVW.out.below hb3 (show B0 ≤ wr.heap.size by omega))
          have HAC := hide (fun w1 (h : ints w1.heap.size w1 v3 (sm ++ [(x : Int)])) => cnAntichain_c v3 (sm ++ [(x : Int)]) w1 h (by omega) HSX.out)
          clear hb3 ho3
          generalize hsxd : sm ++ [(x : Int)] = sx at *
          have HSXD := hide hsxd
          clear hsxd
          have hwk : IntKind.i64.wrap ((K1 : Int) - 1) = (k : Int) := by have := HK1.out; rw [show (K1 : Int) - 1 = (k : Int) by omega]; exact IntWalk.i64_in _ (by omega)
          have hwj : IntKind.i64.wrap ((j : Int) + 1) = ((j + 1 : Nat) : Int) := by rw [show (j : Int) + 1 = ((j + 1 : Nat) : Int) by omega]; exact IntWalk.i64_in _ (by omega)
          cases hac : acB sx
          · have HA := hide hac
            have HN := hide (show cfT (L.drop (j + 1)) sm (k + 1) = R by rw [← HRR.out]; exact (cfT_skip HLN.out (by rw [HSXD.out]; exact hac)).symm)
            clear hac
            go_wp2_with (go_at_call 51; refine (HAC.out W3 HO3.out.ints).mono ?_; rw [HA.out]; rintro e w5 ⟨rfl, hb5⟩; have HB5 := hide (HB3.out.trans (hb5.mono (by omega))); clear hb5)
            go_roundw
            case rel => exact ⟨j + 1, by omega, by omega, by go_num, HN, HB5⟩
            case measure => (simp [intOf] <;> omega)
          · have HA := hide hac
            have HCF := hide (fun w1 h1 h2 h3 => IH.out (j + 1) v3 sx w1 (by omega) (by omega) hsx HSX.out h1 h2 h3)
            cases hcf : cfT (L.drop (j + 1)) sx k with
            | none =>
              have HN := hide (show cfT (L.drop (j + 1)) sm (k + 1) = R by rw [← HRR.out]; exact (cfT_none HLN.out (by rw [HSXD.out]; exact hac) (by rw [HSXD.out]; exact hcf)).symm)
              rw [hcf] at HCF
              clear hac hcf
              go_wp2_with (first
                | (go_at_call 51; refine (HAC.out W3 HO3.out.ints).mono ?_; rw [HA.out]; rintro e w5 ⟨rfl, hb5⟩; have hz5 := hb5.size; have HO5 := hide (HO3.out.kept hb5); have HV5 := hide (HV3.out.below hb5 (by omega)); have HB5 := hide (HB3.out.trans (hb5.mono (by omega))); clear hb5)
                | (go_at_call 34; refine (HCF.out _ HV5.out (HO5.out.mono (by omega)) (by omega)).mono ?_; rintro e w6 ⟨v6, rfl, _, hb6⟩; have HB6 := hide (HB5.out.trans (hb6.mono (by omega))); clear hb6))
              go_roundw
              case rel => exact ⟨j + 1, by omega, by omega, by go_num, HN, HB6⟩
              case measure => (simp [intOf] <;> omega)
            | some o =>
              have HN := hide (show some o = R by rw [← HRR.out]; exact (cfT_some HLN.out (by rw [HSXD.out]; exact hac) (by rw [HSXD.out]; exact hcf)).symm)
              rw [hcf] at HCF
              clear hac hcf
              go_wp2_with (first
                | (go_at_call 51; refine (HAC.out W3 HO3.out.ints).mono ?_; rw [HA.out]; rintro e w5 ⟨rfl, hb5⟩; have hz5 := hb5.size; have HO5 := hide (HO3.out.kept hb5); have HV5 := hide (HV3.out.below hb5 (by omega)); have HB5 := hide (HB3.out.trans (hb5.mono (by omega))); clear hb5)
                | (go_at_call 34; refine (HCF.out _ HV5.out (HO5.out.mono (by omega)) (by omega)).mono ?_; rintro e w6 ⟨v6, rfl, ho6, hb6⟩; have HO6 := hide ho6; have HB6 := hide (HB5.out.trans (hb6.mono (by omega))); clear ho6 hb6))
              go_ret2
              exact ⟨_, by rw [← HN.out]; rfl, by rw [← HN.out]; exact HO6.out, HB6.out⟩
      · have hnl : L.length - j < k + 1 := by have := HK1.out; omega
        have HRN := hide (show none = R by rw [← HR.out, cfT_end (by rw [List.length_drop]; exact hnl)])
        have hle : ¬ ((j : Int) + (K1 : Int) ≤ (L.length : Int)) := by omega
        have HIV := hide (HVW.out.mono (show B0 ≤ wr.heap.size by omega))
        go_wp2_with (refine wpList_len sliceT rfl (.tmp _) rfl _ rfl wr.heap.size L HIV.out ?_)
        go_ret2
        exact ⟨_, by rw [← HRN.out]; rfl, by rw [← HRN.out]; exact own_nil _ _ _, HB.out⟩
theorem chP_wdW (P : Nat → Bool) : (chP P).length = wdW P := by unfold chP wdW ctW; rw [chR_len]
set_option maxHeartbeats 4000000 in
theorem specGreatestAntichain_c (n : Int) (v : Value) (l : List Int) (w : World) (hl : ints w.heap.size w v l) (hlen : l.length < 1000000000) :
    Calls Try.prog 20 #[.agg #[.int .i64 n, v]] w fun e w' => ∃ v', e = .returned (.tuple #[v', .bool (okSp n l)]) ∧ own 3 w' w.heap.size v' (gaV n l) ∧ Below w.heap.size w w' := by
  have HL := hide ((hl.alloc (.cells #[.int .i64 n, v] 28)).mono (show w.heap.size ≤ (w.alloc (.cells #[.int .i64 n, v] 28)).heap.size by simp))
  have H0 := hide ((Below.refl w.heap.size w).alloc (Nat.le_refl _) (.cells #[.int .i64 n, v] 28))
  have HS0 := hide (hp_last w (.cells #[.int .i64 n, v] 28))
  have HZ := hide (show (w.alloc (.cells #[.int .i64 n, v] 28)).heap.size = w.heap.size + 1 by simp)
  have c0 := cells_at0 HS0.out
  have c1 := cells_at1 HS0.out
  clear hl
  have hg := ok_good n l
  cases hok : okSp n l
  · rw [hok] at hg
    have HG := hide hg.symm
    have hr : gaV n l = [] := by unfold gaV; rw [hok]; rfl
    rw [hr]
    clear hok hg hr
    go_enter Try.func20, Try.ntmps20
    go_wp2_with (first
      | (go_at_call 26; refine (spGood_c _ v l _ HL.out hlen).mono ?_; rw [HG.out]; rintro e w1 ⟨rfl, hb1⟩; have HS1 := hide ((hb1.block w.heap.size (by rw [HZ.out]; omega)).trans HS0.out); have d0 := cells_at0 HS1.out; have d1 := cells_at1 HS1.out; have HL1 := hide ((HL.out.below hb1 (Nat.le_refl _)).mono hb1.size); have hz1 := hb1.size; rw [HZ.out] at hz1; have HB1 := hide (H0.out.trans (hb1.mono (by rw [HZ.out]; omega))); clear hb1)
      | (go_at_call 28; refine (HIR.out _ HL1.out).mono ?_; rintro e w2 ⟨v2, rfl, ho2, hb2⟩; have HI2 := hide ho2.ints; have hz2 := hb2.size; have HB2 := hide (HB1.out.trans (hb2.mono (by omega))); clear ho2 hb2 d0 d1)
      | (go_at_call 27; refine (HCN.out v2 w2 HI2.out).mono ?_; rintro e w3 ⟨v3, rfl, ho3, hb3⟩; have HO3 := hide ho3; have HB3 := hide (HB2.out.trans (hb3.mono (by omega))); have hbb3 := hb3; have hz3b := hb3.size; clear ho3 hb3)
      )
    go_ret2
    exact ⟨_, rfl, own_nil _ _ _, HB1.out⟩
  · rw [hok] at hg
    have HG := hide hg.symm
    have HR := hide (okSp_r128W hok)
    have hl128 := okSp_len128W hok
    have HII := hide (okSp_inc hok)
    have hn := okSp_n hok
    obtain ⟨m, rfl⟩ := Int.eq_ofNat_of_zero_le (show 0 ≤ n by omega)
    have HIR : Hid (∀ w1, ints w1.heap.size w1 v l → Calls Try.prog 28 #[.agg #[.int .i64 (m : Int), v]] w1 fun e w' => ∃ v', e = .returned v' ∧ own 3 w' w1.heap.size v' (setsTo (phF m (marksTo l l.length)) 128) ∧ Below w1.heap.size w1 w') := hide (fun w1 h => by
      have h2 := cnIrreducible_c (m : Int) v l w1 h HII.out (by omega) HR.out
      rw [irS_sets hok] at h2
      exact h2)
    have HCN := hide (fun v' w1 h => cnChains_c (phF m (marksTo l l.length)) phF_zero (fun x hx => phF_lt (by omega) hx) v' w1 h)
    rw [show chR (rmTo (phF m (marksTo l l.length)) (maTo (phF m (marksTo l l.length)) 128).nx 128) (maTo (phF m (marksTo l l.length)) 128).nx = chP (phF m (marksTo l l.length)) from rfl] at HCN
    have hr : gaV (m : Int) l = gaT (setsTo (phF m (marksTo l l.length)) 128) (phF m (marksTo l l.length)) (wdW (phF m (marksTo l l.length))) := by unfold gaV; rw [hok, Int.toNat_natCast]; rfl
    rw [hr]
    have hRl := chP_wdW (phF m (marksTo l l.length))
    have hw8 := wdW_128 (phF m (marksTo l l.length))
    have htop := cf_top (P := phF m (marksTo l l.length)) phF_zero (fun x hx => phF_lt (show m ≤ 7 by omega) hx)
    have hL8 := setsTo_len (phF m (marksTo l l.length)) 128
    have hLR := setsTo_range (phF m (marksTo l l.length)) 128
    clear hok hg hr
    generalize chP (phF m (marksTo l l.length)) = R at *
    generalize phF m (marksTo l l.length) = G at *
    rw [← hRl] at htop ⊢
    have HCF := hide (fun v' B0 w1 h1 h2 h3 => cnFirst_c v' (setsTo G 128) B0 hL8 (fun j hj => by have := hLR j hj; omega) R.length 0 (.slice none 0 0) [] w1 (Nat.zero_le _) (by omega) (Nat.le_refl _) (fun j hj => by simp at hj) h1 h2 h3)
    rw [List.drop_zero, htop] at HCF
    clear htop hL8 hLR hRl
    generalize gaT (setsTo G 128) G R.length = Z at *
    go_enter Try.func20, Try.ntmps20
    go_wp2_with (first
      | (go_at_call 26; refine (spGood_c _ v l _ HL.out hlen).mono ?_; rw [HG.out]; rintro e w1 ⟨rfl, hb1⟩; have HS1 := hide ((hb1.block w.heap.size (by rw [HZ.out]; omega)).trans HS0.out); have d0 := cells_at0 HS1.out; have d1 := cells_at1 HS1.out; have HL1 := hide ((HL.out.below hb1 (Nat.le_refl _)).mono hb1.size); have hz1 := hb1.size; rw [HZ.out] at hz1; have HB1 := hide (H0.out.trans (hb1.mono (by rw [HZ.out]; omega))); clear hb1)
      | (go_at_call 28; refine (HIR.out _ HL1.out).mono ?_; rintro e w2 ⟨v2, rfl, ho2, hb2⟩; have HI2 := hide ho2.ints; have hz2 := hb2.size; have HB2 := hide (HB1.out.trans (hb2.mono (by omega))); clear ho2 hb2 d0 d1)
      | (go_at_call 27; refine (HCN.out v2 w2 HI2.out).mono ?_; rintro e w3 ⟨v3, rfl, ho3, hb3⟩; have HO3 := hide ho3; have HB3 := hide (HB2.out.trans (hb3.mono (by omega))); have hbb3 := hb3; have hz3b := hb3.size; clear ho3 hb3)
      | (refine wpList_len2 sliceT2 rfl (.tmp _) rfl _ rfl w3.heap.size R HO3.out.rows ?_)
      | (go_at_call 34; refine (HCF.out v2 w3.heap.size w3 ((HI2.out.below hbb3 (Nat.le_refl _)).mono hz3b) (own_nil _ _ _) (Nat.le_refl _)).mono ?_; rintro e w4 ⟨v4, rfl, ho4, hb4⟩; have HO4 := hide (show own 3 w4 w.heap.size v4 Z from ho4.mono (by omega)); have HB4 := hide (HB3.out.trans (hb4.mono (by omega))); clear ho4 hb4))
    go_ret2
    exact ⟨_, rfl, HO4.out, HB4.out⟩
end Go.Proofs.Ytblglkgmnaklbaa
/- The program's GreatestAntichain answers as the specification's does, at every argument, leaves its arguments as they are, and its answer owns its memory: no condition. -/
namespace Go.Proofs.Ytblglkgmnaklbaa.FGreatestAntichain
open Go.ChangeShapes Go.WideShapes Go.ChangeAt Go.RowKit Go.Joins
set_option linter.unusedVariables false
set_option linter.unusedSimpArgs false
set_option maxRecDepth 100000

set_option maxHeartbeats 4000000 in
theorem law_c (n0 : Int) (v0 : Value) (l0 : List Int) (w : World) (h0 : ints w.heap.size w v0 l0) (hlen0 : l0.length ≤ 9223372036854775807) :
    Calls Try.prog 6 #[.agg #[.int .i64 n0, v0]] w fun e w' => e = .returned (.bool true) ∧ Below w.heap.size w w' := by
  have hRL := (gaV_len n0 l0)
  generalize hR : (gaV n0 l0) = R at hRL
  generalize hO : (okSp n0 l0) = ok
  have HR := hide hR
  have HO := hide hO
  clear hR hO
  have F1 := hide (((Below.refl w.heap.size w).alloc (Nat.le_refl _) (.cells #[.int .i64 n0, v0] 24)))
  have F2 := hide ((h0.alloc (.cells #[.int .i64 n0, v0] 24)))
  have F3 := hide (show (w.alloc (.cells #[.int .i64 n0, v0] 24)).heap[w.heap.size]? = some (.cells #[.int .i64 n0, v0] 24) from (by have := hp_last w (.cells #[.int .i64 n0, v0] 24); simpa using this))
  have HZ0 := hide (show (w.alloc (.cells #[.int .i64 n0, v0] 24)).heap.size = w.heap.size + 1 by simp)
  clear h0
  have hsz0 : szOf 1048576 l0.length = -1 ∨ (0 ≤ szOf 1048576 l0.length ∧ szOf 1048576 l0.length ≤ 1048576 ∧ l0.length ≤ 1048576) := by unfold szOf; split <;> omega
  generalize hq0 : szOf 1048576 l0.length = q0 at hsz0
  have HQ0 := hide hq0
  clear hq0
  rcases hsz0 with hbig0 | ⟨hq0a, hq0b, hq0c⟩
  · have HBIG := hide hbig0
    have hneg : q0 < 0 := by omega
    clear hbig0
    go_enter Try.func6, Try.ntmps6
    go_wp2_with fail
    generalize hX : (w.alloc (.cells #[.int .i64 n0, v0] 24)) = W0 at F1 F2 F3 HZ0 ⊢
    have hz0 := Nat.le_of_eq HZ0.out.symm
    clear hX HZ0
    refine (szSpace_c n0 v0 l0 (1048576) W0 (F2.out.mono (by omega)) hlen0 (by omega) (by omega)).mono ?_
    rw [HQ0.out]
    rintro e W1 ⟨rfl, hb4⟩
    have hz5 := hb4.size
    have F6 := hide (F1.out.trans (hb4.mono (by omega)))
    have F7 := hide (F2.out.below hb4 (by omega))
    have F8 := hide ((hb4.block (w.heap.size) (by omega)).trans F3.out)
    clear hb4 F1 F2 F3
    go_wp2
    go_ret
    exact ⟨rfl, F6.out⟩
  have hneg0 : ¬ q0 < 0 := by omega
  go_enter Try.func6, Try.ntmps6
  go_wp2_with fail
  generalize hX : (w.alloc (.cells #[.int .i64 n0, v0] 24)) = W0 at F1 F2 F3 HZ0 ⊢
  have hz0 := Nat.le_of_eq HZ0.out.symm
  clear hX HZ0
  refine (szSpace_c n0 v0 l0 (1048576) W0 (F2.out.mono (by omega)) hlen0 (by omega) (by omega)).mono ?_
  rw [HQ0.out]
  rintro e W1 ⟨rfl, hb4⟩
  have hz5 := hb4.size
  have F6 := hide (F1.out.trans (hb4.mono (by omega)))
  have F7 := hide (F2.out.below hb4 (by omega))
  have F8 := hide ((hb4.block (w.heap.size) (by omega)).trans F3.out)
  clear hb4 F1 F2 F3
  have hneg2 : ¬ (1 + (R.length : Int) < 0) := by omega
  have p9 := cells_at0 F8.out
  have p10 := cells_at1 F8.out
  go_wp2_with fail
  clear p9 p10
  refine (toSpace_c n0 v0 l0 W1 (F7.out.mono (by omega)) (by omega)).mono ?_
  rintro e W2 ⟨g11, rfl, hg12, hk13, hb14⟩
  have hz15 := hb14.size
  have F16 := hide (F6.out.trans (hb14.mono (by omega)))
  have F17 := hide (F7.out.below hb14 (by omega))
  have F18 := hide ((hb14.block (w.heap.size) (by omega)).trans F8.out)
  have F19 := hide (hk13.own hg12 (by unfold maxLen; omega))
  have B20 := hide (F19.out.base)
  have L21 := hide (F19.out.blockLt)
  clear hb14 F6 F7 F8 hk13 hg12
  have p22 := cells_at0 F18.out
  have p23 := cells_at1 F18.out
  go_wp2_with fail
  clear p22 p23
  refine (specGreatestAntichain_c n0 _ l0 W2 F19.out.ints (by omega)).mono ?_
  rw [HR.out, HO.out]
  rintro e W3 ⟨v24, rfl, ho25, hb26⟩
  have hz27 := hb26.size
  have F28 := hide (F16.out.trans (hb26.mono (by omega)))
  have F29 := hide (F17.out.below hb26 (by omega))
  have F30 := hide ((hb26.block (w.heap.size) (by omega)).trans F18.out)
  have F31 := hide (F19.out.kept hb26)
  obtain ⟨aa32, cc33, hv34⟩ := ho25.shape
  have F35 := hide (ho25)
  have B36 := hide (F35.out.base)
  have L37 := hide (F35.out.blockLt)
  clear hb26 F16 F17 F18 F19 ho25
  subst hv34
  clear F31
  clear B20 L21
  have p38 := cells_at0 F30.out
  have p39 := cells_at1 F30.out
  go_wp2_with fail
  clear p38 p39
  refine (toSpace_c n0 v0 l0 W3 (F29.out.mono (by omega)) (by omega)).mono ?_
  rintro e W4 ⟨g40, rfl, hg41, hk42, hb43⟩
  have hz44 := hb43.size
  have F45 := hide (F28.out.trans (hb43.mono (by omega)))
  have F46 := hide (F29.out.below hb43 (by omega))
  have F47 := hide ((hb43.block (w.heap.size) (by omega)).trans F30.out)
  have F48 := hide (F35.out.kept hb43)
  have F49 := hide (hk42.own hg41 (by unfold maxLen; omega))
  have B50 := hide (F49.out.base)
  have L51 := hide (F49.out.blockLt)
  clear hb43 F28 F29 F30 F35 hk42 hg41
  have F52 := hide (F45.out.alloc (by omega) (.cells #[.int .i64 n0, .slice (some ⟨g40, 0, none⟩) l0.length l0.length] 28))
  have F53 := hide (F46.out.alloc (.cells #[.int .i64 n0, .slice (some ⟨g40, 0, none⟩) l0.length l0.length] 28))
  have F54 := hide ((hp_old W4 (.cells #[.int .i64 n0, .slice (some ⟨g40, 0, none⟩) l0.length l0.length] 28) (w.heap.size) (by omega)).trans F47.out)
  have F55 := hide (F48.out.alloc (.cells #[.int .i64 n0, .slice (some ⟨g40, 0, none⟩) l0.length l0.length] 28))
  have F56 := hide (F49.out.alloc (.cells #[.int .i64 n0, .slice (some ⟨g40, 0, none⟩) l0.length l0.length] 28))
  have F57 := hide (hp_last W4 (.cells #[.int .i64 n0, .slice (some ⟨g40, 0, none⟩) l0.length l0.length] 28))
  have HZ58 := hide (show (W4.alloc (.cells #[.int .i64 n0, .slice (some ⟨g40, 0, none⟩) l0.length l0.length] 28)).heap.size = W4.heap.size + 1 by simp)
  clear F45 F46 F47 F48 F49
  have p59 := cells_at0 F54.out
  have p60 := cells_at1 F54.out
  have p61 := cells_at0 F57.out
  have p62 := cells_at1 F57.out
  go_wp2_with fail
  clear p59 p60 p61 p62
  generalize hX : W4.alloc (.cells #[.int .i64 n0, .slice (some ⟨g40, 0, none⟩) l0.length l0.length] 28) = W5 at F52 F53 F54 F55 F56 F57 HZ58 ⊢
  have hz63 := Nat.le_of_eq HZ58.out.symm
  clear hX HZ58
  refine (implGreatestAntichain_c n0 _ l0 W5 F56.out.ints (by omega)).mono ?_
  rw [HR.out, HO.out]
  rintro e W6 ⟨v64, rfl, ho65, hb66⟩
  have hz67 := hb66.size
  have F68 := hide (F52.out.trans (hb66.mono (by omega)))
  have F69 := hide (F53.out.below hb66 (by omega))
  have F70 := hide ((hb66.block (w.heap.size) (by omega)).trans F54.out)
  have F71 := hide (F55.out.kept hb66)
  have F72 := hide (F56.out.kept hb66)
  have F73 := hide ((hb66.block (W4.heap.size) (by omega)).trans F57.out)
  obtain ⟨aa74, cc75, hv76⟩ := ho65.shape
  have F77 := hide (ho65)
  have B78 := hide (F77.out.base)
  have L79 := hide (F77.out.blockLt)
  clear hb66 F52 F53 F54 F55 F56 F57 ho65
  subst hv76
  have p80 := cells_at0 F70.out
  have p81 := cells_at1 F70.out
  have p82 := cells_at0 F73.out
  have p83 := cells_at1 F73.out
  go_wp2_with fail
  clear p80 p81 p82 p83
  refine (eqIntS_same_c _ _ R W6 (F77.out.ints) (F71.out.ints) hRL).mono ?_
  rintro e W7 ⟨rfl, hb84⟩
  have hz85 := hb84.size
  have F86 := hide (F68.out.trans (hb84.mono (by omega)))
  have F87 := hide (F69.out.below hb84 (by omega))
  have F88 := hide ((hb84.block (w.heap.size) (by omega)).trans F70.out)
  have F89 := hide (F71.out.kept hb84)
  have F90 := hide (F72.out.kept hb84)
  have F91 := hide ((hb84.block (W4.heap.size) (by omega)).trans F73.out)
  have F92 := hide (F77.out.kept hb84)
  clear hb84 F68 F69 F70 F71 F72 F73 F77
  have p93 := cells_at0 F88.out
  have p94 := cells_at1 F88.out
  have p95 := cells_at0 F91.out
  have p96 := cells_at1 F91.out
  go_wp2
  clear p93 p94 p95 p96
  refine wp_region_held (S := Below W7.heap.size W7) (by kernel_rfl) ?_
  have hS : Below W7.heap.size W7 { W7 with drawn := W7.drawn + 1 } := (Below.refl _ _).drew
  refine wpAnyH_take (i := 0) rfl (by kernel_rfl) (by kernel_rfl) (by kernel_rfl) (fun _ _ _ h => h) (yields_load_two rowSp sizeSp rfl (.tmp _) rfl _ rfl _ _ (fun w' h => (h.cell (p := ⟨W4.heap.size, 0, none⟩) (by show W4.heap.size < _; omega)).trans (cells_at0 F91.out)) (fun w' h => (h.cell (p := ⟨W4.heap.size, 1, none⟩) (by show W4.heap.size < _; omega)).trans (cells_at1 F91.out))) hS ?_
  refine wpAnyH_take (i := 1) rfl (by kernel_rfl) (by kernel_rfl) (by kernel_rfl) (fun _ _ _ h => h) (yields_load_two rowSl sizeSl rfl (.tmp _) rfl _ rfl _ _ (fun w' h => (h.cell (p := ⟨w.heap.size, 0, none⟩) (by show w.heap.size < _; omega)).trans (cells_at0 F88.out)) (fun w' h => (h.cell (p := ⟨w.heap.size, 1, none⟩) (by show w.heap.size < _; omega)).trans (cells_at1 F88.out))) hS ?_
  refine anyH_call (i := 2) (by kernel_rfl) rfl rfl 9 ent_toSpace _ _ rfl #[.agg #[.int .i64 n0, v0]] rfl (toSpace_c n0 v0 l0 _ ((F87.out.below hS (by omega)).mono (show w.heap.size ≤ W7.heap.size by omega)) (by omega)) ?_
  rintro e W8 ⟨g97, rfl, hgr, hkr, hbr⟩
  have hzr : W7.heap.size ≤ W8.heap.size := hbr.size
  have hS6 : Below W7.heap.size W7 W8 := hS.trans hbr
  refine ⟨_, rfl, hS6, ?_⟩
  refine anyH_call (i := 3) (by kernel_rfl) rfl rfl 11 ent_eqSpace _ _ rfl #[.agg #[.int .i64 n0, .slice (some ⟨g40, 0, none⟩) l0.length l0.length], .agg #[.int .i64 n0, .slice (some ⟨g97, 0, none⟩) l0.length l0.length]] rfl (eqSpace_same_c n0 _ _ l0 W8 ((F90.out.kept hS6).ints) (hkr.ints _) (by omega)) ?_
  rintro e W9 ⟨rfl, hbs⟩
  have hS7 : Below W7.heap.size W7 W9 := hS6.trans (hbs.mono hzr)
  refine ⟨_, rfl, hS7, ?_⟩
  refine anyH_op (i := 4) (by kernel_rfl) rfl rfl (.bool false) W9 ?hq hS7 ?_
  case hq => simp [go_sem, Act.put]
  refine wpAnyH_done (by kernel_rfl) ?_ _
  simp only [Act.put, List.getElem_toArray, List.getElem_cons_zero, List.getElem_cons_succ, List.setIfInBounds_toArray, List.set_cons_zero, List.set_cons_succ]
  have hz98 : W7.heap.size ≤ W9.heap.size := hS7.size
  have F99 := hide (F86.out.trans (hS7.mono (by omega)))
  have F100 := hide (F87.out.below hS7 (by omega))
  have F101 := hide ((hS7.block (w.heap.size) (by omega)).trans F88.out)
  have F102 := hide (F89.out.kept hS7)
  have F103 := hide (F90.out.kept hS7)
  have F104 := hide ((hS7.block (W4.heap.size) (by omega)).trans F91.out)
  have F105 := hide (F92.out.kept hS7)
  clear hS hS6 hS7 hbr hbs hkr hgr hzr F86 F87 F88 F89 F90 F91 F92
  have p106 := cells_at0 F101.out
  have p107 := cells_at1 F101.out
  have p108 := cells_at0 F104.out
  have p109 := cells_at1 F104.out
  go_wp2_with fail
  clear p106 p107 p108 p109
  refine (markSpace_c n0 _ l0 (1) W9 _ F103.out (by omega) (by omega) (by omega)).mono ?_
  rintro e W10 ⟨rfl, hn111, ho110⟩
  have hz112 := ho110.size
  have F113 := hide (F99.out.trans (ho110.below w.heap.size (fun g hg => by have := B50.out g hg; omega) (by omega)))
  have F114 := hide (F100.out.below (ho110.below w.heap.size (fun g hg => by have := B50.out g hg; omega) (by omega)) (Nat.le_refl _))
  have F115 := hide ((ho110.block (w.heap.size) (by omega) (fun e => by have h1 := B50.out _ e; have h2 := L51.out _ e; omega)).trans F101.out)
  have F116 := hide (F102.out.other ho110 (fun g hg e => by have h1 := B50.out _ e; have h2 := L51.out _ e; have h3 := B36.out _ hg; have h4 := L37.out _ hg; omega))
  have F118 := hide ((ho110.block (W4.heap.size) (by omega) (fun e => by have h1 := B50.out _ e; have h2 := L51.out _ e; omega)).trans F104.out)
  have F119 := hide (F105.out.other ho110 (fun g hg e => by have h1 := B50.out _ e; have h2 := L51.out _ e; have h3 := B78.out _ hg; have h4 := L79.out _ hg; omega))
  have F120 := hide hn111
  clear F99 F100 F101 F102 F103 F104 F105 hn111 ho110
  have hneg3 : ¬ (1 + (l0.length : Int) < 0) := by omega
  have p121 := cells_at0 F115.out
  have p122 := cells_at1 F115.out
  have p123 := cells_at0 F118.out
  have p124 := cells_at1 F118.out
  go_wp2_with fail
  clear p121 p122 p123 p124
  refine (eqIntS_same_c _ _ R W10 (F119.out.ints) (F116.out.ints) hRL).mono ?_
  rintro e W11 ⟨rfl, hb125⟩
  have hz126 := hb125.size
  have F127 := hide (F113.out.trans (hb125.mono (by omega)))
  have F128 := hide (F114.out.below hb125 (by omega))
  have F129 := hide ((hb125.block (w.heap.size) (by omega)).trans F115.out)
  have F130 := hide (F116.out.kept hb125)
  have F131 := hide (F120.out.kept hb125)
  have F132 := hide ((hb125.block (W4.heap.size) (by omega)).trans F118.out)
  have F133 := hide (F119.out.kept hb125)
  clear hb125 F113 F114 F115 F116 F120 F118 F119
  have p134 := cells_at0 F129.out
  have p135 := cells_at1 F129.out
  have p136 := cells_at0 F132.out
  have p137 := cells_at1 F132.out
  go_wp2_with fail
  clear p134 p135 p136 p137
  refine (markIntS_c _ R (1) W11 _ F133.out (by omega) (by omega) (by omega)).mono ?_
  rintro e W12 ⟨rfl, hn139, ho138⟩
  have hz140 := ho138.size
  have F141 := hide (F127.out.trans (ho138.below w.heap.size (fun g hg => by have := B78.out g hg; omega) (by omega)))
  have F142 := hide (F128.out.below (ho138.below w.heap.size (fun g hg => by have := B78.out g hg; omega) (by omega)) (Nat.le_refl _))
  have F143 := hide ((ho138.block (w.heap.size) (by omega) (fun e => by have h1 := B78.out _ e; have h2 := L79.out _ e; omega)).trans F129.out)
  have F144 := hide (F130.out.other ho138 (fun g hg e => by have h1 := B78.out _ e; have h2 := L79.out _ e; have h3 := B36.out _ hg; have h4 := L37.out _ hg; omega))
  have F145 := hide (F131.out.other ho138 (fun g hg e => by have h1 := B78.out _ e; have h2 := L79.out _ e; have h3 := B50.out _ hg; have h4 := L51.out _ hg; omega))
  have F146 := hide ((ho138.block (W4.heap.size) (by omega) (fun e => by have h1 := B78.out _ e; have h2 := L79.out _ e; omega)).trans F132.out)
  have F148 := hide hn139
  clear F127 F128 F129 F130 F131 F132 F133 hn139 ho138
  have p149 := cells_at0 F143.out
  have p150 := cells_at1 F143.out
  have p151 := cells_at0 F146.out
  have p152 := cells_at1 F146.out
  go_wp2_with fail
  clear p149 p150 p151 p152
  refine (heldIntS_c _ R.length 1 W12 (F148.out.ints) hRL (by omega) (by omega)).mono ?_
  rintro e _ ⟨rfl, rfl⟩
  clear F145
  clear B50 L51
  have p153 := cells_at0 F143.out
  have p154 := cells_at1 F143.out
  have p155 := cells_at0 F146.out
  have p156 := cells_at1 F146.out
  go_wp2_with fail
  clear p153 p154 p155 p156
  refine (toSpace_c n0 v0 l0 W12 (F142.out.mono (by omega)) (by omega)).mono ?_
  rintro e W13 ⟨g157, rfl, hg158, hk159, hb160⟩
  have hz161 := hb160.size
  have F162 := hide (F141.out.trans (hb160.mono (by omega)))
  have F163 := hide (F142.out.below hb160 (by omega))
  have F164 := hide ((hb160.block (w.heap.size) (by omega)).trans F143.out)
  have F165 := hide (F144.out.kept hb160)
  have F166 := hide ((hb160.block (W4.heap.size) (by omega)).trans F146.out)
  have F167 := hide (F148.out.kept hb160)
  have F168 := hide (hk159.own hg158 (by unfold maxLen; omega))
  have B169 := hide (F168.out.base)
  have L170 := hide (F168.out.blockLt)
  clear hb160 F141 F142 F143 F144 F146 F148 hk159 hg158
  have p171 := cells_at0 F164.out
  have p172 := cells_at1 F164.out
  have p173 := cells_at0 F166.out
  have p174 := cells_at1 F166.out
  go_wp2_with fail
  clear p171 p172 p173 p174
  refine (implGreatestAntichain_c n0 _ l0 W13 F168.out.ints (by omega)).mono ?_
  rw [HR.out, HO.out]
  rintro e W14 ⟨v175, rfl, ho176, hb177⟩
  have hz178 := hb177.size
  have F179 := hide (F162.out.trans (hb177.mono (by omega)))
  have F180 := hide (F163.out.below hb177 (by omega))
  have F181 := hide ((hb177.block (w.heap.size) (by omega)).trans F164.out)
  have F182 := hide (F165.out.kept hb177)
  have F183 := hide ((hb177.block (W4.heap.size) (by omega)).trans F166.out)
  have F184 := hide (F167.out.kept hb177)
  have F185 := hide (F168.out.kept hb177)
  obtain ⟨aa186, cc187, hv188⟩ := ho176.shape
  have F189 := hide (ho176)
  have B190 := hide (F189.out.base)
  have L191 := hide (F189.out.blockLt)
  clear hb177 F162 F163 F164 F165 F166 F167 F168 ho176
  subst hv188
  have p192 := cells_at0 F181.out
  have p193 := cells_at1 F181.out
  have p194 := cells_at0 F183.out
  have p195 := cells_at1 F183.out
  go_wp2_with fail
  clear p192 p193 p194 p195
  refine (eqIntS_same_c _ _ R W14 (F189.out.ints) (F182.out.ints) hRL).mono ?_
  rintro e W15 ⟨rfl, hb196⟩
  have hz197 := hb196.size
  have F198 := hide (F179.out.trans (hb196.mono (by omega)))
  have F199 := hide (F180.out.below hb196 (by omega))
  have F200 := hide ((hb196.block (w.heap.size) (by omega)).trans F181.out)
  have F201 := hide (F182.out.kept hb196)
  have F202 := hide ((hb196.block (W4.heap.size) (by omega)).trans F183.out)
  have F203 := hide (F184.out.kept hb196)
  have F204 := hide (F185.out.kept hb196)
  have F205 := hide (F189.out.kept hb196)
  clear hb196 F179 F180 F181 F182 F183 F184 F185 F189
  have p206 := cells_at0 F200.out
  have p207 := cells_at1 F200.out
  have p208 := cells_at0 F202.out
  have p209 := cells_at1 F202.out
  go_wp2_with fail
  clear p206 p207 p208 p209
  refine (heldIntS_c _ R.length 1 W15 (F203.out.ints) hRL (by omega) (by omega)).mono ?_
  rintro e _ ⟨rfl, rfl⟩
  have p210 := cells_at0 F200.out
  have p211 := cells_at1 F200.out
  have p212 := cells_at0 F202.out
  have p213 := cells_at1 F202.out
  go_wp2
  go_ret
  exact ⟨rfl, F198.out⟩

theorem ownK : ownKnob Try.prog.godebug = none := by kernel_rfl
theorem laidOut : laidOutB Try.prog = true := by kernel_rfl

/-- What a slice of int is, as it comes in. -/
theorem list_open {W : World} {v : Value} {l : List Int} (h : (v = .slice none 0 0 ∧ l = []) ∨ ∃ (a : Addr) (len c : Nat) (zs : List Int), v = .slice (some a) len c ∧ len ≤ zs.length ∧ len ≤ maxLen ∧ (∀ i, i < zs.length → W.cell? (a.add i) = some (.int .i64 (zs.getD i 0))) ∧ l = zs.take len) : ints W.heap.size W v l ∧ l.length ≤ 9223372036854775807 := by
  rcases h with ⟨rfl, rfl⟩ | ⟨x, len, c, zs, rfl, hlt, hm, hcell, rfl⟩
  · exact ⟨.inl ⟨rfl, none, 0, rfl⟩, by simp⟩
  · have htk : (zs.take len).length = len := by simp; omega
    refine ⟨?_, by unfold maxLen at hm; omega⟩
    rcases Nat.eq_zero_or_pos len with h0 | h0
    · subst h0
      exact .inl ⟨by simp, some x, c, rfl⟩
    · obtain ⟨b, off, rfl, hc⟩ := ints_at hcell (by omega)
      have hbl := block_lt_of_cell (hc 0 (by omega))
      refine .inr ⟨b, off, c, by rw [htk], hbl, hbl, fun j hj => ?_⟩
      rw [htk] at hj
      rw [hc j (by omega), List.getElem?_take, if_pos hj]
      rfl

/-- What a struct of an int and a slice of int is, as it comes in. -/
theorem space_open {H : Type} {enc : TypeId × Value → H} {W : World} {b0 : Nat} {v : Value} {d : DataW H} {p : List MemPlace}
    (hv : Value.okWide Try.prog W .any b0 24 v) (h : DataW.Trod enc Try.prog W 0 (fun _ => true) true 24 v d p) :
    ∃ (n : Int) (u : Value) (l : List Int), v = .agg #[.int .i64 n, u] ∧ ints W.heap.size W u l ∧ l.length ≤ 9223372036854775807 := by
  obtain ⟨v0, v1, y0, y1, m, rfl, rfl, rfl, hy0, hy1⟩ := open_agg2 Try.underlying24 (by kernel_rfl) (by kernel_rfl) hv h
  obtain ⟨n, e0, _, _⟩ := DataW.trod_int Try.underlying3 hy0
  simp at e0
  subst e0
  rcases open_ints Try.underlying22 Try.underlying3 (by kernel_rfl) hy1 with ⟨hcs, _⟩ | ⟨x, len, c, zs, hcs, _, hl, hm, hz, _, hcell, hwz⟩
  · simp at hcs
    subst hcs
    exact ⟨n, _, [], rfl, list_open (.inl ⟨rfl, rfl⟩)⟩
  · simp at hcs
    subst hcs
    have hz' : zs.length = c := by simpa using hz
    exact ⟨n, _, zs.take len, rfl, list_open (.inr ⟨x, len, c, zs, rfl, by omega, by unfold maxLen at hm ⊢; omega, hcell, rfl⟩)⟩

theorem lifted (os : Os) (started : os.Started) (H : Type) (enc : TypeId × Value → H) :
    ReturnsInHanded {} Try.checked os 6 .any (Rows.fnExactGreatestAntichainSpec.pre6 enc Try.prog Try.f6 Rows.fnExactGreatestAntichainRow.domain false) (Rows.fnExactGreatestAntichainSpec.post enc Try.prog Try.f6 false true false false) := by
  refine returnsInHanded_of_change (C := Try.checked) ownK started (by kernel_rfl) Try.func6
    (ChangeSpec.witness6 (enc := enc) (C := Try.checked) false ⟨#[], #[.agg #[.int .i64 0, .slice none 0 0]], []⟩ 8 (by kernel_rfl) (by kernel_rfl) (by kernel_rfl) (by kernel_rfl)) ?_
  intro W base args ds gs before hval0 hW hcnd _
  have hval : ∀ (j : Nat) t v, Try.f6.params[j]? = some t → args[j]? = some v → Value.okWide Try.prog W .any base t v := hval0
  have hW' := hW
  obtain ⟨p, q, hA0, hV, rfl, hfz, hnd⟩ := hW
  have hA : DataW.TrodAll enc Try.prog W 0 (fun _ => true) true Try.f6.params.toList args.toList ds p := hA0
  rw [Try.params6] at hA hval
  obtain ⟨v0, vs0, d0, ds0, p0, q0, hargs, rfl, rfl, t0, r0⟩ := trodAll_cons hA
  obtain ⟨rfl, rfl, rfl⟩ := trodAll_nil r0
  obtain rfl : args = #[v0] := by cases args; simp_all
  obtain ⟨rfl, rfl⟩ := trodVars_none hV
  have k0 := t0
  have lt0 : ∀ x ∈ p0, x.block < W.heap.size := by obtain ⟨m, hm⟩ := k0; exact DataW.trod_lt m _ _ _ hm
  obtain ⟨n0, u0, l0, rfl, i0, e0⟩ := space_open (hval 0 24 v0 rfl rfl) t0
  clear hA0 hval0
  refine (law_c n0 u0 l0 W i0 e0).mono fun e W' ⟨he, bel⟩ => ?_
  subst he
  exact ⟨_, rfl, _, _, _, [], _, [], hW', trodAll_mk1 (shut_bool Try.underlying4 _), (trodAll_cons_mk (Below.trod laidOut (by kernel_rfl) (of_decide_eq_true (by kernel_rfl)) k0 bel lt0) trodAll_mk0), rfl, bel.frame _, fun h => by cases h⟩

set_option maxHeartbeats 4000000 in
theorem over : Rows.fnExactGreatestAntichainRow.holds Try.pinned (OpenSpec.ofChange Rows.fnExactGreatestAntichainSpec) :=
  OpenClaim.holds_of_wide 6 Try.f6 rfl rfl rfl rfl rfl rfl rfl ⟨rfl, rfl, rfl, rfl, rfl⟩ rfl rfl rfl rfl rfl (by as_aux_lemma => kernel_rfl) Try.func6 (by as_aux_lemma => kernel_rfl)
    (of_decide_eq_true (by as_aux_lemma => kernel_rfl)) (by unfold Func.isWrapper; first | (rw [if_pos (by decide +kernel)]; kernel_rfl) | (rw [if_neg (by decide +kernel)]; exact ⟨rfl, rfl⟩))
    (fun os started H enc _ => lifted os started H enc)

theorem proved : Rows.FnExactGreatestAntichainSaid := over
#print axioms proved
end Go.Proofs.Ytblglkgmnaklbaa.FGreatestAntichain
