import Derived.Test.YtblglkgmnaklbaaDoorPt
import Derived.Handy
import Derived.Test.YtblglkgmnaklbaaDoorFwh
import Derived.Test.YtblglkgmnaklbaaDoorRh
import Derived.Test.YtblglkgmnaklbaaDoorPp
import Derived.Test.YtblglkgmnaklbaaDoorOs
import Derived.Test.YtblglkgmnaklbaaDoorWti
import Derived.Test.YtblglkgmnaklbaaDoorRows
import Derived.Test.YtblglkgmnaklbaaDoorTie
import Derived.Test.YtblglkgmnaklbaaDoorCards
import Derived.LaidMore
import Derived.Stop.Joined
import Derived.Stop.LaidErr
import Derived.Lib.LaidTab
import Derived.SevenTiedAt
import Derived.Test.YtblglkgmnaklbaaDoorHar
import Derived.ProofKit
import Derived.OpenShut
import Derived.Lib.SmallJoins
/- Mathematics: sets are put behind others, each one behind the first that is free or whose follower can be put behind another one. No program is named here. -/
namespace Go.Proofs.YtblglkgmnaklbaaDoor
open Go.RowKit
set_option maxRecDepth 100000
def updM (A : Nat → Nat) (i v : Nat) : Nat → Nat := fun j => if j = i then v else A j
/-- What is known on the way: what follows each set, what each one is behind, which are tried. -/
structure Mst where
  nx : Nat → Nat
  bf : Nat → Nat
  tr : Nat → Bool
def Mst.mark (s : Mst) (k : Nat) : Mst := { s with tr := upd s.tr k true }
def Mst.put (s : Mst) (k x : Nat) : Mst := { s with nx := updM s.nx k x, bf := updM s.bf x k }
def Mst.fresh (s : Mst) : Mst := { s with tr := noSet }
def fitM (P : Nat → Bool) (s : Mst) (x k : Nat) : Bool := P k && (decide (andNot k x = 0) && !s.tr k)
def puM (P : Nat → Bool) : Nat → Nat → Nat → Mst → Option (Bool × Mst)
  | 0, _, _, _ => none
  | f + 1, x, k, s =>
    if x ≤ k then some (false, s)
    else if fitM P s x k = true then
      if s.nx k = 0 then some (true, (s.mark k).put k x)
      else match puM P f (s.nx k) 0 (s.mark k) with
        | none => none
        | some (true, t) => some (true, t.put k x)
        | some (false, t) => puM P f x (k + 1) t
    else puM P f x (k + 1) s
section
variable {P : Nat → Bool}
theorem puM_end {f x k : Nat} {s : Mst} (h : x ≤ k) : puM P (f + 1) x k s = some (false, s) := by rw [puM, if_pos h]
theorem puM_skip {f x k : Nat} {s : Mst} (h : ¬ x ≤ k) (h2 : fitM P s x k = false) : puM P (f + 1) x k s = puM P f x (k + 1) s := by
  rw [puM, if_neg h, if_neg (by rw [h2]; simp)]
theorem puM_free {f x k : Nat} {s : Mst} (h : ¬ x ≤ k) (h2 : fitM P s x k = true) (h3 : s.nx k = 0) : puM P (f + 1) x k s = some (true, (s.mark k).put k x) := by
  rw [puM, if_neg h, if_pos h2, if_pos h3]
theorem puM_call {f x k : Nat} {s : Mst} (h : ¬ x ≤ k) (h2 : fitM P s x k = true) (h3 : s.nx k ≠ 0) : puM P (f + 1) x k s = (match puM P f (s.nx k) 0 (s.mark k) with | none => none | some (true, t) => some (true, t.put k x) | some (false, t) => puM P f x (k + 1) t) := by
  rw [puM, if_neg h, if_pos h2, if_neg h3]
/-- What a call that ends was made of. -/
theorem puM_cases {f x k : Nat} {s : Mst} {r : Bool} {t : Mst} (h : puM P f x k s = some (r, t)) :
    ∃ g, f = g + 1 ∧ ((x ≤ k ∧ r = false ∧ t = s) ∨ (k < x ∧ fitM P s x k = false ∧ puM P g x (k + 1) s = some (r, t)) ∨
      (k < x ∧ fitM P s x k = true ∧ s.nx k = 0 ∧ r = true ∧ t = (s.mark k).put k x) ∨
      (k < x ∧ fitM P s x k = true ∧ s.nx k ≠ 0 ∧ ∃ r1 t1, puM P g (s.nx k) 0 (s.mark k) = some (r1, t1) ∧ ((r1 = true ∧ r = true ∧ t = t1.put k x) ∨ (r1 = false ∧ puM P g x (k + 1) t1 = some (r, t))))) := by
  cases f with
  | zero => rw [puM] at h; cases h
  | succ g =>
    refine ⟨g, rfl, ?_⟩
    by_cases h1 : x ≤ k
    · rw [puM_end h1] at h
      cases h
      exact .inl ⟨h1, rfl, rfl⟩
    · cases h2 : fitM P s x k
      · rw [puM_skip h1 h2] at h
        exact .inr (.inl ⟨by omega, rfl, h⟩)
      · by_cases h3 : s.nx k = 0
        · rw [puM_free h1 h2 h3] at h
          cases h
          exact .inr (.inr (.inl ⟨by omega, rfl, h3, rfl, rfl⟩))
        · rw [puM_call h1 h2 h3] at h
          refine .inr (.inr (.inr ⟨by omega, rfl, h3, ?_⟩))
          cases h4 : puM P g (s.nx k) 0 (s.mark k) with
          | none => rw [h4] at h; cases h
          | some p =>
            obtain ⟨r1, t1⟩ := p
            rw [h4] at h
            cases r1
            · exact ⟨false, t1, rfl, .inr ⟨rfl, h⟩⟩
            · simp only [Option.some.injEq, Prod.mk.injEq] at h
              exact ⟨true, t1, rfl, .inl ⟨rfl, h.1.symm, h.2.symm⟩⟩
theorem fitM_iff {s : Mst} {x k : Nat} : fitM P s x k = true ↔ P k = true ∧ andNot k x = 0 ∧ s.tr k = false := by
  unfold fitM
  rw [Bool.and_eq_true, Bool.and_eq_true, decide_eq_true_eq, Bool.not_eq_true']
theorem upd_up {F : Nat → Bool} {k j : Nat} (h : F j = true) : upd F k true j = true := by
  unfold upd; split
  · rfl
  · exact h
/-- What is tried stays so. -/
theorem puM_tr : ∀ f x k s r t, puM P f x k s = some (r, t) → ∀ j, s.tr j = true → t.tr j = true := by
  intro f
  induction f using Nat.strongRecOn with
  | ind f ih =>
    intro x k s r t h j hj
    obtain ⟨g, e0, hc⟩ := puM_cases h
    clear h
    subst e0
    rcases hc with ⟨_, _, rfl⟩ | ⟨_, _, h⟩ | ⟨_, _, _, _, rfl⟩ | ⟨_, _, _, r1, t1, h1, h2⟩
    · exact hj
    · exact ih g (by omega) _ _ _ _ _ h j hj
    · exact upd_up hj
    · have h3 := ih g (by omega) _ _ _ _ _ h1 j (upd_up hj)
      rcases h2 with ⟨_, _, rfl⟩ | ⟨_, h2⟩
      · exact h3
      · exact ih g (by omega) _ _ _ _ _ h2 j h3
/-! ### It ends -/
def unM (s : Mst) : Nat := ((List.range 128).filter fun k => !s.tr k).length
theorem filter_le {α : Type} (p q : α → Bool) : ∀ l : List α, (∀ a, a ∈ l → p a = true → q a = true) → (l.filter p).length ≤ (l.filter q).length
  | [], _ => Nat.le_refl _
  | a :: l, h => by
    have ih := filter_le p q l fun b hb => h b (List.mem_cons_of_mem _ hb)
    rw [List.filter_cons, List.filter_cons]
    split
    · rename_i hp
      rw [if_pos (h a List.mem_cons_self hp)]
      simp only [List.length_cons]
      omega
    · split
      · simp only [List.length_cons]; omega
      · exact ih
theorem filter_lt {α : Type} (p q : α → Bool) : ∀ l : List α, (∀ a, a ∈ l → p a = true → q a = true) → (∃ a, a ∈ l ∧ p a = false ∧ q a = true) → (l.filter p).length < (l.filter q).length
  | [], _, h => by obtain ⟨a, h, _⟩ := h; cases h
  | a :: l, h, hx => by
    have ih := filter_le p q l fun b hb => h b (List.mem_cons_of_mem _ hb)
    obtain ⟨b, hb, hpb, hqb⟩ := hx
    rw [List.filter_cons, List.filter_cons]
    rcases List.mem_cons.1 hb with rfl | hb
    · rw [if_neg (by rw [hpb]; simp), if_pos hqb]
      simp only [List.length_cons]
      omega
    · have ih2 := filter_lt p q l (fun b hb => h b (List.mem_cons_of_mem _ hb)) ⟨b, hb, hpb, hqb⟩
      split
      · rename_i hp
        rw [if_pos (h a List.mem_cons_self hp)]
        simp only [List.length_cons]
        omega
      · split
        · simp only [List.length_cons]; omega
        · exact ih2
theorem unM_le {s t : Mst} (h : ∀ j, s.tr j = true → t.tr j = true) : unM t ≤ unM s :=
  filter_le _ _ _ fun a _ ha => by
    cases e : s.tr a
    · rfl
    · rw [h a e] at ha; cases ha
theorem unM_mark {s : Mst} {k : Nat} (hk : k < 128) (h : s.tr k = false) : unM (s.mark k) < unM s :=
  filter_lt _ _ _ (fun a _ ha => by
    cases e : s.tr a
    · rfl
    · rw [show (s.mark k).tr a = true from upd_up e] at ha; cases ha) ⟨k, List.mem_range.2 hk, by simp [Mst.mark, upd], by rw [h]; rfl⟩
theorem unM_128 (s : Mst) : unM s ≤ 128 := by
  have : unM s ≤ (List.range 128).length := List.length_filter_le _ _
  simpa using this
theorem puM_some : ∀ f x k s, (∀ j, s.nx j < 128) → x < 128 → k ≤ 128 → unM s * 131 + (129 - k) ≤ f → ∃ r t, puM P f x k s = some (r, t) ∧ ∀ j, t.nx j < 128 := by
  intro f
  induction f with
  | zero =>
    intro x k s hs hx hk hf
    omega
  | succ f ih =>
    intro x k s hs hx hk hf
    by_cases h1 : x ≤ k
    · exact ⟨false, s, puM_end h1, hs⟩
    · cases h2 : fitM P s x k
      · obtain ⟨r, t, e, ht⟩ := ih x (k + 1) s hs hx (by omega) (by omega)
        exact ⟨r, t, by rw [puM_skip h1 h2]; exact e, ht⟩
      · by_cases h3 : s.nx k = 0
        · refine ⟨true, _, puM_free h1 h2 h3, fun j => ?_⟩
          show updM s.nx k x j < 128
          unfold updM
          split
          · exact hx
          · exact hs j
        · have hm := unM_mark (s := s) (show k < 128 by omega) (fitM_iff.1 h2).2.2
          obtain ⟨r1, t1, e1, ht1⟩ := ih (s.nx k) 0 (s.mark k) hs (hs k) (by omega) (by omega)
          have hle := unM_le (puM_tr _ _ _ _ _ _ e1)
          cases r1
          · obtain ⟨r, t, e, ht⟩ := ih x (k + 1) t1 ht1 hx (by omega) (by omega)
            exact ⟨r, t, by rw [puM_call h1 h2 h3, e1]; exact e, ht⟩
          · refine ⟨true, t1.put k x, by rw [puM_call h1 h2 h3, e1], fun j => ?_⟩
            show updM t1.nx k x j < 128
            unfold updM
            split
            · exact hx
            · exact ht1 j
/-! ### What follows and what it follows agree -/
structure OkM (P : Nat → Bool) (s : Mst) : Prop where
  a : ∀ j, s.nx j ≠ 0 → s.bf (s.nx j) = j
  b : ∀ y, s.bf y ≠ 0 → s.nx (s.bf y) = y
  z : s.bf 0 = 0
  w : ∀ j, s.nx j ≠ 0 → P j = true ∧ P (s.nx j) = true ∧ j < s.nx j ∧ andNot j (s.nx j) = 0
theorem OkM.of {s t : Mst} (h : OkM P s) (h1 : t.nx = s.nx) (h2 : t.bf = s.bf) : OkM P t := ⟨by rw [h1, h2]; exact h.a, by rw [h1, h2]; exact h.b, by rw [h2]; exact h.z, by rw [h1]; exact h.w⟩
structure PostM (P : Nat → Bool) (s t : Mst) (x : Nat) : Prop where
  keepN : ∀ j, s.tr j = true → t.nx j = s.nx j
  keepB : ∀ y, y ≠ x → (s.bf y = 0 ∨ s.tr (s.bf y) = true) → t.bf y = s.bf y
  here : t.bf x ≠ 0 ∧ s.tr (t.bf x) = false
  a : ∀ j, j ≠ s.bf x → t.nx j ≠ 0 → t.bf (t.nx j) = j
  b : ∀ y, t.bf y ≠ 0 → t.nx (t.bf y) = y
  z : t.bf 0 = 0
  w : ∀ j, t.nx j ≠ 0 → P j = true ∧ P (t.nx j) = true ∧ j < t.nx j ∧ andNot j (t.nx j) = 0
theorem updM_at (A : Nat → Nat) (k v : Nat) : updM A k v k = v := by simp [updM]
theorem updM_ne {A : Nat → Nat} {k v j : Nat} (h : j ≠ k) : updM A k v j = A j := by simp [updM, h]
/-- One more, of what holds but for its own place. -/
theorem PostM.put {s t : Mst} {k x : Nat} (hk0 : k ≠ 0) (hx0 : x ≠ 0) (hxP : P x = true) (hkP : P k = true) (hkx : k < x) (hin : andNot k x = 0) (htr : s.tr k = false)
    (hq : s.bf x = 0 ∨ s.tr (s.bf x) = true)
    (keepN : ∀ j, s.tr j = true → t.nx j = s.nx j)
    (keepB : ∀ y, (s.bf y = 0 ∨ s.tr (s.bf y) = true) → t.bf y = s.bf y)
    (a : ∀ j, j ≠ k → t.nx j ≠ 0 → t.bf (t.nx j) = j)
    (b : ∀ y, t.bf y ≠ 0 → t.nx (t.bf y) = y)
    (nk : ∀ y, t.bf y ≠ k) (z : t.bf 0 = 0)
    (w : ∀ j, t.nx j ≠ 0 → P j = true ∧ P (t.nx j) = true ∧ j < t.nx j ∧ andNot j (t.nx j) = 0) : PostM P s (t.put k x) x where
  keepN := fun j hj => by
    have : j ≠ k := fun e => by rw [e, htr] at hj; cases hj
    rw [← keepN j hj]
    exact updM_ne this
  keepB := fun y hy h => by
    rw [← keepB y h]
    exact updM_ne hy
  here := by
    rw [show (t.put k x).bf x = k from updM_at _ _ _]
    exact ⟨hk0, htr⟩
  a := fun j hj hn => by
    by_cases e : j = k
    · subst e
      rw [show (t.put j x).nx j = x from updM_at _ _ _]
      exact updM_at _ _ _
    · rw [show (t.put k x).nx j = t.nx j from updM_ne e] at hn ⊢
      have h1 := a j e hn
      by_cases e2 : t.nx j = x
      · exfalso
        rw [e2, keepB x hq] at h1
        exact hj h1.symm
      · rw [show (t.put k x).bf (t.nx j) = t.bf (t.nx j) from updM_ne e2]
        exact h1
  b := fun y hy => by
    by_cases e : y = x
    · subst e
      rw [show (t.put k y).bf y = k from updM_at _ _ _]
      exact updM_at _ _ _
    · rw [show (t.put k x).bf y = t.bf y from updM_ne e] at hy ⊢
      rw [show (t.put k x).nx (t.bf y) = t.nx (t.bf y) from updM_ne (nk y)]
      exact b y hy
  z := (updM_ne (fun e => hx0 e.symm)).trans z
  w := fun j hj => by
    by_cases e : j = k
    · subst e
      rw [show (t.put j x).nx j = x from updM_at _ _ _]
      exact ⟨hkP, hxP, hkx, hin⟩
    · rw [show (t.put k x).nx j = t.nx j from updM_ne e] at hj ⊢
      exact w j hj
theorem puM_ok (h0 : P 0 = false) : ∀ f x k s r t, puM P f x k s = some (r, t) → OkM P s → P x = true → (s.bf x = 0 ∨ s.tr (s.bf x) = true) →
    (r = false → t.nx = s.nx ∧ t.bf = s.bf) ∧ (r = true → PostM P s t x) := by
  intro f
  induction f using Nat.strongRecOn with
  | ind f ih =>
    intro x k s r t h hs hx hq
    have hx0 : x ≠ 0 := fun e => by rw [e, h0] at hx; cases hx
    obtain ⟨g, e0, hc⟩ := puM_cases h
    clear h
    subst e0
    rcases hc with ⟨_, rfl, rfl⟩ | ⟨_, _, h⟩ | ⟨h1, h2, h3, rfl, rfl⟩ | ⟨h1, h2, h3, r1, t1, h4, h5⟩
    · exact ⟨fun _ => ⟨rfl, rfl⟩, fun h => by cases h⟩
    · exact ih g (by omega) _ _ _ _ _ h hs hx hq
    · obtain ⟨g1, g2, g3⟩ := fitM_iff.1 h2
      have hk0 : k ≠ 0 := fun e => by rw [e, h0] at g1; cases g1
      refine ⟨(fun h => by cases h), fun _ => PostM.put hk0 hx0 hx g1 h1 g2 g3 hq (fun _ _ => rfl) (fun _ _ => rfl) (fun j _ hj => hs.a j hj) hs.b (fun y e => ?_) hs.z hs.w⟩
      have h6 : s.bf y = k := e
      have h7 := hs.b y (by rw [h6]; exact hk0)
      rw [h6, h3] at h7
      rw [← h7, hs.z] at h6
      exact hk0 h6.symm
    · obtain ⟨g1, g2, g3⟩ := fitM_iff.1 h2
      have hk0 : k ≠ 0 := fun e => by rw [e, h0] at g1; cases g1
      have ha := hs.a k h3
      have hmk : (s.mark k).tr k = true := by simp [Mst.mark, upd]
      obtain ⟨i1, i2⟩ := ih g (by omega) _ _ _ _ _ h4 (hs.of rfl rfl) (hs.w k h3).2.1 (.inr (by rw [show (s.mark k).bf (s.nx k) = k from ha]; exact hmk))
      have hup : ∀ j, s.tr j = true → t1.tr j = true := fun j hj => puM_tr _ _ _ _ _ _ h4 j (upd_up hj)
      rcases h5 with ⟨rfl, rfl, rfl⟩ | ⟨rfl, h5⟩
      · have I := i2 rfl
        refine ⟨(fun h => by cases h), fun _ => PostM.put hk0 hx0 hx g1 h1 g2 g3 hq (fun j hj => I.keepN j (upd_up hj)) (fun y hy => ?_) (fun j hj => I.a j (by rw [show (s.mark k).bf (s.nx k) = k from ha]; exact hj)) I.b (fun y e => ?_) I.z I.w⟩
        · have hne : y ≠ s.nx k := by
            intro e
            rw [e, ha] at hy
            rcases hy with h | h
            · exact hk0 h
            · rw [g3] at h; cases h
          exact I.keepB y hne (hy.imp id upd_up)
        · have h6 := I.b y (by rw [e]; exact hk0)
          rw [e, I.keepN k hmk] at h6
          have h7 := I.here.2
          rw [show t1.bf (s.nx k) = k by rw [show s.nx k = y from h6]; exact e, hmk] at h7
          cases h7
      · obtain ⟨e1, e2⟩ := i1 rfl
        have e1' : t1.nx = s.nx := e1
        have e2' : t1.bf = s.bf := e2
        obtain ⟨j1, j2⟩ := ih g (by omega) _ _ _ _ _ h5 (hs.of e1' e2') hx (by rw [e2']; exact hq.imp id (hup _))
        refine ⟨fun h => ⟨(j1 h).1.trans e1', (j1 h).2.trans e2'⟩, fun h => ?_⟩
        have J := j2 h
        refine ⟨fun j hj => by rw [J.keepN j (hup j hj), e1'], fun y hy h => by rw [J.keepB y hy (by rw [e2']; exact h.imp id (hup _)), e2'], ⟨J.here.1, ?_⟩, fun j hj => J.a j (by rw [e2']; exact hj), J.b, J.z, J.w⟩
        cases e : s.tr (t.bf x)
        · rfl
        · have := hup _ e
          rw [J.here.2] at this; cases this
end
/-! ### All of them, in their order -/
def fuM : Nat := 20000
def maSt (P : Nat → Bool) (x : Nat) (s : Mst) : Mst := match puM P fuM x 0 s.fresh with | some (_, t) => t | none => s
def maTo (P : Nat → Bool) : Nat → Mst
  | 0 => ⟨fun _ => 0, fun _ => 0, noSet⟩
  | x + 1 => if P x = true then maSt P x (maTo P x) else maTo P x
section
variable {P : Nat → Bool} (h0 : P 0 = false) (hP : ∀ x, P x = true → x < 128)
/-- What is known when all sets below a number are put. -/
structure AtM (P : Nat → Bool) (x : Nat) (s : Mst) : Prop where
  ok : OkM P s
  lt : ∀ j, s.nx j < 128
  new : ∀ y, x ≤ y → s.bf y = 0
include h0 hP
theorem maSt_some {x : Nat} {s : Mst} (h : AtM P x s) (hx : P x = true) : ∃ r, puM P fuM x 0 s.fresh = some (r, maSt P x s) ∧ AtM P (x + 1) (maSt P x s) := by
  have hx8 := hP x hx
  have hu := unM_128 s.fresh
  obtain ⟨r, t, e, ht⟩ := puM_some (P := P) fuM x 0 s.fresh h.lt hx8 (by omega) (by unfold fuM; omega)
  have em : maSt P x s = t := by unfold maSt; rw [e]
  rw [em]
  refine ⟨r, e, ?_⟩
  have hx0 : x ≠ 0 := fun e => by rw [e, h0] at hx; cases hx
  have hbx : s.fresh.bf x = 0 := h.new x (Nat.le_refl _)
  obtain ⟨p1, p2'⟩ := puM_ok h0 fuM x 0 s.fresh r t e (h.ok.of rfl rfl) hx (.inl hbx)
  cases r
  · obtain ⟨e1, e2⟩ := p1 rfl
    exact ⟨h.ok.of e1 e2, ht, fun y hy => by rw [e2]; exact h.new y (by omega)⟩
  · have J := p2' rfl
    refine ⟨⟨fun j hj => ?_, J.b, J.z, J.w⟩, ht, fun y hy => ?_⟩
    · refine J.a j (fun e => ?_) hj
      rw [hbx] at e
      rw [e] at hj
      have := (J.w 0 hj).1
      rw [h0] at this; cases this
    · have hb : s.fresh.bf y = 0 := h.new y (by omega)
      rw [J.keepB y (by omega) (.inl hb)]
      exact hb
theorem maTo_at : ∀ x, AtM P x (maTo P x)
  | 0 => ⟨⟨fun _ h => absurd rfl h, fun _ h => absurd rfl h, rfl, fun _ h => absurd rfl h⟩, fun _ => Nat.zero_lt_succ _, fun _ _ => rfl⟩
  | x + 1 => by
    rw [maTo]
    have ih := maTo_at x
    split
    · rename_i h
      exact (maSt_some h0 hP ih h).choose_spec.2
    · exact ⟨ih.ok, ih.lt, fun y hy => ih.new y (by omega)⟩
end
end Go.Proofs.YtblglkgmnaklbaaDoor
/- Contracts: sets put behind others, the program's. -/
namespace Go.Proofs.YtblglkgmnaklbaaDoor
open Go.RowKit
set_option maxRecDepth 100000
set_option linter.unusedSimpArgs false
/-- The cells of a chaining: a family, and what follows each set. -/
def chgL (n : Int) (P : Nat → Bool) (nx : Nat → Nat) : List Value := (Value.int .i64 n :: famRow P) ++ (List.range 128).map fun i => Value.int .i64 (nx i : Int)
def chgAt (T : TypeId) (w : World) (g : Nat) (n : Int) (P : Nat → Bool) (nx : Nat → Nat) : Prop := w.heap[g]? = some (.cells (chgL n P nx).toArray T)
theorem chg_lenA (n : Int) (P : Nat → Bool) : (Value.int .i64 n :: famRow P).length = 129 := by simp [famRow_len]
theorem chg_getP (n : Int) (P : Nat → Bool) (nx : Nat → Nat) (i : Nat) (h : i < 128) : (chgL n P nx).toArray[1 + i]? = some (.bool (P i)) := by
  rw [List.getElem?_toArray]
  unfold chgL
  rw [List.getElem?_append_left (by rw [chg_lenA]; omega), Nat.add_comm, List.getElem?_cons_succ, famRow_get P i h]
theorem chg_getN (n : Int) (P : Nat → Bool) (nx : Nat → Nat) (i : Nat) (h : i < 128) : (chgL n P nx).toArray[129 + i]? = some (.int .i64 (nx i : Int)) := by
  rw [List.getElem?_toArray]
  unfold chgL
  rw [List.getElem?_append_right (by rw [chg_lenA]; omega), chg_lenA, show 129 + i - 129 = i by omega]
  simp [h]
theorem chg_setN (n : Int) (P : Nat → Bool) (nx : Nat → Nat) (i x : Nat) (h : i < 128) : (chgL n P nx).toArray.setIfInBounds (129 + i) (.int .i64 (x : Int)) = (chgL n P (updM nx i x)).toArray := by
  rw [List.setIfInBounds_toArray]
  congr 1
  unfold chgL
  rw [List.set_append_right _ _ (by rw [chg_lenA]; omega), chg_lenA, show 129 + i - 129 = i by omega]
  congr 1
  apply List.ext_getElem?
  intro j
  rw [List.getElem?_set]
  by_cases hj : i = j
  · subst hj
    simp [h, updM]
  · rw [if_neg hj]
    by_cases h2 : j < 128
    · have : ¬ j = i := fun e => hj e.symm
      simp [h2, updM, this]
    · simp [h2]
theorem chgAt.get {T : TypeId} {w : World} {g : Nat} {n : Int} {P : Nat → Bool} {nx : Nat → Nat} (h : chgAt T w g n P nx) (i : Nat) (hi : i < 128) : w.cell? ⟨g, 1 + i, none⟩ = some (.bool (P i)) := by rw [hp_cell h]; exact chg_getP n P nx i hi
theorem chgAt.getN {T : TypeId} {w : World} {g : Nat} {n : Int} {P : Nat → Bool} {nx : Nat → Nat} (h : chgAt T w g n P nx) (i : Nat) (hi : i < 128) : w.cell? ⟨g, 129 + i, none⟩ = some (.int .i64 (nx i : Int)) := by rw [hp_cell h]; exact chg_getN n P nx i hi
theorem chgAt.free {T : TypeId} {w : World} {g : Nat} {n : Int} {P : Nat → Bool} {nx : Nat → Nat} (h : chgAt T w g n P nx) (j : Nat) : w.frozen? ⟨g, j, none⟩ = false := hp_free h j
theorem chgAt.lt {T : TypeId} {w : World} {g : Nat} {n : Int} {P : Nat → Bool} {nx : Nat → Nat} (h : chgAt T w g n P nx) : g < w.heap.size := hp_lt h
theorem chgAt.setN {T : TypeId} {w : World} {g : Nat} {n : Int} {P : Nat → Bool} {nx : Nat → Nat} (h : chgAt T w g n P nx) (i x : Nat) (hi : i < 128) : chgAt T (w.setCell ⟨g, 129 + i, none⟩ (.int .i64 (x : Int))) g n P (updM nx i x) := by
  unfold chgAt
  rw [hp_set w g (129 + i) _ T _ h, chg_setN n P nx i x hi]
theorem chgAt.setO {T : TypeId} {w : World} {g : Nat} {n : Int} {P : Nat → Bool} {nx : Nat → Nat} (h : chgAt T w g n P nx) (ad : Addr) (hne : g ≠ ad.block) (v : Value) : chgAt T (w.setCell ad v) g n P nx := (hp_setO w ad g v hne).trans h
/-- The marks of what is tried. -/
def trAt (T : TypeId) (w : World) (g : Nat) (tr : Nat → Bool) : Prop := w.heap[g]? = some (.cells (famRow tr).toArray T)
theorem trAt.get {T : TypeId} {w : World} {g : Nat} {tr : Nat → Bool} (h : trAt T w g tr) (i : Nat) (hi : i < 128) : w.cell? ⟨g, i, none⟩ = some (.bool (tr i)) := by
  rw [hp_cell h, List.getElem?_toArray]; exact famRow_get tr i hi
theorem trAt.free {T : TypeId} {w : World} {g : Nat} {tr : Nat → Bool} (h : trAt T w g tr) (j : Nat) : w.frozen? ⟨g, j, none⟩ = false := hp_free h j
theorem trAt.lt {T : TypeId} {w : World} {g : Nat} {tr : Nat → Bool} (h : trAt T w g tr) : g < w.heap.size := hp_lt h
theorem trAt.set {T : TypeId} {w : World} {g : Nat} {tr : Nat → Bool} (h : trAt T w g tr) (i : Nat) (b : Bool) : trAt T (w.setCell ⟨g, i, none⟩ (.bool b)) g (upd tr i b) := by
  unfold trAt
  rw [hp_set w g i _ T _ h, List.setIfInBounds_toArray]
  congr 3
  unfold famRow
  apply List.ext_getElem?
  intro j
  rw [List.getElem?_set]
  by_cases hj : i = j
  · subst hj
    by_cases h2 : i < 128
    · simp [h2, upd]
    · simp [h2]
  · rw [if_neg hj]
    by_cases h2 : j < 128
    · have : ¬ j = i := fun e => hj e.symm
      simp [h2, upd, this]
    · simp [h2]
theorem trAt.setO {T : TypeId} {w : World} {g : Nat} {tr : Nat → Bool} (h : trAt T w g tr) (ad : Addr) (hne : g ≠ ad.block) (v : Value) : trAt T (w.setCell ad v) g tr := (hp_setO w ad g v hne).trans h
theorem puM_lt {P : Nat → Bool} : ∀ f x k s r t, puM P f x k s = some (r, t) → x < 128 → (∀ j, s.nx j < 128) → ∀ j, t.nx j < 128 := by
  intro f
  induction f using Nat.strongRecOn with
  | ind f ih =>
    intro x k s r t h hx hs j
    obtain ⟨g, e0, hc⟩ := puM_cases h
    clear h
    subst e0
    have hput : ∀ (t1 : Mst) (k : Nat), (∀ j, t1.nx j < 128) → ∀ j, (t1.put k x).nx j < 128 := by
      intro t1 k h1 j
      show updM t1.nx k x j < 128
      unfold updM
      split
      · exact hx
      · exact h1 j
    rcases hc with ⟨_, _, rfl⟩ | ⟨_, _, h⟩ | ⟨_, _, _, _, rfl⟩ | ⟨_, _, _, r1, t1, h1, h2⟩
    · exact hs j
    · exact ih g (by omega) _ _ _ _ _ h hx hs j
    · exact hput (s.mark k) k hs j
    · have h3 := ih g (by omega) _ _ _ _ _ h1 (hs k) hs
      rcases h2 with ⟨_, _, rfl⟩ | ⟨_, h2⟩
      · exact hput t1 k h3 j
      · exact ih g (by omega) _ _ _ _ _ h2 hx h3 j
attribute [local irreducible] p2 low memB risB
set_option maxHeartbeats 4000000 in
theorem put_c (n : Int) (P : Nat → Bool) : ∀ f x s r t, puM P f x 0 s = some (r, t) → x < 128 → (∀ j, s.nx j < 128) → ∀ (w : World) (cb tb : Nat), cb < tb → chgAt 100 w cb n P s.nx → trAt 55 w tb s.tr →
    Calls Tryd.prog 99 #[.pointer (some ⟨cb, 0, none⟩), .int .i64 (x : Int), .pointer (some ⟨tb, 0, none⟩)] w fun e w' => e = .returned (.bool r) ∧ chgAt 100 w' cb n P t.nx ∧ trAt 55 w' tb t.tr ∧ Below cb w w' := by
  intro f
  induction f using Nat.strongRecOn with
  | ind f ih =>
    intro x s r t hpu hx hnx w cb tb hct hc ht
    have IH := hide ih
    have HPU0 := hide hpu
    have HNX0 := hide hnx
    have HC0 := hide hc
    have HT0 := hide ht
    clear ih hpu hnx hc ht
    go_enter Tryd.func99, Tryd.ntmps99
    go_wp2_with fail
    go_loopw [9] (fun i wr => ∃ (k g : Nat) (s' : Mst), k ≤ x ∧ i = .int .i64 (k : Int) ∧ g ≤ f ∧ Hid (puM P g x k s' = some (r, t)) ∧ Hid (∀ j, s'.nx j < 128) ∧ Hid (chgAt 100 wr cb n P s'.nx) ∧ Hid (trAt 55 wr tb s'.tr) ∧ Hid (Below cb w wr)) (fun i _ => x - (intOf i).toNat)
    case atStart => exact ⟨0, f, s, Nat.zero_le _, rfl, Nat.le_refl _, HPU0, HNX0, HC0, HT0, Below.refl _ _⟩
    case round =>
      clear HPU0 HNX0 HC0 HT0
      obtain ⟨k, g, s', hk, rfl, hg, HPU, HNX, HC, HT, HB⟩ := hrel
      have hlt1 := HT.out.lt
      obtain ⟨g1, e0, hcs⟩ := puM_cases HPU.out
      subst e0
      rcases hcs with ⟨h1, h2, h3⟩ | ⟨h1, h2, h3⟩ | ⟨h1, h2, h3, h4, h5⟩ | ⟨h1, h2, h3, r1, t1, h4, h5⟩
      · subst h2
        subst h3
        have hlt' : ¬ ((k : Int) < (x : Int)) := by omega
        go_wp2
        go_ret
        exact ⟨rfl, HC.out, HT.out, HB.out⟩
      · have hlt' : (k : Int) < (x : Int) := by omega
        have hk8 : k < 128 := by omega
        have HGO := hide h3
        have c1 := HC.out.get k hk8
        cases hp : P k
        · rw [hp] at c1
          clear h2 h3 hp
          go_wp2_with fail
          go_roundw
          case rel => exact ⟨k + 1, g1, s', by omega, by go_num, by omega, HGO, HNX, HC, HT, HB⟩
          case measure => (simp [intOf] <;> omega)
        · rw [hp] at c1
          cases hw : (andNot k x == 0)
          · have HW := hide hw
            clear h2 h3 hp hw
            go_wp2_with (go_at_call 117; refine (within_c (k : Int) (x : Int) _ (by omega) (by omega) (by omega)).mono ?_; rw [Int.toNat_natCast, Int.toNat_natCast, HW.out]; rintro e w3 ⟨rfl, rfl⟩)
            go_roundw
            case rel => exact ⟨k + 1, g1, s', by omega, by go_num, by omega, HGO, HNX, HC, HT, HB⟩
            case measure => (simp [intOf] <;> omega)
          · have HW := hide hw
            have htk : s'.tr k = true := by
              unfold fitM at h2
              have : andNot k x = 0 := by simpa using hw
              rw [hp, decide_eq_true this] at h2
              simpa using h2
            have c2 := HT.out.get k hk8
            rw [htk] at c2
            clear h2 h3 hp hw htk
            go_wp2_with (go_at_call 117; refine (within_c (k : Int) (x : Int) _ (by omega) (by omega) (by omega)).mono ?_; rw [Int.toNat_natCast, Int.toNat_natCast, HW.out]; rintro e w3 ⟨rfl, rfl⟩)
            go_roundw
            case rel => exact ⟨k + 1, g1, s', by omega, by go_num, by omega, HGO, HNX, HC, HT, HB⟩
            case measure => (simp [intOf] <;> omega)
      · obtain ⟨g2, g3, g4⟩ := fitM_iff.1 h2
        have hlt' : (k : Int) < (x : Int) := by omega
        have hk8 : k < 128 := by omega
        have c1 := HC.out.get k hk8
        rw [g2] at c1
        have c2 := HT.out.get k hk8
        rw [g4] at c2
        have f2 := HT.out.free k
        have HW := hide (show (andNot k x == 0) = true by rw [g3]; rfl)
        have hc2 := HC.out.setO ⟨tb, k, none⟩ (by show cb ≠ tb; omega) (.bool true)
        have ht2 := HT.out.set k true
        have c3 := hc2.getN k hk8
        rw [h3] at c3
        have f3 := hc2.free (129 + k)
        have HCF := hide (hc2.setN k x hk8)
        have HTF := hide (ht2.setO ⟨cb, 129 + k, none⟩ (by show tb ≠ cb; omega) (.int .i64 (x : Int)))
        have HBF := hide ((HB.out.setCell (p := ⟨tb, k, none⟩) (by show cb ≤ tb; omega) (.bool true)).setCell (p := ⟨cb, 129 + k, none⟩) (by show cb ≤ cb; omega) (.int .i64 (x : Int)))
        subst h4
        subst h5
        clear h2 h3 g2 g3 g4 hc2 ht2
        go_wp2_with (go_at_call 117; refine (within_c (k : Int) (x : Int) _ (by omega) (by omega) (by omega)).mono ?_; rw [Int.toNat_natCast, Int.toNat_natCast, HW.out]; rintro e w3 ⟨rfl, rfl⟩)
        go_ret
        exact ⟨rfl, HCF.out, HTF.out, HBF.out⟩
      · obtain ⟨g2, g3, g4⟩ := fitM_iff.1 h2
        have hlt' : (k : Int) < (x : Int) := by omega
        have hk8 : k < 128 := by omega
        have c1 := HC.out.get k hk8
        rw [g2] at c1
        have c2 := HT.out.get k hk8
        rw [g4] at c2
        have f2 := HT.out.free k
        have HW := hide (show (andNot k x == 0) = true by rw [g3]; rfl)
        have hc2 := HC.out.setO ⟨tb, k, none⟩ (by show cb ≠ tb; omega) (.bool true)
        have ht2 := HT.out.set k true
        have c3 := hc2.getN k hk8
        have hny := HNX.out k
        have hz2 : ((s'.nx k : Int) == 0) = false := by simp; omega
        have HCALL := hide (IH.out g1 (by omega) (s'.nx k) (s'.mark k) r1 t1 h4 (HNX.out k) HNX.out (wr.setCell ⟨tb, k, none⟩ (.bool true)) cb tb hct hc2 ht2)
        have HNT := hide (puM_lt g1 (s'.nx k) 0 (s'.mark k) r1 t1 h4 (HNX.out k) HNX.out)
        have HB2 := hide (HB.out.setCell (p := ⟨tb, k, none⟩) (by show cb ≤ tb; omega) (.bool true))
        have HH5 := hide h5
        clear h2 h3 h4 h5 g2 g3 g4 hc2 ht2
        generalize s'.nx k = y at c3 hny hz2 HCALL
        cases r1
        · have HGO := hide (show puM P g1 x (k + 1) t1 = some (r, t) from (HH5.out.elim (fun h => by cases h.1) (fun h => h.2)))
          go_wp2_with (first
            | (go_at_call 117; refine (within_c (k : Int) (x : Int) _ (by omega) (by omega) (by omega)).mono ?_; rw [Int.toNat_natCast, Int.toNat_natCast, HW.out]; rintro e w3 ⟨rfl, rfl⟩)
            | (go_at_call 99; refine HCALL.out.mono ?_; rintro e w4 ⟨rfl, hc4, ht4, hb4⟩; have HC4 := hide hc4; have HT4 := hide ht4; have HB4 := hide (HB2.out.trans hb4); clear hc4 ht4 hb4))
          go_roundw
          case rel => exact ⟨k + 1, g1, t1, by omega, by go_num, by omega, HGO, HNT, HC4, HT4, HB4⟩
          case measure => (simp [intOf] <;> omega)
        · obtain ⟨e1, e2⟩ : r = true ∧ t = t1.put k x := HH5.out.elim (fun h => h.2) (fun h => by cases h.1)
          subst e1
          subst e2
          go_wp2_with (first
            | (go_at_call 117; refine (within_c (k : Int) (x : Int) _ (by omega) (by omega) (by omega)).mono ?_; rw [Int.toNat_natCast, Int.toNat_natCast, HW.out]; rintro e w3 ⟨rfl, rfl⟩)
            | (go_at_call 99; refine HCALL.out.mono ?_; rintro e w4 ⟨rfl, hc4, ht4, hb4⟩; have k4 := hc4.getN k hk8; have f4 := hc4.free (129 + k); have HC4 := hide (hc4.setN k x hk8); have HT4 := hide (ht4.setO ⟨cb, 129 + k, none⟩ (by show tb ≠ cb; omega) (.int .i64 (x : Int))); have HB4 := hide ((HB2.out.trans hb4).setCell (p := ⟨cb, 129 + k, none⟩) (by show cb ≤ cb; omega) (.int .i64 (x : Int))); clear hc4 ht4 hb4))
          go_ret
          exact ⟨rfl, HC4.out, HT4.out, HB4.out⟩
end Go.Proofs.YtblglkgmnaklbaaDoor
/- Contracts: sets put into chains: the whole chaining, the program's. -/
namespace Go.Proofs.YtblglkgmnaklbaaDoor
open Go.RowKit
set_option maxRecDepth 100000
set_option linter.unusedSimpArgs false
section
variable {P : Program} {T : TypeId} {cs : Array Value}
theorem wpList_load_cs (hT : (P.underlying T).map TypeDesc.isRow = some true) (hS : (P.info? T).map (·.size) = some cs.size)
    {ops : Array Oper} {rest : List Oper} {o : Oper} {a : Act} {w : World} {Q : Exit → Act → World → Prop} (hw : Region.wanted o (yielded ops a.tmps) = true) (x : Operand) (ho : o.op = .load T x)
    (g : Nat) (hx : a.eval x = .pointer (some ⟨g, 0, none⟩)) (hg : w.heap[g]? = some (.cells cs T))
    (h : wpList P ops Q rest (a.put o.dst (.agg cs)) w) : wpList P ops Q (o :: rest) a w := by
  obtain ⟨d, hu, hd⟩ := rowTy_of hT
  exact wpList_of_wp hw fun _ hK => wp_load_row T x ho g hx T cs (0, 0) d hg hu (by cases d <;> first | rfl | (cases hd)) hS (hK _ _ h)
theorem wpList_store_cs (hS : (P.info? T).map (·.size) = some cs.size)
    {ops : Array Oper} {rest : List Oper} {o : Oper} {a : Act} {w : World} {Q : Exit → Act → World → Prop} (hw : Region.wanted o (yielded ops a.tmps) = true) (x y : Operand) (ho : o.op = .store T x y)
    (g : Nat) (hx : a.eval x = .pointer (some ⟨g, 0, none⟩)) (hy : a.eval y = .agg cs) (old : Array Value) (hg : w.heap[g]? = some (.cells old T)) (hold : old.size = cs.size) (h1 : cs.all (·.oneCell') = true)
    (h : wpList P ops Q rest (a.put o.dst undef) (w.setRow g cs)) : wpList P ops Q (o :: rest) a w :=
  wpList_of_wp hw fun _ hK => wp_store_row T x y ho g cs hx hy T old hg hS hold h1 (hK _ _ h)
theorem results_cs (hT : (P.underlying T).map TypeDesc.isRow = some true) (hS : (P.info? T).map (·.size) = some cs.size) {fn : Func} {p : Tmp} (h : fn.results = #[.cell p T]) (tmps : Array Value) (w : World) (g : Nat)
    (hp : tmps.getD p undef = .pointer (some ⟨g, 0, none⟩)) (hg : w.heap[g]? = some (.cells cs T)) : (results fn tmps).run P w = .ok (.agg cs) w := by
  obtain ⟨d, hu, hd⟩ := rowTy_of hT
  exact results_cell_row h tmps w g T cs (0, 0) d hp hg hu (by cases d <;> first | rfl | (cases hd)) hS
theorem wpList_alloc_cs (hz : ((P.info? T).bind (·.zero)).map Value.cells = some cs) {ops : Array Oper} {rest : List Oper} {o : Oper} {a : Act} {w : World} {Q : Exit → Act → World → Prop}
    (hw : Region.wanted o (yielded ops a.tmps) = true) (ho : o.op = .alloc T) (m : Nat) (hm : w.heap.size = m)
    (h : wpList P ops Q rest (a.put o.dst (.pointer (some ⟨m, 0, none⟩))) (w.alloc (.cells cs T))) : wpList P ops Q (o :: rest) a w := by
  subst hm
  refine wpList_of_wp hw fun K hK => ?_
  have hrun : (Instr.alloc T true (.tuple #[])).run P w = .ok (.pointer (some ⟨w.heap.size, 0, none⟩)) (w.alloc (.cells cs T)) := by
    cases hq : P.info? T with
    | none => simp [hq] at hz
    | some i =>
      cases hv : i.zero with
      | none => simp [hq, hv] at hz
      | some v =>
        have hc : v.cells = cs := by simpa [hq, hv] using hz
        have hzv : (zeroValue T).run P w = .ok v w := by simp [zeroValue, typeInfo, hq, hv]
        unfold Instr.alloc
        simp only [Sem.run_bind, hzv, Result.andThen_ok]
        simp [newVar, newRow, hc]
  unfold Oper.wp execOp
  simp only [ho, Sem.run_bind, hrun, Sem.run_pure, Result.andThen_ok]
  exact hK _ _ h
end
def chg (n : Int) (P : Nat → Bool) (nx : Nat → Nat) : Array Value := (chgL n P nx).toArray
theorem chg_size (n : Int) (P : Nat → Bool) (nx : Nat → Nat) : (chg n P nx).size = 257 := by simp [chg, chgL, famRow_len]
theorem chg_one (n : Int) (P : Nat → Bool) (nx : Nat → Nat) : (chg n P nx).all (·.oneCell') = true := by
  rw [Array.all_eq_true_iff_forall_mem]
  intro v hv
  simp only [chg, chgL, famRow, List.mem_toArray, List.mem_append, List.mem_cons, List.mem_map] at hv
  rcases hv with (rfl | ⟨i, _, rfl⟩) | ⟨i, _, rfl⟩ <;> rfl
def nxZ : Nat → Nat := fun _ => 0
theorem chgAt_iff {T : TypeId} {w : World} {g : Nat} {n : Int} {P : Nat → Bool} {nx : Nat → Nat} : chgAt T w g n P nx ↔ w.heap[g]? = some (.cells (chg n P nx) T) := Iff.rfl
theorem rowCh : (Tryd.prog.underlying 100).map TypeDesc.isRow = some true := by kernel_rfl
theorem sizeCh0 : (Tryd.prog.info? 100).map (·.size) = some 257 := by kernel_rfl
theorem sizeCh (n : Int) (P : Nat → Bool) (nx : Nat → Nat) : (Tryd.prog.info? 100).map (·.size) = some (chg n P nx).size := by rw [sizeCh0, chg_size]
theorem zeroCh : ((Tryd.prog.info? 100).bind (·.zero)).map Value.cells = some (chg 0 noSet nxZ) := by kernel_rfl
theorem zeroTr : ((Tryd.prog.info? 55).bind (·.zero)).map Value.cells = some (famRow noSet).toArray := by kernel_rfl
theorem builtCh (n : Int) (P : Nat → Bool) : Tryd.prog.built 100 [(0, .agg (fam n P))] = some (chg n P nxZ) := by kernel_rfl
theorem wpList_build_chg {Q1 : Program} {T : TypeId} (hb : ∀ (n : Int) (P : Nat → Bool), Q1.built T [(0, .agg (fam n P))] = some (chg n P nxZ)) {ops : Array Oper} {rest : List Oper} {o : Oper} {a : Act} {w : World} {Q : Exit → Act → World → Prop}
    (hgd : o.guard = none) (x : Operand) (ho : o.op = .build T #[(0, x)]) (n : Int) (P : Nat → Bool) (hx : a.eval x = .agg (fam n P))
    (h : wpList Q1 ops Q rest (a.put o.dst (.agg (chg n P nxZ))) w) : wpList Q1 ops Q (o :: rest) a w := by
  have e : (Q1.built T ((#[(0, x)] : Array (Nat × Operand)).map fun (i, x) => (i, a.eval x)).toList) = some (chg n P nxZ) := by
    simpa [hx] using hb n P
  exact wpList_build hgd T #[(0, x)] ho (by rw [e]; rfl) (by rw [e]; exact h)
attribute [local irreducible] p2 low memB risB chg
theorem maTo_no {P : Nat → Bool} {k : Nat} (h : P k = false) : maTo P (k + 1) = maTo P k := by rw [maTo, if_neg (by rw [h]; simp)]
theorem maTo_yes {P : Nat → Bool} {k : Nat} (h : P k = true) : maTo P (k + 1) = maSt P k (maTo P k) := by rw [maTo, if_pos h]
set_option maxHeartbeats 4000000 in
theorem chainingOf_c (m : Nat) (P : Nat → Bool) (w : World) (hm7 : m ≤ 7) (h0 : P 0 = false) (hP : ∀ x, P x = true → x < 128) :
    Calls Tryd.prog 70 #[.agg (fam (m : Int) P)] w fun e w' => e = .returned (.agg (chg (m : Int) P (maTo P (low m + 1)).nx)) ∧ Below w.heap.size w w' := by
  have hlo := low_lt m hm7
  have HF0 := hide (show famAt 57 (((w.alloc (.cells (fam (m : Int) P) 57)).alloc (.cells (chg 0 noSet nxZ) 100)).alloc (.cells (chg 0 noSet nxZ) 100)) w.heap.size (m : Int) P from ((famAt.new 57 w (m : Int) P).alloc _).alloc _)
  have HFA := hide (show famAt 57 ((w.alloc (.cells (fam (m : Int) P) 57)).alloc (.cells (chg 0 noSet nxZ) 100)) w.heap.size (m : Int) P from (famAt.new 57 w (m : Int) P).alloc _)
  have hr0 : (((w.alloc (.cells (fam (m : Int) P) 57)).alloc (.cells (chg 0 noSet nxZ) 100)).alloc (.cells (chg 0 noSet nxZ) 100)).heap[w.heap.size + 1]? = some (.cells (chg 0 noSet nxZ) 100) := (hp_old _ _ _ (by simp)).trans (by have h := hp_last (w.alloc (.cells (fam (m : Int) P) 57)) (.cells (chg 0 noSet nxZ) 100); simpa using h)
  have hc0 : (((w.alloc (.cells (fam (m : Int) P) 57)).alloc (.cells (chg 0 noSet nxZ) 100)).alloc (.cells (chg 0 noSet nxZ) 100)).heap[w.heap.size + 2]? = some (.cells (chg 0 noSet nxZ) 100) := by have h := hp_last ((w.alloc (.cells (fam (m : Int) P) 57)).alloc (.cells (chg 0 noSet nxZ) 100)) (.cells (chg 0 noSet nxZ) 100); simpa using h
  have HC0 := hide hc0
  have HC1 := hide (show chgAt 100 ((((w.alloc (.cells (fam (m : Int) P) 57)).alloc (.cells (chg 0 noSet nxZ) 100)).alloc (.cells (chg 0 noSet nxZ) 100)).setRow (w.heap.size + 2) (chg (m : Int) P nxZ)) (w.heap.size + 2) (m : Int) P nxZ from chgAt_iff.2 (hp_row _ _ _ _ _ hc0))
  have HR1 := hide ((hp_rowO (((w.alloc (.cells (fam (m : Int) P) 57)).alloc (.cells (chg 0 noSet nxZ) 100)).alloc (.cells (chg 0 noSet nxZ) 100)) (w.heap.size + 2) (w.heap.size + 1) (chg (m : Int) P nxZ) (by omega)).trans hr0)
  have HF1 := hide (HF0.out.rowO (w.heap.size + 2) (by omega) (chg (m : Int) P nxZ))
  have HB1 := hide (bl_row ((((Below.refl w.heap.size w).alloc (Nat.le_refl _) (.cells (fam (m : Int) P) 57)).alloc (by simp) (.cells (chg 0 noSet nxZ) 100)).alloc (by simp; omega) (.cells (chg 0 noSet nxZ) 100)) (show w.heap.size ≤ w.heap.size + 2 by omega) (chg (m : Int) P nxZ))
  have HZ1 := hide (show ((((w.alloc (.cells (fam (m : Int) P) 57)).alloc (.cells (chg 0 noSet nxZ) 100)).alloc (.cells (chg 0 noSet nxZ) 100)).setRow (w.heap.size + 2) (chg (m : Int) P nxZ)).heap.size = w.heap.size + 3 by simp [World.setRow])
  have HFU : Hid (∀ (w1 : World), Calls Tryd.prog 74 #[.agg (fam (m : Int) P)] w1 fun e w' => e = .returned (.int .i64 (low m : Int)) ∧ Below w1.heap.size w1 w') := hide fun w1 => by
    have := full_c (m : Int) P w1 (by omega) (by omega)
    rw [Int.toNat_natCast] at this
    exact this
  have HAT := hide (fun k => maTo_at h0 hP k)
  have HST := hide (fun k (h : P k = true) => maSt_some h0 hP (maTo_at h0 hP k) h)
  clear hc0 hr0 HF0
  go_enter Tryd.func70, Tryd.ntmps70
  go_wp2_with (first
    | (refine wpList_alloc_cs zeroCh rfl rfl _ (by first | (simp only [World.size_alloc]; rfl) | rfl) ?_)
    | (refine wpList_load_fam rowT sizeT rfl (.tmp 1) rfl w.heap.size rfl (m : Int) P HFA.out ?_)
    | (refine wpList_build_chg builtCh rfl (.tmp 6) rfl (m : Int) P rfl ?_)
    | (refine wpList_store_cs (sizeCh (m : Int) P nxZ) rfl (.tmp 3) (.tmp 7) rfl (w.heap.size + 2) rfl rfl (chg 0 noSet nxZ) HC0.out (by rw [chg_size, chg_size]) (chg_one _ _ _) ?_)
    | (refine wpList_load_fam rowT sizeT rfl (.tmp 1) rfl w.heap.size rfl (m : Int) P HF1.out ?_)
    | (go_at_call 74; refine (HFU.out _).mono ?_; rintro e w1 ⟨rfl, hb1⟩; have hz1 := hb1.size; rw [HZ1.out] at hz1 hb1; have HF2 := hide (HF1.out.below hb1 (by omega)); have HR2 := hide ((hb1.block (w.heap.size + 1) (by omega)).trans HR1.out); have HC2 := hide (show chgAt 100 w1 (w.heap.size + 2) (m : Int) P nxZ from (hb1.block (w.heap.size + 2) (by omega)).trans HC1.out); have HB2 := hide (HB1.out.trans (hb1.mono (by omega))); clear hb1))
  go_loopw [11] (fun i wr => ∃ k : Nat, k ≤ low m + 1 ∧ i = .int .i64 (k : Int) ∧ Hid (famAt 57 wr w.heap.size (m : Int) P) ∧ Hid (wr.heap[w.heap.size + 1]? = some (.cells (chg 0 noSet nxZ) 100)) ∧ Hid (chgAt 100 wr (w.heap.size + 2) (m : Int) P (maTo P k).nx) ∧ Hid (w.heap.size + 3 ≤ wr.heap.size) ∧ Hid (Below w.heap.size w wr)) (fun i _ => low m + 1 - (intOf i).toNat)
  case atStart => exact ⟨0, by omega, rfl, HF2, HR2, HC2, hz1, HB2⟩
  case round =>
    clear HF2 HR2 HC2 HB2 HFA HC0 HC1 HR1 HF1 HB1 HZ1
    obtain ⟨k, hk, rfl, HF, HR, HC, HZ, HB⟩ := hrel
    have hz := HZ.out
    by_cases hlt : k < low m + 1
    · have hk8 : k < 128 := by omega
      have c1 := HF.out.get k hk8
      cases hp : P k
      · have HN := hide (maTo_no (P := P) hp)
        rw [hp] at c1
        clear hp
        go_wp2_with fail
        go_roundw
        case rel => exact ⟨k + 1, by omega, by go_num, HF, HR, hide (by rw [HN.out]; exact HC.out), HZ, HB⟩
        case measure => (simp [intOf] <;> omega)
      · have HN := hide (maTo_yes (P := P) hp)
        obtain ⟨r, hpu, _⟩ := HST.out k hp
        have hnl := (HAT.out k).lt
        have hc1 : chgAt 100 (wr.alloc (.cells (famRow noSet).toArray 55)) (w.heap.size + 2) (m : Int) P (maTo P k).nx := (hp_old _ _ _ (by omega)).trans HC.out
        have HPC := hide (put_c (m : Int) P fuM k _ r _ hpu hk8 hnl (wr.alloc (.cells (famRow noSet).toArray 55)) (w.heap.size + 2) wr.heap.size (by omega) hc1 (hp_last _ _))
        rw [hp] at c1
        clear hp hpu hnl hc1
        go_wp2_with (first
          | (refine wpList_alloc_cs zeroTr rfl rfl _ rfl ?_)
          | (go_at_call 99; refine HPC.out.mono ?_; rintro e w3 ⟨rfl, hc3, _, hb3⟩; have hz3 := hb3.size; simp only [World.size_alloc] at hz3; have HC3 := hide hc3; have HF3 := hide ((HF.out.alloc (.cells (famRow noSet).toArray 55)).below hb3 (by omega)); have HR3 := hide ((hb3.block (w.heap.size + 1) (by omega)).trans ((hp_old wr (.cells (famRow noSet).toArray 55) _ (by omega)).trans HR.out)); have HB3 := hide ((HB.out.alloc (by omega) (.cells (famRow noSet).toArray 55)).trans (hb3.mono (by omega))); clear hc3 hb3 c1))
        go_roundw
        case rel => exact ⟨k + 1, by omega, by go_num, HF3, HR3, hide (by rw [HN.out]; exact HC3.out), hide (by omega), HB3⟩
        case measure => (simp [intOf] <;> omega)
    · have hke : k = low m + 1 := by omega
      subst hke
      have hlt' : ¬ (((low m + 1 : Nat) : Int) < (low m : Int) + 1) := by omega
      clear hlt hk
      go_wp2_with (first
        | (refine wpList_load_cs rowCh (sizeCh (m : Int) P (maTo P (low m + 1)).nx) rfl (.tmp 3) rfl (w.heap.size + 2) rfl (chgAt_iff.1 HC.out) ?_)
        | (refine wpList_store_cs (sizeCh (m : Int) P (maTo P (low m + 1)).nx) rfl (.tmp 2) (.tmp _) rfl (w.heap.size + 1) rfl rfl (chg 0 noSet nxZ) HR.out (by rw [chg_size, chg_size]) (chg_one _ _ _) ?_))
      exact bodyPost_ret (v := .agg (chg (m : Int) P (maTo P (low m + 1)).nx)) (results_cs rowCh (sizeCh (m : Int) P (maTo P (low m + 1)).nx) rfl _ _ (w.heap.size + 1) rfl (hp_row _ _ _ _ _ HR.out)) rfl ⟨rfl, bl_row HB.out (by omega) _⟩
end Go.Proofs.YtblglkgmnaklbaaDoor
/- Contracts: the sets that are behind none, and how many they are, the program's. -/
namespace Go.Proofs.YtblglkgmnaklbaaDoor
open Go.RowKit
set_option maxRecDepth 100000
set_option linter.unusedSimpArgs false
/-- Numbers as the cells of an array. -/
def nxV (nx : Nat → Nat) : Array Value := ((List.range 128).map fun i => Value.int .i64 (nx i : Int)).toArray
theorem nxV_get (nx : Nat → Nat) (i : Nat) (h : i < 128) : (nxV nx)[i]? = some (.int .i64 (nx i : Int)) := by unfold nxV; simp [h]
/-- The marks of P less the first k of what follows. -/
def rmTo (P : Nat → Bool) (nx : Nat → Nat) : Nat → Nat → Bool
  | 0 => P
  | k + 1 => upd (rmTo P nx k) (nx k) false
theorem rmTo_iff (P : Nat → Bool) (nx : Nat → Nat) (x : Nat) : ∀ k, rmTo P nx k x = true ↔ P x = true ∧ ∀ j, j < k → nx j ≠ x
  | 0 => by simp [rmTo]
  | k + 1 => by
    have ih := rmTo_iff P nx x k
    unfold rmTo upd
    by_cases h : x = nx k
    · rw [if_pos h]
      constructor
      · intro e; cases e
      · intro ⟨_, e⟩; exact absurd h.symm (e k (Nat.lt_succ_self k))
    · rw [if_neg h, ih]
      constructor
      · rintro ⟨h1, h2⟩
        refine ⟨h1, fun j hj => ?_⟩
        rcases Nat.lt_or_ge j k with hk | hk
        · exact h2 j hk
        · rw [show j = k by omega]; exact fun e => h e.symm
      · rintro ⟨h1, h2⟩
        exact ⟨h1, fun j hj => h2 j (by omega)⟩
section
variable {P : Program} {A : TypeId} {ops : Array Oper} {rest : List Oper} {o : Oper} {a : Act} {w : World} {Q : Exit → Act → World → Prop}
theorem wpList_load_midM (hT : (P.underlying A).map TypeDesc.isRow = some true) (cs : List Value) (hS : (P.info? A).map (·.size) = some cs.length) (hw : Region.wanted o (yielded ops a.tmps) = true) (x : Operand) (ho : o.op = .load A x)
    (g off : Nat) (hx : a.eval x = .pointer (some ⟨g, off, none⟩)) (hg : ∀ j y, cs[j]? = some y → w.cell? ⟨g, off + j, none⟩ = some y)
    (h : wpList P ops Q rest (a.put o.dst (.agg cs.toArray)) w) : wpList P ops Q (o :: rest) a w := by
  obtain ⟨d, hu, hd⟩ := rowTy_of hT
  exact wpList_of_wp hw fun _ hK => wp_load_mid A x ho g off hx cs d hg hu hd hS (hK _ _ h)
theorem wpList_index_nx {B : TypeId} (hA : P.underlying A = some (.array 128 B)) (hB : (P.info? B).map (·.size) = some 1) (hr : (P.underlying B).map TypeDesc.isRow = some false)
    (hw : Region.wanted o (yielded ops a.tmps) = true) (x y : Operand) (ho : o.op = .index A x y)
    (nx : Nat → Nat) (hx : a.eval x = .agg (nxV nx)) (i : Nat) (hy : a.eval y = .int .i64 (i : Int)) (hi : i < 128)
    (h : wpList P ops Q rest (a.put o.dst (.int .i64 (nx i : Int))) w) : wpList P ops Q (o :: rest) a w := by
  have hB' : (sizeOf B).run P w = .ok 1 w := by
    cases hq : P.info? B with
    | none => simp [hq] at hB
    | some j =>
      have : j.size = 1 := by simpa [hq] using hB
      simp [sizeOf, typeInfo, hq, this]
  have hg := nxV_get nx i hi
  have hag : (isAgg B).run P w = .ok false w := by
    unfold isAgg
    cases hq : P.underlying B with
    | none => simp [hq] at hr
    | some d =>
      rw [Sem.run_bind, run_underlying hq w]
      cases d <;> simp_all [TypeDesc.isRow]
  have hrun : (Instr.index A (.agg (nxV nx)) (.int .i64 (i : Int))).run P w = .ok (.int .i64 (nx i : Int)) w := by
    unfold Instr.index part
    have h1 : (0 : Int) ≤ (i : Int) ∧ (i : Int) < ((128 : Nat) : Int) := by omega
    simp only [asIntOf, Sem.run_bind, Sem.run_pure, Result.andThen_ok, run_underlying hA w, if_pos h1, hB', hag, Int.toNat_natCast, Nat.mul_one, hg]
    simp
  refine wpList_of_wp hw fun K hK => ?_
  unfold Oper.wp execOp
  simp only [ho, hx, hy, Sem.run_bind, Sem.run_pure, hrun, Result.andThen_ok]
  exact hK _ _ h
end
theorem chg_part (n : Int) (P : Nat → Bool) (nx : Nat → Nat) (j : Nat) (y : Value) (h : (Value.int .i64 n :: famRow P)[j]? = some y) : (chgL n P nx).toArray[j]? = some y := by
  rw [List.getElem?_toArray]
  unfold chgL
  rw [List.getElem?_append_left (List.getElem?_eq_some_iff.1 h).1, h]
theorem chgAt.part {T : TypeId} {w : World} {g : Nat} {n : Int} {P : Nat → Bool} {nx : Nat → Nat} (h : chgAt T w g n P nx) (j : Nat) (y : Value) (hy : (Value.int .i64 n :: famRow P)[j]? = some y) : w.cell? ⟨g, 0 + j, none⟩ = some y := by
  rw [Nat.zero_add, hp_cell h]; exact chg_part n P nx j y hy
theorem chgAt.partN {T : TypeId} {w : World} {g : Nat} {n : Int} {P : Nat → Bool} {nx : Nat → Nat} (h : chgAt T w g n P nx) (j : Nat) (y : Value) (hy : ((List.range 128).map fun i => Value.int .i64 (nx i : Int))[j]? = some y) : w.cell? ⟨g, 129 + j, none⟩ = some y := by
  have hj : j < 128 := by have := (List.getElem?_eq_some_iff.1 hy).1; simpa using this
  rw [h.getN j hj, ← hy]
  simp [hj]
theorem rowNx : (Tryd.prog.underlying 98).map TypeDesc.isRow = some true := by kernel_rfl
theorem sizeNx : (Tryd.prog.info? 98).map (·.size) = some 128 := by kernel_rfl
theorem undNx : Tryd.prog.underlying 98 = some (.array 128 81) := by kernel_rfl
theorem sizeIs1 : (Tryd.prog.info? 81).map (·.size) = some 1 := by kernel_rfl
theorem rowIs0 : (Tryd.prog.underlying 81).map TypeDesc.isRow = some false := by kernel_rfl
attribute [local irreducible] p2 low memB risB chg nxV famAt own
set_option maxHeartbeats 4000000 in
theorem firsts_c (m : Nat) (P : Nat → Bool) (nx : Nat → Nat) (g : Nat) (w : World) (hc : chgAt 100 w g (m : Int) P nx) (hnx : ∀ j, nx j < 128) :
    Calls Tryd.prog 101 #[.pointer (some ⟨g, 0, none⟩)] w fun e w' => ∃ v, e = .returned v ∧ own 3 w' w.heap.size v (setsTo (rmTo P nx 128) 128) ∧ Below w.heap.size w w' := by
  have HC := hide hc
  have HNX := hide hnx
  have hlt := hc.lt
  have HF0 := hide ((famAt.new 57 w 0 noSet).row (m : Int) P)
  have HB0 := hide (bl_row ((Below.refl w.heap.size w).alloc (Nat.le_refl _) (.cells (fam 0 noSet) 57)) (Nat.le_refl _) (fam (m : Int) P))
  have HC1 := hide (show chgAt 100 ((w.alloc (.cells (fam 0 noSet) 57)).setRow w.heap.size (fam (m : Int) P)) g (m : Int) P nx from (hp_rowO _ _ _ _ (by omega)).trans ((hp_old w (.cells (fam 0 noSet) 57) g hlt).trans hc))
  have HL1 : Hid ((Value.int .i64 (m : Int) :: famRow P).toArray = fam (m : Int) P) := hide rfl
  have HL2 : Hid (((List.range 128).map fun i => Value.int .i64 (nx i : Int)).toArray = nxV nx) := hide (by unfold nxV; rfl)
  clear hc hnx
  go_enter Tryd.func101, Tryd.ntmps101
  go_wp2_with (first
    | (refine wpList_load_midM rowT (Value.int .i64 (m : Int) :: famRow P) (by rw [chg_lenA]; exact sizeT) rfl (.tmp 8) rfl g 0 rfl HC.out.part ?_; rw [HL1.out])
    | (refine wpList_alloc_fam zeroT rfl rfl _ (by first | (simp only [World.size_alloc]; rfl) | rfl) ?_)
    | (refine wpList_store_fam sizeT rfl (.tmp 3) (.tmp _) rfl w.heap.size _ _ rfl rfl _ _ (famAt.new _ _ _ _) ?_)
    | (refine wpList_load_midM rowNx ((List.range 128).map fun i => Value.int .i64 (nx i : Int)) (by rw [List.length_map, List.length_range]; exact sizeNx) rfl (.tmp 12) rfl g 129 rfl HC1.out.partN ?_; rw [HL2.out]))
  go_loopw [14] (fun i wr => ∃ k : Nat, k ≤ 128 ∧ i = .int .i64 (k : Int) ∧ Hid (famAt 57 wr w.heap.size (m : Int) (rmTo P nx k)) ∧ Hid (Below w.heap.size w wr)) (fun i _ => 128 - (intOf i).toNat)
  case atStart => exact ⟨0, by omega, rfl, HF0, HB0⟩
  case round =>
    clear HF0 HB0 HC1
    obtain ⟨k, hk, rfl, HF, HB⟩ := hrel
    have hsz := HB.out.size
    by_cases hlt : k < 128
    · have hy := HNX.out k
      have HR := hide (show rmTo P nx (k + 1) = upd (rmTo P nx k) (nx k) false from rfl)
      have c1 := HF.out.get (nx k) hy
      have f1 := HF.out.free (1 + nx k)
      generalize hX : nx k = x at hy HR c1 f1
      have HX := hide hX
      clear hX
      go_wp2_with (refine wpList_index_nx undNx sizeIs1 rowIs0 rfl (.tmp 13) (.tmp 14) rfl nx rfl k rfl hlt ?_; rw [HX.out])
      go_roundw
      case rel => exact ⟨k + 1, by omega, by go_num, hide (by rw [HR.out]; exact HF.out.set x hy false), hide (HB.out.setCell (by show w.heap.size ≤ w.heap.size; omega) _)⟩
      case measure => (simp [intOf] <;> omega)
    · have hke : k = 128 := by omega
      subst hke
      clear hlt hk
      go_wp2_with (first
        | (refine wpList_load_fam rowT sizeT rfl (.tmp 3) rfl w.heap.size rfl (m : Int) _ HF.out ?_)
        | (go_at_call 111; refine (sets_c (m : Int) (rmTo P nx 128) _).mono ?_; rintro e w2 ⟨v2, rfl, ho2, hb2⟩; have HO2 := hide (ho2.mono hsz); have HB2 := hide (HB.out.trans (hb2.mono hsz)); clear ho2 hb2))
      go_ret
      exact ⟨_, rfl, HO2.out, HB2.out⟩
/-- How many sets are behind none. -/
def wdF (m : Nat) (P : Nat → Bool) : Nat → Bool := rmTo P (maTo P (low m + 1)).nx 128
def wdN (m : Nat) (P : Nat → Bool) : Nat := (setsTo (wdF m P) 128).length
end Go.Proofs.YtblglkgmnaklbaaDoor
/- Contracts: the family of the paths, and the width, the program's. -/
namespace Go.Proofs.YtblglkgmnaklbaaDoor
open Go.RowKit
set_option maxRecDepth 100000
set_option linter.unusedSimpArgs false
/-- The paths of a family. -/
def phF (m : Nat) (F : Nat → Bool) : Nat → Bool := cutAt (pathF F m) (low m + 1)
theorem phF_lt {m : Nat} (hm : m ≤ 7) {F : Nat → Bool} {x : Nat} (h : phF m F x = true) : x < 128 := by
  unfold phF cutAt at h
  rw [Bool.and_eq_true, decide_eq_true_eq] at h
  have := low_lt m hm
  omega
theorem phF_zero {m : Nat} {F : Nat → Bool} : phF m F 0 = false := by
  cases h : phF m F 0
  · rfl
  · unfold phF cutAt pathF at h
    rw [Bool.and_eq_true, Bool.and_eq_true] at h
    have h1 : innerOf F m 0 ≠ 0 := by
      intro e
      have := h.2.2
      rw [e] at this
      revert this; decide
    obtain ⟨i, _, h2, _⟩ := inner_some.1 h1
    rw [Nat.zero_testBit] at h2; cases h2
theorem ent_isPath : enters Tryd.prog 100 := enters_of Tryd.func100 (by kernel_rfl) (by kernel_rfl)
attribute [local irreducible] p2 low memB risB famAt own
set_option maxHeartbeats 1000000 in
theorem paths_c (m : Nat) (F : Nat → Bool) (w : World) (hm7 : m ≤ 7) :
    Calls Tryd.prog 71 #[.agg (fam (m : Int) F)] w fun e w' => e = .returned (.agg (fam (m : Int) (phF m F))) ∧ Below w.heap.size w w' := by
  have hlo := low_lt m hm7
  have hls := low_succ m
  have hp2 : 2 ^ m ≤ 128 := by omega
  have HF := hide (show famAt 57 ((w.alloc (.cells (fam (m : Int) F) 57)).alloc (.cells (fam 0 noSet) 57)) w.heap.size (m : Int) F from (famAt.new 57 w (m : Int) F).alloc _)
  have hg0 := HF.out.get0
  have HR := hide (show famAt 57 ((w.alloc (.cells (fam (m : Int) F) 57)).alloc (.cells (fam 0 noSet) 57)) (w.heap.size + 1) 0 noSet by have h := famAt.new 57 (w.alloc (.cells (fam (m : Int) F) 57)) 0 noSet; simpa using h)
  have HB0 := hide (((Below.refl w.heap.size w).alloc (Nat.le_refl _) (.cells (fam (m : Int) F) 57)).alloc (by simp) (.cells (fam 0 noSet) 57))
  have HZ := hide (show ((w.alloc (.cells (fam (m : Int) F) 57)).alloc (.cells (fam 0 noSet) 57)).heap.size = w.heap.size + 2 by simp)
  have HFW := hide (fun w1 => familyWhere_c m 100 #[.agg (fam (m : Int) F)] #[] (pathF F m) w1 hm7 ent_isPath (fun s w2 hs _ => by
    have h := isPath_c (m : Int) F s w2 (by omega) (by omega) (by omega)
    rw [Int.toNat_natCast] at h
    exact h))
  rw [show cutAt (pathF F m) (low m + 1) = phF m F from rfl] at HFW
  generalize phF m F = G at *
  go_enter Tryd.func71, Tryd.ntmps71
  go_wp2_with (first
    | (refine wpList_alloc_fam zeroT rfl rfl _ (by first | (simp only [World.size_alloc]; rfl) | rfl) ?_)
    | (refine wpList_load_fam rowT sizeT rfl (.tmp 1) rfl w.heap.size rfl (m : Int) F HF.out ?_)
    | (go_at_call 91; refine (HFW.out _).mono ?_; rintro e w1 ⟨rfl, hb1⟩; have hz1 := hb1.size; rw [HZ.out] at hz1 hb1; have HR1 := hide (HR.out.below hb1 (by omega)); have HB1 := hide (HB0.out.trans (hb1.mono (by omega))); clear hb1)
    | (refine wpList_store_fam sizeT rfl (.tmp 2) (.tmp _) rfl (w.heap.size + 1) (m : Int) G rfl rfl 0 noSet HR1.out ?_))
  exact bodyPost_ret (v := .agg (fam (m : Int) G)) (results_fam rowT sizeT rfl _ _ (w.heap.size + 1) rfl _ _ (HR1.out.row _ _)) rfl ⟨rfl, bl_row HB1.out (by omega) _⟩
/-- The width of a space. -/
def wiN (n : Int) (l : List Int) : Int := if okSp n l then (wdN n.toNat (phF n.toNat (marksTo l l.length)) : Int) else 0
theorem wd_none : wdN 0 (phF 0 noSet) = 0 := by
  have h : ∀ x, phF 0 noSet x = false := fun x => by unfold phF cutAt pathF noSet; simp
  unfold wdN
  have h2 : setsTo (wdF 0 (phF 0 noSet)) 128 = [] := by
    have : wdF 0 (phF 0 noSet) = noSet := by
      funext x
      cases e : wdF 0 (phF 0 noSet) x
      · rfl
      · have := ((rmTo_iff _ _ x 128).1 e).1
        rw [h x] at this; cases this
    rw [this]
    exact (by decide +kernel : ([] : List Int) = setsTo noSet 128).symm
  rw [h2]; rfl
end Go.Proofs.YtblglkgmnaklbaaDoor
/- Mathematics: matchings told by the indices of the sets in their list. No program is named here. -/
namespace Go.Proofs.YtblglkgmnaklbaaDoor
open Go.RowKit
set_option maxRecDepth 100000
set_option linter.unusedSimpArgs false
/-- The index of a set among the sets of P, or -1. -/
def ixP (P : Nat → Bool) (x : Nat) : Int := if P x = true ∧ x < 128 then ((setsTo P x).length : Int) else -1
section
variable {P : Nat → Bool}
theorem ix_none {x : Nat} (h : P x = false) : ixP P x = -1 := by unfold ixP; rw [if_neg (by rw [h]; simp)]
theorem setsTo_succ {x : Nat} (h : P x = true) : setsTo P (x + 1) = setsTo P x ++ [(x : Int)] := by simp [setsTo, h]
theorem sets_posW {x : Nat} (hx : x < 128) (h : P x = true) : (setsTo P x).length < (setsTo P 128).length ∧ nth (setsTo P 128) (setsTo P x).length = x := by
  have e := sets_split P (x + 1) 128 (by omega)
  rw [setsTo_succ h] at e
  rw [e]
  constructor
  · simp
  · unfold nth
    rw [List.append_assoc, List.getElem?_append_right (Nat.le_refl _), Nat.sub_self]
    simp
theorem nth_less {i j : Nat} (h : i < j) (hj : j < (setsTo P 128).length) : nth (setsTo P 128) i < nth (setsTo P 128) j := by
  have h1 := sets_inc P 128 i j h hj
  have h2 := setsTo_range P 128 i (by omega)
  have h3 := setsTo_range P 128 j hj
  unfold nth
  omega
theorem nth_inj {i j : Nat} (hi : i < (setsTo P 128).length) (hj : j < (setsTo P 128).length) (h : nth (setsTo P 128) i = nth (setsTo P 128) j) : i = j := by
  rcases Nat.lt_trichotomy i j with e | e | e
  · have := nth_less e hj; omega
  · exact e
  · have := nth_less e hi; omega
theorem nth_in {j : Nat} (hj : j < (setsTo P 128).length) : P (nth (setsTo P 128) j) = true := sets_at P j hj
theorem nth_lt128 {j : Nat} (hj : j < (setsTo P 128).length) : nth (setsTo P 128) j < 128 := by
  have h3 := setsTo_range P 128 j hj
  unfold nth
  omega
theorem nth_val {j : Nat} (hj : j < (setsTo P 128).length) : (setsTo P 128)[j]?.getD 0 = (nth (setsTo P 128) j : Int) := by
  have h3 := setsTo_range P 128 j hj
  unfold nth
  omega
theorem ix_nth {j : Nat} (hj : j < (setsTo P 128).length) : ixP P (nth (setsTo P 128) j) = (j : Int) := by
  have h1 := nth_in hj
  have h2 := nth_lt128 hj
  obtain ⟨h3, h4⟩ := sets_posW h2 h1
  unfold ixP
  rw [if_pos ⟨h1, h2⟩]
  have := nth_inj h3 hj h4
  omega
theorem nth_ix {x : Nat} (hx : x < 128) (h : P x = true) : ∃ j, j < (setsTo P 128).length ∧ nth (setsTo P 128) j = x ∧ ixP P x = (j : Int) := by
  obtain ⟨h3, h4⟩ := sets_posW hx h
  exact ⟨_, h3, h4, by unfold ixP; rw [if_pos ⟨h, hx⟩]⟩
/-- From where the search goes on behind the first j sets. -/
def frJ (L : List Int) (j : Nat) : Nat := if j = 0 then 0 else nth L (j - 1) + 1
theorem frJ_le {j : Nat} (hj : j < (setsTo P 128).length) : frJ (setsTo P 128) j ≤ nth (setsTo P 128) j := by
  unfold frJ
  split
  · omega
  · have := nth_less (P := P) (i := j - 1) (j := j) (by omega) hj
    omega
theorem frJ_succ (L : List Int) (j : Nat) : frJ L (j + 1) = nth L j + 1 := by unfold frJ; rw [if_neg (by omega), Nat.add_sub_cancel]
theorem frJ_gap {j k : Nat} (hj : j ≤ (setsTo P 128).length) (h1 : frJ (setsTo P 128) j ≤ k) (hk : k < 128) (h2 : j < (setsTo P 128).length → k < nth (setsTo P 128) j) : P k = false := by
  cases h : P k
  · rfl
  · obtain ⟨i, hi, he, _⟩ := nth_ix hk h
    exfalso
    rcases Nat.lt_or_ge i j with e | e
    · unfold frJ at h1
      rw [if_neg (by omega)] at h1
      rcases Nat.lt_or_ge i (j - 1) with e2 | e2
      · have := nth_less (P := P) e2 (by omega); omega
      · rw [show i = j - 1 by omega] at he; omega
    · have hjl : j < (setsTo P 128).length := by omega
      have := h2 hjl
      rcases Nat.lt_or_ge j i with e2 | e2
      · have := nth_less (P := P) e2 hi; omega
      · rw [show i = j by omega] at he; omega
theorem puM_skipTo {x : Nat} {s : Mst} {r : Bool} {t : Mst} : ∀ d g k, puM P g x k s = some (r, t) → (∀ k', k ≤ k' → k' < k + d → P k' = false) → ∃ g', g' ≤ g ∧ puM P g' x (k + d) s = some (r, t)
  | 0, g, k, h, _ => ⟨g, Nat.le_refl _, h⟩
  | d + 1, g, k, h, hn => by
    have hk := hn k (Nat.le_refl _) (by omega)
    have h1 : ∃ g', g' ≤ g ∧ puM P g' x (k + 1) s = some (r, t) := by
      obtain ⟨f, e0, hc⟩ := puM_cases h
      rcases hc with ⟨a1, a2, a3⟩ | ⟨a1, a2, a3⟩ | ⟨a1, a2, _⟩ | ⟨a1, a2, _⟩
      · subst a2 a3
        exact ⟨g, Nat.le_refl _, by rw [e0]; exact puM_end (by omega)⟩
      · exact ⟨f, by omega, a3⟩
      · rw [(fitM_iff.1 a2).1] at hk; cases hk
      · rw [(fitM_iff.1 a2).1] at hk; cases hk
    obtain ⟨g1, hg1, h2⟩ := h1
    obtain ⟨g2, hg2, h3⟩ := puM_skipTo d g1 (k + 1) h2 (fun k' a b => hn k' (by omega) (by omega))
    exact ⟨g2, by omega, by rw [show k + (d + 1) = k + 1 + d by omega]; exact h3⟩
/-- What follows is one of the sets. -/
def inN (P : Nat → Bool) (s : Mst) : Prop := ∀ j, s.nx j ≠ 0 → P (s.nx j) = true
theorem inN_put {s : Mst} {k x : Nat} (h : inN P s) (hx : P x = true) : inN P (s.put k x) := by
  intro j hj
  show P (updM s.nx k x j) = true
  have hj' : updM s.nx k x j ≠ 0 := hj
  unfold updM at hj' ⊢
  split
  · exact hx
  · rename_i e; rw [if_neg e] at hj'; exact h j hj'
theorem puM_inN : ∀ f x k s r t, puM P f x k s = some (r, t) → P x = true → inN P s → inN P t := by
  intro f
  induction f using Nat.strongRecOn with
  | ind f ih =>
    intro x k s r t h hx hs
    obtain ⟨g, e0, hc⟩ := puM_cases h
    clear h
    subst e0
    rcases hc with ⟨_, _, rfl⟩ | ⟨_, _, h⟩ | ⟨_, _, _, _, rfl⟩ | ⟨_, _, h3, r1, t1, h1, h2⟩
    · exact hs
    · exact ih g (by omega) _ _ _ _ _ h hx hs
    · exact inN_put (s := s.mark k) hs hx
    · have h4 := ih g (by omega) _ _ _ _ _ h1 (hs k h3) hs
      rcases h2 with ⟨_, _, rfl⟩ | ⟨_, h2⟩
      · exact inN_put h4 hx
      · exact ih g (by omega) _ _ _ _ _ h2 hx h4
theorem map_setW {α : Type} (i : Nat) (f g : Int → α) (hi : i < (setsTo P 128).length) (hf : ∀ j, j < (setsTo P 128).length → j ≠ i → g ((setsTo P 128)[j]?.getD 0) = f ((setsTo P 128)[j]?.getD 0)) :
    ((setsTo P 128).map f).set i (g ((setsTo P 128)[i]?.getD 0)) = (setsTo P 128).map g := by
  apply List.ext_getElem?
  intro j
  rw [List.getElem?_set, List.getElem?_map, List.length_map]
  by_cases e : i = j
  · subst e
    rw [if_pos rfl, if_pos hi]
    simp [hi]
  · rw [if_neg e, List.getElem?_map]
    rcases Nat.lt_or_ge j (setsTo P 128).length with h | h
    · have := hf j h (fun e2 => e e2.symm)
      simp [h] at this ⊢
      exact this.symm
    · simp [h]
/-- What is known on the way, by indices. -/
def bfL (P : Nat → Bool) (s : Mst) : List Int := (setsTo P 128).map fun a => ixP P (s.bf a.toNat)
def nxL (P : Nat → Bool) (s : Mst) : List Int := (setsTo P 128).map fun a => ixP P (s.nx a.toNat)
def trL (P : Nat → Bool) (s : Mst) : List Bool := (setsTo P 128).map fun a => s.tr a.toNat
theorem bfL_len (s : Mst) : (bfL P s).length = (setsTo P 128).length := by simp [bfL]
theorem nxL_len (s : Mst) : (nxL P s).length = (setsTo P 128).length := by simp [nxL]
theorem trL_len (s : Mst) : (trL P s).length = (setsTo P 128).length := by simp [trL]
theorem bfL_at (s : Mst) {j : Nat} (hj : j < (setsTo P 128).length) : (bfL P s)[j]?.getD 0 = ixP P (s.bf (nth (setsTo P 128) j)) := by unfold bfL nth; simp [hj]
theorem nxL_at (s : Mst) {j : Nat} (hj : j < (setsTo P 128).length) : (nxL P s)[j]?.getD 0 = ixP P (s.nx (nth (setsTo P 128) j)) := by unfold nxL nth; simp [hj]
theorem trL_at (s : Mst) {j : Nat} (hj : j < (setsTo P 128).length) : (trL P s)[j]?.getD false = s.tr (nth (setsTo P 128) j) := by unfold trL nth; simp [hj]
theorem nth_ne {i j : Nat} (hi : i < (setsTo P 128).length) (hj : j < (setsTo P 128).length) (h : j ≠ i) : ((setsTo P 128)[j]?.getD 0).toNat ≠ nth (setsTo P 128) i := fun e => h (nth_inj hj hi e)
theorem bfL_put (s : Mst) {i j : Nat} (hi : i < (setsTo P 128).length) (hj : j < (setsTo P 128).length) : (bfL P s).set i (j : Int) = bfL P (s.put (nth (setsTo P 128) j) (nth (setsTo P 128) i)) := by
  have h := map_setW (P := P) i (fun a => ixP P (s.bf a.toNat)) (fun a => ixP P ((s.put (nth (setsTo P 128) j) (nth (setsTo P 128) i)).bf a.toNat)) hi (fun k hk hne => by
    show ixP P (updM s.bf (nth (setsTo P 128) i) (nth (setsTo P 128) j) _) = _
    rw [updM_ne (nth_ne hi hk hne)])
  rw [← show ixP P ((s.put (nth (setsTo P 128) j) (nth (setsTo P 128) i)).bf ((setsTo P 128)[i]?.getD 0).toNat) = (j : Int) from by
    show ixP P (updM s.bf (nth (setsTo P 128) i) (nth (setsTo P 128) j) (nth (setsTo P 128) i)) = _
    rw [updM_at, ix_nth hj]]
  exact h
theorem nxL_put (s : Mst) {i j : Nat} (hi : i < (setsTo P 128).length) (hj : j < (setsTo P 128).length) : (nxL P s).set j (i : Int) = nxL P (s.put (nth (setsTo P 128) j) (nth (setsTo P 128) i)) := by
  have h := map_setW (P := P) j (fun a => ixP P (s.nx a.toNat)) (fun a => ixP P ((s.put (nth (setsTo P 128) j) (nth (setsTo P 128) i)).nx a.toNat)) hj (fun k hk hne => by
    show ixP P (updM s.nx (nth (setsTo P 128) j) (nth (setsTo P 128) i) _) = _
    rw [updM_ne (nth_ne hj hk hne)])
  rw [← show ixP P ((s.put (nth (setsTo P 128) j) (nth (setsTo P 128) i)).nx ((setsTo P 128)[j]?.getD 0).toNat) = (i : Int) from by
    show ixP P (updM s.nx (nth (setsTo P 128) j) (nth (setsTo P 128) i) (nth (setsTo P 128) j)) = _
    rw [updM_at, ix_nth hi]]
  exact h
theorem trL_mark (s : Mst) {j : Nat} (hj : j < (setsTo P 128).length) : (trL P s).set j true = trL P (s.mark (nth (setsTo P 128) j)) := by
  have h := map_setW (P := P) j (fun a => s.tr a.toNat) (fun a => (s.mark (nth (setsTo P 128) j)).tr a.toNat) hj (fun k hk hne => by
    show upd s.tr (nth (setsTo P 128) j) true _ = _
    unfold upd
    rw [if_neg (nth_ne hj hk hne)])
  rw [← show (s.mark (nth (setsTo P 128) j)).tr ((setsTo P 128)[j]?.getD 0).toNat = true from by
    show upd s.tr (nth (setsTo P 128) j) true (nth (setsTo P 128) j) = _
    unfold upd; rw [if_pos rfl]]
  exact h
theorem part_leW {a b : Nat} (h : andNot a b = 0) : a ≤ b := by
  have : a = a &&& b := by
    apply Nat.eq_of_testBit_eq
    intro i
    have h1 : (andNot a b).testBit i = false := by rw [h]; simp
    unfold andNot at h1
    rw [Nat.testBit_xor] at h1
    cases h2 : a.testBit i <;> cases h3 : (a &&& b).testBit i <;> simp_all
  rw [this]
  exact Nat.and_le_right
end
end Go.Proofs.YtblglkgmnaklbaaDoor
/- Contracts: one set is put behind another one, the specification's. -/
namespace Go.Proofs.YtblglkgmnaklbaaDoor
open Go.RowKit
set_option maxRecDepth 100000
set_option linter.unusedSimpArgs false
/-- A block of marks. -/
def blkM (T : TypeId) (w : World) (g : Nat) (m : List Bool) : Prop := w.heap[g]? = some (.cells (m.map Value.bool).toArray T)
theorem blkM.cell {I : TypeId} {w : World} {g : Nat} {m : List Bool} (h : blkM I w g m) (j : Nat) (hj : j < m.length) : w.cell? ⟨g, j, none⟩ = some (.bool (m[j]?.getD false)) := by
  rw [hp_cell h, List.getElem?_toArray, List.getElem?_map]; simp [hj]
theorem blkM.free {I : TypeId} {w : World} {g : Nat} {m : List Bool} (h : blkM I w g m) (j : Nat) : w.frozen? ⟨g, j, none⟩ = false := hp_free h j
theorem blkM.lt {I : TypeId} {w : World} {g : Nat} {m : List Bool} (h : blkM I w g m) : g < w.heap.size := hp_lt h
theorem blkM.set {I : TypeId} {w : World} {g : Nat} {m : List Bool} (h : blkM I w g m) (j : Nat) (b : Bool) : blkM I (w.setCell ⟨g, j, none⟩ (.bool b)) g (m.set j b) := by
  unfold blkM
  rw [hp_set w g j _ I _ h, List.setIfInBounds_toArray, List.map_set]
theorem blkM.setO {I : TypeId} {w : World} {g : Nat} {m : List Bool} (h : blkM I w g m) (a : Addr) (ha : g ≠ a.block) (v : Value) : blkM I (w.setCell a v) g m := (hp_setO w a g v ha).trans h
theorem blk.setOW {I : TypeId} {w : World} {g : Nat} {m : List Int} (h : blk I w g m) (a : Addr) (ha : g ≠ a.block) (v : Value) : blk I (w.setCell a v) g m := (hp_setO w a g v ha).trans h
theorem cnPartsW_c (x y : Nat) (w : World) (hx : x < 128) : Calls Tryd.prog 114 #[.int .i64 (x : Int), .int .i64 (y : Int)] w fun e w' => e = .returned (.bool (andNot x y == 0)) ∧ w = w' := by
  have h := i64_andNot x y (by omega)
  generalize andNot x y = c at h
  by_cases hc : c = 0
  · subst hc
    go_enter Tryd.func114, Tryd.ntmps114
    go_wp2
    go_ret
    exact ⟨by simp, rfl⟩
  · have hb0 : ((c : Int) == 0) = false := by simp; omega
    go_enter Tryd.func114, Tryd.ntmps114
    go_wp2
    go_ret
    exact ⟨by simp [hc], rfl⟩
attribute [local irreducible] p2 low memB risB blk blkM
set_option maxHeartbeats 16000000 in
theorem cnGet_c (P : Nat → Bool) (h0 : P 0 = false) (v : Value) (bb fb tb B : Nat) (hbf : bb ≠ fb) (hbt : bb ≠ tb) (hft : fb ≠ tb) (hBb : B ≤ bb) (hBf : B ≤ fb) (hBt : B ≤ tb) :
    ∀ f i s r t, puM P f (nth (setsTo P 128) i) 0 s = some (r, t) → i < (setsTo P 128).length → inN P s → (∀ j, s.nx j < 128) → ∀ (w : World), ints B w v (setsTo P 128) → B ≤ w.heap.size → blk 3 w bb (bfL P s) → blk 3 w fb (nxL P s) → blkM 4 w tb (trL P s) →
    Calls Tryd.prog 96 #[v, .slice (some ⟨bb, 0, none⟩) (setsTo P 128).length (setsTo P 128).length, .slice (some ⟨fb, 0, none⟩) (setsTo P 128).length (setsTo P 128).length, .slice (some ⟨tb, 0, none⟩) (setsTo P 128).length (setsTo P 128).length, .int .i64 (i : Int)] w fun e w' =>
      e = .returned (.bool r) ∧ blk 3 w' bb (bfL P t) ∧ blk 3 w' fb (nxL P t) ∧ blkM 4 w' tb (trL P t) ∧ Below B w w' := by
  intro f
  induction f using Nat.strongRecOn with
  | ind f ih =>
    intro i s r t hpu hi hin hnx w hl hBw hbb hfb htb
    have IH := hide ih
    have HPU0 := hide hpu
    have HIN0 := hide hin
    have HNX0 := hide hnx
    have HL := hide hl
    have HBF0 := hide hbb
    have HNB0 := hide hfb
    have HTR0 := hide htb
    have hL128 := setsTo_len P 128
    have HXI := hide (nth_val (P := P) hi)
    have hx8 := nth_lt128 (P := P) hi
    have hxP := nth_in (P := P) hi
    clear ih hpu hin hnx hl hbb hfb htb
    go_enter Tryd.func96, Tryd.ntmps96
    go_wp2_with (refine wpList_len sliceT rfl (.tmp _) rfl _ rfl w.heap.size (setsTo P 128) (HL.out.mono hBw) ?_)
    go_loopw [15] (fun z wr => ∃ (j g : Nat) (s' : Mst), j ≤ (setsTo P 128).length ∧ z = .int .i64 (j : Int) ∧ g ≤ f ∧ Hid (puM P g (nth (setsTo P 128) i) (frJ (setsTo P 128) j) s' = some (r, t)) ∧ Hid (inN P s' ∧ ∀ j, s'.nx j < 128) ∧ Hid (blk 3 wr bb (bfL P s')) ∧ Hid (blk 3 wr fb (nxL P s')) ∧ Hid (blkM 4 wr tb (trL P s')) ∧ Hid (Below B w wr)) (fun z _ => (setsTo P 128).length - (intOf z).toNat)
    case atStart => exact ⟨0, f, s, Nat.zero_le _, rfl, Nat.le_refl _, HPU0, ⟨HIN0.out, HNX0.out⟩, HBF0, HNB0, HTR0, Below.refl _ _⟩
    case round =>
      clear HPU0 HIN0 HNX0 HBF0 HNB0 HTR0
      obtain ⟨j, g, s', hj, rfl, hg, HPU, HIN, HBF, HNXB, HTR, HB⟩ := hrel
      have hsz := HB.out.size
      by_cases hlt : j < (setsTo P 128).length
      · have HLW := hide ((HL.out.below HB.out (Nat.le_refl _)).mono (show B ≤ wr.heap.size by omega))
        have HXJ := hide (nth_val (P := P) hlt)
        have hK8 := nth_lt128 (P := P) hlt
        have hKP := nth_in (P := P) hlt
        have hfr := frJ_le (P := P) hlt
        obtain ⟨g1, hg1, hpK⟩ := puM_skipTo (P := P) (nth (setsTo P 128) j - frJ (setsTo P 128) j) g (frJ (setsTo P 128) j) HPU.out (fun k' a b => frJ_gap (P := P) hj a (by omega) (fun _ => by omega))
        rw [show frJ (setsTo P 128) j + (nth (setsTo P 128) j - frJ (setsTo P 128) j) = nth (setsTo P 128) j by omega] at hpK
        have hcp := HTR.out.cell j (by rw [trL_len]; exact hlt)
        rw [trL_at s' hlt] at hcp
        have hcn := HNXB.out.cell j (by rw [nxL_len]; exact hlt)
        rw [nxL_at s' hlt] at hcn
        have hne : j = i ∨ nth (setsTo P 128) j ≠ nth (setsTo P 128) i := by
          by_cases e : j = i
          · exact .inl e
          · exact .inr fun e2 => e (nth_inj hlt hi e2)
        have HCP := hide (fun w1 => cnPartsW_c (nth (setsTo P 128) j) (nth (setsTo P 128) i) w1 hK8)
        obtain ⟨g2, e0, hcs⟩ := puM_cases hpK
        subst e0
        clear hpK
        have hbtr := HTR.out.free j
        have hbfr := HBF.out.free i
        have hnfr := HNXB.out.free j
        have hcb := HBF.out.cell i (by rw [bfL_len]; exact hi)
        have htb' := hbt.symm
        have hfb' := hbf.symm
        have htf' := hft.symm
        rcases hcs with ⟨a1, a2, a3⟩ | ⟨a1, a2, a3⟩ | ⟨a1, a2, a3, a4, a5⟩ | ⟨a1, a2, a3, r1, t1, a4, a5⟩
        · have HN2 := hide (show puM P (g2 + 1) (nth (setsTo P 128) i) (nth (setsTo P 128) j + 1) s' = some (r, t) by rw [a2, a3]; exact puM_end (by omega))
          by_cases e : j = i
          · subst e
            clear hne a1 a2 a3
            go_wp2_with (first
              | (refine wpList_at sliceT intS rfl (.tmp 13) (.tmp 15) rfl _ rfl j rfl wr.heap.size (setsTo P 128) HLW.out hlt ?_; intro ad hcell hblk; rw [HXJ.out] at hcell)
              | (refine wpList_at sliceT intS rfl (.tmp 25) (.tmp 26) rfl _ rfl i rfl wr.heap.size (setsTo P 128) HLW.out hi ?_; intro ad2 hcell2 hblk2; rw [HXI.out] at hcell2)
              | (go_at_call 114; refine (HCP.out _).mono ?_; rintro e w' ⟨rfl, rfl⟩)
              )
            go_roundw
            case rel => exact ⟨j + 1, g2 + 1, s', by omega, by go_num, by omega, hide (by rw [frJ_succ]; exact HN2.out), HIN, HBF, HNXB, HTR, HB⟩
            case measure => (simp [intOf] <;> omega)
          · have hij : ((i : Int) == (j : Int)) = false := by simp; omega
            have hKx : nth (setsTo P 128) j ≠ nth (setsTo P 128) i := fun e2 => e (nth_inj hlt hi e2)
            have hW : (andNot (nth (setsTo P 128) j) (nth (setsTo P 128) i) == 0) = false := by
              cases h : (andNot (nth (setsTo P 128) j) (nth (setsTo P 128) i) == 0)
              · rfl
              · have := part_leW (by simpa using h : andNot (nth (setsTo P 128) j) (nth (setsTo P 128) i) = 0); omega
            rw [hW] at HCP
            clear hne a1 a2 a3 hW hKx
            go_wp2_with (first
              | (refine wpList_at sliceT intS rfl (.tmp 13) (.tmp 15) rfl _ rfl j rfl wr.heap.size (setsTo P 128) HLW.out hlt ?_; intro ad hcell hblk; rw [HXJ.out] at hcell)
              | (refine wpList_at sliceT intS rfl (.tmp 25) (.tmp 26) rfl _ rfl i rfl wr.heap.size (setsTo P 128) HLW.out hi ?_; intro ad2 hcell2 hblk2; rw [HXI.out] at hcell2)
              | (go_at_call 114; refine (HCP.out _).mono ?_; rintro e w' ⟨rfl, rfl⟩)
              )
            go_roundw
            case rel => exact ⟨j + 1, g2 + 1, s', by omega, by go_num, by omega, hide (by rw [frJ_succ]; exact HN2.out), HIN, HBF, HNXB, HTR, HB⟩
            case measure => (simp [intOf] <;> omega)
        · have hijn : i ≠ j := fun e2 => by rw [e2] at a1; omega
          have hij : ((i : Int) == (j : Int)) = false := by simp; omega
          have HN2 := hide a3
          cases hW : (andNot (nth (setsTo P 128) j) (nth (setsTo P 128) i) == 0)
          · rw [hW] at HCP
            clear hne a1 a2 a3 hW
            go_wp2_with (first
              | (refine wpList_at sliceT intS rfl (.tmp 13) (.tmp 15) rfl _ rfl j rfl wr.heap.size (setsTo P 128) HLW.out hlt ?_; intro ad hcell hblk; rw [HXJ.out] at hcell)
              | (refine wpList_at sliceT intS rfl (.tmp 25) (.tmp 26) rfl _ rfl i rfl wr.heap.size (setsTo P 128) HLW.out hi ?_; intro ad2 hcell2 hblk2; rw [HXI.out] at hcell2)
              | (go_at_call 114; refine (HCP.out _).mono ?_; rintro e w' ⟨rfl, rfl⟩)
              )
            go_roundw
            case rel => exact ⟨j + 1, g2, s', by omega, by go_num, by omega, hide (by rw [frJ_succ]; exact HN2.out), HIN, HBF, HNXB, HTR, HB⟩
            case measure => (simp [intOf] <;> omega)
          · have htk : s'.tr (nth (setsTo P 128) j) = true := by
              unfold fitM at a2
              have : andNot (nth (setsTo P 128) j) (nth (setsTo P 128) i) = 0 := by simpa using hW
              rw [hKP, decide_eq_true this] at a2
              simpa using a2
            rw [hW] at HCP
            rw [htk] at hcp
            clear hne a1 a2 a3 hW htk
            go_wp2_with (first
              | (refine wpList_at sliceT intS rfl (.tmp 13) (.tmp 15) rfl _ rfl j rfl wr.heap.size (setsTo P 128) HLW.out hlt ?_; intro ad hcell hblk; rw [HXJ.out] at hcell)
              | (refine wpList_at sliceT intS rfl (.tmp 25) (.tmp 26) rfl _ rfl i rfl wr.heap.size (setsTo P 128) HLW.out hi ?_; intro ad2 hcell2 hblk2; rw [HXI.out] at hcell2)
              | (go_at_call 114; refine (HCP.out _).mono ?_; rintro e w' ⟨rfl, rfl⟩)
              )
            go_roundw
            case rel => exact ⟨j + 1, g2, s', by omega, by go_num, by omega, hide (by rw [frJ_succ]; exact HN2.out), HIN, HBF, HNXB, HTR, HB⟩
            case measure => (simp [intOf] <;> omega)
        · have hijn : i ≠ j := fun e2 => by rw [e2] at a1; omega
          have hij : ((i : Int) == (j : Int)) = false := by simp; omega
          obtain ⟨_, b2, b3⟩ := fitM_iff.1 a2
          have hW : (andNot (nth (setsTo P 128) j) (nth (setsTo P 128) i) == 0) = true := by rw [b2]; rfl
          rw [hW] at HCP
          rw [b3] at hcp
          rw [a3, ix_none h0] at hcn
          have HE := hide (show s'.bf = (s'.mark (nth (setsTo P 128) j)).bf from rfl)
          have HS := hide (show t = (s'.mark (nth (setsTo P 128) j)).put (nth (setsTo P 128) j) (nth (setsTo P 128) i) from a5)
          have HRR := hide (show true = r from a4.symm)
          clear hne a1 a2 a3 a4 a5 hW b2 b3
          go_wp2_with (first
            | (refine wpList_at sliceT intS rfl (.tmp 13) (.tmp 15) rfl _ rfl j rfl wr.heap.size (setsTo P 128) HLW.out hlt ?_; intro ad hcell hblk; rw [HXJ.out] at hcell)
            | (refine wpList_at sliceT intS rfl (.tmp 25) (.tmp 26) rfl _ rfl i rfl wr.heap.size (setsTo P 128) HLW.out hi ?_; intro ad2 hcell2 hblk2; rw [HXI.out] at hcell2)
            | (go_at_call 114; refine (HCP.out _).mono ?_; rintro e w' ⟨rfl, rfl⟩)
            )
          go_ret
          refine ⟨by rw [← HRR.out]; rfl, ?_, ?_, ?_, ?_⟩
          · rw [HS.out, ← bfL_put _ hi hlt]
            exact ((HBF.out.setOW ⟨tb, j, none⟩ hbt _).set i (j : Int)).setOW ⟨fb, j, none⟩ hbf _
          · rw [HS.out, ← nxL_put _ hi hlt]
            exact ((HNXB.out.setOW ⟨tb, j, none⟩ hft _).setOW ⟨bb, i, none⟩ hbf.symm _).set j (i : Int)
          · rw [HS.out]
            show blkM _ _ _ (trL P (s'.mark (nth (setsTo P 128) j)))
            rw [← trL_mark s' hlt]
            exact ((HTR.out.set j true).setO ⟨bb, i, none⟩ hbt.symm _).setO ⟨fb, j, none⟩ hft.symm _
          · exact ((HB.out.setCell (by show B ≤ tb; omega) _).setCell (by show B ≤ bb; omega) _).setCell (by show B ≤ fb; omega) _
        · have hijn : i ≠ j := fun e2 => by rw [e2] at a1; omega
          have hij : ((i : Int) == (j : Int)) = false := by simp; omega
          obtain ⟨_, b2, b3⟩ := fitM_iff.1 a2
          have hW : (andNot (nth (setsTo P 128) j) (nth (setsTo P 128) i) == 0) = true := by rw [b2]; rfl
          rw [hW] at HCP
          rw [b3] at hcp
          have hnxK := (HIN.out).2 (nth (setsTo P 128) j)
          have hnxP := (HIN.out).1 _ a3
          obtain ⟨i2, hi2, he2, hix2⟩ := nth_ix hnxK hnxP
          rw [hix2] at hcn
          have hi2n : ¬ ((i2 : Int) < 0) := by omega
          have hd2 : decide ((i2 : Int) < 0) = false := by simp
          have hb1 : Below B w (wr.setCell ⟨tb, j, none⟩ (.bool true)) := HB.out.setCell (by show B ≤ tb; omega) _
          have htr1 := HTR.out.set j true
          rw [trL_mark s' hlt] at htr1
          have HC := hide (IH.out g2 (by omega) i2 (s'.mark (nth (setsTo P 128) j)) r1 t1 (by rw [he2]; exact a4) hi2 HIN.out.1 HIN.out.2 (wr.setCell ⟨tb, j, none⟩ (.bool true)) (HL.out.below hb1 (Nat.le_refl _)) (by have := hb1.size; omega) (HBF.out.setOW ⟨tb, j, none⟩ hbt _) (HNXB.out.setOW ⟨tb, j, none⟩ hft _) htr1)
          have HIN1 := hide (show inN P t1 ∧ ∀ j, t1.nx j < 128 from ⟨puM_inN _ _ _ _ _ _ a4 hnxP HIN.out.1, puM_lt _ _ _ _ _ _ a4 hnxK HIN.out.2⟩)
          have HB1 := hide hb1
          clear hb1 htr1 hnxP hnxK he2 hix2 hW b2 b3 hne a2 a3 a4
          rcases a5 with ⟨c1, c2, c3⟩ | ⟨c1, c2⟩
          · subst c1
            have HS := hide c3
            have HRR := hide (show true = r from c2.symm)
            clear c2 c3
            go_wp2_with (first
              | (refine wpList_at sliceT intS rfl (.tmp 13) (.tmp 15) rfl _ rfl j rfl wr.heap.size (setsTo P 128) HLW.out hlt ?_; intro ad hcell hblk; rw [HXJ.out] at hcell)
              | (refine wpList_at sliceT intS rfl (.tmp 25) (.tmp 26) rfl _ rfl i rfl wr.heap.size (setsTo P 128) HLW.out hi ?_; intro ad2 hcell2 hblk2; rw [HXI.out] at hcell2)
              | (go_at_call 114; refine (HCP.out _).mono ?_; rintro e w' ⟨rfl, rfl⟩)
              | (go_at_call 96; refine HC.out.mono ?_; rintro e w4 ⟨rfl, hb4, hf4, ht4, hw4⟩; have HF4 := hide hf4; have HBB4 := hide hb4; have HT4 := hide ht4; have HB4 := hide (HB1.out.trans hw4); have xb := hb4.free i; have xf := hf4.free j; have yb := hb4.cell i (by rw [bfL_len]; exact hi); have yf := hf4.cell j (by rw [nxL_len]; exact hlt); clear hb4 hf4 ht4 hw4))
            go_ret
            refine ⟨by rw [← HRR.out]; rfl, ?_, ?_, ?_, ?_⟩
            · rw [HS.out, ← bfL_put _ hi hlt]
              exact (HBB4.out.set i (j : Int)).setOW ⟨fb, j, none⟩ hbf _
            · rw [HS.out, ← nxL_put _ hi hlt]
              exact (HF4.out.setOW ⟨bb, i, none⟩ hbf.symm _).set j (i : Int)
            · rw [HS.out]
              exact (HT4.out.setO ⟨bb, i, none⟩ hbt.symm _).setO ⟨fb, j, none⟩ hft.symm _
            · exact (HB4.out.setCell (by show B ≤ bb; omega) _).setCell (by show B ≤ fb; omega) _
          · subst c1
            have HN2 := hide c2
            clear c2
            go_wp2_with (first
              | (refine wpList_at sliceT intS rfl (.tmp 13) (.tmp 15) rfl _ rfl j rfl wr.heap.size (setsTo P 128) HLW.out hlt ?_; intro ad hcell hblk; rw [HXJ.out] at hcell)
              | (refine wpList_at sliceT intS rfl (.tmp 25) (.tmp 26) rfl _ rfl i rfl wr.heap.size (setsTo P 128) HLW.out hi ?_; intro ad2 hcell2 hblk2; rw [HXI.out] at hcell2)
              | (go_at_call 114; refine (HCP.out _).mono ?_; rintro e w' ⟨rfl, rfl⟩)
              | (go_at_call 96; refine HC.out.mono ?_; rintro e w4 ⟨rfl, hb4, hf4, ht4, hw4⟩; have HF4 := hide hf4; have HBB4 := hide hb4; have HT4 := hide ht4; have HB4 := hide (HB1.out.trans hw4); clear hb4 hf4 ht4 hw4))
            go_roundw
            case rel => exact ⟨j + 1, g2, t1, by omega, by go_num, by omega, hide (by rw [frJ_succ]; exact HN2.out), HIN1, HBB4, HF4, HT4, HB4⟩
            case measure => (simp [intOf] <;> omega)
      · have hjl : j = (setsTo P 128).length := by omega
        have hlt' : ¬ ((j : Int) < ((setsTo P 128).length : Int)) := by omega
        have hend : r = false ∧ t = s' := by
          rcases Nat.lt_or_ge (frJ (setsTo P 128) j) (nth (setsTo P 128) i) with e | e
          · exfalso
            unfold frJ at e
            rw [if_neg (by omega)] at e
            rcases Nat.lt_or_ge i (j - 1) with e2 | e2
            · have := nth_less (P := P) e2 (by omega); omega
            · rw [show i = j - 1 by omega] at e; omega
          · obtain ⟨g1, e0, hcs⟩ := puM_cases HPU.out
            rcases hcs with ⟨_, a2, a3⟩ | ⟨a1, _⟩ | ⟨a1, _⟩ | ⟨a1, _⟩
            · exact ⟨a2, a3⟩
            · omega
            · omega
            · omega
        have HR := hide (show false = r from hend.1.symm)
        have HS := hide hend.2
        clear hend hjl
        go_wp2
        go_ret
        exact ⟨by rw [← HR.out]; rfl, by rw [HS.out]; exact HBF.out, by rw [HS.out]; exact HNXB.out, by rw [HS.out]; exact HTR.out, HB.out⟩
end Go.Proofs.YtblglkgmnaklbaaDoor
/- Contracts: all sets are put behind others, the specification's. -/
namespace Go.Proofs.YtblglkgmnaklbaaDoor
open Go.RowKit
set_option maxRecDepth 100000
set_option linter.unusedSimpArgs false
theorem maTo_gap {P : Nat → Bool} {x : Nat} : ∀ d, (∀ k, x ≤ k → k < x + d → P k = false) → maTo P (x + d) = maTo P x
  | 0, _ => rfl
  | d + 1, h => by
    have h1 := maTo_no (P := P) (k := x + d) (h (x + d) (by omega) (by omega))
    rw [show x + (d + 1) = x + d + 1 by omega, h1]
    exact maTo_gap d fun k a b => h k a (by omega)
theorem maTo_frJ {P : Nat → Bool} {j : Nat} (hj : j < (setsTo P 128).length) : maTo P (nth (setsTo P 128) j) = maTo P (frJ (setsTo P 128) j) := by
  have h1 := frJ_le (P := P) hj
  have h2 := nth_lt128 (P := P) hj
  have h := maTo_gap (P := P) (x := frJ (setsTo P 128) j) (nth (setsTo P 128) j - frJ (setsTo P 128) j) (fun k a b => frJ_gap (P := P) (Nat.le_of_lt hj) a (by omega) (fun _ => by omega))
  rwa [show frJ (setsTo P 128) j + (nth (setsTo P 128) j - frJ (setsTo P 128) j) = nth (setsTo P 128) j by omega] at h
theorem frJ_128 (P : Nat → Bool) : frJ (setsTo P 128) (setsTo P 128).length ≤ 128 := by
  unfold frJ
  split
  · omega
  · rename_i e
    have := nth_lt128 (P := P) (j := (setsTo P 128).length - 1) (by omega)
    omega
theorem maTo_end (P : Nat → Bool) : maTo P 128 = maTo P (frJ (setsTo P 128) (setsTo P 128).length) := by
  have h1 := frJ_128 P
  have h := maTo_gap (P := P) (x := frJ (setsTo P 128) (setsTo P 128).length) (128 - frJ (setsTo P 128) (setsTo P 128).length) (fun k a b => frJ_gap (P := P) (Nat.le_refl _) a (by omega) (fun e => by omega))
  rwa [show frJ (setsTo P 128) (setsTo P 128).length + (128 - frJ (setsTo P 128) (setsTo P 128).length) = 128 by omega] at h
theorem maTo_next {P : Nat → Bool} {j : Nat} (hj : j < (setsTo P 128).length) : maTo P (frJ (setsTo P 128) (j + 1)) = maSt P (nth (setsTo P 128) j) (maTo P (frJ (setsTo P 128) j)) := by
  rw [frJ_succ, maTo_yes (nth_in hj), maTo_frJ hj]
/-- A list whose first k numbers are -1. -/
def ngL (n k : Nat) : List Int := List.replicate k (-1) ++ List.replicate (n - k) 0
theorem ngL_zero (n : Nat) : List.replicate n (0 : Int) = ngL n 0 := by simp [ngL]
theorem ngL_len {n k : Nat} (h : k ≤ n) : (ngL n k).length = n := by simp [ngL]; omega
theorem ngL_set {n k : Nat} (h : k < n) : (ngL n k).set k (-1) = ngL n (k + 1) := by
  unfold ngL
  rw [List.set_append_right _ _ (by simp), List.length_replicate, Nat.sub_self, show n - k = (n - (k + 1)) + 1 by omega, List.replicate_succ, List.set_cons_zero, List.replicate_succ' (n := k), List.append_assoc]
  rfl
theorem ngL_all (n : Nat) : ngL n n = List.replicate n (-1) := by simp [ngL]
theorem map_const {α β : Type} (l : List α) (c : β) : l.map (fun _ => c) = List.replicate l.length c := by
  induction l with
  | nil => rfl
  | cons a l ih => rw [List.map_cons, ih]; rfl
theorem bfL_new {P : Nat → Bool} (h0 : P 0 = false) : bfL P (maTo P 0) = List.replicate (setsTo P 128).length (-1) := by
  unfold bfL
  rw [← map_const]
  exact List.map_congr_left fun a _ => ix_none h0
theorem nxL_new {P : Nat → Bool} (h0 : P 0 = false) : nxL P (maTo P 0) = List.replicate (setsTo P 128).length (-1) := by
  unfold nxL
  rw [← map_const]
  exact List.map_congr_left fun a _ => ix_none h0
theorem trL_new {P : Nat → Bool} (s : Mst) : trL P s.fresh = List.replicate (setsTo P 128).length false := by
  unfold trL
  rw [← map_const]
  exact List.map_congr_left fun a _ => rfl
section
variable {P : Program}
theorem wpList_makeMarks {t I : TypeId} (ht : P.underlying t = some (.slice I)) (hI : (P.info? I).map (fun i => (i.zero, i.size, i.bytes)) = some (some (.bool false), 1, 1)) {ops : Array Oper} {rest : List Oper} {o : Oper} {a : Act} {w : World} {Q : Exit → Act → World → Prop}
    (hw : Region.wanted o (yielded ops a.tmps) = true) (x y : Operand) (ho : o.op = .makeSlice t x y) (n : Nat) (hx : a.eval x = .int .i64 (n : Int)) (hy : a.eval y = .int .i64 (n : Int)) (hn : n < 1000000000)
    (h : ∀ w' : World, w'.heap.size = w.heap.size + 1 → blkM I w' w.heap.size (List.replicate n false) → Below w.heap.size w w' → wpList P ops Q rest (a.put o.dst (.slice (some ⟨w.heap.size, 0, none⟩) n n)) w') : wpList P ops Q (o :: rest) a w := by
  obtain ⟨i0, hi, hz0, hz1, hz2⟩ : ∃ i, P.info? I = some i ∧ i.zero = some (.bool false) ∧ i.size = 1 ∧ i.bytes = 1 := by
    cases hq : P.info? I with
    | none => simp [hq] at hI
    | some j => simp [hq] at hI; exact ⟨j, rfl, hI.1, hI.2.1, hI.2.2⟩
  have hr := run_make (P := P) w t I i0 (.bool false) ht hi hz0 .i64 .i64 n n (by omega) (Int.le_refl _) (by rw [hz2]; omega) (by omega)
  simp only [Int.toNat_natCast] at hr
  refine wpList_of_wp hw fun K hK => ?_
  unfold Oper.wp execOp
  simp only [ho, hx, hy, Sem.run_bind, Sem.run_pure, hr, Result.andThen_ok]
  refine hK _ _ (h _ (by simp) ?_ ((Below.refl _ _).alloc (Nat.le_refl _) _))
  unfold blkM
  rw [hp_last]
  congr 2
  apply Array.toList_inj.1
  rw [hz1, Nat.mul_one]
  show (madeCells #[Value.bool false] n).toList = _
  rw [toList_madeCells_one]
  simp
end
theorem sliceM : Tryd.prog.underlying 119 = some (.slice 4) := Tryd.underlying119
theorem boolM : (Tryd.prog.info? 4).map (fun i => (i.zero, i.size, i.bytes)) = some (some (.bool false), 1, 1) := by kernel_rfl
attribute [local irreducible] p2 low memB risB blk blkM
set_option maxHeartbeats 16000000 in
theorem cnMatch_c (P : Nat → Bool) (h0 : P 0 = false) (hP : ∀ x, P x = true → x < 128) (v : Value) (w : World) (hl : ints w.heap.size w v (setsTo P 128)) :
    Calls Tryd.prog 63 #[v] w fun e w' => ∃ g, e = .returned (.slice (some ⟨g, 0, none⟩) (setsTo P 128).length (setsTo P 128).length) ∧ w.heap.size ≤ g ∧ blk 3 w' g (bfL P (maTo P 128)) ∧ Below w.heap.size w w' := by
  have HL := hide hl
  have hL128 := setsTo_len P 128
  have HAT := hide (fun k => maTo_at h0 hP k)
  have HST := hide (fun k (h : P k = true) => maSt_some h0 hP (maTo_at h0 hP k) h)
  have HNB := hide (bfL_new h0)
  have HNN := hide (nxL_new h0)
  have HEND := hide (maTo_end P)
  clear hl
  go_enter Tryd.func63, Tryd.ntmps63
  go_wp2_with (first
    | (refine wpList_len sliceT rfl (.tmp 7) rfl _ rfl w.heap.size (setsTo P 128) HL.out ?_)
    | (refine wpList_makeInts sliceT intI rfl (.tmp 8) (.tmp 8) rfl (setsTo P 128).length rfl rfl (by omega) ?_; intro w1 hz1 hm1 hb1; have hy1 : w.heap.size < w1.heap.size := (by omega); have HM1 := hide hm1; have HB1 := hide hb1; have HL1 := hide ((HL.out.below hb1 (Nat.le_refl _)).mono hb1.size); clear hm1 hb1 hz1)
    | (refine wpList_len sliceT rfl (.tmp 10) rfl _ rfl w1.heap.size (setsTo P 128) HL1.out ?_)
    | (refine wpList_makeInts sliceT intI rfl (.tmp 11) (.tmp 11) rfl (setsTo P 128).length rfl rfl (by omega) ?_; intro w2 hz2 hm2 hb2; have hy2 : w1.heap.size < w2.heap.size := (by omega); have HM2 := hide (HM1.out.below hb2 (by omega)); have HN2 := hide hm2; have HB2 := hide (HB1.out.trans (hb2.mono HB1.out.size)); have HL2 := hide ((HL1.out.below hb2 (Nat.le_refl _)).mono hb2.size); clear hm2 hb2 hz2)
    | (refine wpList_len sliceT rfl (.tmp 13) rfl _ rfl w2.heap.size (setsTo P 128) HL2.out ?_))
  go_loopw [15] (fun z wr => ∃ k : Nat, k ≤ (setsTo P 128).length ∧ z = .int .i64 (k : Int) ∧ Hid (blk 3 wr w.heap.size (ngL (setsTo P 128).length k)) ∧ Hid (blk 3 wr w1.heap.size (ngL (setsTo P 128).length k)) ∧ Hid (w2.heap.size ≤ wr.heap.size) ∧ Hid (Below w.heap.size w wr)) (fun z _ => (setsTo P 128).length - (intOf z).toNat)
  case atStart => exact ⟨0, Nat.zero_le _, rfl, hide (by rw [← ngL_zero]; exact HM2.out), hide (by rw [← ngL_zero]; exact HN2.out), Nat.le_refl _, HB2⟩
  case round =>
    clear HM2 HN2 HB2 HM1 HB1 HL1
    obtain ⟨k, hk, rfl, HM, HN, HZ, HB⟩ := hrel
    have hz := HZ.out
    by_cases hlt : k < (setsTo P 128).length
    · have c0 := HM.out.cell k (by rw [ngL_len hk]; exact hlt)
      have c1 := HN.out.cell k (by rw [ngL_len hk]; exact hlt)
      have f0 := HM.out.free k
      have f1 := HN.out.free k
      have hne : w.heap.size ≠ w1.heap.size := by omega
      have hne2 : w1.heap.size ≠ w.heap.size := by omega
      have HS := hide (ngL_set hlt)
      go_wp2_with fail
      go_roundw
      case rel => exact ⟨k + 1, by omega, by go_num, hide (by rw [← HS.out]; exact (HM.out.set k (-1)).setOW _ (by show w.heap.size ≠ w1.heap.size; omega) _), hide (by rw [← HS.out]; exact (HN.out.setOW _ (by show w1.heap.size ≠ w.heap.size; omega) _).set k (-1)), hide (by simpa [World.setCell] using hz), hide ((HB.out.setCell (by show w.heap.size ≤ w.heap.size; omega) _).setCell (by show w.heap.size ≤ w1.heap.size; omega) _)⟩
      case measure => (simp [intOf] <;> omega)
    · have hkl : k = (setsTo P 128).length := by omega
      subst hkl
      have HM3 := hide (show blk 3 wr w.heap.size (bfL P (maTo P (frJ (setsTo P 128) 0))) by rw [show frJ (setsTo P 128) 0 = 0 from rfl, HNB.out, ← ngL_all]; exact HM.out)
      have HN3 := hide (show blk 3 wr w1.heap.size (nxL P (maTo P (frJ (setsTo P 128) 0))) by rw [show frJ (setsTo P 128) 0 = 0 from rfl, HNN.out, ← ngL_all]; exact HN.out)
      have HLr := hide ((HL.out.below HB.out (Nat.le_refl _)).mono HB.out.size)
      clear hlt hk
      go_wp2_with (refine wpList_len sliceT rfl (.tmp 25) rfl _ rfl wr.heap.size (setsTo P 128) HLr.out ?_)
      go_loopw [27] (fun z wq => ∃ k : Nat, k ≤ (setsTo P 128).length ∧ z = .int .i64 (k : Int) ∧ Hid (blk 3 wq w.heap.size (bfL P (maTo P (frJ (setsTo P 128) k)))) ∧ Hid (blk 3 wq w1.heap.size (nxL P (maTo P (frJ (setsTo P 128) k)))) ∧ Hid (w2.heap.size ≤ wq.heap.size) ∧ Hid (Below w.heap.size w wq)) (fun z _ => (setsTo P 128).length - (intOf z).toNat)
      case atStart => exact ⟨0, Nat.zero_le _, rfl, HM3, HN3, HZ, HB⟩
      case round =>
        clear HM HN HM3 HN3 HZ HB HLr hz
        obtain ⟨k, hk, rfl, HM, HN, HZ, HB⟩ := hrel
        have hz := HZ.out
        by_cases hlt : k < (setsTo P 128).length
        · have hxk := nth_in (P := P) hlt
          have hat := HAT.out (nth (setsTo P 128) k)
          obtain ⟨r, hpu, _⟩ := HST.out (nth (setsTo P 128) k) hxk
          have HLW := hide ((HL.out.below HB.out (Nat.le_refl _)).mono HB.out.size)
          have HNE := hide (maTo_next hlt)
          have hfj := maTo_frJ (P := P) hlt
          have hin : inN P (maTo P (nth (setsTo P 128) k)).fresh := fun j hj => (hat.ok.w j hj).2.1
          have HG := hide (fun (w' : World) (q1 : Below wr.heap.size wr w') (q2 : w'.heap.size = wr.heap.size + 1) (q3 : blkM 4 w' wr.heap.size (List.replicate (setsTo P 128).length false)) =>
            cnGet_c P h0 v w.heap.size w1.heap.size wr.heap.size w.heap.size (by omega) (by omega) (by omega) (by omega) (by omega) (by omega) fuM k (maTo P (nth (setsTo P 128) k)).fresh r _ hpu hlt hin hat.lt w' (HL.out.below (HB.out.trans (q1.mono (by omega))) (Nat.le_refl _)) (by omega)
              (show blk 3 w' w.heap.size (bfL P (maTo P (nth (setsTo P 128) k))) by rw [hfj]; exact HM.out.below q1 (by omega)) (show blk 3 w' w1.heap.size (nxL P (maTo P (nth (setsTo P 128) k))) by rw [hfj]; exact HN.out.below q1 (by omega)) (by rw [trL_new]; exact q3))
          have HFJ := hide hfj
          clear hat hpu hin hfj hxk
          go_wp2_with (first
            | (refine wpList_len sliceT rfl (.tmp 33) rfl _ rfl wr.heap.size (setsTo P 128) HLW.out ?_)
            | (refine wpList_makeMarks sliceM boolM rfl (.tmp 34) (.tmp 34) rfl (setsTo P 128).length rfl rfl (by omega) ?_; intro w4 hz4 hm4 hb4; have HG4 := hide (HG.out w4 hb4 hz4 hm4); have HB4 := hide (HB.out.trans (hb4.mono (by omega))); have hy4 : wr.heap.size < w4.heap.size := (by omega); clear hm4 hb4 hz4)
            | (go_at_call 96; refine HG4.out.mono ?_; rintro e w5 ⟨rfl, hm5, hn5, _, hb5⟩; have hz5 := hb5.size; have HM5 := hide hm5; have HN5 := hide hn5; have HB5 := hide (HB4.out.trans hb5); clear hm5 hn5 hb5))
          go_roundw
          case rel => exact ⟨k + 1, by omega, by go_num, hide (by rw [HNE.out, ← HFJ.out]; exact HM5.out), hide (by rw [HNE.out, ← HFJ.out]; exact HN5.out), hide (by omega), HB5⟩
          case measure => (simp [intOf] <;> omega)
        · have hkl : k = (setsTo P 128).length := by omega
          subst hkl
          clear hlt hk
          go_wp2
          go_ret
          exact ⟨_, rfl, Nat.le_refl _, by rw [HEND.out]; exact HM.out, HB.out⟩
end Go.Proofs.YtblglkgmnaklbaaDoor
/- Contracts: the chains, the program's. -/
namespace Go.Proofs.YtblglkgmnaklbaaDoor
open Go.RowKit
set_option maxRecDepth 100000
set_option linter.unusedSimpArgs false
/-- A set, the one behind it, and so on. -/
def chW (nx : Nat → Nat) : Nat → Nat → List Int
  | 0, _ => []
  | f + 1, x => if x = 0 then [] else (x : Int) :: chW nx f (nx x)
theorem chW_zero (nx : Nat → Nat) : ∀ f, chW nx f 0 = []
  | 0 => rfl
  | f + 1 => by rw [chW, if_pos rfl]
theorem chW_step {nx : Nat → Nat} {f x : Nat} (hx : x ≠ 0) : chW nx (f + 1) x = (x : Int) :: chW nx f (nx x) := by rw [chW, if_neg hx]
theorem chW_len (nx : Nat → Nat) : ∀ f x, (chW nx f x).length ≤ f
  | 0, _ => Nat.le_refl _
  | f + 1, x => by
    rw [chW]
    split
    · simp
    · simp [chW_len nx f (nx x)]
/-- The chains, by their first sets. -/
def chR (F : Nat → Bool) (nx : Nat → Nat) : List (List Int) := (setsTo F 128).map fun a => chW nx 128 a.toNat
theorem chR_len (F : Nat → Bool) (nx : Nat → Nat) : (chR F nx).length = (setsTo F 128).length := by simp [chR]
theorem chR_take (F : Nat → Bool) (nx : Nat → Nat) (k : Nat) (hk : k < (setsTo F 128).length) : (chR F nx).take k ++ [chW nx 128 (nth (setsTo F 128) k)] = (chR F nx).take (k + 1) := by
  rw [List.take_add_one]
  congr 1
  unfold chR nth
  simp [hk]
def lenW : Value → Nat
  | .slice _ n _ => n
  | _ => 0
theorem own.lenW {I : TypeId} {w : World} {base : Nat} {v : Value} {l : List Int} (h : own I w base v l) : lenW v = l.length := by
  obtain ⟨a, c, e⟩ := h.shape
  rw [e]; rfl
attribute [local irreducible] p2 low memB risB chg nxV famAt own own2
set_option maxHeartbeats 16000000 in
theorem chains_c (m : Nat) (P : Nat → Bool) (nx : Nat → Nat) (g : Nat) (w : World) (hc : chgAt 100 w g (m : Int) P nx) (hnx : ∀ j, nx j < 128) (hup : ∀ j, nx j ≠ 0 → j < nx j) :
    Calls Tryd.prog 72 #[.pointer (some ⟨g, 0, none⟩)] w fun e w' => ∃ v, e = .returned v ∧ own2 22 3 w' w.heap.size v (chR (rmTo P nx 128) nx) ∧ Below w.heap.size w w' := by
  have HC := hide hc
  have hlt := hc.lt
  have HFI := hide (firsts_c m P nx g w hc hnx)
  have HNX := hide hnx
  have HUP := hide hup
  have hL128 := setsTo_len (rmTo P nx 128) 128
  clear hc hnx hup
  generalize rmTo P nx 128 = F at *
  have HTK := hide (fun k hk => chR_take F nx k hk)
  have HRL := hide (chR_len F nx)
  have HRG := hide (setsTo_range F 128)
  go_enter Tryd.func72, Tryd.ntmps72
  go_wp2_with (first
    | (go_at_call 101; refine HFI.out.mono ?_; rintro e w1 ⟨v1, rfl, ho1, hb1⟩; have HI1 := hide ho1.ints; have HB1 := hide hb1; have hz1 := hb1.size; clear ho1 hb1)
    | (refine wpList_len sliceT rfl (.tmp _) rfl _ rfl w1.heap.size (setsTo F 128) HI1.out ?_))
  go_loopw [3, 11] (fun o i wr => ∃ k : Nat, k ≤ (setsTo F 128).length ∧ i = .int .i64 (k : Int) ∧ Hid (own2 22 3 wr w1.heap.size o ((chR F nx).take k)) ∧ Hid (Below w1.heap.size w1 wr)) (fun _ i _ => (setsTo F 128).length - (intOf i).toNat)
  case atStart => exact ⟨0, Nat.zero_le _, rfl, own2_nil _ _ _ _, Below.refl _ _⟩
  case round =>
    obtain ⟨k, hk, rfl, HO, HB⟩ := hrel
    have hsz := HB.out.size
    by_cases hkl : k < (setsTo F 128).length
    · have hr := HRG.out k hkl
      have hx : (setsTo F 128)[k]?.getD 0 = (nth (setsTo F 128) k : Int) := by unfold nth; omega
      have HX := hide hx
      have HT := hide (HTK.out k hkl)
      have hx8 : nth (setsTo F 128) k < 128 := by rw [hx] at hr; omega
      have HIW := hide (HI1.out.below HB.out (Nat.le_refl _))
      have hAl : ((chR F nx).take k).length ≤ 128 := by rw [List.length_take]; omega
      generalize nth (setsTo F 128) k = x0 at *
      have hz2 : w1.heap.size ≤ wr.heap.size := hsz
      clear hx hr
      go_wp2_with (refine wpList_at sliceT intS rfl (.tmp _) (.tmp _) rfl _ rfl k rfl w1.heap.size (setsTo F 128) HIW.out hkl ?_; intro ad hcell hblk; rw [HX.out] at hcell)
      obtain ⟨W0, rfl⟩ : ∃ W0 : World, W0 = wr := ⟨wr, rfl⟩
      go_loopw [6, 7] (fun o z wq => ∃ (A : List Int) (x f : Nat), z = .int .i64 (x : Int) ∧ x < 128 ∧ (x = 0 ∨ 128 ≤ f + x) ∧ A.length + f ≤ 128 ∧ Hid (A ++ chW nx f x = chW nx 128 x0) ∧ Hid (own 3 wq W0.heap.size o A) ∧ Hid (Below W0.heap.size W0 wq)) (fun o _ _ => 129 - lenW o)
      case atStart => exact ⟨[], x0, 128, rfl, hx8, .inr (by omega), by simp, rfl, own_nil _ _ _, Below.refl _ _⟩
      case round =>
        obtain ⟨A, x, f, rfl, hx8', hxf, hAf, HA, HO2, HB2⟩ := hrel
        have hsz2 := HB2.out.size
        obtain ⟨ca, cc, hcv⟩ := HO2.out.shape
        subst hcv
        by_cases h0 : x = 0
        · subst h0
          have HE := hide (show A = chW nx 128 x0 by have := HA.out; rwa [chW_zero, List.append_nil] at this)
          clear hxf
          go_wp2_with (at_builtin; refine wpList_append2 sliceT2 rowI2 (by decide) rfl (.tmp 28) (.tmp 30) rfl w1.heap.size _ _ rfl W0 HO.out (HB2.out.alloc (by omega) _) _ (.slice ca A.length cc) A rfl (by simp [go_sem]) (HO2.out.alloc _) (by omega) (by omega) ?_; intro v6 w6 ho6 hb6 _ _; have HO6 := hide ho6; have HB6 := hide ((HB.out.trans ((HB2.out.alloc (by omega) _).mono hsz)).trans hb6); clear ho6 hb6)
          go_roundw
          case rel => exact ⟨k + 1, by omega, by go_num, hide (by rw [← HT.out, ← HE.out]; exact HO6.out), HB6⟩
          case measure => (simp [intOf] <;> omega)
        · obtain ⟨f', rfl⟩ : ∃ f', f = f' + 1 := ⟨f - 1, by omega⟩
          have HLV := hide HO2.out.lenW
          have HS := hide (show (A ++ [(x : Int)]) ++ chW nx f' (nx x) = chW nx 128 x0 by have := HA.out; rw [chW_step h0] at this; rw [← this]; simp)
          have hn8 := HNX.out x
          have hnu : nx x = 0 ∨ 128 ≤ f' + nx x := by
            by_cases e : nx x = 0
            · exact .inl e
            · have := HUP.out x e; omega
          have hcx := ((HB1.out.trans (HB.out.mono hz1)).trans (HB2.out.mono (show w.heap.size ≤ W0.heap.size by omega)))
          have HCW := hide (show chgAt 100 wr g (m : Int) P nx from (hcx.block g hlt).trans HC.out)
          have hx0 : ¬ ((x : Int) = 0) := by omega
          have hxb : ((x : Int) != 0) = true := by simp; omega
          have hAl2 : A.length < 1000000000 := by omega
          clear hcx hxf
          generalize hY : nx x = y at *
          have HY := hide hY
          clear hY
          have c1 := HCW.out.getN x hx8'
          rw [HY.out] at c1
          go_wp2_with (at_builtin; refine wpList_append1 sliceT intI rfl _ _ rfl W0.heap.size _ _ rfl (HO2.out.alloc _) _ (x : Int) rfl (by simp [go_sem]) (by simp; omega) hAl2 ?_; intro v4 w4 ho4 hb4; have hb5 := ((Below.refl W0.heap.size wr).alloc (by omega) _).trans hb4; have c2 := (hb5.cell (p := ⟨g, 129 + x, none⟩) (by show g < W0.heap.size; omega)).trans c1; have HO4 := hide ho4; have HB4 := hide (HB2.out.trans hb5); clear ho4 hb4 hb5 c1)
          go_roundw
          case rel => exact ⟨A ++ [(x : Int)], y, f', rfl, hn8, hnu, by simp; omega, HS, HO4, HB4⟩
          case measure =>
            have h1 := HO4.out.lenW
            have h2 := HLV.out
            simp at h1
            omega
    · have hke : k = (setsTo F 128).length := by omega
      have HE := hide (show (chR F nx).take k = chR F nx from List.take_of_length_le (by rw [HRL.out]; omega))
      go_wp2
      go_ret
      exact ⟨_, rfl, by rw [← HE.out]; exact HO.out.mono hz1, HB1.out.trans (HB.out.mono hz1)⟩
end Go.Proofs.YtblglkgmnaklbaaDoor
/- Contracts: irreducible sets and their chains, the specification's. -/
namespace Go.Proofs.YtblglkgmnaklbaaDoor
open Go.RowKit
set_option maxRecDepth 100000
set_option linter.unusedSimpArgs false
def irS (l : List Int) (s : Nat) : Bool := pc (itemsOf (innerSp l s) 7) == 1
attribute [local irreducible] p2 low memB risB own
set_option maxHeartbeats 1000000 in
theorem cnIrreducible_c (n : Int) (v : Value) (l : List Int) (w : World) (hl : ints w.heap.size w v l) (hinc : inc l) (hlen : l.length < 1000000) (hr : ∀ j, j < l.length → 0 ≤ l[j]?.getD 0 ∧ l[j]?.getD 0 < 128) :
    Calls Tryd.prog 34 #[.agg #[.int .i64 n, v]] w fun e w' => ∃ v', e = .returned v' ∧ own 3 w' w.heap.size v' (paTo (irS l) l l.length) ∧ Below w.heap.size w w' := by
  have HL := hide (hl.alloc (.cells #[.int .i64 n, v] 29))
  have HI := hide hinc
  have HR := hide hr
  have H0 := hide ((Below.refl w.heap.size w).alloc (Nat.le_refl _) (.cells #[.int .i64 n, v] 29))
  have HS0 := hide (hp_last w (.cells #[.int .i64 n, v] 29))
  have HZ := hide (show (w.alloc (.cells #[.int .i64 n, v] 29)).heap.size = w.heap.size + 1 by simp)
  have hc0 := cells_at0 HS0.out
  have hc1 := cells_at1 HS0.out
  clear hl hinc hr
  go_enter Tryd.func34, Tryd.ntmps34
  go_wp2_with (refine wpList_len sliceT rfl (.tmp _) rfl v rfl w.heap.size l HL.out ?_)
  go_loopw [3, 9] (fun o i wr => ∃ k : Nat, k ≤ l.length ∧ i = .int .i64 (k : Int) ∧ Hid (own 3 wr (w.heap.size + 1) o (paTo (irS l) l k)) ∧ Hid (Below (w.heap.size + 1) (w.alloc (.cells #[.int .i64 n, v] 29)) wr)) (fun _ i _ => l.length - (intOf i).toNat)
  case atStart => exact ⟨0, by omega, rfl, own_nil _ _ _, (Below.refl _ _)⟩
  case round =>
    obtain ⟨j, hj, rfl, HO, HB⟩ := hrel
    have hsz := HB.out.size
    rw [HZ.out] at hsz
    have HLW := hide (HL.out.below HB.out (by omega))
    have HSW := hide ((HB.out.block w.heap.size (by omega)).trans HS0.out)
    have d0 := cells_at0 HSW.out
    have d1 := cells_at1 HSW.out
    have hlen2 := paTo_len (irS l) l j
    clear hc0 hc1
    by_cases hlt : j < l.length
    · have hx := HR.out j hlt
      have HN := hide (show paTo (irS l) l (j + 1) = if irS l (nth l j) = true then paTo (irS l) l j ++ [l[j]?.getD 0] else paTo (irS l) l j from rfl)
      have hnx : (nth l j : Int) = l[j]?.getD 0 := by unfold nth; omega
      have hnl : nth l j < 128 := by unfold nth; omega
      have hi7 : itemsOf (innerSp l (nth l j)) 7 < 128 := itemsOf_lt _ 7
      have HQ := hide (show irS l (nth l j) = (pc (itemsOf (innerSp l (nth l j)) 7) == 1) from rfl)
      have HSI : Hid (∀ (w1 : World), ints w1.heap.size w1 v l → Calls Tryd.prog 62 #[v, .int .i64 (nth l j : Int)] w1 fun e w' => e = .returned (.int .i64 (itemsOf (innerSp l (nth l j)) 7 : Int)) ∧ w1 = w') := hide fun w1 h1 => by
        have := spInner_c v l (nth l j : Int) w1 h1 HI.out (by omega) (by omega) (by omega)
        rw [Int.toNat_natCast] at this
        exact this
      generalize itemsOf (innerSp l (nth l j)) 7 = I at hi7 HQ HSI
      have HSC : Hid (∀ (w1 : World), Calls Tryd.prog 64 #[.int .i64 (I : Int)] w1 fun e w' => e = .returned (.int .i64 (pc I : Int)) ∧ w1 = w') := hide fun w1 => by
        have := spCount_c (I : Int) w1 (by omega) (by omega)
        rw [Int.toNat_natCast] at this
        exact this
      generalize pc I = C at HQ HSC
      generalize paTo (irS l) l j = A at HO HN hlen2
      generalize hX : nth l j = x at HN HQ HSI hnx
      have HXX := hide hnx
      clear hX hx hnx hnl
      by_cases hp : C = 1
      · have HPP := hide (show irS l x = true by rw [HQ.out, hp]; rfl)
        subst hp
        go_wp2_with (first
          | (refine wpList_at sliceT intS rfl (.tmp 7) (.tmp 9) rfl v rfl j rfl w.heap.size l HLW.out hlt ?_; intro ad hcell hblk; rw [← HXX.out] at hcell)
          | (go_at_call 62; refine (HSI.out _ (HLW.out.mono (by omega))).mono ?_; rintro e w' ⟨rfl, rfl⟩)
          | (go_at_call 64; refine (HSC.out _).mono ?_; rintro e w' ⟨rfl, rfl⟩)
          | (at_builtin; refine wpList_append1 sliceT intI rfl _ _ rfl (w.heap.size + 1) _ _ rfl (HO.out.alloc _) _ (x : Int) rfl (by simp [go_sem]) (by simp; omega) (by omega) ?_; intro v4 w4 ho4 hb4; have HO4 := hide ho4; have HB4 := hide ((HB.out.alloc (by omega) _).trans hb4); clear ho4 hb4))
        go_roundw
        case rel => exact ⟨j + 1, by omega, by go_num, by rw [HN.out, HPP.out, ← HXX.out]; exact HO4.out, HB4.out⟩
        case measure => simp [intOf]; omega
      · have HPP := hide (show irS l x = false by rw [HQ.out]; simpa using hp)
        have hp2 : ((C : Int) == 1) = false := by simp; omega
        go_wp2_with (first
          | (refine wpList_at sliceT intS rfl (.tmp 7) (.tmp 9) rfl v rfl j rfl w.heap.size l HLW.out hlt ?_; intro ad hcell hblk; rw [← HXX.out] at hcell)
          | (go_at_call 62; refine (HSI.out _ (HLW.out.mono (by omega))).mono ?_; rintro e w' ⟨rfl, rfl⟩)
          | (go_at_call 64; refine (HSC.out _).mono ?_; rintro e w' ⟨rfl, rfl⟩))
        go_roundw
        case rel => exact ⟨j + 1, by omega, by go_num, by rw [HN.out, HPP.out]; exact HO.out, HB.out⟩
        case measure => simp [intOf]; omega
    · have HJ := hide (show j = l.length by omega)
      have hlt' : ¬ ((j : Int) < (l.length : Int)) := by omega
      clear hlen2
      go_wp2
      go_ret
      exact ⟨_, rfl, by rw [← HJ.out]; exact HO.out.mono (by omega), H0.out.trans (HB.out.mono (by omega))⟩
/-- The irreducible sets are the paths. -/
theorem irS_sets {m : Nat} {l : List Int} (h : okSp (m : Int) l = true) : paTo (irS l) l l.length = setsTo (phF m (marksTo l l.length)) 128 := by
  have hn := okSp_n h
  have hp := p2_le m 7 (by omega)
  unfold phF
  rw [sets_cut _ _ (by omega)]
  have e := paTo_sp h (irS l) (pathF (marksTo l l.length) m) (fun x hx hm => by
    have h1 := path_same h x hx
    rw [Int.toNat_natCast] at h1
    rw [h1]
    unfold pathSp irS
    have : memB l (x : Int) = true := by rw [← okSp_marks h x]; exact hm
    rw [this, Bool.true_and]) (fun x hx => by unfold pathF at hx; rw [Bool.and_eq_true] at hx; exact hx.1)
  rw [Int.toNat_natCast] at e
  exact e
end Go.Proofs.YtblglkgmnaklbaaDoor
/- Contracts: the chains of irreducible sets, the specification's. -/
namespace Go.Proofs.YtblglkgmnaklbaaDoor
open Go.RowKit
set_option maxRecDepth 100000
set_option linter.unusedSimpArgs false
section
variable {P : Nat → Bool} {s : Mst} (h0 : P 0 = false) (hP : ∀ x, P x = true → x < 128) (hs : OkM P s)
include h0 hP hs
/-- The sets that are behind none. -/
theorem rm_bf (x : Nat) : rmTo P s.nx 128 x = (P x && (s.bf x == 0)) := by
  rw [Bool.eq_iff_iff, rmTo_iff, Bool.and_eq_true, beq_iff_eq]
  constructor
  · rintro ⟨h1, h2⟩
    refine ⟨h1, ?_⟩
    by_cases e : s.bf x = 0
    · exact e
    · have h3 := hs.b x e
      have hx0 : x ≠ 0 := fun e2 => by rw [e2, h0] at h1; cases h1
      have h4 := (hs.w (s.bf x) (by rw [h3]; exact hx0)).1
      exact absurd h3 (h2 _ (hP _ h4))
  · rintro ⟨h1, h2⟩
    refine ⟨h1, fun j _ e => ?_⟩
    have hx0 : x ≠ 0 := fun e2 => by rw [e2, h0] at h1; cases h1
    have hne : s.nx j ≠ 0 := by rw [e]; exact hx0
    have h3 := hs.a j hne
    rw [e, h2] at h3
    have h4 := (hs.w j hne).1
    rw [← h3, h0] at h4; cases h4
/-- The one that is behind a set, by indices. -/
theorem bf_at {a k : Nat} (ha : a < (setsTo P 128).length) (hk : k < (setsTo P 128).length) : ixP P (s.bf (nth (setsTo P 128) k)) = (a : Int) ↔ ixP P (s.nx (nth (setsTo P 128) a)) = (k : Int) := by
  have hk0 : nth (setsTo P 128) k ≠ 0 := fun e => by have := nth_in (P := P) hk; rw [e, h0] at this; cases this
  constructor
  · intro h
    have hb : s.bf (nth (setsTo P 128) k) ≠ 0 := fun e => by rw [e, ix_none h0] at h; omega
    have h1 := hs.b _ hb
    have h2 := (hs.w (s.bf (nth (setsTo P 128) k)) (by rw [h1]; exact hk0)).1
    obtain ⟨j, hj, he, hi⟩ := nth_ix (hP _ h2) h2
    rw [hi] at h
    have : j = a := by omega
    subst this
    rw [he, h1, ix_nth hk]
  · intro h
    have hn : s.nx (nth (setsTo P 128) a) ≠ 0 := fun e => by rw [e, ix_none h0] at h; omega
    have h2 := (hs.w _ hn).2.1
    obtain ⟨j, hj, he, hi⟩ := nth_ix (hP _ h2) h2
    rw [hi] at h
    have : j = k := by omega
    subst this
    rw [he, hs.a _ hn, ix_nth ha]
end
/-- What the search among the first k finds. -/
def nqT (q : Int) (k : Nat) : Int := if 0 ≤ q ∧ q < (k : Int) then q else -1
theorem nqT_yes {q : Int} {k : Nat} (h : (k : Int) = q) : nqT q (k + 1) = (k : Int) := by unfold nqT; rw [if_pos (by omega)]; omega
theorem nqT_no {q : Int} {k : Nat} (h : ¬ (k : Int) = q) : nqT q (k + 1) = nqT q k := by
  unfold nqT
  by_cases e : 0 ≤ q ∧ q < (k : Int)
  · rw [if_pos e, if_pos (by omega)]
  · rw [if_neg e, if_neg (by omega)]
theorem setsTo_noW {F : Nat → Bool} {x : Nat} (h : ¬ F x = true) : setsTo F (x + 1) = setsTo F x := by simp [setsTo, h]
/-- The chains of the first sets below a number. -/
def chT (F : Nat → Bool) (nx : Nat → Nat) (k : Nat) : List (List Int) := (setsTo F k).map fun a => chW nx 128 a.toNat
theorem sets_gapW {F : Nat → Bool} {x : Nat} : ∀ d, (∀ k, x ≤ k → k < x + d → F k = false) → setsTo F (x + d) = setsTo F x
  | 0, _ => rfl
  | d + 1, h => by
    rw [show x + (d + 1) = x + d + 1 by omega]
    have h1 := h (x + d) (by omega) (by omega)
    rw [setsTo_noW (by rw [h1]; simp)]
    exact sets_gapW d fun k a b => h k a (by omega)
theorem chT_next {P F : Nat → Bool} (hF : ∀ x, F x = true → P x = true) {nx : Nat → Nat} {j : Nat} (hj : j < (setsTo P 128).length) :
    chT F nx (frJ (setsTo P 128) (j + 1)) = if F (nth (setsTo P 128) j) = true then chT F nx (frJ (setsTo P 128) j) ++ [chW nx 128 (nth (setsTo P 128) j)] else chT F nx (frJ (setsTo P 128) j) := by
  have h1 := frJ_le (P := P) hj
  have h2 := nth_lt128 (P := P) hj
  have hg := sets_gapW (F := F) (x := frJ (setsTo P 128) j) (nth (setsTo P 128) j - frJ (setsTo P 128) j) (fun k a b => by
    cases e : F k
    · rfl
    · have := frJ_gap (P := P) (Nat.le_of_lt hj) a (by omega) (fun _ => by omega)
      rw [hF k e] at this; cases this)
  rw [show frJ (setsTo P 128) j + (nth (setsTo P 128) j - frJ (setsTo P 128) j) = nth (setsTo P 128) j by omega] at hg
  rw [frJ_succ]
  unfold chT
  rw [← hg]
  by_cases e : F (nth (setsTo P 128) j) = true
  · rw [if_pos e, setsTo_succ e, List.map_append]; simp
  · rw [if_neg e]
    rw [setsTo_noW e]
theorem chT_end {P F : Nat → Bool} (hF : ∀ x, F x = true → P x = true) (nx : Nat → Nat) : chT F nx (frJ (setsTo P 128) (setsTo P 128).length) = chR F nx := by
  have h1 := frJ_128 P
  have hg := sets_gapW (F := F) (x := frJ (setsTo P 128) (setsTo P 128).length) (128 - frJ (setsTo P 128) (setsTo P 128).length) (fun k a b => by
    cases e : F k
    · rfl
    · have := frJ_gap (P := P) (Nat.le_refl _) a (by omega) (fun e => by omega)
      rw [hF k e] at this; cases this)
  rw [show frJ (setsTo P 128) (setsTo P 128).length + (128 - frJ (setsTo P 128) (setsTo P 128).length) = 128 by omega] at hg
  unfold chT chR
  rw [hg]
theorem chT_len {F : Nat → Bool} {nx : Nat → Nat} (k : Nat) : (chT F nx k).length ≤ k := by
  unfold chT
  rw [List.length_map]
  exact setsTo_len F k
theorem own_oneW (I : TypeId) (W : World) (x : Nat) : own I (W.alloc (.cells #[.int .i64 (x : Int)] I)) W.heap.size (.slice (some ⟨W.heap.size, 0, none⟩) 1 1) [(x : Int)] :=
  (show blk I (W.alloc (.cells #[.int .i64 (x : Int)] I)) W.heap.size [(x : Int)] from hp_last _ _).own (Nat.le_refl _) (by unfold maxLen; simp)
attribute [local irreducible] p2 low memB risB blk own own2
set_option maxHeartbeats 16000000 in
theorem cnChains_c (P : Nat → Bool) (h0 : P 0 = false) (hP : ∀ x, P x = true → x < 128) (v : Value) (w : World) (hl : ints w.heap.size w v (setsTo P 128)) :
    Calls Tryd.prog 33 #[v] w fun e w' => ∃ v', e = .returned v' ∧ own2 22 3 w' w.heap.size v' (chR (rmTo P (maTo P 128).nx 128) (maTo P 128).nx) ∧ Below w.heap.size w w' := by
  have HL := hide hl
  have hL128 := setsTo_len P 128
  have hat := maTo_at h0 hP 128
  have HCM := hide (cnMatch_c P h0 hP v w hl)
  have HRM := hide (fun x => rm_bf h0 hP hat.ok x)
  have HBA := hide (fun a k ha hk => bf_at h0 hP hat.ok (a := a) (k := k) ha hk)
  have HUP := hide (show ∀ j, (maTo P 128).nx j ≠ 0 → j < (maTo P 128).nx j from fun j h => (hat.ok.w j h).2.2.1)
  have HNP := hide (show ∀ j, (maTo P 128).nx j ≠ 0 → P ((maTo P 128).nx j) = true from fun j h => (hat.ok.w j h).2.1)
  have HNL := hide hat.lt
  have HFP := hide (show ∀ x, rmTo P (maTo P 128).nx 128 x = true → P x = true from fun x h => ((rmTo_iff _ _ _ _).1 h).1)
  have HOK := hide hat.ok
  clear hl hat
  generalize maTo P 128 = s at *
  have HTN := hide (fun j hj => chT_next (F := rmTo P s.nx 128) HFP.out (nx := s.nx) (j := j) hj)
  have HTE := hide (chT_end (F := rmTo P s.nx 128) HFP.out s.nx)
  go_enter Tryd.func33, Tryd.ntmps33
  go_wp2_with (first
    | (go_at_call 63; refine HCM.out.mono ?_; rintro e w1 ⟨bb, rfl, hbb, hm1, hb1⟩; have HM1 := hide hm1; have HB1 := hide hb1; have hz1 := hb1.size; have hbl := hm1.lt; have HL1 := hide (HL.out.below hb1 (Nat.le_refl _)); clear hm1 hb1)
    | (refine wpList_len sliceT rfl (.tmp 13) rfl _ rfl w1.heap.size (setsTo P 128) (HL1.out.mono hz1) ?_))
  go_loopw [4, 15] (fun o z wr => ∃ i : Nat, i ≤ (setsTo P 128).length ∧ z = .int .i64 (i : Int) ∧ Hid (own2 22 3 wr w1.heap.size o (chT (rmTo P s.nx 128) s.nx (frJ (setsTo P 128) i))) ∧ Hid (Below w1.heap.size w1 wr)) (fun _ z _ => (setsTo P 128).length - (intOf z).toNat)
  case atStart => exact ⟨0, Nat.zero_le _, rfl, own2_nil _ _ _ _, Below.refl _ _⟩
  case round =>
    obtain ⟨i, hi, rfl, HO, HB⟩ := hrel
    have hsz := HB.out.size
    have HBK := hide (HM1.out.below HB.out hbl)
    have HLW := hide (HL1.out.below HB.out hz1)
    by_cases hlt : i < (setsTo P 128).length
    · have hcb := HBK.out.cell i (by rw [bfL_len]; exact hlt)
      rw [bfL_at s hlt] at hcb
      have hTN := HTN.out i hlt
      have hRM := HRM.out (nth (setsTo P 128) i)
      rw [nth_in hlt, Bool.true_and] at hRM
      have HVX := hide (nth_val (P := P) hlt)
      have hx8 := nth_lt128 (P := P) hlt
      have hAl := chT_len (F := rmTo P s.nx 128) (nx := s.nx) (frJ (setsTo P 128) i)
      have hfj := frJ_le (P := P) hlt
      have hxP := nth_in (P := P) hlt
      by_cases hb : s.bf (nth (setsTo P 128) i) = 0
      · rw [hb, ix_none h0] at hcb
        rw [hb] at hRM
        rw [if_pos (by rw [hRM]; rfl)] at hTN
        have HTNX := hide hTN
        have hx0 : nth (setsTo P 128) i ≠ 0 := fun e => by rw [e, h0] at hxP; cases hxP
        have HST := hide (show [(nth (setsTo P 128) i : Int)] ++ chW s.nx 127 (s.nx (nth (setsTo P 128) i)) = chW s.nx 128 (nth (setsTo P 128) i) from (chW_step hx0).symm)
        have hup0 : s.nx (nth (setsTo P 128) i) = 0 ∨ 128 ≤ 127 + s.nx (nth (setsTo P 128) i) := by
          by_cases e : s.nx (nth (setsTo P 128) i) = 0
          · exact .inl e
          · have := HUP.out _ e; omega
        have HST2 := hide hup0
        clear hTN hRM hup0
        generalize hA0 : chT (rmTo P s.nx 128) s.nx (frJ (setsTo P 128) i) = A0 at *
        clear hA0
        go_wp2_with (refine wpList_at sliceT intS rfl (.tmp 23) (.tmp 24) rfl _ rfl i rfl w.heap.size (setsTo P 128) HLW.out hlt ?_; intro ad hcell hblk; rw [HVX.out] at hcell)
        obtain ⟨W0, rfl⟩ : ∃ W0 : World, W0 = wr := ⟨wr, rfl⟩
        have hbX := (Below.refl W0.heap.size W0).alloc (Nat.le_refl _) (.cells #[.int .i64 (nth (setsTo P 128) i : Int)] 3)
        have HOX := hide (own_oneW 3 W0 (nth (setsTo P 128) i))
        have HBX := hide hbX
        clear hbX hcb
        go_loopw [6, 7] (fun o z wq => ∃ (A : List Int) (q : Int) (f : Nat), z = .int .i64 q ∧ Hid ((q = -1 ∧ A = chW s.nx 128 (nth (setsTo P 128) i)) ∨ ∃ a : Nat, q = (a : Int) ∧ a < (setsTo P 128).length ∧ (s.nx (nth (setsTo P 128) a) = 0 ∨ 128 ≤ f + s.nx (nth (setsTo P 128) a)) ∧ A ++ chW s.nx f (s.nx (nth (setsTo P 128) a)) = chW s.nx 128 (nth (setsTo P 128) i)) ∧ A.length + f ≤ 128 ∧ Hid (own 3 wq W0.heap.size o A) ∧ Hid (Below W0.heap.size W0 wq)) (fun o z _ => 2 * (129 - lenW o) + min 1 (intOf z + 1).toNat)
        case atStart => exact ⟨_, (i : Int), 127, rfl, .inr ⟨i, rfl, hlt, HST2.out, HST.out⟩, by simp, HOX, HBX⟩
        case round =>
          clear HOX HBX
          obtain ⟨A, q, f, rfl, HQ, hAf, HO2, HB2⟩ := hrel
          have hsz2 := HB2.out.size
          obtain ⟨ca, cc, hcv⟩ := HO2.out.shape
          subst hcv
          rcases HQ.out with ⟨hq, hA⟩ | ⟨a, hq, han, hfu, hA⟩
          · subst hq
            have HE := hide hA
            clear HQ hA
            go_wp2_with (at_builtin; refine wpList_append2 sliceT2 rowI2 (by decide) rfl (.tmp 53) (.tmp 55) rfl w1.heap.size _ _ rfl W0 HO.out (HB2.out.alloc (by omega) _) _ (.slice ca A.length cc) A rfl (by simp [go_sem]) (HO2.out.alloc _) (by omega) (by omega) ?_; intro v6 w6 ho6 hb6 _ _; have HO6 := hide ho6; have HB6 := hide ((HB.out.trans ((HB2.out.alloc (by omega) _).mono hsz)).trans hb6); clear ho6 hb6)
            go_roundw
            case rel => exact ⟨i + 1, by omega, by go_num, hide (by rw [HTNX.out, ← HE.out]; exact HO6.out), HB6⟩
            case measure => (simp [intOf] <;> omega)
          · subst hq
            have HA := hide hA
            have HFU := hide hfu
            have HBQ := hide (HBK.out.below HB2.out (by omega))
            have HBAa := hide (fun k hk => HBA.out a k han hk)
            have HLQ := hide (HLW.out.below HB2.out (by omega))
            clear HQ hA hfu
            go_wp2_with fail
            obtain ⟨W2, rfl⟩ : ∃ W2 : World, W2 = wr := ⟨wr, rfl⟩
            go_loopw [8, 33] (fun z y wz => ∃ k : Nat, k ≤ (setsTo P 128).length ∧ y = .int .i64 (k : Int) ∧ z = .int .i64 (nqT (ixP P (s.nx (nth (setsTo P 128) a))) k) ∧ W2 = wz) (fun _ y _ => (setsTo P 128).length - (intOf y).toNat)
            case atStart => exact ⟨0, Nat.zero_le _, rfl, by unfold nqT; rw [if_neg (by omega)], rfl⟩
            case round =>
              obtain ⟨k, hk, rfl, rfl, rfl⟩ := hrel
              by_cases hkl : k < (setsTo P 128).length
              · have hck := HBQ.out.cell k (by rw [bfL_len]; exact hkl)
                rw [bfL_at s hkl] at hck
                have hba := HBAa.out k hkl
                by_cases hkq : (k : Int) = ixP P (s.nx (nth (setsTo P 128) a))
                · have hca := hba.2 hkq.symm
                  have HY := hide (nqT_yes hkq)
                  rw [hca] at hck
                  clear hca hba hkq
                  go_wp2_with fail
                  go_roundw
                  case rel => exact ⟨k + 1, by omega, by go_num, by rw [HY.out], trivial⟩
                  case measure => (simp [intOf] <;> omega)
                · have hca : ¬ ixP P (s.bf (nth (setsTo P 128) k)) = (a : Int) := fun e => hkq (hba.1 e).symm
                  have HN := hide (nqT_no hkq)
                  generalize ixP P (s.bf (nth (setsTo P 128) k)) = c at hck hca
                  have hcb2 : (c == (a : Int)) = false := by simpa using hca
                  clear hba hkq
                  go_wp2_with fail
                  go_roundw
                  case rel => exact ⟨k + 1, by omega, by go_num, by rw [HN.out], trivial⟩
                  case measure => (simp [intOf] <;> omega)
              · have hke : k = (setsTo P 128).length := by omega
                have hnx8 := HNL.out (nth (setsTo P 128) a)
                have hfu := HFU.out
                have hA := HA.out
                by_cases e : s.nx (nth (setsTo P 128) a) = 0
                · have hnq : nqT (ixP P (s.nx (nth (setsTo P 128) a))) k = -1 := by rw [e, ix_none h0]; unfold nqT; rw [if_neg (by omega)]
                  rw [e, chW_zero, List.append_nil] at hA
                  have HA2 := hide hA
                  rw [hnq]
                  clear hA hnq hfu e
                  go_wp2_with fail
                  go_roundw
                  case rel => exact ⟨A, -1, f, rfl, .inl ⟨rfl, HA2.out⟩, hAf, HO2, HB2⟩
                  case measure => (simp [intOf] <;> omega)
                · obtain ⟨y, hy, he, hix⟩ := nth_ix hnx8 (HNP.out _ e)
                  have hnq : nqT (ixP P (s.nx (nth (setsTo P 128) a))) k = (y : Int) := by rw [hix]; unfold nqT; rw [if_pos (by omega)]
                  obtain ⟨f', rfl⟩ : ∃ f', f = f' + 1 := ⟨f - 1, by omega⟩
                  rw [chW_step e, ← he] at hA
                  have HA2 := hide (show (A ++ [(nth (setsTo P 128) y : Int)]) ++ chW s.nx f' (s.nx (nth (setsTo P 128) y)) = chW s.nx 128 (nth (setsTo P 128) i) by rw [← hA]; simp)
                  have hfu2 : s.nx (nth (setsTo P 128) y) = 0 ∨ 128 ≤ f' + s.nx (nth (setsTo P 128) y) := by
                    by_cases e2 : s.nx (nth (setsTo P 128) y) = 0
                    · exact .inl e2
                    · have h1 := HUP.out _ e2
                      rw [he] at h1 ⊢
                      omega
                  have HFU2 := hide hfu2
                  have HVY := hide (nth_val (P := P) hy)
                  have hy0 : (0 : Int) ≤ (y : Int) := by omega
                  have hAl2 : A.length < 1000000000 := by omega
                  have HLV := hide HO2.out.lenW
                  rw [hnq]
                  clear hA hnq hfu hfu2 e he hix
                  go_wp2_with (first
                    | (refine wpList_at sliceT intS rfl (.tmp 46) (.tmp 47) rfl _ rfl y rfl w.heap.size (setsTo P 128) HLQ.out hy ?_; intro ad4 hcell4 hblk4; rw [HVY.out] at hcell4)
                    | (at_builtin; refine wpList_append1 sliceT intI rfl _ _ rfl W0.heap.size _ _ rfl (HO2.out.alloc _) _ (nth (setsTo P 128) y : Int) rfl (by simp [go_sem]) (by simp; omega) hAl2 ?_; intro v4 w4 ho4 hb4; have HO4 := hide ho4; have HB4 := hide (HB2.out.trans (((Below.refl W0.heap.size W2).alloc (by omega) _).trans hb4)); clear ho4 hb4))
                  go_roundw
                  case rel => exact ⟨A ++ [(nth (setsTo P 128) y : Int)], (y : Int), f', rfl, .inr ⟨y, rfl, hy, HFU2.out, HA2.out⟩, by simp; omega, HO4, HB4⟩
                  case measure =>
                    have h1 := HO4.out.lenW
                    have h2 := HLV.out
                    simp at h1
                    simp [intOf]
                    omega
      · have hn1 := HOK.out.b _ hb
        have hx0 : nth (setsTo P 128) i ≠ 0 := fun e => by rw [e, h0] at hxP; cases hxP
        have hbP := (HOK.out.w (s.bf (nth (setsTo P 128) i)) (by rw [hn1]; exact hx0)).1
        obtain ⟨y, hy, he, hix⟩ := nth_ix (hP _ hbP) hbP
        rw [hix] at hcb
        rw [if_neg (by rw [hRM]; simpa using hb)] at hTN
        have HTNX := hide hTN
        have hy0 : (0 : Int) ≤ (y : Int) := by omega
        clear hTN hRM hix he hn1
        go_wp2_with fail
        go_roundw
        case rel => exact ⟨i + 1, by omega, by go_num, hide (by rw [HTNX.out]; exact HO.out), HB⟩
        case measure => (simp [intOf] <;> omega)
    · have hke : i = (setsTo P 128).length := by omega
      have HE := hide (show chT (rmTo P s.nx 128) s.nx (frJ (setsTo P 128) i) = chR (rmTo P s.nx 128) s.nx by rw [hke]; exact HTE.out)
      go_wp2
      go_ret
      exact ⟨_, rfl, by rw [← HE.out]; exact HO.out.mono hz1, HB1.out.trans (HB.out.mono hz1)⟩
end Go.Proofs.YtblglkgmnaklbaaDoor
/- Contracts: WidthOf, FewestWords and ChainsThrough, both. -/
namespace Go.Proofs.YtblglkgmnaklbaaDoor
open Go.RowKit
set_option maxRecDepth 100000
set_option linter.unusedSimpArgs false
theorem phF_low {m : Nat} {F : Nat → Bool} {x : Nat} (h : phF m F x = true) : x < low m + 1 := by
  unfold phF cutAt at h
  rw [Bool.and_eq_true, decide_eq_true_eq] at h
  exact h.1
theorem maTo_low {m : Nat} (hm : m ≤ 7) {P : Nat → Bool} (hP : ∀ x, P x = true → x < low m + 1) : maTo P (low m + 1) = maTo P 128 := by
  have hlo := low_lt m hm
  have h := maTo_gap (P := P) (x := low m + 1) (128 - (low m + 1)) (fun k a b => by
    cases e : P k
    · rfl
    · have := hP k e; omega)
  rw [show low m + 1 + (128 - (low m + 1)) = 128 by omega] at h
  exact h.symm
/-- The chains of the paths. -/
def chP (P : Nat → Bool) : List (List Int) := chR (rmTo P (maTo P 128).nx 128) (maTo P 128).nx
def chV (n : Int) (l : List Int) : List (List Int) := if okSp n l then chP (phF n.toNat (marksTo l l.length)) else []
theorem chP_len (P : Nat → Bool) : (chP P).length ≤ 128 := by unfold chP; rw [chR_len]; exact setsTo_len _ 128
theorem chV_len (n : Int) (l : List Int) : (chV n l).length ≤ 128 := by
  unfold chV
  split
  · exact chP_len _
  · simp
theorem wiN_chV (n : Int) (l : List Int) : wiN n l = ((chV n l).length : Int) := by
  unfold wiN chV
  by_cases h : okSp n l = true
  · rw [if_pos h, if_pos h]
    have hn := okSp_n h
    unfold wdN wdF chP
    rw [chR_len, maTo_low (by omega) (fun x hx => phF_low hx)]
  · rw [if_neg h, if_neg h]; rfl
theorem chP_none : chP (phF 0 noSet) = [] := by
  have h : phF 0 noSet = noSet := by funext x; unfold phF cutAt pathF noSet; simp
  rw [h]
  unfold chP chR
  have h2 : rmTo noSet (maTo noSet 128).nx 128 = noSet := by
    funext x
    cases e : rmTo noSet (maTo noSet 128).nx 128 x
    · rfl
    · exact absurd ((rmTo_iff _ _ x 128).1 e).1 (by simp [noSet])
  rw [h2, ← (by decide +kernel : ([] : List Int) = setsTo noSet 128)]
  rfl
attribute [local irreducible] p2 low memB risB own own2 famAt chg
set_option maxHeartbeats 4000000 in
theorem pathChains_c (m : Nat) (F : Nat → Bool) (w : World) (hm7 : m ≤ 7) :
    Calls Tryd.prog 37 #[.agg (fam (m : Int) F)] w fun e w' => ∃ v, e = .returned v ∧ own2 22 3 w' w.heap.size v (chP (phF m F)) ∧ Below w.heap.size w w' := by
  have HF := hide (famAt.new 57 w (m : Int) F)
  have HB0 := hide ((Below.refl w.heap.size w).alloc (Nat.le_refl _) (.cells (fam (m : Int) F) 57))
  have hz0 : (w.alloc (.cells (fam (m : Int) F) 57)).heap.size = w.heap.size + 1 := by simp
  have h0 : phF m F 0 = false := phF_zero
  have hP : ∀ x, phF m F x = true → x < 128 := fun x h => phF_lt hm7 h
  have hml := maTo_low hm7 (fun x (h : phF m F x = true) => phF_low h)
  have HPA := hide (fun w1 => paths_c m F w1 hm7)
  have hat := maTo_at h0 hP (low m + 1)
  have HCO := hide (fun w1 => chainingOf_c m (phF m F) w1 hm7 h0 hP)
  have HCH := hide (fun g w1 h => chains_c m (phF m F) (maTo (phF m F) (low m + 1)).nx g w1 h hat.lt (fun j hj => (hat.ok.w j hj).2.2.1))
  have HCP := hide (show chP (phF m F) = chR (rmTo (phF m F) (maTo (phF m F) (low m + 1)).nx 128) (maTo (phF m F) (low m + 1)).nx by rw [hml]; rfl)
  clear hat hml h0 hP
  generalize (maTo (phF m F) (low m + 1)).nx = nx at *
  generalize phF m F = G at *
  generalize chR (rmTo G nx 128) nx = R at *
  go_enter Tryd.func37, Tryd.ntmps37
  go_wp2_with (first
    | (refine wpList_load_fam rowT sizeT rfl (.tmp 1) rfl w.heap.size rfl (m : Int) F HF.out ?_)
    | (go_at_call 71; refine (HPA.out _).mono ?_; rintro e w0 ⟨rfl, hb0⟩; have hzz := hb0.size; rw [hz0] at hzz; have HBA := hide (HB0.out.trans (hb0.mono (by rw [hz0]; omega))); clear hb0)
    | (go_at_call 70; refine (HCO.out _).mono ?_; rintro e w1 ⟨rfl, hb1⟩; have hz1 := hb1.size; have HB1 := hide (HBA.out.trans (hb1.mono (by omega))); have hc1 := hp_last w1 (.cells (chg 0 noSet nxZ) 100); have HC1 := hide (chgAt_iff.2 (hp_row _ w1.heap.size _ (chg (m : Int) G nx) _ hc1)); have HC0 := hide hc1; have HB2 := hide (bl_row (HB1.out.alloc (by omega) (.cells (chg 0 noSet nxZ) 100)) (show w.heap.size ≤ w1.heap.size by omega) (chg (m : Int) G nx)); clear hb1 hc1)
    | (refine wpList_alloc_cs zeroCh rfl rfl _ (by first | (simp only [World.size_alloc]; rfl) | rfl) ?_)
    | (refine wpList_store_cs (sizeCh (m : Int) G nx) rfl (.tmp 3) (.tmp _) rfl w1.heap.size rfl rfl (chg 0 noSet nxZ) HC0.out (by rw [chg_size, chg_size]) (chg_one _ _ _) ?_)
    | (go_at_call 72; refine (HCH.out w1.heap.size _ HC1.out).mono ?_; rintro e w2 ⟨v2, rfl, ho2, hb2⟩; have HO2 := hide (ho2.mono HB2.out.size); have HB3 := hide (HB2.out.trans (hb2.mono HB2.out.size)); clear ho2 hb2))
  go_ret
  exact ⟨_, rfl, by rw [HCP.out]; exact HO2.out, HB3.out⟩
theorem okSp_len128W {n : Int} {l : List Int} (h : okSp n l = true) : l.length ≤ 128 := by
  rw [okSp_list h]
  exact setsTo_len _ 128
theorem okSp_r128W {n : Int} {l : List Int} (h : okSp n l = true) : ∀ j, j < l.length → 0 ≤ l[j]?.getD 0 ∧ l[j]?.getD 0 < 128 := fun j hj => by
  have h1 := okSp_pos h j hj
  have h2 := okSp_n h
  have := low_lt n.toNat (by omega)
  omega
end Go.Proofs.YtblglkgmnaklbaaDoor
/- Mathematics: the chains are small. -/
namespace Go.Proofs.YtblglkgmnaklbaaDoor
open Go.RowKit
theorem chP_row (P : Nat → Bool) : ∀ r ∈ chP P, r.length ≤ 128 := by
  intro r hr
  unfold chP chR at hr
  obtain ⟨a, _, rfl⟩ := List.mem_map.1 hr
  exact chW_len _ _ _
theorem chV_small (n : Int) (l : List Int) : small2 (chV n l) := by
  have h1 := chV_len n l
  refine small2_of _ 128 ?_ (by omega) (by omega)
  unfold chV
  split
  · exact chP_row _
  · simp
end Go.Proofs.YtblglkgmnaklbaaDoor
/- Contracts: MakingWords, both. -/
namespace Go.Proofs.YtblglkgmnaklbaaDoor
open Go.RowKit
set_option maxRecDepth 100000
set_option linter.unusedSimpArgs false
theorem nth_consW (x : Nat) (q : List Int) (k : Nat) : nth ((x : Int) :: q) (k + 1) = nth q k := by unfold nth; rw [List.getElem?_cons_succ]
theorem nth_cons0W (x : Nat) (q : List Int) : nth ((x : Int) :: q) 0 = x := by unfold nth; simp
theorem chW_chain {G : Nat → Bool} {s : Mst} (hs : OkM G s) : ∀ f x, (x = 0 ∨ G x = true) → ∀ k, k < (chW s.nx f x).length → ((chW s.nx f x)[k]?.getD 0 = (nth (chW s.nx f x) k : Int)) ∧ G (nth (chW s.nx f x) k) = true ∧ andNot (wtP (chW s.nx f x) k) (nth (chW s.nx f x) k) = 0 := by
  intro f
  induction f with
  | zero => intro x _ k hk; simp [chW] at hk
  | succ f ih =>
    intro x hx k hk
    rw [chW] at hk ⊢
    by_cases h0 : x = 0
    · rw [if_pos h0] at hk; simp at hk
    · rw [if_neg h0] at hk ⊢
      have hG : G x = true := by rcases hx with e | e; exact absurd e h0; exact e
      cases k with
      | zero => exact ⟨by rw [nth_cons0W]; simp, by rw [nth_cons0W]; exact hG, by rw [nth_cons0W]; show andNot 0 x = 0; simp [andNot]⟩
      | succ k =>
        have hk2 : k < (chW s.nx f (s.nx x)).length := by simpa using hk
        have hn : s.nx x = 0 ∨ G (s.nx x) = true := by
          by_cases e : s.nx x = 0
          · exact .inl e
          · exact .inr (hs.w x e).2.1
        obtain ⟨q1, q2, q3⟩ := ih (s.nx x) hn k hk2
        refine ⟨by rw [nth_consW, List.getElem?_cons_succ]; exact q1, by rw [nth_consW]; exact q2, ?_⟩
        rw [nth_consW]
        show andNot (nth ((x : Int) :: chW s.nx f (s.nx x)) k) _ = 0
        cases k with
        | zero =>
          rw [nth_cons0W]
          have hne : s.nx x ≠ 0 := fun e => by rw [e, chW_zero] at hk2; simp at hk2
          have h2 := (hs.w x hne).2.2.2
          cases f with
          | zero => simp [chW] at hk2
          | succ f => rw [chW_step hne, nth_cons0W]; exact h2
        | succ k =>
          rw [nth_consW]
          exact q3
theorem phF_F {m : Nat} {F : Nat → Bool} {x : Nat} (h : phF m F x = true) : F x = true := by
  unfold phF cutAt pathF at h
  rw [Bool.and_eq_true, Bool.and_eq_true] at h
  exact h.2.1
theorem chP_ic {m : Nat} (hm : m ≤ 7) (F : Nat → Bool) (k : Nat) (hk : k < (chP (phF m F)).length) : icTo m F ((chP (phF m F))[k]?.getD []) ((chP (phF m F))[k]?.getD []).length = true := by
  have hP : ∀ x, phF m F x = true → x < 128 := fun x h => phF_lt hm h
  have hat := maTo_at (phF_zero (m := m) (F := F)) hP 128
  unfold chP at hk ⊢
  rw [chR_len] at hk
  have hg := sets_at _ _ hk
  have hG : phF m F (nth (setsTo (rmTo (phF m F) (maTo (phF m F) 128).nx 128) 128) k) = true := ((rmTo_iff _ _ _ _).1 hg).1
  have e : (chR (rmTo (phF m F) (maTo (phF m F) 128).nx 128) (maTo (phF m F) 128).nx)[k]?.getD [] = chW (maTo (phF m F) 128).nx 128 (nth (setsTo (rmTo (phF m F) (maTo (phF m F) 128).nx 128) 128) k) := by
    unfold chR nth
    simp [hk]
  rw [e, icTo_iff]
  intro j hj
  obtain ⟨q1, q2, q3⟩ := chW_chain hat.ok 128 _ (.inr hG) j hj
  refine ⟨?_, q3⟩
  rw [q1]
  have h1 := phF_low q2
  unfold ownB
  rw [Int.toNat_natCast, phF_F q2, Bool.and_true, decide_eq_true_eq]
  omega
/-- Words through the chains. -/
def mkV (n : Int) (l : List Int) : List (List Int) := if okSp n l then (chP (phF n.toNat (marksTo l l.length))).map (wtW (marksTo l l.length) n.toNat) else []
theorem mkV_small (n : Int) (l : List Int) : small2 (mkV n l) := by
  unfold mkV
  split
  · rename_i h
    have hn := okSp_n h
    have h1 := chP_len (phF n.toNat (marksTo l l.length))
    refine small2_of _ 1000 ?_ (by rw [List.length_map]; omega) (by rw [List.length_map]; omega)
    intro r hr
    obtain ⟨q, hq, rfl⟩ := List.mem_map.1 hr
    have h2 := chP_row _ q hq
    have h3 := wtW_len (marksTo l l.length) n.toNat q
    omega
  · exact small2_nil
theorem take_mapW {α β : Type} (f : α → β) (l : List α) (d : α) (k : Nat) (hk : k < l.length) : (l.take k).map f ++ [f (l[k]?.getD d)] = (l.take (k + 1)).map f := by
  rw [List.take_add_one, List.map_append]
  congr 1
  simp [hk]
attribute [local irreducible] p2 low memB risB own own2 famAt
set_option maxHeartbeats 8000000 in
theorem implMakingWords_c (n : Int) (v : Value) (l : List Int) (w : World) (hl : ints w.heap.size w v l) (hlen : l.length < 1000000000) (hT : tab w) :
    Calls Tryd.prog 10 #[.agg #[.int .i64 n, v]] w fun e w' => ∃ v', e = .returned (.tuple #[v', .bool (okSp n l)]) ∧ own2 22 3 w' w.heap.size v' (mkV n l) ∧ Below w.heap.size w w' := by
  have HT := hide hT
  have HL := hide ((hl.alloc (.cells #[.int .i64 n, v] 29)).mono (show w.heap.size ≤ (w.alloc (.cells #[.int .i64 n, v] 29)).heap.size by simp))
  have H0 := hide ((Below.refl w.heap.size w).alloc (Nat.le_refl _) (.cells #[.int .i64 n, v] 29))
  have HZ := hide (show (w.alloc (.cells #[.int .i64 n, v] 29)).heap.size = w.heap.size + 1 by simp)
  clear hl hT
  obtain ⟨N, F, b, hv, hN, hb, hr, hic⟩ : ∃ (N : Nat) (F : Nat → Bool) (b : Bool), famVal n l = .tuple #[.agg (fam (N : Int) F), .bool b] ∧ N ≤ 7 ∧ okSp n l = b ∧ mkV n l = (chP (phF N F)).map (wtW F N) ∧ (∀ k, k < (chP (phF N F)).length → Spc F N ∧ icTo N F ((chP (phF N F))[k]?.getD []) ((chP (phF N F))[k]?.getD []).length = true) := by
    cases hok : okSp n l
    · refine ⟨0, noSet, false, famVal_no n l hok, by omega, rfl, by unfold mkV; rw [hok, chP_none]; rfl, fun k hk => ?_⟩
      rw [chP_none] at hk; simp at hk
    · have hn := okSp_n hok
      have hsp := okSp_spc hok
      obtain ⟨N, rfl⟩ := Int.eq_ofNat_of_zero_le (show 0 ≤ n by omega)
      rw [Int.toNat_natCast] at hsp
      exact ⟨N, marksTo l l.length, true, famVal_yes _ l hok, by omega, rfl, by unfold mkV; rw [hok, Int.toNat_natCast]; rfl, fun k hk => ⟨hsp, chP_ic (by omega) _ k hk⟩⟩
  have HV := hide hv
  have HIC := hide hic
  have HPC := hide (fun w1 => pathChains_c N F w1 hN)
  have hRl := chP_len (phF N F)
  have hRr := chP_row (phF N F)
  have HRR := hide hRr
  rw [hb, hr]
  clear hv hb hr hic hRr
  generalize chP (phF N F) = R at *
  have HTK := hide (fun k hk => take_mapW (wtW F N) R ([] : List Int) k hk)
  go_enter Tryd.func10, Tryd.ntmps10
  go_wp2_with (first
    | (go_at_call 36; refine (familyOf_c n v l _ HL.out hlen).mono ?_; rw [HV.out]; rintro e w1 ⟨rfl, hb⟩; have hz1 := hb.size; rw [HZ.out] at hz1; have HH := hide ((famAt.new 57 w1 0 noSet).row (N : Int) F); have HB := hide (bl_row ((H0.out.trans (hb.mono (by rw [HZ.out]; omega))).alloc (by omega) (.cells (fam 0 noSet) 57)) (show w.heap.size ≤ w1.heap.size by omega) (fam (N : Int) F)); clear hb)
    | (refine wpList_alloc_fam zeroT rfl rfl _ (by first | (simp only [World.size_alloc]; rfl) | rfl) ?_)
    | (refine wpList_store_fam sizeT rfl (.tmp _) (.tmp _) rfl w1.heap.size _ _ rfl rfl _ _ (famAt.new _ _ _ _) ?_)
    | (refine wpList_load_fam rowT sizeT rfl (.tmp 4) rfl w1.heap.size rfl (N : Int) F HH.out ?_)
    | (go_at_call 37; refine (HPC.out _).mono ?_; rintro e w2 ⟨v2, rfl, ho2, hb2⟩; have HR2 := hide ho2.rows; have HH2 := hide (HH.out.below hb2 HH.out.lt); have HB2 := hide (HB.out.trans (hb2.mono HB.out.size)); clear ho2 hb2)
    | (refine wpList_len2 sliceT2 rfl (.tmp _) rfl _ rfl w2.heap.size R HR2.out ?_))
  have hw1 := HH2.out.lt
  go_loopw [6, 17] (fun o z wr => ∃ k : Nat, k ≤ R.length ∧ z = .int .i64 (k : Int) ∧ Hid (own2 22 3 wr w2.heap.size o ((R.take k).map (wtW F N))) ∧ Hid (Below w2.heap.size w2 wr)) (fun _ z _ => R.length - (intOf z).toNat)
  case atStart => exact ⟨0, Nat.zero_le _, rfl, own2_nil _ _ _ _, Below.refl _ _⟩
  case round =>
    obtain ⟨k, hk, rfl, HO, HB3⟩ := hrel
    have hsz := HB3.out.size
    by_cases hlt : k < R.length
    · have HRW := hide (HR2.out.below HB3.out (Nat.le_refl _))
      have HHW := hide (HH2.out.below HB3.out hw1)
      have HTW := hide (HT.out.belowB HT.out (HB2.out.trans (HB3.out.mono HB2.out.size)) (Nat.le_refl _))
      obtain ⟨hsp, hic⟩ := HIC.out k hlt
      have hql : (R[k]?.getD []).length ≤ 128 := HRR.out _ (by rw [List.getElem?_eq_getElem hlt]; exact List.getElem_mem hlt)
      have HWT := hide (fun u w1 h1 h2 => wordThrough_c N F u (R[k]?.getD []) w1 h1 (by omega) hN hsp hic h2)
      have hTK := HTK.out k hlt
      have HTKK := hide hTK
      have hAl : ((R.take k).map (wtW F N)).length ≤ 128 := by rw [List.length_map, List.length_take]; omega
      clear hsp hic hTK
      generalize hQ : wtW F N (R[k]?.getD []) = Q at HWT HTKK
      clear hQ
      generalize (R.take k).map (wtW F N) = A at *
      go_wp2_with (first
        | (refine wpList_at2 sliceT2 rowS2 rfl (.tmp 15) (.tmp 17) rfl _ rfl _ rfl k rfl w2.heap.size R HRW.out hlt ?_; intro ad uu hcell hblk hu; have HU := hide (hu.mono hsz); clear hu)
        | (refine wpList_load_fam rowT sizeT rfl (.tmp 4) rfl w1.heap.size rfl (N : Int) F HHW.out ?_)
        | (go_at_call 38; refine (HWT.out _ wr HU.out HTW.out).mono ?_; rintro e w3 ⟨v3, rfl, ho3, hb3⟩; obtain ⟨sa, sc, hs3⟩ := ho3.shape; subst hs3; have HO3 := hide ho3; have HBB := hide hb3; have hz3 := hb3.size; clear ho3 hb3)
        | (at_builtin; refine wpList_append2 sliceT2 rowI2 (by decide) rfl (.tmp 21) (.tmp 25) rfl w2.heap.size _ _ rfl wr HO.out (HBB.out.alloc (by omega) _) _ (.slice sa Q.length sc) Q rfl (by simp [go_sem]) (HO3.out.alloc _) (by omega) (by omega) ?_; intro v6 w6 ho6 hb6 _ _; have HO6 := hide ho6; have HB6 := hide ((HB3.out.trans ((HBB.out.alloc (by omega) _).mono hsz)).trans hb6); clear ho6 hb6))
      go_roundw
      case rel => exact ⟨k + 1, by omega, by go_num, hide (by rw [← HTKK.out]; exact HO6.out), HB6⟩
      case measure => (simp [intOf] <;> omega)
    · have hke : k = R.length := by omega
      have HE := hide (show (R.take k).map (wtW F N) = R.map (wtW F N) by rw [List.take_of_length_le (by omega)])
      go_wp2
      go_ret2
      exact ⟨_, rfl, by rw [← HE.out]; exact HO.out.mono HB2.out.size, HB2.out.trans (HB3.out.mono HB2.out.size)⟩
set_option maxHeartbeats 8000000 in
theorem specMakingWords_c (n : Int) (v : Value) (l : List Int) (w : World) (hl : ints w.heap.size w v l) (hlen : l.length < 1000000000) (_ : tab w) :
    Calls Tryd.prog 8 #[.agg #[.int .i64 n, v]] w fun e w' => ∃ v', e = .returned (.tuple #[v', .bool (okSp n l)]) ∧ own2 22 3 w' w.heap.size v' (mkV n l) ∧ Below w.heap.size w w' := by
  have HL := hide ((hl.alloc (.cells #[.int .i64 n, v] 29)).mono (show w.heap.size ≤ (w.alloc (.cells #[.int .i64 n, v] 29)).heap.size by simp))
  have HLB := hide hl
  have H0 := hide ((Below.refl w.heap.size w).alloc (Nat.le_refl _) (.cells #[.int .i64 n, v] 29))
  have HS0 := hide (hp_last w (.cells #[.int .i64 n, v] 29))
  have HZ := hide (show (w.alloc (.cells #[.int .i64 n, v] 29)).heap.size = w.heap.size + 1 by simp)
  have c0 := cells_at0 HS0.out
  have c1 := cells_at1 HS0.out
  clear hl
  have hg := ok_good n l
  cases hok : okSp n l
  · rw [hok] at hg
    have HG := hide hg.symm
    have hr : mkV n l = [] := by unfold mkV; rw [hok]; rfl
    rw [hr]
    clear hok hg hr
    go_enter Tryd.func8, Tryd.ntmps8
    go_wp2_with (first
      | (go_at_call 32; refine (spGood_c _ v l _ HL.out hlen).mono ?_; rw [HG.out]; rintro e w1 ⟨rfl, hb1⟩; have HS1 := hide ((hb1.block w.heap.size (by rw [HZ.out]; omega)).trans HS0.out); have d0 := cells_at0 HS1.out; have d1 := cells_at1 HS1.out; have HL1 := hide ((HL.out.below hb1 (Nat.le_refl _)).mono hb1.size); have hz1 := hb1.size; rw [HZ.out] at hz1; have HB1 := hide (H0.out.trans (hb1.mono (by rw [HZ.out]; omega))); clear hb1)
      | (go_at_call 34; refine (HIR.out _ HL1.out).mono ?_; rintro e w2 ⟨v2, rfl, ho2, hb2⟩; have HI2 := hide ho2.ints; have hz2 := hb2.size; have HS2 := hide ((hb2.block w.heap.size (by omega)).trans HS1.out); have HB2 := hide (HB1.out.trans (hb2.mono (by omega))); clear ho2 hb2 d0 d1)
      | (go_at_call 33; refine (HCN.out v2 w2 HI2.out).mono ?_; rintro e w3 ⟨v3, rfl, ho3, hb3⟩; have HO3 := hide ho3; have HS3 := hide ((hb3.block w.heap.size (by omega)).trans HS2.out); have HB3 := hide (HB2.out.trans (hb3.mono (by omega))); clear ho3 hb3)
      )
    go_ret2
    exact ⟨_, rfl, own2_nil _ _ _ _, HB1.out⟩
  · rw [hok] at hg
    have HG := hide hg.symm
    have HR := hide (okSp_r128W hok)
    have hl128 := okSp_len128W hok
    have HII := hide (okSp_inc hok)
    have hn := okSp_n hok
    obtain ⟨m, rfl⟩ := Int.eq_ofNat_of_zero_le (show 0 ≤ n by omega)
    have HIR : Hid (∀ w1, ints w1.heap.size w1 v l → Calls Tryd.prog 34 #[.agg #[.int .i64 (m : Int), v]] w1 fun e w' => ∃ v', e = .returned v' ∧ own 3 w' w1.heap.size v' (setsTo (phF m (marksTo l l.length)) 128) ∧ Below w1.heap.size w1 w') := hide (fun w1 h => by
      have h2 := cnIrreducible_c (m : Int) v l w1 h HII.out (by omega) HR.out
      rw [irS_sets hok] at h2
      exact h2)
    have HCN := hide (fun v' w1 h => cnChains_c (phF m (marksTo l l.length)) phF_zero (fun x hx => phF_lt (by omega) hx) v' w1 h)
    rw [show chR (rmTo (phF m (marksTo l l.length)) (maTo (phF m (marksTo l l.length)) 128).nx 128) (maTo (phF m (marksTo l l.length)) 128).nx = chP (phF m (marksTo l l.length)) from rfl] at HCN
    have hr : mkV (m : Int) l = (chP (phF m (marksTo l l.length))).map (wtW (marksTo l l.length) m) := by unfold mkV; rw [hok, Int.toNat_natCast]; rfl
    rw [hr]
    have hRl := chP_len (phF m (marksTo l l.length))
    have HRR := hide (chP_row (phF m (marksTo l l.length)))
    have HIC := hide (fun k hk => chP_ic (show m ≤ 7 by omega) (marksTo l l.length) k hk)
    have HOK := hide hok
    clear hok hg hr
    generalize chP (phF m (marksTo l l.length)) = R at *
    have HCW := hide (fun u k (hk : k < R.length) w1 h1 h2 (hql : (R[k]?.getD []).length < 1000000) => by
      have h := cnWord_c (m : Int) v l u (R[k]?.getD []) w1 h1 hlen HOK.out h2 hql (by rw [Int.toNat_natCast]; exact HIC.out k hk)
      rw [Int.toNat_natCast] at h
      exact h)
    generalize marksTo l l.length = F at *
    have HTK := hide (fun k hk => take_mapW (wtW F m) R ([] : List Int) k hk)
    go_enter Tryd.func8, Tryd.ntmps8
    go_wp2_with (first
      | (go_at_call 32; refine (spGood_c _ v l _ HL.out hlen).mono ?_; rw [HG.out]; rintro e w1 ⟨rfl, hb1⟩; have HS1 := hide ((hb1.block w.heap.size (by rw [HZ.out]; omega)).trans HS0.out); have d0 := cells_at0 HS1.out; have d1 := cells_at1 HS1.out; have HL1 := hide ((HL.out.below hb1 (Nat.le_refl _)).mono hb1.size); have hz1 := hb1.size; rw [HZ.out] at hz1; have HB1 := hide (H0.out.trans (hb1.mono (by rw [HZ.out]; omega))); clear hb1)
      | (go_at_call 34; refine (HIR.out _ HL1.out).mono ?_; rintro e w2 ⟨v2, rfl, ho2, hb2⟩; have HI2 := hide ho2.ints; have hz2 := hb2.size; have HS2 := hide ((hb2.block w.heap.size (by omega)).trans HS1.out); have HB2 := hide (HB1.out.trans (hb2.mono (by omega))); clear ho2 hb2 d0 d1)
      | (go_at_call 33; refine (HCN.out v2 w2 HI2.out).mono ?_; rintro e w3 ⟨v3, rfl, ho3, hb3⟩; have HO3 := hide ho3; have HS3 := hide ((hb3.block w.heap.size (by omega)).trans HS2.out); have HB3 := hide (HB2.out.trans (hb3.mono (by omega))); clear ho3 hb3)
      | (refine wpList_len2 sliceT2 rfl (.tmp _) rfl _ rfl w3.heap.size R HO3.out.rows ?_))
    have HR3 := hide HO3.out.rows
    have hz3 := HB3.out.size
    have hs1 := (show w.heap.size < w1.heap.size by omega)
    have HB13 := HS3
    have hz31 : w.heap.size < w3.heap.size := hp_lt HS3.out
    go_loopw [4, 14] (fun o z wr => ∃ k : Nat, k ≤ R.length ∧ z = .int .i64 (k : Int) ∧ Hid (own2 22 3 wr w3.heap.size o ((R.take k).map (wtW F m))) ∧ Hid (Below w3.heap.size w3 wr)) (fun _ z _ => R.length - (intOf z).toNat)
    case atStart => exact ⟨0, Nat.zero_le _, rfl, own2_nil _ _ _ _, Below.refl _ _⟩
    case round =>
      obtain ⟨k, hk, rfl, HO, HBB3⟩ := hrel
      have hsz := HBB3.out.size
      by_cases hlt : k < R.length
      · have HRW := hide (HR3.out.below HBB3.out (Nat.le_refl _))
        have HSW := hide ((HBB3.out.block w.heap.size (by omega)).trans HB13.out)
        have e0 := cells_at0 HSW.out
        have e1 := cells_at1 HSW.out
        have HLW := hide ((HLB.out.below (HB3.out.trans (HBB3.out.mono hz3)) (Nat.le_refl _)).mono (show w.heap.size ≤ wr.heap.size by omega))
        have hql : (R[k]?.getD []).length ≤ 128 := HRR.out _ (by rw [List.getElem?_eq_getElem hlt]; exact List.getElem_mem hlt)
        have HWT := hide (fun u w1 h1 h2 => HCW.out u k hlt w1 h1 h2 (by omega))
        have HTKK := hide (HTK.out k hlt)
        have hAl : ((R.take k).map (wtW F m)).length ≤ 128 := by rw [List.length_map, List.length_take]; omega
        generalize hQ : wtW F m (R[k]?.getD []) = Q at HWT HTKK
        clear hQ
        generalize (R.take k).map (wtW F m) = A at *
        go_wp2_with (first
          | (refine wpList_at2 sliceT2 rowS2 rfl (.tmp 12) (.tmp 14) rfl _ rfl _ rfl k rfl w3.heap.size R HRW.out hlt ?_; intro ad uu hcell hblk hu; have HU := hide (hu.mono hsz); clear hu)
          | (go_at_call 35; refine (HWT.out _ wr HLW.out HU.out).mono ?_; rintro e w4 ⟨v4, rfl, ho4, hb4⟩; obtain ⟨sa, sc, hs4⟩ := ho4.shape; subst hs4; have HO4 := hide ho4; have HBB := hide hb4; have hz4 := hb4.size; clear ho4 hb4)
          | (at_builtin; refine wpList_append2 sliceT2 rowI2 (by decide) rfl (.tmp 18) (.tmp 22) rfl w3.heap.size _ _ rfl wr HO.out (HBB.out.alloc (by omega) _) _ (.slice sa Q.length sc) Q rfl (by simp [go_sem]) (HO4.out.alloc _) (by omega) (by omega) ?_; intro v6 w6 ho6 hb6 _ _; have HO6 := hide ho6; have HB6 := hide ((HBB3.out.trans ((HBB.out.alloc (by omega) _).mono hsz)).trans hb6); clear ho6 hb6))
        go_roundw
        case rel => exact ⟨k + 1, by omega, by go_num, hide (by rw [← HTKK.out]; exact HO6.out), HB6⟩
        case measure => (simp [intOf] <;> omega)
      · have hke : k = R.length := by omega
        have HE := hide (show (R.take k).map (wtW F m) = R.map (wtW F m) by rw [List.take_of_length_le (by omega)])
        go_wp2
        go_ret2
        exact ⟨_, rfl, by rw [← HE.out]; exact HO.out.mono hz3, HB3.out.trans (HBB3.out.mono hz3)⟩
end Go.Proofs.YtblglkgmnaklbaaDoor
/- The program's MakingWords answers as the specification's does, at every argument, leaves its arguments as they are, and its answer owns its memory: no condition. -/
namespace Go.Proofs.YtblglkgmnaklbaaDoor.FMakingWords
open Go.ChangeShapes Go.WideShapes Go.ChangeAt Go.RowKit Go.Joins
set_option linter.unusedVariables false
set_option linter.unusedSimpArgs false
set_option maxRecDepth 100000

set_option maxHeartbeats 4000000 in
theorem law_c (n0 : Int) (v0 : Value) (l0 : List Int) (w : World) (h0 : ints w.heap.size w v0 l0) (hlen0 : l0.length ≤ 9223372036854775807) (hT : tab w) :
    Calls Tryd.prog 3 #[.agg #[.int .i64 n0, v0]] w fun e w' => e = .returned (.bool true) ∧ Below w.heap.size w w' := by
  have HT := hide hT
  clear hT
  have hRL := (mkV_small n0 l0)
  generalize hR : (mkV n0 l0) = R at hRL
  generalize hO : (okSp n0 l0) = ok
  have HR := hide hR
  have HO := hide hO
  clear hR hO
  have F1 := hide (((Below.refl w.heap.size w).alloc (Nat.le_refl _) (.cells #[.int .i64 n0, v0] 24)))
  have F2 := hide ((h0.alloc (.cells #[.int .i64 n0, v0] 24)))
  have F3 := hide (show (w.alloc (.cells #[.int .i64 n0, v0] 24)).heap[w.heap.size]? = some (.cells #[.int .i64 n0, v0] 24) from (by have := hp_last w (.cells #[.int .i64 n0, v0] 24); simpa using this))
  have HZ0 := hide (show (w.alloc (.cells #[.int .i64 n0, v0] 24)).heap.size = w.heap.size + 1 by simp)
  clear h0
  have hsz0 : szOf 1048576 l0.length = -1 ∨ (0 ≤ szOf 1048576 l0.length ∧ szOf 1048576 l0.length ≤ 1048576 ∧ l0.length ≤ 1048576) := by unfold szOf; split <;> omega
  generalize hq0 : szOf 1048576 l0.length = q0 at hsz0
  have HQ0 := hide hq0
  clear hq0
  rcases hsz0 with hbig0 | ⟨hq0a, hq0b, hq0c⟩
  · have HBIG := hide hbig0
    have hneg : q0 < 0 := by omega
    clear hbig0
    go_enter Tryd.func3, Tryd.ntmps3
    go_wp2_with fail
    generalize hX : (w.alloc (.cells #[.int .i64 n0, v0] 24)) = W0 at F1 F2 F3 HZ0 ⊢
    have hz0 := Nat.le_of_eq HZ0.out.symm
    clear hX HZ0
    refine (szSpace_c n0 v0 l0 (1048576) W0 (F2.out.mono (by omega)) hlen0 (by omega) (by omega)).mono ?_
    rw [HQ0.out]
    rintro e W1 ⟨rfl, hb4⟩
    have hz5 := hb4.size
    have F6 := hide (F1.out.trans (hb4.mono (by omega)))
    have F7 := hide (F2.out.below hb4 (by omega))
    have F8 := hide ((hb4.block (w.heap.size) (by omega)).trans F3.out)
    clear hb4 F1 F2 F3
    go_wp2
    go_ret
    exact ⟨rfl, F6.out⟩
  have hneg0 : ¬ q0 < 0 := by omega
  go_enter Tryd.func3, Tryd.ntmps3
  go_wp2_with fail
  generalize hX : (w.alloc (.cells #[.int .i64 n0, v0] 24)) = W0 at F1 F2 F3 HZ0 ⊢
  have hz0 := Nat.le_of_eq HZ0.out.symm
  clear hX HZ0
  refine (szSpace_c n0 v0 l0 (1048576) W0 (F2.out.mono (by omega)) hlen0 (by omega) (by omega)).mono ?_
  rw [HQ0.out]
  rintro e W1 ⟨rfl, hb4⟩
  have hz5 := hb4.size
  have F6 := hide (F1.out.trans (hb4.mono (by omega)))
  have F7 := hide (F2.out.below hb4 (by omega))
  have F8 := hide ((hb4.block (w.heap.size) (by omega)).trans F3.out)
  clear hb4 F1 F2 F3
  have hneg2 : ¬ (1 + (tot R : Int) < 0) := by omega
  have p9 := cells_at0 F8.out
  have p10 := cells_at1 F8.out
  go_wp2_with fail
  clear p9 p10
  refine (toSpace_c n0 v0 l0 W1 (F7.out.mono (by omega)) (by omega)).mono ?_
  rintro e W2 ⟨g11, rfl, hg12, hk13, hb14⟩
  have hz15 := hb14.size
  have F16 := hide (F6.out.trans (hb14.mono (by omega)))
  have F17 := hide (F7.out.below hb14 (by omega))
  have F18 := hide ((hb14.block (w.heap.size) (by omega)).trans F8.out)
  have F19 := hide (hk13.own hg12 (by unfold maxLen; omega))
  have B20 := hide (F19.out.base)
  have L21 := hide (F19.out.blockLt)
  clear hb14 F6 F7 F8 hk13 hg12
  have p22 := cells_at0 F18.out
  have p23 := cells_at1 F18.out
  go_wp2_with fail
  clear p22 p23
  refine (specMakingWords_c n0 _ l0 W2 F19.out.ints (by omega) (HT.out.belowB HT.out F16.out (Nat.le_refl _))).mono ?_
  rw [HR.out, HO.out]
  rintro e W3 ⟨v24, rfl, ho25, hb26⟩
  have hz27 := hb26.size
  have F28 := hide (F16.out.trans (hb26.mono (by omega)))
  have F29 := hide (F17.out.below hb26 (by omega))
  have F30 := hide ((hb26.block (w.heap.size) (by omega)).trans F18.out)
  have F31 := hide (F19.out.kept hb26)
  have F32 := hide (ho25.rows)
  clear hb26 F16 F17 F18 F19 ho25
  clear F31
  clear B20 L21
  have p33 := cells_at0 F30.out
  have p34 := cells_at1 F30.out
  go_wp2_with fail
  clear p33 p34
  refine (toSpace_c n0 v0 l0 W3 (F29.out.mono (by omega)) (by omega)).mono ?_
  rintro e W4 ⟨g35, rfl, hg36, hk37, hb38⟩
  have hz39 := hb38.size
  have F40 := hide (F28.out.trans (hb38.mono (by omega)))
  have F41 := hide (F29.out.below hb38 (by omega))
  have F42 := hide ((hb38.block (w.heap.size) (by omega)).trans F30.out)
  have F43 := hide (F32.out.below hb38 (by omega))
  have F44 := hide (hk37.own hg36 (by unfold maxLen; omega))
  have B45 := hide (F44.out.base)
  have L46 := hide (F44.out.blockLt)
  clear hb38 F28 F29 F30 F32 hk37 hg36
  have F47 := hide (F40.out.alloc (by omega) (.cells #[.int .i64 n0, .slice (some ⟨g35, 0, none⟩) l0.length l0.length] 29))
  have F48 := hide (F41.out.alloc (.cells #[.int .i64 n0, .slice (some ⟨g35, 0, none⟩) l0.length l0.length] 29))
  have F49 := hide ((hp_old W4 (.cells #[.int .i64 n0, .slice (some ⟨g35, 0, none⟩) l0.length l0.length] 29) (w.heap.size) (by omega)).trans F42.out)
  have F50 := hide (F43.out.alloc (.cells #[.int .i64 n0, .slice (some ⟨g35, 0, none⟩) l0.length l0.length] 29))
  have F51 := hide (F44.out.alloc (.cells #[.int .i64 n0, .slice (some ⟨g35, 0, none⟩) l0.length l0.length] 29))
  have F52 := hide (hp_last W4 (.cells #[.int .i64 n0, .slice (some ⟨g35, 0, none⟩) l0.length l0.length] 29))
  have HZ53 := hide (show (W4.alloc (.cells #[.int .i64 n0, .slice (some ⟨g35, 0, none⟩) l0.length l0.length] 29)).heap.size = W4.heap.size + 1 by simp)
  clear F40 F41 F42 F43 F44
  have p54 := cells_at0 F49.out
  have p55 := cells_at1 F49.out
  have p56 := cells_at0 F52.out
  have p57 := cells_at1 F52.out
  go_wp2_with fail
  clear p54 p55 p56 p57
  generalize hX : W4.alloc (.cells #[.int .i64 n0, .slice (some ⟨g35, 0, none⟩) l0.length l0.length] 29) = W5 at F47 F48 F49 F50 F51 F52 HZ53 ⊢
  have hz58 := Nat.le_of_eq HZ53.out.symm
  clear hX HZ53
  refine (implMakingWords_c n0 _ l0 W5 F51.out.ints (by omega) (HT.out.belowB HT.out F47.out (Nat.le_refl _))).mono ?_
  rw [HR.out, HO.out]
  rintro e W6 ⟨v59, rfl, ho60, hb61⟩
  have hz62 := hb61.size
  have F63 := hide (F47.out.trans (hb61.mono (by omega)))
  have F64 := hide (F48.out.below hb61 (by omega))
  have F65 := hide ((hb61.block (w.heap.size) (by omega)).trans F49.out)
  have F66 := hide (F50.out.below hb61 (by omega))
  have F67 := hide (F51.out.kept hb61)
  have F68 := hide ((hb61.block (W4.heap.size) (by omega)).trans F52.out)
  have F69 := hide (ho60)
  clear hb61 F47 F48 F49 F50 F51 F52 ho60
  have p70 := cells_at0 F65.out
  have p71 := cells_at1 F65.out
  have p72 := cells_at0 F68.out
  have p73 := cells_at1 F68.out
  go_wp2_with fail
  clear p70 p71 p72 p73
  refine (eqIntSS_same_c _ _ R W6 (F69.out.rows) ((F66.out.mono (by omega))) hRL).mono ?_
  rintro e W7 ⟨rfl, hb74⟩
  have hz75 := hb74.size
  have F76 := hide (F63.out.trans (hb74.mono (by omega)))
  have F77 := hide (F64.out.below hb74 (by omega))
  have F78 := hide ((hb74.block (w.heap.size) (by omega)).trans F65.out)
  have F79 := hide (F66.out.below hb74 (by omega))
  have F80 := hide (F67.out.kept hb74)
  have F81 := hide ((hb74.block (W4.heap.size) (by omega)).trans F68.out)
  have F82 := hide (F69.out.kept hb74)
  clear hb74 F63 F64 F65 F66 F67 F68 F69
  have p83 := cells_at0 F78.out
  have p84 := cells_at1 F78.out
  have p85 := cells_at0 F81.out
  have p86 := cells_at1 F81.out
  go_wp2
  clear p83 p84 p85 p86
  refine wp_region_held (S := Below W7.heap.size W7) (by kernel_rfl) ?_
  have hS : Below W7.heap.size W7 { W7 with drawn := W7.drawn + 1 } := (Below.refl _ _).drew
  refine wpAnyH_take (i := 0) rfl (by kernel_rfl) (by kernel_rfl) (by kernel_rfl) (fun _ _ _ h => h) (yields_load_two rowSp sizeSp rfl (.tmp _) rfl _ rfl _ _ (fun w' h => (h.cell (p := ⟨W4.heap.size, 0, none⟩) (by show W4.heap.size < _; omega)).trans (cells_at0 F81.out)) (fun w' h => (h.cell (p := ⟨W4.heap.size, 1, none⟩) (by show W4.heap.size < _; omega)).trans (cells_at1 F81.out))) hS ?_
  refine wpAnyH_take (i := 1) rfl (by kernel_rfl) (by kernel_rfl) (by kernel_rfl) (fun _ _ _ h => h) (yields_load_two rowSl sizeSl rfl (.tmp _) rfl _ rfl _ _ (fun w' h => (h.cell (p := ⟨w.heap.size, 0, none⟩) (by show w.heap.size < _; omega)).trans (cells_at0 F78.out)) (fun w' h => (h.cell (p := ⟨w.heap.size, 1, none⟩) (by show w.heap.size < _; omega)).trans (cells_at1 F78.out))) hS ?_
  refine anyH_call (i := 2) (by kernel_rfl) rfl rfl 9 ent_toSpace _ _ rfl #[.agg #[.int .i64 n0, v0]] rfl (toSpace_c n0 v0 l0 _ ((F77.out.below hS (by omega)).mono (show w.heap.size ≤ W7.heap.size by omega)) (by omega)) ?_
  rintro e W8 ⟨g87, rfl, hgr, hkr, hbr⟩
  have hzr : W7.heap.size ≤ W8.heap.size := hbr.size
  have hS6 : Below W7.heap.size W7 W8 := hS.trans hbr
  refine ⟨_, rfl, hS6, ?_⟩
  refine anyH_call (i := 3) (by kernel_rfl) rfl rfl 12 ent_eqSpace _ _ rfl #[.agg #[.int .i64 n0, .slice (some ⟨g35, 0, none⟩) l0.length l0.length], .agg #[.int .i64 n0, .slice (some ⟨g87, 0, none⟩) l0.length l0.length]] rfl (eqSpace_same_c n0 _ _ l0 W8 ((F80.out.kept hS6).ints) (hkr.ints _) (by omega)) ?_
  rintro e W9 ⟨rfl, hbs⟩
  have hS7 : Below W7.heap.size W7 W9 := hS6.trans (hbs.mono hzr)
  refine ⟨_, rfl, hS7, ?_⟩
  refine anyH_op (i := 4) (by kernel_rfl) rfl rfl (.bool false) W9 ?hq hS7 ?_
  case hq => simp [go_sem, Act.put]
  refine wpAnyH_done (by kernel_rfl) ?_ _
  simp only [Act.put, List.getElem_toArray, List.getElem_cons_zero, List.getElem_cons_succ, List.setIfInBounds_toArray, List.set_cons_zero, List.set_cons_succ]
  have hz88 : W7.heap.size ≤ W9.heap.size := hS7.size
  have F89 := hide (F76.out.trans (hS7.mono (by omega)))
  have F90 := hide (F77.out.below hS7 (by omega))
  have F91 := hide ((hS7.block (w.heap.size) (by omega)).trans F78.out)
  have F92 := hide (F79.out.below hS7 (by omega))
  have F93 := hide (F80.out.kept hS7)
  have F94 := hide ((hS7.block (W4.heap.size) (by omega)).trans F81.out)
  have F95 := hide (F82.out.kept hS7)
  clear hS hS6 hS7 hbr hbs hkr hgr hzr F76 F77 F78 F79 F80 F81 F82
  have p96 := cells_at0 F91.out
  have p97 := cells_at1 F91.out
  have p98 := cells_at0 F94.out
  have p99 := cells_at1 F94.out
  go_wp2_with fail
  clear p96 p97 p98 p99
  refine (markSpace_c n0 _ l0 (1) W9 _ F93.out (by omega) (by omega) (by omega)).mono ?_
  rintro e W10 ⟨rfl, hn101, ho100⟩
  have hz102 := ho100.size
  have F103 := hide (F89.out.trans (ho100.below w.heap.size (fun g hg => by have := B45.out g hg; omega) (by omega)))
  have F104 := hide (F90.out.below (ho100.below w.heap.size (fun g hg => by have := B45.out g hg; omega) (by omega)) (Nat.le_refl _))
  have F105 := hide ((ho100.block (w.heap.size) (by omega) (fun e => by have h1 := B45.out _ e; have h2 := L46.out _ e; omega)).trans F91.out)
  have F106 := hide (F92.out.below (ho100.below (W3.heap.size) (fun g hg => by have := B45.out g hg; omega) (by omega)) (Nat.le_refl _))
  have F108 := hide ((ho100.block (W4.heap.size) (by omega) (fun e => by have h1 := B45.out _ e; have h2 := L46.out _ e; omega)).trans F94.out)
  have F109 := hide (F95.out.otherB ho100 (fun g hg => by have h1 := B45.out g hg; have h2 := L46.out g hg; omega))
  have F110 := hide hn101
  clear F89 F90 F91 F92 F93 F94 F95 hn101 ho100
  have hneg3 : ¬ (1 + (l0.length : Int) < 0) := by omega
  have p111 := cells_at0 F105.out
  have p112 := cells_at1 F105.out
  have p113 := cells_at0 F108.out
  have p114 := cells_at1 F108.out
  go_wp2_with fail
  clear p111 p112 p113 p114
  refine (eqIntSS_same_c _ _ R W10 (F109.out.rows) ((F106.out.mono (by omega))) hRL).mono ?_
  rintro e W11 ⟨rfl, hb115⟩
  have hz116 := hb115.size
  have F117 := hide (F103.out.trans (hb115.mono (by omega)))
  have F118 := hide (F104.out.below hb115 (by omega))
  have F119 := hide ((hb115.block (w.heap.size) (by omega)).trans F105.out)
  have F120 := hide (F106.out.below hb115 (by omega))
  have F121 := hide (F110.out.kept hb115)
  have F122 := hide ((hb115.block (W4.heap.size) (by omega)).trans F108.out)
  have F123 := hide (F109.out.kept hb115)
  clear hb115 F103 F104 F105 F106 F110 F108 F109
  clear F121
  clear B45 L46
  have p124 := cells_at0 F119.out
  have p125 := cells_at1 F119.out
  have p126 := cells_at0 F122.out
  have p127 := cells_at1 F122.out
  go_wp2_with fail
  clear p124 p125 p126 p127
  refine (markIntSS1_c _ R W11 _ F123.out hRL (by omega)).mono ?_
  rintro e W12 ⟨rfl, hn128, hb129⟩
  have hz130 := hb129.size
  have F131 := hide (F117.out.trans (hb129.mono (by omega)))
  have F132 := hide (F118.out.below hb129 (by omega))
  have F133 := hide ((hb129.block (w.heap.size) (by omega)).trans F119.out)
  have F134 := hide (F120.out.below hb129 (by omega))
  have F135 := hide ((hb129.block (W4.heap.size) (by omega)).trans F122.out)
  have F136 := hide (hn128)
  clear hb129 F117 F118 F119 F120 F122 hn128 F123
  have p137 := cells_at0 F133.out
  have p138 := cells_at1 F133.out
  have p139 := cells_at0 F135.out
  have p140 := cells_at1 F135.out
  go_wp2_with fail
  clear p137 p138 p139 p140
  refine (heldIntSS1_c _ R W12 (F136.out.rows) hRL).mono ?_
  rintro e _ ⟨rfl, rfl⟩
  have p141 := cells_at0 F133.out
  have p142 := cells_at1 F133.out
  have p143 := cells_at0 F135.out
  have p144 := cells_at1 F135.out
  go_wp2_with fail
  clear p141 p142 p143 p144
  refine (toSpace_c n0 v0 l0 W12 (F132.out.mono (by omega)) (by omega)).mono ?_
  rintro e W13 ⟨g145, rfl, hg146, hk147, hb148⟩
  have hz149 := hb148.size
  have F150 := hide (F131.out.trans (hb148.mono (by omega)))
  have F151 := hide (F132.out.below hb148 (by omega))
  have F152 := hide ((hb148.block (w.heap.size) (by omega)).trans F133.out)
  have F153 := hide (F134.out.below hb148 (by omega))
  have F154 := hide ((hb148.block (W4.heap.size) (by omega)).trans F135.out)
  have F155 := hide (F136.out.kept hb148)
  have F156 := hide (hk147.own hg146 (by unfold maxLen; omega))
  have B157 := hide (F156.out.base)
  have L158 := hide (F156.out.blockLt)
  clear hb148 F131 F132 F133 F134 F135 F136 hk147 hg146
  have p159 := cells_at0 F152.out
  have p160 := cells_at1 F152.out
  have p161 := cells_at0 F154.out
  have p162 := cells_at1 F154.out
  go_wp2_with fail
  clear p159 p160 p161 p162
  refine (implMakingWords_c n0 _ l0 W13 F156.out.ints (by omega) (HT.out.belowB HT.out F150.out (Nat.le_refl _))).mono ?_
  rw [HR.out, HO.out]
  rintro e W14 ⟨v163, rfl, ho164, hb165⟩
  have hz166 := hb165.size
  have F167 := hide (F150.out.trans (hb165.mono (by omega)))
  have F168 := hide (F151.out.below hb165 (by omega))
  have F169 := hide ((hb165.block (w.heap.size) (by omega)).trans F152.out)
  have F170 := hide (F153.out.below hb165 (by omega))
  have F171 := hide ((hb165.block (W4.heap.size) (by omega)).trans F154.out)
  have F172 := hide (F155.out.kept hb165)
  have F173 := hide (F156.out.kept hb165)
  have F174 := hide (ho164)
  clear hb165 F150 F151 F152 F153 F154 F155 F156 ho164
  have p175 := cells_at0 F169.out
  have p176 := cells_at1 F169.out
  have p177 := cells_at0 F171.out
  have p178 := cells_at1 F171.out
  go_wp2_with fail
  clear p175 p176 p177 p178
  refine (eqIntSS_same_c _ _ R W14 (F174.out.rows) ((F170.out.mono (by omega))) hRL).mono ?_
  rintro e W15 ⟨rfl, hb179⟩
  have hz180 := hb179.size
  have F181 := hide (F167.out.trans (hb179.mono (by omega)))
  have F182 := hide (F168.out.below hb179 (by omega))
  have F183 := hide ((hb179.block (w.heap.size) (by omega)).trans F169.out)
  have F184 := hide (F170.out.below hb179 (by omega))
  have F185 := hide ((hb179.block (W4.heap.size) (by omega)).trans F171.out)
  have F186 := hide (F172.out.kept hb179)
  have F187 := hide (F173.out.kept hb179)
  have F188 := hide (F174.out.kept hb179)
  clear hb179 F167 F168 F169 F170 F171 F172 F173 F174
  have p189 := cells_at0 F183.out
  have p190 := cells_at1 F183.out
  have p191 := cells_at0 F185.out
  have p192 := cells_at1 F185.out
  go_wp2_with fail
  clear p189 p190 p191 p192
  refine (heldIntSS1_c _ R W15 (F186.out.rows) hRL).mono ?_
  rintro e _ ⟨rfl, rfl⟩
  have p193 := cells_at0 F183.out
  have p194 := cells_at1 F183.out
  have p195 := cells_at0 F185.out
  have p196 := cells_at1 F185.out
  go_wp2
  go_ret
  exact ⟨rfl, F181.out⟩

theorem ownK : ownKnob Tryd.prog.godebug = none := by kernel_rfl
theorem laidOut : laidOutB Tryd.prog = true := by kernel_rfl

/-- What a slice of int is, as it comes in. -/
theorem list_open {W : World} {v : Value} {l : List Int} (h : (v = .slice none 0 0 ∧ l = []) ∨ ∃ (a : Addr) (len c : Nat) (zs : List Int), v = .slice (some a) len c ∧ len ≤ zs.length ∧ len ≤ maxLen ∧ (∀ i, i < zs.length → W.cell? (a.add i) = some (.int .i64 (zs.getD i 0))) ∧ l = zs.take len) : ints W.heap.size W v l ∧ l.length ≤ 9223372036854775807 := by
  rcases h with ⟨rfl, rfl⟩ | ⟨x, len, c, zs, rfl, hlt, hm, hcell, rfl⟩
  · exact ⟨.inl ⟨rfl, none, 0, rfl⟩, by simp⟩
  · have htk : (zs.take len).length = len := by simp; omega
    refine ⟨?_, by unfold maxLen at hm; omega⟩
    rcases Nat.eq_zero_or_pos len with h0 | h0
    · subst h0
      exact .inl ⟨by simp, some x, c, rfl⟩
    · obtain ⟨b, off, rfl, hc⟩ := ints_at hcell (by omega)
      have hbl := block_lt_of_cell (hc 0 (by omega))
      refine .inr ⟨b, off, c, by rw [htk], hbl, hbl, fun j hj => ?_⟩
      rw [htk] at hj
      rw [hc j (by omega), List.getElem?_take, if_pos hj]
      rfl

/-- What a struct of an int and a slice of int is, as it comes in. -/
theorem space_open {H : Type} {enc : TypeId × Value → H} {W : World} {b0 : Nat} {v : Value} {d : DataW H} {p : List MemPlace}
    (hv : Value.okWide Tryd.prog W .any b0 24 v) (h : DataW.Trod enc Tryd.prog W 0 (fun _ => true) true 24 v d p) :
    ∃ (n : Int) (u : Value) (l : List Int), v = .agg #[.int .i64 n, u] ∧ ints W.heap.size W u l ∧ l.length ≤ 9223372036854775807 := by
  obtain ⟨v0, v1, y0, y1, m, rfl, rfl, rfl, hy0, hy1⟩ := open_agg2 Tryd.underlying24 (by kernel_rfl) (by kernel_rfl) hv h
  obtain ⟨n, e0, _, _⟩ := DataW.trod_int Tryd.underlying3 hy0
  simp at e0
  subst e0
  rcases open_ints Tryd.underlying22 Tryd.underlying3 (by kernel_rfl) hy1 with ⟨hcs, _⟩ | ⟨x, len, c, zs, hcs, _, hl, hm, hz, _, hcell, hwz⟩
  · simp at hcs
    subst hcs
    exact ⟨n, _, [], rfl, list_open (.inl ⟨rfl, rfl⟩)⟩
  · simp at hcs
    subst hcs
    have hz' : zs.length = c := by simpa using hz
    exact ⟨n, _, zs.take len, rfl, list_open (.inr ⟨x, len, c, zs, rfl, by omega, by unfold maxLen at hm ⊢; omega, hcell, rfl⟩)⟩


/-- What the card's condition gives: the table's cells. -/
theorem tab_of {W : World} (h : laidMetH Tryd.prog Rows.fnExactMakingWordsRow.laid W) : tab W := by
  rw [MakeChecks.laidMetH_plain _ _ _ (by kernel_rfl)] at h
  have h2 := h.tail
  have e : (Rows.laid_math_bits_deBruijn64tab : DataW Unit) = Lib.tabData .u8 (Lib.deBruijn64tab.map fun n : Nat => (n : Int)) := by kernel_rfl
  rw [e] at h2
  have hT := Lib.tabIs_of_head (g := 1) (t := 138) (e := 5) (n := 64) (by kernel_rfl) (by kernel_rfl) (by kernel_rfl) (by kernel_rfl) (by kernel_rfl) (by kernel_rfl) h2
  have hc : ∀ j, j < 64 → W.cell? ⟨1, j, none⟩ = some (.int .u8 (Lib.deBruijn64tab.getD j 0)) := by
    intro j hj
    have h3 := hT.cell (g := 1) (by kernel_rfl) j (by rw [show (Lib.deBruijn64tab.map fun n : Nat => (n : Int)).length = 64 by decide +kernel]; exact hj)
    rw [h3]
    have h4 : ∀ j, j < 64 → (Lib.deBruijn64tab.map fun n : Nat => (n : Int)).getD j 0 = (Lib.deBruijn64tab.getD j 0 : Int) := by decide +kernel
    rw [h4 j hj]
  exact ⟨block_lt_of_cell (hc 0 (by omega)), hc⟩
theorem door_met (os : Os) (args : Array Value) : laidMetH Tryd.prog Rows.fnExactMakingWordsRow.laid ((World.doorLaid Tryd.prog 400 os).forCall (fun _ _ => 0) ⟨#[], args, []⟩).memory :=
  laidMetH_of_parts3 (fuel := 8) (laidMet_of_run' 8 (by kernel_rfl) (by kernel_rfl)) (by kernel_rfl) (by kernel_rfl)

theorem lifted (os : Os) (started : os.Started) (H : Type) (enc : TypeId × Value → H) :
    ReturnsInHanded {} Tryd.checked os 3 .any (fun w args => (Rows.fnExactMakingWordsSpec.pre enc Tryd.prog Tryd.f3 [] false w args ∧ laidMetH Tryd.prog Rows.fnExactMakingWordsRow.laid w) ∧ sizedMet enc Tryd.prog Tryd.f3 (OpenSpec.ofChange Rows.fnExactMakingWordsSpec) false w args)
      (Rows.fnExactMakingWordsSpec.post enc Tryd.prog Tryd.f3 false true false false) := by
  refine returnsInHanded_of_change_and (C := Tryd.checked) (X := fun w _ => laidMetH Tryd.prog Rows.fnExactMakingWordsRow.laid w) (fun _ _ _ hh h => h.of_heap hh) ownK started (by kernel_rfl) Tryd.func3
    (ChangeSpec.witness_shaped (enc := enc) (C := Tryd.checked) (os := os) (X := fun w _ => laidMetH Tryd.prog Rows.fnExactMakingWordsRow.laid w) false (World.doorLaid Tryd.prog 400 os) #[.agg #[.int .i64 0, .slice none 0 0]] 8 rfl (World.shaped_of_RefB (by kernel_rfl) (by kernel_rfl)) (by kernel_rfl) (by kernel_rfl) (by kernel_rfl) (door_met os _)) ?_
  intro W base args ds gs before hval0 hW _ _ hL _
  have hTab := tab_of hL
  have hval : ∀ (j : Nat) t v, Tryd.f3.params[j]? = some t → args[j]? = some v → Value.okWide Tryd.prog W .any base t v := hval0
  have hW' := hW
  obtain ⟨p, q, hA0, hV, rfl, hfz, hnd⟩ := hW
  have hA : DataW.TrodAll enc Tryd.prog W 0 (fun _ => true) true Tryd.f3.params.toList args.toList ds p := hA0
  rw [Tryd.params3] at hA hval
  obtain ⟨v0, vs0, d0, ds0, p0, q0, hargs, rfl, rfl, t0, r0⟩ := trodAll_cons hA
  obtain ⟨rfl, rfl, rfl⟩ := trodAll_nil r0
  obtain rfl : args = #[v0] := by cases args; simp_all
  obtain ⟨rfl, rfl⟩ := trodVars_none hV
  have k0 := t0
  have lt0 : ∀ x ∈ p0, x.block < W.heap.size := by obtain ⟨m, hm⟩ := k0; exact DataW.trod_lt m _ _ _ hm
  obtain ⟨n0, u0, l0, rfl, i0, e0⟩ := space_open (hval 0 24 v0 rfl rfl) t0
  clear hA0 hval0
  refine (law_c n0 u0 l0 W i0 e0 hTab).mono fun e W' ⟨he, bel⟩ => ?_
  subst he
  exact ⟨_, rfl, _, _, _, [], _, [], hW', trodAll_mk1 (shut_bool Tryd.underlying4 _), (trodAll_cons_mk (Below.trod laidOut (by kernel_rfl) (of_decide_eq_true (by kernel_rfl)) k0 bel lt0) trodAll_mk0), rfl, bel.frame _, fun h => by cases h⟩

set_option maxHeartbeats 4000000 in
theorem over : Rows.fnExactMakingWordsRow.holds Tryd.pinned (OpenSpec.ofChange Rows.fnExactMakingWordsSpec) :=
  OpenClaim.holds_of_wide 3 Tryd.f3 rfl rfl rfl rfl rfl rfl rfl ⟨rfl, rfl, rfl, rfl, rfl⟩ rfl rfl rfl rfl rfl (by as_aux_lemma => kernel_rfl) Tryd.func3 (by as_aux_lemma => kernel_rfl)
    (of_decide_eq_true (by as_aux_lemma => kernel_rfl)) (by unfold Func.isWrapper; first | (rw [if_pos (by decide +kernel)]; kernel_rfl) | (rw [if_neg (by decide +kernel)]; exact ⟨rfl, rfl⟩))
    (fun os started H enc _ => lifted os started H enc)

set_option maxHeartbeats 8000000 in
theorem proved : Rows.FnExactMakingWordsCardSaid :=
  Claim7.holds_tied_plain_at .later [] [.data, .data] true _ false
    over (fun _ h => by cases h) (by as_aux_lemma => kernel_rfl) (fun _ h => by cases h) fnExactMakingWords_row_tie rfl ⟨rfl, rfl⟩ (by as_aux_lemma => kernel_rfl) rfl
    (fun f fn hf hfn => by
      obtain rfl : f = 3 := Option.some.inj ((show Tryd.prog.funcNamed "loop.example/g01137/laws.FnExactMakingWords" = some 3 by as_aux_lemma => kernel_rfl).symm.trans hf) |>.symm
      obtain rfl : fn = Tryd.f3 := (Option.some.inj (Tryd.func3.symm.trans hfn)).symm
      exact ⟨by as_aux_lemma => kernel_rfl, fun j t ht => by
        rw [Tryd.params3] at ht
        have hm : t ∈ [24] := by simpa using Array.mem_of_getElem? ht
        have hall : ([24].all fun u => !Tryd.prog.wantsStandIn u) = true := by as_aux_lemma => kernel_rfl
        exact (show Tryd.prog.wantsStandIn t = false by simpa using List.all_eq_true.1 hall t hm)⟩)
    (by as_aux_lemma => kernel_rfl)
#print axioms proved
end Go.Proofs.YtblglkgmnaklbaaDoor.FMakingWords
