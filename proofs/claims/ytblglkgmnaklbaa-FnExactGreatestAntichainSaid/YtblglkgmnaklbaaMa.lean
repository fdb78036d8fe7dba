/- Mathematics: sets are put behind others, each one behind the first that is free or whose follower can be put behind another one. No program is named here. -/
import Derived.Test.YtblglkgmnaklbaaPt
namespace Go.Proofs.Ytblglkgmnaklbaa
open Go.RowKit
set_option maxRecDepth 100000
def updM (A : Nat → Nat) (i v : Nat) : Nat → Nat := fun j => if j = i then v else A j
/-- What is known on the way: what follows each set, what each one is behind, which are tried. -/
structure Mst where
  nx : Nat → Nat
  bf : Nat → Nat
  tr : Nat → Bool
def Mst.mark (s : Mst) (k : Nat) : Mst := { s with tr := upd s.tr k true }
def Mst.put (s : Mst) (k x : Nat) : Mst := { s with nx := updM s.nx k x, bf := updM s.bf x k }
def Mst.fresh (s : Mst) : Mst := { s with tr := noSet }
def fitM (P : Nat → Bool) (s : Mst) (x k : Nat) : Bool := P k && (decide (andNot k x = 0) && !s.tr k)
def puM (P : Nat → Bool) : Nat → Nat → Nat → Mst → Option (Bool × Mst)
  | 0, _, _, _ => none
  | f + 1, x, k, s =>
    if x ≤ k then some (false, s)
    else if fitM P s x k = true then
      if s.nx k = 0 then some (true, (s.mark k).put k x)
      else match puM P f (s.nx k) 0 (s.mark k) with
        | none => none
        | some (true, t) => some (true, t.put k x)
        | some (false, t) => puM P f x (k + 1) t
    else puM P f x (k + 1) s
section
variable {P : Nat → Bool}
theorem puM_end {f x k : Nat} {s : Mst} (h : x ≤ k) : puM P (f + 1) x k s = some (false, s) := by rw [puM, if_pos h]
theorem puM_skip {f x k : Nat} {s : Mst} (h : ¬ x ≤ k) (h2 : fitM P s x k = false) : puM P (f + 1) x k s = puM P f x (k + 1) s := by
  rw [puM, if_neg h, if_neg (by rw [h2]; simp)]
theorem puM_free {f x k : Nat} {s : Mst} (h : ¬ x ≤ k) (h2 : fitM P s x k = true) (h3 : s.nx k = 0) : puM P (f + 1) x k s = some (true, (s.mark k).put k x) := by
  rw [puM, if_neg h, if_pos h2, if_pos h3]
theorem puM_call {f x k : Nat} {s : Mst} (h : ¬ x ≤ k) (h2 : fitM P s x k = true) (h3 : s.nx k ≠ 0) : puM P (f + 1) x k s = (match puM P f (s.nx k) 0 (s.mark k) with | none => none | some (true, t) => some (true, t.put k x) | some (false, t) => puM P f x (k + 1) t) := by
  rw [puM, if_neg h, if_pos h2, if_neg h3]
/-- What a call that ends was made of. -/
theorem puM_cases {f x k : Nat} {s : Mst} {r : Bool} {t : Mst} (h : puM P f x k s = some (r, t)) :
    ∃ g, f = g + 1 ∧ ((x ≤ k ∧ r = false ∧ t = s) ∨ (k < x ∧ fitM P s x k = false ∧ puM P g x (k + 1) s = some (r, t)) ∨
      (k < x ∧ fitM P s x k = true ∧ s.nx k = 0 ∧ r = true ∧ t = (s.mark k).put k x) ∨
      (k < x ∧ fitM P s x k = true ∧ s.nx k ≠ 0 ∧ ∃ r1 t1, puM P g (s.nx k) 0 (s.mark k) = some (r1, t1) ∧ ((r1 = true ∧ r = true ∧ t = t1.put k x) ∨ (r1 = false ∧ puM P g x (k + 1) t1 = some (r, t))))) := by
  cases f with
  | zero => rw [puM] at h; cases h
  | succ g =>
    refine ⟨g, rfl, ?_⟩
    by_cases h1 : x ≤ k
    · rw [puM_end h1] at h
      cases h
      exact .inl ⟨h1, rfl, rfl⟩
    · cases h2 : fitM P s x k
      · rw [puM_skip h1 h2] at h
        exact .inr (.inl ⟨by omega, rfl, h⟩)
      · by_cases h3 : s.nx k = 0
        · rw [puM_free h1 h2 h3] at h
          cases h
          exact .inr (.inr (.inl ⟨by omega, rfl, h3, rfl, rfl⟩))
        · rw [puM_call h1 h2 h3] at h
          refine .inr (.inr (.inr ⟨by omega, rfl, h3, ?_⟩))
          cases h4 : puM P g (s.nx k) 0 (s.mark k) with
          | none => rw [h4] at h; cases h
          | some p =>
            obtain ⟨r1, t1⟩ := p
            rw [h4] at h
            cases r1
            · exact ⟨false, t1, rfl, .inr ⟨rfl, h⟩⟩
            · simp only [Option.some.injEq, Prod.mk.injEq] at h
              exact ⟨true, t1, rfl, .inl ⟨rfl, h.1.symm, h.2.symm⟩⟩
theorem fitM_iff {s : Mst} {x k : Nat} : fitM P s x k = true ↔ P k = true ∧ andNot k x = 0 ∧ s.tr k = false := by
  unfold fitM
  rw [Bool.and_eq_true, Bool.and_eq_true, decide_eq_true_eq, Bool.not_eq_true']
theorem upd_up {F : Nat → Bool} {k j : Nat} (h : F j = true) : upd F k true j = true := by
  unfold upd; split
  · rfl
  · exact h
/-- What is tried stays so. -/
theorem puM_tr : ∀ f x k s r t, puM P f x k s = some (r, t) → ∀ j, s.tr j = true → t.tr j = true := by
  intro f
  induction f using Nat.strongRecOn with
  | ind f ih =>
    intro x k s r t h j hj
    obtain ⟨g, e0, hc⟩ := puM_cases h
    clear h
    subst e0
    rcases hc with ⟨_, _, rfl⟩ | ⟨_, _, h⟩ | ⟨_, _, _, _, rfl⟩ | ⟨_, _, _, r1, t1, h1, h2⟩
    · exact hj
    · exact ih g (by omega) _ _ _ _ _ h j hj
    · exact upd_up hj
    · have h3 := ih g (by omega) _ _ _ _ _ h1 j (upd_up hj)
      rcases h2 with ⟨_, _, rfl⟩ | ⟨_, h2⟩
      · exact h3
      · exact ih g (by omega) _ _ _ _ _ h2 j h3
/-! ### It ends -/
def unM (s : Mst) : Nat := ((List.range 128).filter fun k => !s.tr k).length
theorem filter_le {α : Type} (p q : α → Bool) : ∀ l : List α, (∀ a, a ∈ l → p a = true → q a = true) → (l.filter p).length ≤ (l.filter q).length
  | [], _ => Nat.le_refl _
  | a :: l, h => by
    have ih := filter_le p q l fun b hb => h b (List.mem_cons_of_mem _ hb)
    rw [List.filter_cons, List.filter_cons]
    split
    · rename_i hp
      rw [if_pos (h a List.mem_cons_self hp)]
      simp only [List.length_cons]
      omega
    · split
      · simp only [List.length_cons]; omega
      · exact ih
theorem filter_lt {α : Type} (p q : α → Bool) : ∀ l : List α, (∀ a, a ∈ l → p a = true → q a = true) → (∃ a, a ∈ l ∧ p a = false ∧ q a = true) → (l.filter p).length < (l.filter q).length
  | [], _, h => by obtain ⟨a, h, _⟩ := h; cases h
  | a :: l, h, hx => by
    have ih := filter_le p q l fun b hb => h b (List.mem_cons_of_mem _ hb)
    obtain ⟨b, hb, hpb, hqb⟩ := hx
    rw [List.filter_cons, List.filter_cons]
    rcases List.mem_cons.1 hb with rfl | hb
    · rw [if_neg (by rw [hpb]; simp), if_pos hqb]
      simp only [List.length_cons]
      omega
    · have ih2 := filter_lt p q l (fun b hb => h b (List.mem_cons_of_mem _ hb)) ⟨b, hb, hpb, hqb⟩
      split
      · rename_i hp
        rw [if_pos (h a List.mem_cons_self hp)]
        simp only [List.length_cons]
        omega
      · split
        · simp only [List.length_cons]; omega
        · exact ih2
theorem unM_le {s t : Mst} (h : ∀ j, s.tr j = true → t.tr j = true) : unM t ≤ unM s :=
  filter_le _ _ _ fun a _ ha => by
    cases e : s.tr a
    · rfl
    · rw [h a e] at ha; cases ha
theorem unM_mark {s : Mst} {k : Nat} (hk : k < 128) (h : s.tr k = false) : unM (s.mark k) < unM s :=
  filter_lt _ _ _ (fun a _ ha => by
    cases e : s.tr a
    · rfl
    · rw [show (s.mark k).tr a = true from upd_up e] at ha; cases ha) ⟨k, List.mem_range.2 hk, by simp [Mst.mark, upd], by rw [h]; rfl⟩
theorem unM_128 (s : Mst) : unM s ≤ 128 := by
  have : unM s ≤ (List.range 128).length := List.length_filter_le _ _
  simpa using this
theorem puM_some : ∀ f x k s, (∀ j, s.nx j < 128) → x < 128 → k ≤ 128 → unM s * 131 + (129 - k) ≤ f → ∃ r t, puM P f x k s = some (r, t) ∧ ∀ j, t.nx j < 128 := by
  intro f
  induction f with
  | zero =>
    intro x k s hs hx hk hf
    omega
  | succ f ih =>
    intro x k s hs hx hk hf
    by_cases h1 : x ≤ k
    · exact ⟨false, s, puM_end h1, hs⟩
    · cases h2 : fitM P s x k
      · obtain ⟨r, t, e, ht⟩ := ih x (k + 1) s hs hx (by omega) (by omega)
        exact ⟨r, t, by rw [puM_skip h1 h2]; exact e, ht⟩
      · by_cases h3 : s.nx k = 0
        · refine ⟨true, _, puM_free h1 h2 h3, fun j => ?_⟩
          show updM s.nx k x j < 128
          unfold updM
          split
          · exact hx
          · exact hs j
        · have hm := unM_mark (s := s) (show k < 128 by omega) (fitM_iff.1 h2).2.2
          obtain ⟨r1, t1, e1, ht1⟩ := ih (s.nx k) 0 (s.mark k) hs (hs k) (by omega) (by omega)
          have hle := unM_le (puM_tr _ _ _ _ _ _ e1)
          cases r1
          · obtain ⟨r, t, e, ht⟩ := ih x (k + 1) t1 ht1 hx (by omega) (by omega)
            exact ⟨r, t, by rw [puM_call h1 h2 h3, e1]; exact e, ht⟩
          · refine ⟨true, t1.put k x, by rw [puM_call h1 h2 h3, e1], fun j => ?_⟩
            show updM t1.nx k x j < 128
            unfold updM
            split
            · exact hx
            · exact ht1 j
/-! ### What follows and what it follows agree -/
structure OkM (P : Nat → Bool) (s : Mst) : Prop where
  a : ∀ j, s.nx j ≠ 0 → s.bf (s.nx j) = j
  b : ∀ y, s.bf y ≠ 0 → s.nx (s.bf y) = y
  z : s.bf 0 = 0
  w : ∀ j, s.nx j ≠ 0 → P j = true ∧ P (s.nx j) = true ∧ j < s.nx j ∧ andNot j (s.nx j) = 0
theorem OkM.of {s t : Mst} (h : OkM P s) (h1 : t.nx = s.nx) (h2 : t.bf = s.bf) : OkM P t := ⟨by rw [h1, h2]; exact h.a, by rw [h1, h2]; exact h.b, by rw [h2]; exact h.z, by rw [h1]; exact h.w⟩
structure PostM (P : Nat → Bool) (s t : Mst) (x : Nat) : Prop where
  keepN : ∀ j, s.tr j = true → t.nx j = s.nx j
  keepB : ∀ y, y ≠ x → (s.bf y = 0 ∨ s.tr (s.bf y) = true) → t.bf y = s.bf y
  here : t.bf x ≠ 0 ∧ s.tr (t.bf x) = false
  a : ∀ j, j ≠ s.bf x → t.nx j ≠ 0 → t.bf (t.nx j) = j
  b : ∀ y, t.bf y ≠ 0 → t.nx (t.bf y) = y
  z : t.bf 0 = 0
  w : ∀ j, t.nx j ≠ 0 → P j = true ∧ P (t.nx j) = true ∧ j < t.nx j ∧ andNot j (t.nx j) = 0
theorem updM_at (A : Nat → Nat) (k v : Nat) : updM A k v k = v := by simp [updM]
theorem updM_ne {A : Nat → Nat} {k v j : Nat} (h : j ≠ k) : updM A k v j = A j := by simp [updM, h]
/-- One more, of what holds but for its own place. -/
theorem PostM.put {s t : Mst} {k x : Nat} (hk0 : k ≠ 0) (hx0 : x ≠ 0) (hxP : P x = true) (hkP : P k = true) (hkx : k < x) (hin : andNot k x = 0) (htr : s.tr k = false)
    (hq : s.bf x = 0 ∨ s.tr (s.bf x) = true)
    (keepN : ∀ j, s.tr j = true → t.nx j = s.nx j)
    (keepB : ∀ y, (s.bf y = 0 ∨ s.tr (s.bf y) = true) → t.bf y = s.bf y)
    (a : ∀ j, j ≠ k → t.nx j ≠ 0 → t.bf (t.nx j) = j)
    (b : ∀ y, t.bf y ≠ 0 → t.nx (t.bf y) = y)
    (nk : ∀ y, t.bf y ≠ k) (z : t.bf 0 = 0)
    (w : ∀ j, t.nx j ≠ 0 → P j = true ∧ P (t.nx j) = true ∧ j < t.nx j ∧ andNot j (t.nx j) = 0) : PostM P s (t.put k x) x where
  keepN := fun j hj => by
    have : j ≠ k := fun e => by rw [e, htr] at hj; cases hj
    rw [← keepN j hj]
    exact updM_ne this
  keepB := fun y hy h => by
    rw [← keepB y h]
    exact updM_ne hy
  here := by
    rw [show (t.put k x).bf x = k from updM_at _ _ _]
    exact ⟨hk0, htr⟩
  a := fun j hj hn => by
    by_cases e : j = k
    · subst e
      rw [show (t.put j x).nx j = x from updM_at _ _ _]
      exact updM_at _ _ _
    · rw [show (t.put k x).nx j = t.nx j from updM_ne e] at hn ⊢
      have h1 := a j e hn
      by_cases e2 : t.nx j = x
      · exfalso
        rw [e2, keepB x hq] at h1
        exact hj h1.symm
      · rw [show (t.put k x).bf (t.nx j) = t.bf (t.nx j) from updM_ne e2]
        exact h1
  b := fun y hy => by
    by_cases e : y = x
    · subst e
      rw [show (t.put k y).bf y = k from updM_at _ _ _]
      exact updM_at _ _ _
    · rw [show (t.put k x).bf y = t.bf y from updM_ne e] at hy ⊢
      rw [show (t.put k x).nx (t.bf y) = t.nx (t.bf y) from updM_ne (nk y)]
      exact b y hy
  z := (updM_ne (fun e => hx0 e.symm)).trans z
  w := fun j hj => by
    by_cases e : j = k
    · subst e
      rw [show (t.put j x).nx j = x from updM_at _ _ _]
      exact ⟨hkP, hxP, hkx, hin⟩
    · rw [show (t.put k x).nx j = t.nx j from updM_ne e] at hj ⊢
      exact w j hj
theorem puM_ok (h0 : P 0 = false) : ∀ f x k s r t, puM P f x k s = some (r, t) → OkM P s → P x = true → (s.bf x = 0 ∨ s.tr (s.bf x) = true) →
    (r = false → t.nx = s.nx ∧ t.bf = s.bf) ∧ (r = true → PostM P s t x) := by
  intro f
  induction f using Nat.strongRecOn with
  | ind f ih =>
    intro x k s r t h hs hx hq
    have hx0 : x ≠ 0 := fun e => by rw [e, h0] at hx; cases hx
    obtain ⟨g, e0, hc⟩ := puM_cases h
    clear h
    subst e0
    rcases hc with ⟨_, rfl, rfl⟩ | ⟨_, _, h⟩ | ⟨h1, h2, h3, rfl, rfl⟩ | ⟨h1, h2, h3, r1, t1, h4, h5⟩
    · exact ⟨fun _ => ⟨rfl, rfl⟩, fun h => by cases h⟩
    · exact ih g (by omega) _ _ _ _ _ h hs hx hq
    · obtain ⟨g1, g2, g3⟩ := fitM_iff.1 h2
      have hk0 : k ≠ 0 := fun e => by rw [e, h0] at g1; cases g1
      refine ⟨(fun h => by cases h), fun _ => PostM.put hk0 hx0 hx g1 h1 g2 g3 hq (fun _ _ => rfl) (fun _ _ => rfl) (fun j _ hj => hs.a j hj) hs.b (fun y e => ?_) hs.z hs.w⟩
      have h6 : s.bf y = k := e
      have h7 := hs.b y (by rw [h6]; exact hk0)
      rw [h6, h3] at h7
      rw [← h7, hs.z] at h6
      exact hk0 h6.symm
    · obtain ⟨g1, g2, g3⟩ := fitM_iff.1 h2
      have hk0 : k ≠ 0 := fun e => by rw [e, h0] at g1; cases g1
      have ha := hs.a k h3
      have hmk : (s.mark k).tr k = true := by simp [Mst.mark, upd]
      obtain ⟨i1, i2⟩ := ih g (by omega) _ _ _ _ _ h4 (hs.of rfl rfl) (hs.w k h3).2.1 (.inr (by rw [show (s.mark k).bf (s.nx k) = k from ha]; exact hmk))
      have hup : ∀ j, s.tr j = true → t1.tr j = true := fun j hj => puM_tr _ _ _ _ _ _ h4 j (upd_up hj)
      rcases h5 with ⟨rfl, rfl, rfl⟩ | ⟨rfl, h5⟩
      · have I := i2 rfl
        refine ⟨(fun h => by cases h), fun _ => PostM.put hk0 hx0 hx g1 h1 g2 g3 hq (fun j hj => I.keepN j (upd_up hj)) (fun y hy => ?_) (fun j hj => I.a j (by rw [show (s.mark k).bf (s.nx k) = k from ha]; exact hj)) I.b (fun y e => ?_) I.z I.w⟩
        · have hne : y ≠ s.nx k := by
            intro e
            rw [e, ha] at hy
            rcases hy with h | h
            · exact hk0 h
            · rw [g3] at h; cases h
          exact I.keepB y hne (hy.imp id upd_up)
        · have h6 := I.b y (by rw [e]; exact hk0)
          rw [e, I.keepN k hmk] at h6
          have h7 := I.here.2
          rw [show t1.bf (s.nx k) = k by rw [show s.nx k = y from h6]; exact e, hmk] at h7
          cases h7
      · obtain ⟨e1, e2⟩ := i1 rfl
        have e1' : t1.nx = s.nx := e1
        have e2' : t1.bf = s.bf := e2
        obtain ⟨j1, j2⟩ := ih g (by omega) _ _ _ _ _ h5 (hs.of e1' e2') hx (by rw [e2']; exact hq.imp id (hup _))
        refine ⟨fun h => ⟨(j1 h).1.trans e1', (j1 h).2.trans e2'⟩, fun h => ?_⟩
        have J := j2 h
        refine ⟨fun j hj => by rw [J.keepN j (hup j hj), e1'], fun y hy h => by rw [J.keepB y hy (by rw [e2']; exact h.imp id (hup _)), e2'], ⟨J.here.1, ?_⟩, fun j hj => J.a j (by rw [e2']; exact hj), J.b, J.z, J.w⟩
        cases e : s.tr (t.bf x)
        · rfl
        · have := hup _ e
          rw [J.here.2] at this; cases this
end
/-! ### All of them, in their order -/
def fuM : Nat := 20000
def maSt (P : Nat → Bool) (x : Nat) (s : Mst) : Mst := match puM P fuM x 0 s.fresh with | some (_, t) => t | none => s
def maTo (P : Nat → Bool) : Nat → Mst
  | 0 => ⟨fun _ => 0, fun _ => 0, noSet⟩
  | x + 1 => if P x = true then maSt P x (maTo P x) else maTo P x
section
variable {P : Nat → Bool} (h0 : P 0 = false) (hP : ∀ x, P x = true → x < 128)
/-- What is known when all sets below a number are put. -/
structure AtM (P : Nat → Bool) (x : Nat) (s : Mst) : Prop where
  ok : OkM P s
  lt : ∀ j, s.nx j < 128
  new : ∀ y, x ≤ y → s.bf y = 0
include h0 hP
theorem maSt_some {x : Nat} {s : Mst} (h : AtM P x s) (hx : P x = true) : ∃ r, puM P fuM x 0 s.fresh = some (r, maSt P x s) ∧ AtM P (x + 1) (maSt P x s) := by
  have hx8 := hP x hx
  have hu := unM_128 s.fresh
  obtain ⟨r, t, e, ht⟩ := puM_some (P := P) fuM x 0 s.fresh h.lt hx8 (by omega) (by unfold fuM; omega)
  have em : maSt P x s = t := by unfold maSt; rw [e]
  rw [em]
  refine ⟨r, e, ?_⟩
  have hx0 : x ≠ 0 := fun e => by rw [e, h0] at hx; cases hx
  have hbx : s.fresh.bf x = 0 := h.new x (Nat.le_refl _)
  obtain ⟨p1, p2'⟩ := puM_ok h0 fuM x 0 s.fresh r t e (h.ok.of rfl rfl) hx (.inl hbx)
  cases r
  · obtain ⟨e1, e2⟩ := p1 rfl
    exact ⟨h.ok.of e1 e2, ht, fun y hy => by rw [e2]; exact h.new y (by omega)⟩
  · have J := p2' rfl
    refine ⟨⟨fun j hj => ?_, J.b, J.z, J.w⟩, ht, fun y hy => ?_⟩
    · refine J.a j (fun e => ?_) hj
      rw [hbx] at e
      rw [e] at hj
      have := (J.w 0 hj).1
      rw [h0] at this; cases this
    · have hb : s.fresh.bf y = 0 := h.new y (by omega)
      rw [J.keepB y (by omega) (.inl hb)]
      exact hb
theorem maTo_at : ∀ x, AtM P x (maTo P x)
  | 0 => ⟨⟨fun _ h => absurd rfl h, fun _ h => absurd rfl h, rfl, fun _ h => absurd rfl h⟩, fun _ => Nat.zero_lt_succ _, fun _ _ => rfl⟩
  | x + 1 => by
    rw [maTo]
    have ih := maTo_at x
    split
    · rename_i h
      exact (maSt_some h0 hP ih h).choose_spec.2
    · exact ⟨ih.ok, ih.lt, fun y hy => ih.new y (by omega)⟩
end
end Go.Proofs.Ytblglkgmnaklbaa
