/- For the laws' walks: chips, as structs of a slice of slices and a slice: copies, sizes, comparisons, marks. -/
import Derived.Test.YtjmhmmenampgbaaDoorRt
import Derived.Test.YtjmhmmenampgbaaDoorHar
import Derived.Test.YtjmhmmenampgbaaDoorIs
import Derived.Test.YtjmhmmenampgbaaDoorBx
import Derived.ProofKit
import Derived.OpenShut
import Derived.Lib.SmallJoins
namespace Go.Proofs.YtjmhmmenampgbaaDoor
open Go.ChangeShapes Go.WideShapes Go.RowKit Go.Deep Go.WideElems Go.Maps Go.Joins
set_option maxRecDepth 100000
set_option linter.unusedSimpArgs false
theorem rowCp : (Tryd.prog.underlying 29).map TypeDesc.isRow = some true := by kernel_rfl
theorem rowCl : (Tryd.prog.underlying 25).map TypeDesc.isRow = some true := by kernel_rfl
theorem sizeCp : (Tryd.prog.info? 29).map (·.size) = some 2 := by kernel_rfl
theorem sizeCl : (Tryd.prog.info? 25).map (·.size) = some 2 := by kernel_rfl
theorem ent_toChips : enters Tryd.prog 14 := enters_of Tryd.func14 (by kernel_rfl) (by kernel_rfl)
theorem ent_eqChips : enters Tryd.prog 17 := enters_of Tryd.func17 (by kernel_rfl) (by kernel_rfl)
/-- Chips of one's own, whose blocks lie in a stretch. -/
def chpT (w : World) (base top : Nat) (v u : Value) (M : List (List Int)) (A : List Int) : Prop :=
  ∃ mid, base ≤ mid ∧ mid ≤ top ∧ own2T 23 3 w base mid v M ∧ own 3 w mid u A ∧ (∀ g, u.ownBlock = some g → g < top)
theorem chpT.rows {w : World} {base top : Nat} {v u : Value} {M : List (List Int)} {A : List Int} (h : chpT w base top v u M A) : rows w.heap.size w v M := by
  obtain ⟨m, _, _, h1, _⟩ := h
  exact h1.rows
theorem chpT.ints {w : World} {base top : Nat} {v u : Value} {M : List (List Int)} {A : List Int} (h : chpT w base top v u M A) : ints w.heap.size w u A := by
  obtain ⟨m, _, _, _, h1, _⟩ := h
  exact h1.ints
theorem chpT.kept {w w' : World} {base top : Nat} {v u : Value} {M : List (List Int)} {A : List Int} (h : chpT w base top v u M A) (hb : Below w.heap.size w w') : chpT w' base top v u M A := by
  obtain ⟨m, h1, h2, h3, h4, h5⟩ := h
  exact ⟨m, h1, h2, h3.kept hb, h4.kept hb, h5⟩
theorem chpT.alloc {w : World} {base top : Nat} {v u : Value} {M : List (List Int)} {A : List Int} (h : chpT w base top v u M A) (o : Obj) : chpT (w.alloc o) base top v u M A :=
  h.kept ((Below.refl _ _).alloc (Nat.le_refl _) o)
theorem chpT.otherB {w w' : World} {base top : Nat} {x v u : Value} {M : List (List Int)} {A : List Int} (h : chpT w base top v u M A) (ho : Other x w w') (hu : ∀ g, x.ownBlock = some g → g < base ∨ top ≤ g) : chpT w' base top v u M A := by
  obtain ⟨m, h1, h2, h3, h4, h5⟩ := h
  refine ⟨m, h1, h2, h3.otherB ho fun g hg => by have := hu g hg; omega, h4.other ho fun g hg e => ?_, h5⟩
  have := hu g e
  have := h4.base g hg
  have := h5 g hg
  omega
/-- Chips of one's own as an answer: the list ahead of the rows. -/
def chpO (w : World) (base : Nat) (v u : Value) (M : List (List Int)) (A : List Int) : Prop :=
  ∃ mid, base ≤ mid ∧ mid ≤ w.heap.size ∧ own2 23 3 w mid v M ∧ own 3 w base u A ∧ (∀ g, u.ownBlock = some g → g < mid)
theorem chpO.rows {w : World} {base : Nat} {v u : Value} {M : List (List Int)} {A : List Int} (h : chpO w base v u M A) : rows w.heap.size w v M := by
  obtain ⟨m, _, _, h1, _⟩ := h
  exact h1.rows
theorem chpO.ints {w : World} {base : Nat} {v u : Value} {M : List (List Int)} {A : List Int} (h : chpO w base v u M A) : ints w.heap.size w u A := by
  obtain ⟨m, _, _, _, h1, _⟩ := h
  exact h1.ints
theorem chpO.kept {w w' : World} {base : Nat} {v u : Value} {M : List (List Int)} {A : List Int} (h : chpO w base v u M A) (hb : Below w.heap.size w w') : chpO w' base v u M A := by
  obtain ⟨m, h1, h2, h3, h4, h5⟩ := h
  exact ⟨m, h1, Nat.le_trans h2 hb.size, h3.kept hb, h4.kept hb, h5⟩
theorem chpO.mono {w : World} {base base' : Nat} {v u : Value} {M : List (List Int)} {A : List Int} (h : chpO w base v u M A) (hb : base' ≤ base) : chpO w base' v u M A := by
  obtain ⟨m, h1, h2, h3, h4, h5⟩ := h
  exact ⟨m, Nat.le_trans hb h1, h2, h3, h4.mono hb, h5⟩
theorem chpO.alloc {w : World} {base : Nat} {v u : Value} {M : List (List Int)} {A : List Int} (h : chpO w base v u M A) (o : Obj) : chpO (w.alloc o) base v u M A :=
  h.kept ((Below.refl _ _).alloc (Nat.le_refl _) o)
theorem own2.spanB {T I : TypeId} {w w' : World} {b base top : Nat} {v : Value} {L : List (List Int)} (h : own2 T I w b v L) (ho : Span base top w w') (hu : top ≤ b) : own2 T I w' b v L := by
  obtain ⟨us, h1, ⟨h2, h2'⟩, h3, h4⟩ := h
  refine ⟨us, h1, ⟨h2, ?_⟩, fun j hj => ⟨(h3 j hj).1.span ho fun g hg => .inr (by have := (h3 j hj).1.base g hg; omega), (h3 j hj).2⟩, h4⟩
  rcases h2' with h7 | ⟨g, cap, cur, e, hg, hh, r⟩
  · exact .inl h7
  · exact .inr ⟨g, cap, cur, e, hg, (ho.block g (hp_lt hh) (.inr (by omega))).trans hh, r⟩
theorem chpO.span {w w' : World} {b base top : Nat} {v u : Value} {M : List (List Int)} {A : List Int} (h : chpO w b v u M A) (ho : Span base top w w') (hu : top ≤ b) : chpO w' b v u M A := by
  obtain ⟨m, h1, h2, h3, h4, h5⟩ := h
  exact ⟨m, h1, Nat.le_trans h2 ho.size, h3.spanB ho (by omega), h4.span ho (fun g hg => .inr (by have := h4.base g hg; omega)), h5⟩
theorem chpO.otherB {w w' : World} {base : Nat} {x v u : Value} {M : List (List Int)} {A : List Int} (h : chpO w base v u M A) (ho : Other x w w') (hu : ∀ g, x.ownBlock = some g → g < base) : chpO w' base v u M A := by
  obtain ⟨m, h1, h2, h3, h4, h5⟩ := h
  refine ⟨m, h1, Nat.le_trans h2 ho.size, h3.otherB ho fun g hg => by have := hu g hg; omega, h4.other ho fun g hg e => ?_, h5⟩
  have := hu g e
  have := h4.base g hg
  omega
theorem own.setLowY {I : TypeId} {w : World} {base : Nat} {v : Value} {l : List Int} (h : own I w base v l) (a : Addr) (ha : a.block < base) (u : Value) : own I (w.setCell a u) base v l := by
  obtain ⟨h1, h2⟩ := h
  refine ⟨h1, ?_⟩
  rcases h2 with h2 | ⟨g, cap, cur, e, hg, hh, r⟩
  · exact .inl h2
  · exact .inr ⟨g, cap, cur, e, hg, (hp_setO w a g u (by omega)).trans hh, r⟩
theorem own_low1 {b o B t : Nat} {n c : Nat} (h : b < B) : ∀ g, (Value.slice (some ⟨b, o, none⟩) n c).ownBlock = some g → g < B ∨ t ≤ g := by
  intro g hg
  have e : b = g := by simpa [Value.ownBlock] using hg
  omega
theorem sz_sum (left : Int) (a b : Nat) : szOf left (a + b) = if szOf left a < 0 then -1 else szOf (szOf left a) b := by
  unfold szOf
  split <;> split <;> (try split) <;> (try split) <;> omega
set_option maxHeartbeats 1000000 in
theorem szChips_c (v u : Value) (M : List (List Int)) (A : List Int) (left : Int) (w : World) (hl : rows w.heap.size w v M) (hlen : M.length ≤ 9223372036854775807) (hrow : ∀ j, j < M.length → (M[j]?.getD []).length ≤ 9223372036854775807) (hu : ints w.heap.size w u A) (hulen : A.length ≤ 9223372036854775807) (h1 : 0 ≤ left) (h2 : left ≤ 1048576) :
    Calls Tryd.prog 12 #[.agg #[v, u], .int .i64 left] w fun e w' => e = .returned (.int .i64 (szOf left (M.length + tot M + A.length))) ∧ Below w.heap.size w w' := by
  have HL1 := hide (hl.alloc (.cells #[v, u] 25))
  have HU1 := hide (hu.alloc (.cells #[v, u] 25))
  have HS := hide (sz_sum left (M.length + tot M) A.length)
  clear hl hu
  rw [HS.out]
  have hz : szOf left (M.length + tot M) = -1 ∨ (0 ≤ szOf left (M.length + tot M) ∧ szOf left (M.length + tot M) ≤ 1048576) := by unfold szOf; split <;> omega
  generalize hq : szOf left (M.length + tot M) = q at hz ⊢
  have HQ := hide hq
  clear hq HS
  rcases hz with hz | ⟨hz1, hz2⟩
  · have h3 : q < 0 := by omega
    rw [if_pos h3]
    clear hz
    go_enter Tryd.func12, Tryd.ntmps12
    go_wp2_with (go_at_call 39; refine (szIntSS_c v M left _ (HL1.out.mono (by simp)) hlen hrow h1 h2).mono ?_; rw [HQ.out]; rintro e w' ⟨rfl, rfl⟩)
    go_ret
    exact ⟨rfl, (Below.refl _ _).alloc (Nat.le_refl _) _⟩
  · have h3 : ¬ q < 0 := by omega
    rw [if_neg h3]
    have hz3 : szOf q A.length = -1 ∨ ¬ szOf q A.length < 0 := by unfold szOf; split <;> omega
    generalize hq2 : szOf q A.length = q2 at hz3 ⊢
    have HQ2 := hide hq2
    clear hq2
    rcases hz3 with hz3 | hz3
    · have HZ := hide hz3
      have h4 : q2 < 0 := by omega
      clear hz3
      go_enter Tryd.func12, Tryd.ntmps12
      go_wp2_with (first
        | (go_at_call 39; refine (szIntSS_c v M left _ (HL1.out.mono (by simp)) hlen hrow h1 h2).mono ?_; rw [HQ.out]; rintro e w' ⟨rfl, rfl⟩)
        | (go_at_call 40; refine (szIntS_c u A q _ (HU1.out.mono (by simp)) hulen hz1 hz2).mono ?_; rw [HQ2.out]; rintro e w' ⟨rfl, rfl⟩))
      go_ret
      exact ⟨ret_i HZ.out.symm, (Below.refl _ _).alloc (Nat.le_refl _) _⟩
    · go_enter Tryd.func12, Tryd.ntmps12
      go_wp2_with (first
        | (go_at_call 39; refine (szIntSS_c v M left _ (HL1.out.mono (by simp)) hlen hrow h1 h2).mono ?_; rw [HQ.out]; rintro e w' ⟨rfl, rfl⟩)
        | (go_at_call 40; refine (szIntS_c u A q _ (HU1.out.mono (by simp)) hulen hz1 hz2).mono ?_; rw [HQ2.out]; rintro e w' ⟨rfl, rfl⟩))
      go_ret
      exact ⟨rfl, (Below.refl _ _).alloc (Nat.le_refl _) _⟩
set_option maxHeartbeats 1000000 in
theorem toChips_c (v u : Value) (M : List (List Int)) (A : List Int) (w : World) (hl : rows w.heap.size w v M) (hs : small2 M) (hu : ints w.heap.size w u A) (hlen : A.length < 1000000000) :
    Calls Tryd.prog 14 #[.agg #[v, u]] w fun e w' => ∃ v' u', e = .returned (.agg #[v', u']) ∧ chpT w' (w.heap.size + 3) w'.heap.size v' u' M A ∧ Below w.heap.size w w' := by
  have HL := hide hl
  have HU := hide hu
  clear hl hu
  go_enter Tryd.func14, Tryd.ntmps14
  go_wp2_with fail
  have hz : (((w.alloc (.cells #[v, u] 25)).alloc (.cells #[.slice none 0 0, .slice none 0 0] 29)).alloc (.cells #[.slice none 0 0, .slice none 0 0] 29)).heap.size = w.heap.size + 1 + 1 + 1 := by simp
  have hb0 := (((Below.refl w.heap.size w).alloc (Nat.le_refl _) (.cells #[v, u] 25)).alloc (by simp) (.cells #[.slice none 0 0, .slice none 0 0] 29)).alloc (by simp; omega) (.cells #[.slice none 0 0, .slice none 0 0] 29)
  have HL3 := hide ((((HL.out.alloc (.cells #[v, u] 25)).alloc (.cells #[.slice none 0 0, .slice none 0 0] 29)).alloc (.cells #[.slice none 0 0, .slice none 0 0] 29)).mono (show w.heap.size ≤ (((w.alloc (.cells #[v, u] 25)).alloc (.cells #[.slice none 0 0, .slice none 0 0] 29)).alloc (.cells #[.slice none 0 0, .slice none 0 0] 29)).heap.size by simp; omega))
  have h0 : (((w.alloc (.cells #[v, u] 25)).alloc (.cells #[.slice none 0 0, .slice none 0 0] 29)).alloc (.cells #[.slice none 0 0, .slice none 0 0] 29)).heap[w.heap.size]? = some (.cells #[v, u] 25) := (hp_old _ _ _ (by simp; omega)).trans ((hp_old _ _ _ (by simp)).trans (hp_last _ _))
  have h1 : (((w.alloc (.cells #[v, u] 25)).alloc (.cells #[.slice none 0 0, .slice none 0 0] 29)).alloc (.cells #[.slice none 0 0, .slice none 0 0] 29)).heap[w.heap.size + 1]? = some (.cells #[.slice none 0 0, .slice none 0 0] 29) := (hp_old _ _ _ (by simp)).trans (by have h := hp_last (w.alloc (.cells #[v, u] 25)) (.cells #[.slice none 0 0, .slice none 0 0] 29); simpa using h)
  have h2 : (((w.alloc (.cells #[v, u] 25)).alloc (.cells #[.slice none 0 0, .slice none 0 0] 29)).alloc (.cells #[.slice none 0 0, .slice none 0 0] 29)).heap[w.heap.size + 1 + 1]? = some (.cells #[.slice none 0 0, .slice none 0 0] 29) := by have h := hp_last ((w.alloc (.cells #[v, u] 25)).alloc (.cells #[.slice none 0 0, .slice none 0 0] 29)) (.cells #[.slice none 0 0, .slice none 0 0] 29); simpa using h
  have HU3 := hide (HU.out.below hb0 (Nat.le_refl _))
  generalize (((w.alloc (.cells #[v, u] 25)).alloc (.cells #[.slice none 0 0, .slice none 0 0] 29)).alloc (.cells #[.slice none 0 0, .slice none 0 0] 29)) = W at *
  refine (toIntSS_c v M W HL3.out (.inl hs)).mono ?_
  rintro e w1 ⟨v1, rfl, ho1, hb1⟩
  have hz1 := hb1.size
  have HT1 := hide ho1.toT
  have k0 := (hb1.block w.heap.size (by omega)).trans h0
  have k1 := (hb1.block (w.heap.size + 1) (by omega)).trans h1
  have k2 := (hb1.block (w.heap.size + 1 + 1) (by omega)).trans h2
  have hb01 := hb0.trans (hb1.mono (by omega))
  have HU4 := hide ((HU.out.below hb01 (Nat.le_refl _)).mono (show w.heap.size ≤ w1.heap.size by omega))
  rw [hz] at HT1
  obtain ⟨xa, xc, hx⟩ := ho1.shape
  subst hx
  have p0 := cells_at0 k0
  have p1 := cells_at1 k0
  have p2' := cells_at0 k1
  have p3 := cells_at1 k1
  have p4 := cells_at0 k2
  have p5 := cells_at1 k2
  have f1 : w1.frozen? ⟨w.heap.size + 1, 0, none⟩ = false := hp_free k1 0
  have f2 : w1.frozen? ⟨w.heap.size + 1 + 1, 0, none⟩ = false := hp_free k2 0
  have HK0 := hide k0
  have HK1 := hide k1
  have HK2 := hide k2
  have HB1 := hide hb01
  clear h0 h1 h2 hb1 ho1 hb0
  go_wp2_with fail
  have hzz : (w1.setCell ⟨w.heap.size + 1 + 1, 0, none⟩ (.slice xa M.length xc)).heap.size = w1.heap.size := by simp [World.setCell]
  have hU5 : ints (w1.setCell ⟨w.heap.size + 1 + 1, 0, none⟩ (.slice xa M.length xc)).heap.size (w1.setCell ⟨w.heap.size + 1 + 1, 0, none⟩ (.slice xa M.length xc)) u A := (HU.out.below (HB1.out.setCell (p := ⟨w.heap.size + 1 + 1, 0, none⟩) (by show w.heap.size ≤ w.heap.size + 1 + 1; omega) _) (Nat.le_refl _)).mono (by omega)
  refine (toIntS_c u A _ hU5 hlen).mono ?_
  rintro e w2 ⟨rfl, hk, hb2⟩
  rw [hzz] at hk hb2 ⊢
  have q0 := (hb2.block w.heap.size (by omega)).trans ((hp_setO w1 ⟨w.heap.size + 1 + 1, 0, none⟩ w.heap.size (.slice xa M.length xc) (by show w.heap.size ≠ w.heap.size + 1 + 1; omega)).trans HK0.out)
  have q1 := (hb2.block (w.heap.size + 1) (by omega)).trans ((hp_setO w1 ⟨w.heap.size + 1 + 1, 0, none⟩ (w.heap.size + 1) (.slice xa M.length xc) (by show w.heap.size + 1 ≠ w.heap.size + 1 + 1; omega)).trans HK1.out)
  have q2 := (hb2.block (w.heap.size + 1 + 1) (by omega)).trans (hp_set w1 (w.heap.size + 1 + 1) 0 _ _ (.slice xa M.length xc) HK2.out)
  have HT2 := hide (show own2T 23 3 w2 (w.heap.size + 1 + 1 + 1) w1.heap.size (.slice xa M.length xc) M from (HT1.out.otherB (u := .slice (some ⟨w.heap.size + 1 + 1, 0, none⟩) 0 0) ((Other.refl _ w1).setCell rfl 0 (.slice xa M.length xc)) (own_low1 (by omega))).kept (by rw [hzz]; exact hb2))
  have HKB := hide hk
  have HB2 := hide ((HB1.out.setCell (p := ⟨w.heap.size + 1 + 1, 0, none⟩) (by show w.heap.size ≤ w.heap.size + 1 + 1; omega) (.slice xa M.length xc)).trans (hb2.mono (by omega)))
  have hz2 := hb2.size
  rw [hzz] at hz2
  have hlt := hk.lt
  clear p0 p1 p2' p3 p4 p5 f1 f2 hU5 hb2 hk hb01
  have p0 := cells_at0 q0
  have p1 := cells_at1 q0
  have p2' := cells_at0 q1
  have p3 := cells_at1 q1
  have p4 : w2.cell? ⟨w.heap.size + 1 + 1, 0, none⟩ = some (.slice xa M.length xc) := by rw [hp_cell q2]; rfl
  have p5 : w2.cell? ⟨w.heap.size + 1 + 1, 1, none⟩ = some (.slice none 0 0) := by rw [hp_cell q2]; rfl
  have f1 : w2.frozen? ⟨w.heap.size + 1, 0, none⟩ = false := hp_free q1 0
  have f3 : w2.frozen? ⟨w.heap.size + 1, 1, none⟩ = false := hp_free q1 1
  have f2 : w2.frozen? ⟨w.heap.size + 1 + 1, 1, none⟩ = false := hp_free q2 1
  clear q0 q2 k0 k1 k2
  have HQ1 := hide q1
  clear q1
  go_wp2
  refine (show bodyPost _ _ _ Exit.ret _ _ from ?_)
  refine bodyPost_ret (v := .agg #[.slice xa M.length xc, .slice (some ⟨w1.heap.size, 0, none⟩) A.length A.length]) (by simp [results, Tryd.results14, go_sem, p2', p3]) rfl ⟨_, _, rfl, ⟨w1.heap.size, by omega, ?_, ?_, ?_, ?_⟩, ?_⟩
  · simp [World.setCell]; omega
  · exact ((HT2.out.otherB (u := .slice (some ⟨w.heap.size + 1 + 1, 0, none⟩) 0 0) ((Other.refl _ _).setCell rfl _ _) (own_low1 (by omega))).otherB (u := .slice (some ⟨w.heap.size + 1, 0, none⟩) 0 0) ((Other.refl _ _).setCell rfl _ _) (own_low1 (by omega))).otherB (u := .slice (some ⟨w.heap.size + 1, 0, none⟩) 0 0) ((Other.refl _ _).setCell rfl _ _) (own_low1 (by omega))
  · exact ((((HKB.out.own (Nat.le_refl _) (by unfold maxLen; omega)).setLowY ⟨w.heap.size + 1 + 1, 1, none⟩ (by show w.heap.size + 1 + 1 < _; omega) _).setLowY ⟨w.heap.size + 1, 0, none⟩ (by show w.heap.size + 1 < _; omega) _).setLowY ⟨w.heap.size + 1, 1, none⟩ (by show w.heap.size + 1 < _; omega) _)
  · intro g hg
    have e : w1.heap.size = g := by simpa [Value.ownBlock] using hg
    simp [World.setCell]; omega
  · exact ((HB2.out.setCell (p := ⟨w.heap.size + 1 + 1, 1, none⟩) (by show w.heap.size ≤ w.heap.size + 1 + 1; omega) _).setCell (p := ⟨w.heap.size + 1, 0, none⟩) (by show w.heap.size ≤ w.heap.size + 1; omega) _).setCell (p := ⟨w.heap.size + 1, 1, none⟩) (by show w.heap.size ≤ w.heap.size + 1; omega) _

set_option maxHeartbeats 400000 in
theorem eqChips_same_c (va ua vb ub : Value) (M : List (List Int)) (A : List Int) (w : World) (ha : rows w.heap.size w va M) (hua : ints w.heap.size w ua A) (hb : rows w.heap.size w vb M) (hub : ints w.heap.size w ub A) (hs : small2 M) (hla : A.length < 1000000000) :
    Calls Tryd.prog 17 #[.agg #[va, ua], .agg #[vb, ub]] w fun e w' => e = .returned (.bool true) ∧ Below w.heap.size w w' := by
  have hb0 := ((Below.refl w.heap.size w).alloc (Nat.le_refl _) (.cells #[va, ua] 29)).alloc (by simp) (.cells #[vb, ub] 29)
  have hz : ((w.alloc (.cells #[va, ua] 29)).alloc (.cells #[vb, ub] 29)).heap.size = w.heap.size + 2 := by simp
  have HA := hide ((ha.below hb0 (Nat.le_refl _)).mono (show w.heap.size ≤ ((w.alloc (.cells #[va, ua] 29)).alloc (.cells #[vb, ub] 29)).heap.size by rw [hz]; omega))
  have HB := hide ((hb.below hb0 (Nat.le_refl _)).mono (show w.heap.size ≤ ((w.alloc (.cells #[va, ua] 29)).alloc (.cells #[vb, ub] 29)).heap.size by rw [hz]; omega))
  have HUA := hide (hua.below hb0 (Nat.le_refl _))
  have HUB := hide (hub.below hb0 (Nat.le_refl _))
  have H0 := hide hb0
  have k0 : ((w.alloc (.cells #[va, ua] 29)).alloc (.cells #[vb, ub] 29)).heap[w.heap.size]? = some (.cells #[va, ua] 29) := (hp_old _ _ _ (by simp)).trans (hp_last _ _)
  have k1 : ((w.alloc (.cells #[va, ua] 29)).alloc (.cells #[vb, ub] 29)).heap[w.heap.size + 1]? = some (.cells #[vb, ub] 29) := by have h := hp_last (w.alloc (.cells #[va, ua] 29)) (.cells #[vb, ub] 29); simpa using h
  have HK0 := hide k0
  have HK1 := hide k1
  clear ha hb hua hub hb0 k0 k1
  go_enter Tryd.func17, Tryd.ntmps17
  go_wp2_with fail
  generalize (w.alloc (.cells #[va, ua] 29)).alloc (.cells #[vb, ub] 29) = W at *
  refine (eqIntSS_same_c va vb M W HA.out HB.out hs).mono ?_
  rintro e w1 ⟨rfl, hb1⟩
  have hz1 := hb1.size
  have k0 := (hb1.block w.heap.size (by omega)).trans HK0.out
  have k1 := (hb1.block (w.heap.size + 1) (by omega)).trans HK1.out
  have p0 := cells_at0 k0
  have p1 := cells_at1 k0
  have p2' := cells_at0 k1
  have p3 := cells_at1 k1
  have HUA1 := hide ((HUA.out.below (hb1.mono (by omega)) (Nat.le_refl _)).mono (show w.heap.size ≤ w1.heap.size by omega))
  have HUB1 := hide ((HUB.out.below (hb1.mono (by omega)) (Nat.le_refl _)).mono (show w.heap.size ≤ w1.heap.size by omega))
  have HB1 := hide (H0.out.trans (hb1.mono (by omega)))
  clear hb1 k0 k1
  go_wp2_with (go_at_call 16; refine (eqIntS_same_c ua ub A _ HUA1.out HUB1.out hla).mono ?_; rintro e w' ⟨rfl, hb2⟩; have HB2 := hide (HB1.out.trans (hb2.mono (by omega))); clear hb2)
  go_ret
  exact ⟨rfl, HB2.out⟩
set_option maxHeartbeats 400000 in
/-- Marks of arguments: what lies outside of their stretch stays. -/
theorem markChipsT_c (v u : Value) (M : List (List Int)) (A : List Int) (w : World) (base top : Nat) (h : chpT w base top v u M A) (hs : small2 M) (hlen : A.length < 1000000000) (htop : top ≤ w.heap.size) :
    Calls Tryd.prog 18 #[.agg #[v, u], .int .i64 1] w fun e w' => e = .returned (.int .i64 (1 + (tot M : Int) + (A.length : Int))) ∧ Span base top w w' := by
  obtain ⟨mid, h1, h2, h3, h4, h5⟩ := h
  have HC0 := hide (hp_last w (.cells #[v, u] 29))
  have HM := hide (markIntSST1_c v M (w.alloc (.cells #[v, u] 29)) base mid (h3.alloc _) hs)
  have H4 := hide (h4.alloc (.cells #[v, u] 29))
  have HB := hide ((Below.refl w.heap.size w).alloc (Nat.le_refl _) (.cells #[v, u] 29))
  have HU5 := hide h5
  have ht2 := hs.2
  have hz : (w.alloc (.cells #[v, u] 29)).heap.size = w.heap.size + 1 := by simp
  clear h3 h4 h5
  go_enter Tryd.func18, Tryd.ntmps18
  go_wp2_with fail
  generalize w.alloc (.cells #[v, u] 29) = W at *
  refine HM.out.mono ?_
  rintro e w1 ⟨rfl, _, hs1⟩
  have hz1 := hs1.size
  have k1 := (hs1.block w.heap.size (by omega) (.inr (by omega))).trans HC0.out
  have p0 := cells_at0 k1
  have p1 := cells_at1 k1
  have HS1 := hide hs1
  have H5 := hide (H4.out.span hs1 fun g hg => .inr (H4.out.base g hg))
  clear k1 hs1
  go_wp2_with (go_at_call 19; refine (markIntS_c u A (1 + (tot M : Int)) w1 mid H5.out hlen (by omega) (by omega)).mono ?_; rintro e w2 ⟨rfl, _, ho2⟩; have HO2 := hide ho2; clear ho2)
  go_ret
  refine ⟨rfl, ?_⟩
  have hsp : Span base top w1 w2 := HO2.out.span fun g hg => ⟨by have := H5.out.base g hg; omega, HU5.out g hg⟩
  have hs2 : Span base top W w1 := ⟨HS1.out.os, HS1.out.tape, HS1.out.output, HS1.out.size, fun k hk hv => HS1.out.block k hk (by omega)⟩
  have hs3 : Span base top w W := ⟨HB.out.os, HB.out.tape, HB.out.output, HB.out.size, fun k hk _ => HB.out.block k hk⟩
  exact (hs3.trans hs2).trans hsp
set_option maxHeartbeats 400000 in
/-- Marks of an answer. -/
theorem markChipsO_c (v u : Value) (M : List (List Int)) (A : List Int) (w : World) (base : Nat) (h : chpO w base v u M A) (hs : small2 M) (hlen : A.length < 1000000000) (hbase : base ≤ w.heap.size) :
    Calls Tryd.prog 18 #[.agg #[v, u], .int .i64 1] w fun e w' => e = .returned (.int .i64 (1 + (tot M : Int) + (A.length : Int))) ∧ chpO w' base v u (marksR 1 M) (upFrom (1 + (tot M : Int)) A.length) ∧ Below base w w' := by
  obtain ⟨mid, h1, h2, h3, h4, h5⟩ := h
  have HC0 := hide (hp_last w (.cells #[v, u] 29))
  have hz : (w.alloc (.cells #[v, u] 29)).heap.size = w.heap.size + 1 := by simp
  have HM := hide (markIntSST1_c v M (w.alloc (.cells #[v, u] 29)) mid w.heap.size ((own2.toT h3).alloc _) hs)
  have H3 := hide h3
  have H4 := hide (h4.alloc (.cells #[v, u] 29))
  have HB := hide ((Below.refl w.heap.size w).alloc (Nat.le_refl _) (.cells #[v, u] 29))
  have HU5 := hide h5
  have ht2 := hs.2
  clear h3 h4 h5
  go_enter Tryd.func18, Tryd.ntmps18
  go_wp2_with fail
  generalize w.alloc (.cells #[v, u] 29) = W at *
  refine HM.out.mono ?_
  rintro e w1 ⟨rfl, hm1, hs1⟩
  have hz1 := hs1.size
  have k1 := (hs1.block w.heap.size (by omega) (.inr (by omega))).trans HC0.out
  have p0 := cells_at0 k1
  have p1 := cells_at1 k1
  have HS1 := hide hs1
  have H5 := hide (H4.out.span hs1 fun g hg => .inl (HU5.out g hg))
  have HM1 := hide hm1
  clear k1 hs1 hm1
  go_wp2_with (go_at_call 19; refine (markIntS_c u A (1 + (tot M : Int)) w1 base H5.out hlen (by omega) (by omega)).mono ?_; rintro e w2 ⟨rfl, hu2, ho2⟩; have HO2 := hide ho2; have HU2 := hide hu2; clear ho2 hu2)
  go_ret
  have hz2 := HO2.out.size
  refine ⟨rfl, ⟨mid, h1, by omega, (HM1.out.otherB HO2.out fun g hg => .inl (HU5.out g hg)).plain, HU2.out, HU5.out⟩, ?_⟩
  exact (HB.out.mono (by omega)).trans ((HS1.out.below (by omega)).mono h1 |>.trans (HO2.out.below base (fun g hg => H5.out.base g hg) (by omega)))
set_option maxHeartbeats 400000 in
theorem heldChips_c (v u : Value) (M : List (List Int)) (n : Nat) (w : World) (hl : rows w.heap.size w v (marksR 1 M)) (hu : ints w.heap.size w u (upFrom (1 + (tot M : Int)) n)) (hs : small2 M) (hn : n < 1000000000) :
    Calls Tryd.prog 23 #[.agg #[v, u], .int .i64 1] w fun e w' => e = .returned (.int .i64 (1 + (tot M : Int) + (n : Int))) ∧ Below w.heap.size w w' := by
  have HL := hide (by_full (T := 29) (v := v) (u := u) (by_start _ v u w) hu)
  have HR := hide ((hl.alloc (.cells #[v, u] 29)).mono (show w.heap.size ≤ (w.alloc (.cells #[v, u] 29)).heap.size by simp))
  have HB := hide ((Below.refl w.heap.size w).alloc (Nat.le_refl _) (.cells #[v, u] 29))
  have ht2 := hs.2
  have hn1 : ¬ (1 + (tot M : Int) < 0) := by omega
  have hn2 : ¬ (1 + (tot M : Int) + (n : Int) < 0) := by omega
  clear hl hu
  go_enter Tryd.func23, Tryd.ntmps23
  go_wp2_with (first
    | (go_at_call 53; refine (heldIntSS1_c v M _ HR.out hs).mono ?_; rintro e w2 ⟨rfl, rfl⟩)
    | (go_at_call 20; refine (heldIntS_c u n (1 + (tot M : Int)) _ HL.out (by omega) (by omega) (by omega)).mono ?_; rintro e w2 ⟨rfl, rfl⟩))
  go_ret
  exact ⟨rfl, HB.out⟩
end Go.Proofs.YtjmhmmenampgbaaDoor
