/- For the laws' walks: chips as answers, whose blocks lie in a stretch. -/
import Derived.Test.YtjmhmmenampgbaaDoorYl
namespace Go.Proofs.YtjmhmmenampgbaaDoor
open Go.RowKit
set_option maxRecDepth 100000
set_option linter.unusedSimpArgs false
def chpX (w : World) (base top : Nat) (v u : Value) (M : List (List Int)) (A : List Int) : Prop :=
  ∃ mid, base ≤ mid ∧ mid ≤ top ∧ own2T 23 3 w mid top v M ∧ own 3 w base u A ∧ (∀ g, u.ownBlock = some g → g < mid)
theorem chpX.rows {w : World} {base top : Nat} {v u : Value} {M : List (List Int)} {A : List Int} (h : chpX w base top v u M A) : rows w.heap.size w v M := by
  obtain ⟨m, _, _, h1, _⟩ := h
  exact h1.rows
theorem chpX.ints {w : World} {base top : Nat} {v u : Value} {M : List (List Int)} {A : List Int} (h : chpX w base top v u M A) : ints w.heap.size w u A := by
  obtain ⟨m, _, _, _, h1, _⟩ := h
  exact h1.ints
theorem chpX.kept {w w' : World} {base top : Nat} {v u : Value} {M : List (List Int)} {A : List Int} (h : chpX w base top v u M A) (hb : Below w.heap.size w w') : chpX w' base top v u M A := by
  obtain ⟨m, h1, h2, h3, h4, h5⟩ := h
  exact ⟨m, h1, h2, h3.kept hb, h4.kept hb, h5⟩
theorem chpX.alloc {w : World} {base top : Nat} {v u : Value} {M : List (List Int)} {A : List Int} (h : chpX w base top v u M A) (o : Obj) : chpX (w.alloc o) base top v u M A :=
  h.kept ((Below.refl _ _).alloc (Nat.le_refl _) o)
theorem chpX.otherB {w w' : World} {base top : Nat} {x v u : Value} {M : List (List Int)} {A : List Int} (h : chpX w base top v u M A) (ho : Other x w w') (hu : ∀ g, x.ownBlock = some g → g < base ∨ top ≤ g) : chpX w' base top v u M A := by
  obtain ⟨m, h1, h2, h3, h4, h5⟩ := h
  refine ⟨m, h1, h2, h3.otherB ho fun g hg => by have := hu g hg; omega, h4.other ho fun g hg e => ?_, h5⟩
  have := hu g e
  have := h4.base g hg
  have := h5 g hg
  omega
theorem own2T.spanX {T I : TypeId} {w w' : World} {b t base top : Nat} {v : Value} {L : List (List Int)} (h : own2T T I w b t v L) (ho : Span base top w w') (hu : top ≤ b ∨ t ≤ base) : own2T T I w' b t v L := by
  obtain ⟨us, h1, ⟨h2, h2'⟩, h3, h4, h5, h6⟩ := h
  refine ⟨us, h1, ⟨h2, ?_⟩, fun j hj => ⟨(h3 j hj).1.span ho fun g hg => by have h7 := (h3 j hj).1.base g hg; have h8 := h6 j hj g hg; omega, (h3 j hj).2⟩, h4, h5, h6⟩
  rcases h2' with h7 | ⟨g, cap, cur, e, hg, hh, r⟩
  · exact .inl h7
  · refine .inr ⟨g, cap, cur, e, hg, (ho.block g (hp_lt hh) ?_).trans hh, r⟩
    have h8 := h5 g (by subst e; rfl)
    omega
theorem chpX.span {w w' : World} {b t base top : Nat} {v u : Value} {M : List (List Int)} {A : List Int} (h : chpX w b t v u M A) (ho : Span base top w w') (hu : top ≤ b ∨ t ≤ base) : chpX w' b t v u M A := by
  obtain ⟨m, h1, h2, h3, h4, h5⟩ := h
  exact ⟨m, h1, h2, h3.spanX ho (by omega), h4.span ho (fun g hg => by have h6 := h4.base g hg; have h7 := h5 g hg; omega), h5⟩
theorem chpO.toX {w : World} {base : Nat} {v u : Value} {M : List (List Int)} {A : List Int} (h : chpO w base v u M A) : chpX w base w.heap.size v u M A := by
  obtain ⟨m, h1, h2, h3, h4, h5⟩ := h
  exact ⟨m, h1, h2, own2.toT h3, h4, h5⟩
theorem chpX.shape {w : World} {base top : Nat} {v u : Value} {M : List (List Int)} {A : List Int} (h : chpX w base top v u M A) : ∃ a c b d, v = .slice a M.length c ∧ u = .slice b A.length d := by
  obtain ⟨a, c, h1⟩ := h.rows.shape
  obtain ⟨b, d, h2⟩ := h.ints.shape
  exact ⟨a, c, b, d, h1, h2⟩
set_option maxHeartbeats 400000 in
/-- Marks of an answer: what lies outside of its stretch stays. -/
theorem markChipsX_c (v u : Value) (M : List (List Int)) (A : List Int) (w : World) (base top : Nat) (h : chpX w base top v u M A) (hs : small2 M) (hlen : A.length < 1000000000) (htop : top ≤ w.heap.size) :
    Calls Tryd.prog 18 #[.agg #[v, u], .int .i64 1] w fun e w' => e = .returned (.int .i64 (1 + (tot M : Int) + (A.length : Int))) ∧ chpX w' base top v u (marksR 1 M) (upFrom (1 + (tot M : Int)) A.length) ∧ Span base top w w' := by
  obtain ⟨mid, h1, h2, h3, h4, h5⟩ := h
  have HC0 := hide (hp_last w (.cells #[v, u] 29))
  have hz : (w.alloc (.cells #[v, u] 29)).heap.size = w.heap.size + 1 := by simp
  have HM := hide (markIntSST1_c v M (w.alloc (.cells #[v, u] 29)) mid top (h3.alloc _) hs)
  have H4 := hide (h4.alloc (.cells #[v, u] 29))
  have HB := hide ((Below.refl w.heap.size w).alloc (Nat.le_refl _) (.cells #[v, u] 29))
  have HU5 := hide h5
  have ht2 := hs.2
  clear h3 h4 h5
  go_enter Tryd.func18, Tryd.ntmps18
  go_wp2_with fail
  generalize w.alloc (.cells #[v, u] 29) = W at *
  refine HM.out.mono ?_
  rintro e w1 ⟨rfl, hm1, hs1⟩
  have hz1 := hs1.size
  have k1 := (hs1.block w.heap.size (by omega) (.inr (by omega))).trans HC0.out
  have p0 := cells_at0 k1
  have p1 := cells_at1 k1
  have HS1 := hide hs1
  have H5 := hide (H4.out.span hs1 fun g hg => .inl (HU5.out g hg))
  have HM1 := hide hm1
  clear k1 hs1 hm1
  go_wp2_with (go_at_call 19; refine (markIntS_c u A (1 + (tot M : Int)) w1 base H5.out hlen (by omega) (by omega)).mono ?_; rintro e w2 ⟨rfl, hu2, ho2⟩; have HO2 := hide ho2; have HU2 := hide hu2; clear ho2 hu2)
  go_ret
  have hz2 := HO2.out.size
  refine ⟨rfl, ⟨mid, h1, h2, HM1.out.otherB HO2.out fun g hg => .inl (HU5.out g hg), HU2.out, HU5.out⟩, ?_⟩
  have hsp : Span base top w1 w2 := HO2.out.span fun g hg => ⟨H5.out.base g hg, by have := HU5.out g hg; omega⟩
  have hs2 : Span base top W w1 := ⟨HS1.out.os, HS1.out.tape, HS1.out.output, HS1.out.size, fun k hk hv => HS1.out.block k hk (by omega)⟩
  have hs3 : Span base top w W := ⟨HB.out.os, HB.out.tape, HB.out.output, HB.out.size, fun k hk _ => HB.out.block k hk⟩
  exact (hs3.trans hs2).trans hsp
theorem rcM_smallX {b : Bool} {M : List (List Int)} (h : small2 M) : small2 (if b then M else []) := by
  cases b
  · exact ⟨by simp, by simp [tot, totTo]⟩
  · exact h
end Go.Proofs.YtjmhmmenampgbaaDoor
