/- Contracts: items numbered anew by the specification; a space or nothing; a set put into a space's sets. -/
import Derived.Test.YtblglkgmnaklbaaDoorRn
import Derived.Test.YtblglkgmnaklbaaDoorLib
import Derived.Test.YtblglkgmnaklbaaDoorHar
namespace Go.Proofs.YtblglkgmnaklbaaDoor
open Go.RowKit
set_option maxRecDepth 100000
attribute [local irreducible] p2 low memB risB

theorem bareN {w : World} {b : Nat} {T : TypeId} {x y : Value} (h : w.heap[b]? = some (.cells #[x, y] T)) (u : Value) : (w.setCell ⟨b, 1, none⟩ u).heap[b]? = some (.cells #[x, u] T) := by
  rw [hp_set _ _ _ _ _ _ h]; rfl
theorem rn_step {kept a i : Nat} (h : kept.testBit i = true) (h2 : a.testBit i = true) : (if (a &&& kept).testBit i then p2 (rnI kept i) else 0) = p2 (rnI kept i) := by
  rw [Nat.testBit_and, h, h2]; rfl
theorem rn_step0 {kept a i : Nat} (h : (a &&& kept).testBit i = false) : (if (a &&& kept).testBit i then p2 (rnI kept i) else 0) = 0 := by
  rw [h]; rfl

set_option maxHeartbeats 400000 in
theorem spIf_c (n : Int) (v : Value) (l : List Int) (w : World) (hl : ints w.heap.size w v l) (hlen : l.length < 1000000000) (hg : goodB n l = true) :
    Calls Tryd.prog 88 #[.agg #[.int .i64 n, v]] w fun e w' => e = .returned (.tuple #[.agg #[.int .i64 n, v], .bool true]) ∧ Below w.heap.size w w' := by
  obtain ⟨aa, cc, hv⟩ := hl.shape
  subst hv
  have hs0 : ((w.alloc (.cells #[.int .i64 n, .slice aa l.length cc] 29)).alloc (.cells #[.int .i64 0, .slice none 0 0] 29)).heap[w.heap.size]? = some (.cells #[.int .i64 n, .slice aa l.length cc] 29) := (hp_old _ _ _ (by simp)).trans (hp_last _ _)
  have hr0 : ((w.alloc (.cells #[.int .i64 n, .slice aa l.length cc] 29)).alloc (.cells #[.int .i64 0, .slice none 0 0] 29)).heap[w.heap.size + 1]? = some (.cells #[.int .i64 0, .slice none 0 0] 29) := by have := hp_last (w.alloc (.cells #[.int .i64 n, .slice aa l.length cc] 29)) (.cells #[.int .i64 0, .slice none 0 0] 29); simpa using this
  have H0 := hide (((Below.refl w.heap.size w).alloc (Nat.le_refl _) (.cells #[.int .i64 n, .slice aa l.length cc] 29)).alloc (by simp) (.cells #[.int .i64 0, .slice none 0 0] 29))
  have HZ := hide (show ((w.alloc (.cells #[.int .i64 n, .slice aa l.length cc] 29)).alloc (.cells #[.int .i64 0, .slice none 0 0] 29)).heap.size = w.heap.size + 2 by simp)
  have HL := hide (((hl.alloc (.cells #[.int .i64 n, .slice aa l.length cc] 29)).alloc (.cells #[.int .i64 0, .slice none 0 0] 29)).mono (show w.heap.size ≤ ((w.alloc (.cells #[.int .i64 n, .slice aa l.length cc] 29)).alloc (.cells #[.int .i64 0, .slice none 0 0] 29)).heap.size by rw [HZ.out]; omega))
  have HS0 := hide hs0
  have HR0 := hide hr0
  have HG := hide hg
  clear hl hs0 hr0 hg
  go_enter Tryd.func88, Tryd.ntmps88
  go_wp2_with (go_at_call 32; refine (spGood_c n (.slice aa l.length cc) l _ HL.out hlen).mono ?_; rw [HG.out]; rintro e w1 ⟨rfl, hb1⟩; have hs1 := (hb1.block w.heap.size (by rw [HZ.out]; omega)).trans HS0.out; have hr1 := (hb1.block (w.heap.size + 1) (by rw [HZ.out]; omega)).trans HR0.out; have d0 := cells_at0 hs1; have d1 := cells_at1 hs1; have c0 := cells_at0 hr1; have c1 := cells_at1 hr1; have f0 := hp_free hr1 0; have f1 := hp_free hr1 1; have HB1 := hide (H0.out.trans (hb1.mono (by rw [HZ.out]; omega))); clear hb1 hs1 hr1)
  refine bodyPost_ret (v := .tuple #[.agg #[.int .i64 n, .slice aa l.length cc], .bool true]) (by simp [results, Tryd.results88, go_sem, c0, c1]) rfl ⟨rfl, ?_⟩
  exact (HB1.out.setCell (by show w.heap.size ≤ w.heap.size + 1; omega) _).setCell (by show w.heap.size ≤ w.heap.size + 1; omega) _
set_option maxHeartbeats 400000 in
theorem spIf_no_c (n : Int) (v : Value) (l : List Int) (w : World) (hl : ints w.heap.size w v l) (hlen : l.length < 1000000000) (hg : goodB n l = false) :
    Calls Tryd.prog 88 #[.agg #[.int .i64 n, v]] w fun e w' => e = .returned (.tuple #[.agg #[.int .i64 0, .slice none 0 0], .bool false]) ∧ Below w.heap.size w w' := by
  obtain ⟨aa, cc, hv⟩ := hl.shape
  subst hv
  have hs0 : ((w.alloc (.cells #[.int .i64 n, .slice aa l.length cc] 29)).alloc (.cells #[.int .i64 0, .slice none 0 0] 29)).heap[w.heap.size]? = some (.cells #[.int .i64 n, .slice aa l.length cc] 29) := (hp_old _ _ _ (by simp)).trans (hp_last _ _)
  have hr0 : ((w.alloc (.cells #[.int .i64 n, .slice aa l.length cc] 29)).alloc (.cells #[.int .i64 0, .slice none 0 0] 29)).heap[w.heap.size + 1]? = some (.cells #[.int .i64 0, .slice none 0 0] 29) := by have := hp_last (w.alloc (.cells #[.int .i64 n, .slice aa l.length cc] 29)) (.cells #[.int .i64 0, .slice none 0 0] 29); simpa using this
  have H0 := hide (((Below.refl w.heap.size w).alloc (Nat.le_refl _) (.cells #[.int .i64 n, .slice aa l.length cc] 29)).alloc (by simp) (.cells #[.int .i64 0, .slice none 0 0] 29))
  have HZ := hide (show ((w.alloc (.cells #[.int .i64 n, .slice aa l.length cc] 29)).alloc (.cells #[.int .i64 0, .slice none 0 0] 29)).heap.size = w.heap.size + 2 by simp)
  have HL := hide (((hl.alloc (.cells #[.int .i64 n, .slice aa l.length cc] 29)).alloc (.cells #[.int .i64 0, .slice none 0 0] 29)).mono (show w.heap.size ≤ ((w.alloc (.cells #[.int .i64 n, .slice aa l.length cc] 29)).alloc (.cells #[.int .i64 0, .slice none 0 0] 29)).heap.size by rw [HZ.out]; omega))
  have HS0 := hide hs0
  have HR0 := hide hr0
  have HG := hide hg
  clear hl hs0 hr0 hg
  go_enter Tryd.func88, Tryd.ntmps88
  go_wp2_with (go_at_call 32; refine (spGood_c n (.slice aa l.length cc) l _ HL.out hlen).mono ?_; rw [HG.out]; rintro e w1 ⟨rfl, hb1⟩; have hr1 := (hb1.block (w.heap.size + 1) (by rw [HZ.out]; omega)).trans HR0.out; have c0 := cells_at0 hr1; have c1 := cells_at1 hr1; have f0 := hp_free hr1 0; have f1 := hp_free hr1 1; have HB1 := hide (H0.out.trans (hb1.mono (by rw [HZ.out]; omega))); clear hb1 hr1)
  refine bodyPost_ret (v := .tuple #[.agg #[.int .i64 0, .slice none 0 0], .bool false]) (by simp [results, Tryd.results88, go_sem, c0, c1]) rfl ⟨rfl, ?_⟩
  exact (HB1.out.setCell (by show w.heap.size ≤ w.heap.size + 1; omega) _).setCell (by show w.heap.size ≤ w.heap.size + 1; omega) _
end Go.Proofs.YtblglkgmnaklbaaDoor
