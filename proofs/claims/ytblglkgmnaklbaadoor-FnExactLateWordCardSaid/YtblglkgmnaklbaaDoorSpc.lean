/- Contracts: the space of a family; the space of all sets. -/
import Derived.Test.YtblglkgmnaklbaaDoorFam
import Derived.Test.YtblglkgmnaklbaaDoorOw
namespace Go.Proofs.YtblglkgmnaklbaaDoor
open Go.RowKit
set_option maxRecDepth 100000
attribute [local irreducible] p2 low memB risB
/-- A store below what a slice owns. -/
theorem own.setLow {I : TypeId} {w : World} {base : Nat} {v : Value} {l : List Int} (h : own I w base v l) (a : Addr) (ha : a.block < base) (u : Value) : own I (w.setCell a u) base v l := by
  obtain ⟨h1, h2⟩ := h
  refine ⟨h1, ?_⟩
  rcases h2 with h2 | ⟨g, cap, cur, e, hg, hh, r⟩
  · exact .inl h2
  · exact .inr ⟨g, cap, cur, e, hg, (hp_setO _ _ _ _ (by omega)).trans hh, r⟩

set_option maxHeartbeats 1000000 in
theorem space_c (n : Int) (F : Nat → Bool) (w : World) :
    Calls Tryd.prog 94 #[.agg (fam n F)] w fun e w' => ∃ v, e = .returned (.agg #[.int .i64 n, v]) ∧ own 3 w' w.heap.size v (setsTo F 128) ∧ Below w.heap.size w w' := by
  have hb0 := (((Below.refl w.heap.size w).alloc (Nat.le_refl _) (.cells (fam n F) 57)).alloc (by simp) (.cells #[.int .i64 0, .slice none 0 0] 29))
  have hf0 : ∀ w', Below (w.heap.size + 1) ((w.alloc (.cells (fam n F) 57)).alloc (.cells #[.int .i64 0, .slice none 0 0] 29)) w' → famAt 57 w' w.heap.size n F := fun w' h => ((famAt.new _ _ _ _).alloc _).below h (by omega)
  have hs0 : ((w.alloc (.cells (fam n F) 57)).alloc (.cells #[.int .i64 0, .slice none 0 0] 29)).heap[w.heap.size + 1]? = some (.cells #[.int .i64 0, .slice none 0 0] 29) := by have := hp_last (w.alloc (.cells (fam n F) 57)) (.cells #[.int .i64 0, .slice none 0 0] 29); simpa using this
  go_enter Tryd.func94, Tryd.ntmps94
  go_wp2
  refine wp_region_held (S := Below (w.heap.size + 1) ((w.alloc (.cells (fam n F) 57)).alloc (.cells #[.int .i64 0, .slice none 0 0] 29))) (by kernel_rfl) ?_
  have hS : Below (w.heap.size + 1) ((w.alloc (.cells (fam n F) 57)).alloc (.cells #[.int .i64 0, .slice none 0 0] 29)) { ((w.alloc (.cells (fam n F) 57)).alloc (.cells #[.int .i64 0, .slice none 0 0] 29)) with drawn := ((w.alloc (.cells (fam n F) 57)).alloc (.cells #[.int .i64 0, .slice none 0 0] 29)).drawn + 1 } := (Below.refl _ _).drew
  refine wpAnyH_take (i := 2) rfl (by kernel_rfl) (by kernel_rfl) (by kernel_rfl) (fun _ _ _ h => h) (yields_load_fam rowT sizeT rfl (.tmp _) rfl _ rfl n F hf0) hS ?_
  refine wpAnyH_take (i := 0) (v := .pointer (some ⟨w.heap.size, 0, none⟩)) rfl (by kernel_rfl) (by kernel_rfl) (by kernel_rfl) (fun _ _ _ h => h) (.inl ⟨rfl, fun w' _ => by go_simp⟩) hS ?_
  refine wpAnyH_take (i := 1) rfl (by kernel_rfl) (by kernel_rfl) (by kernel_rfl) (fun _ _ _ h => h) (yields_load_cell rowI rfl (.tmp _) rfl ⟨w.heap.size, 0, none⟩ rfl (.int .i64 n) (fun w' h => (hf0 w' h).get0)) hS ?_
  refine anyH_call (i := 3) (by kernel_rfl) rfl rfl 111 ent_sets _ _ rfl #[.agg (fam n F)] rfl (sets_c n F _) ?_
  rintro e w1 ⟨v, rfl, hown, hb1⟩
  have hsz := hb1.size
  simp at hsz hown
  have hS1 := hS.trans (hb1.mono (by simp))
  have hs1 : w1.heap[w.heap.size + 1]? = some (.cells #[.int .i64 0, .slice none 0 0] 29) := (hb1.block (w.heap.size + 1) (by simp)).trans hs0
  have hv1 : v.oneCell' = true := hown.ints.one
  have c10 : w1.cell? ⟨w.heap.size + 1, 0, none⟩ = some (.int .i64 0) := by rw [hp_cell hs1]; rfl
  have c11 : w1.cell? ⟨w.heap.size + 1, 1, none⟩ = some (.slice none 0 0) := by rw [hp_cell hs1]; rfl
  have f10 : w1.frozen? ⟨w.heap.size + 1, 0, none⟩ = false := hp_free hs1 0
  have f11 : w1.frozen? ⟨w.heap.size + 1, 1, none⟩ = false := hp_free hs1 1
  refine ⟨v, rfl, hS1, ?_⟩
  obtain ⟨aa, cc, hv⟩ := hown.shape
  have HO := hide hown
  have HB := hide (hb0.trans ((Below.refl _ _).drew.trans (hb1.mono (by simp; omega)) |>.mono (Nat.le_refl _)))
  clear hown hb1
  subst hv
  refine anyH_op (i := 4) (by kernel_rfl) rfl rfl (.agg #[.int .i64 n, .slice aa (setsTo F 128).length cc]) w1 ?hq hS1 ?_
  case hq => simp [go_sem, Act.put]
  refine anyH_skip (i := 5) (by kernel_rfl) rfl rfl ((w1.setCell ⟨w.heap.size + 1, 0, none⟩ (.int .i64 n)).setCell ⟨w.heap.size + 1, 1, none⟩ (.slice aa (setsTo F 128).length cc)) ?hq2 ((hS1.setCell (by simp) _).setCell (by simp) _) ?_
  case hq2 =>
    simp [go_sem, Act.put, c10, c11, f10, f11]
  refine wpAnyH_done (by kernel_rfl) ?_ _
  simp only [Act.put, List.getElem_toArray, List.getElem_cons_zero, List.getElem_cons_succ, List.setIfInBounds_toArray, List.set_cons_zero, List.set_cons_succ]
  go_wp2
  refine bodyPost_ret (v := .agg #[.int .i64 n, .slice aa (setsTo F 128).length cc]) (by simp [results, Tryd.results94, go_sem, c10, c11]) rfl ⟨_, rfl, ?_, ?_⟩
  · exact ((HO.out.setLow _ (by simp) _).setLow _ (by simp) _).mono (by omega)
  · exact (HB.out.setCell (by simp) _).setCell (by simp) _
end Go.Proofs.YtblglkgmnaklbaaDoor
