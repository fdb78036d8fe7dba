/- A slice of int that is made with a length and filled: laws and a predicate. No program is named here. -/
import Derived.Test.YtblglkgmnaklbaaDoorLib
namespace Go.Proofs.YtblglkgmnaklbaaDoor
open Go.RowKit
section
variable {P : Program}
/-- Block g holds just these numbers. -/
def blk (I : TypeId) (w : World) (g : Nat) (m : List Int) : Prop := w.heap[g]? = some (.cells (m.map (Value.int .i64)).toArray I)
theorem blk.cell {I : TypeId} {w : World} {g : Nat} {m : List Int} (h : blk I w g m) (j : Nat) (hj : j < m.length) : w.cell? ⟨g, j, none⟩ = some (.int .i64 (m[j]?.getD 0)) := by
  rw [hp_cell h]
  simp [hj]
theorem blk.free {I : TypeId} {w : World} {g : Nat} {m : List Int} (h : blk I w g m) (j : Nat) : w.frozen? ⟨g, j, none⟩ = false := hp_free h j
theorem blk.lt {I : TypeId} {w : World} {g : Nat} {m : List Int} (h : blk I w g m) : g < w.heap.size := hp_lt h
theorem blk.set {I : TypeId} {w : World} {g : Nat} {m : List Int} (h : blk I w g m) (j : Nat) (x : Int) : blk I (w.setCell ⟨g, j, none⟩ (.int .i64 x)) g (m.set j x) := by
  unfold blk
  rw [hp_set w g j _ I _ h]
  simp [List.map_set]
theorem blk.below {I : TypeId} {w w' : World} {g B : Nat} {m : List Int} (h : blk I w g m) (hb : Below B w w') (hB : g < B) : blk I w' g m := (hb.block g hB).trans h
theorem blk.own {I : TypeId} {w : World} {g base : Nat} {m : List Int} (h : blk I w g m) (hb : base ≤ g) (hm : m.length ≤ maxLen) : own I w base (.slice (some ⟨g, 0, none⟩) m.length m.length) m := by
  refine ⟨by simp, .inr ⟨g, m.length, _, rfl, hb, h, Nat.le_refl _, hm, by simp, ?_⟩⟩
  simp only [Nat.mul_one]
  exact List.take_of_length_le (by simp)
theorem blk.ints {I : TypeId} {w : World} {g : Nat} {m : List Int} (h : blk I w g m) (c : Nat) : ints w.heap.size w (.slice (some ⟨g, 0, none⟩) m.length c) m :=
  .inr ⟨g, 0, c, rfl, h.lt, h.lt, fun j hj => by rw [Nat.zero_add]; exact h.cell j hj⟩
theorem eq_of_getD {l m : List Int} (h1 : m.length = l.length) (h2 : ∀ j, j < l.length → m[j]?.getD 0 = l[j]?.getD 0) : m = l := by
  apply List.ext_getElem h1
  intro j h3 h4
  have := h2 j h4
  simpa [h3, h4] using this

theorem wpList_makeInts {t I : TypeId} (ht : P.underlying t = some (.slice I)) (hI : (P.info? I).map (fun i => (i.zero, i.size, i.bytes)) = some (some (.int .i64 0), 1, 8)) {ops : Array Oper} {rest : List Oper} {o : Oper} {a : Act} {w : World} {Q : Exit → Act → World → Prop}
    (hw : Region.wanted o (yielded ops a.tmps) = true) (x y : Operand) (ho : o.op = .makeSlice t x y) (n : Nat) (hx : a.eval x = .int .i64 (n : Int)) (hy : a.eval y = .int .i64 (n : Int)) (hn : n < 1000000000)
    (h : ∀ w' : World, w'.heap.size = w.heap.size + 1 → blk I w' w.heap.size (List.replicate n 0) → Below w.heap.size w w' → wpList P ops Q rest (a.put o.dst (.slice (some ⟨w.heap.size, 0, none⟩) n n)) w') : wpList P ops Q (o :: rest) a w := by
  obtain ⟨i0, hi, hz0, hz1, hz2⟩ := info_parts hI
  have hr := run_make (P := P) w t I i0 (.int .i64 0) ht hi hz0 .i64 .i64 n n (by omega) (Int.le_refl _) (by rw [hz2]; omega) (by omega)
  simp only [Int.toNat_natCast] at hr
  refine wpList_of_wp hw fun K hK => ?_
  unfold Oper.wp execOp
  simp only [ho, hx, hy, Sem.run_bind, Sem.run_pure, hr, Result.andThen_ok]
  refine hK _ _ (h _ (by simp) ?_ ((Below.refl _ _).alloc (Nat.le_refl _) _))
  unfold blk
  rw [hp_last]
  congr 2
  apply Array.toList_inj.1
  rw [hz1, Nat.mul_one]
  show (madeCells #[Value.int .i64 0] n).toList = _
  rw [toList_madeCells_one]
  simp
end
end Go.Proofs.YtblglkgmnaklbaaDoor
