/- Contracts of the laws' functions that write marks into an answer and ask whether they are held. -/
import Derived.Test.YtbcohlnimmoifaaLawA
import Derived.Test.YtbcohlnimmoifaaIs
namespace Go.Proofs.Ytbcohlnimmoifaa
open Go.RowKit
set_option maxRecDepth 100000

/-- All blocks but the one that v points into are as they were. -/
structure Other (v : Value) (w w' : World) : Prop where
  os : w'.os = w.os
  tape : w'.tape = w.tape
  output : w'.output = w.output
  size : w.heap.size ≤ w'.heap.size
  block : ∀ k, k < w.heap.size → v.ownBlock ≠ some k → w'.heap[k]? = w.heap[k]?
theorem Other.refl (v : Value) (w : World) : Other v w w := ⟨rfl, rfl, rfl, Nat.le_refl _, fun _ _ _ => rfl⟩
theorem Other.trans {v : Value} {a b c : World} (h : Other v a b) (k : Other v b c) : Other v a c :=
  ⟨k.os.trans h.os, k.tape.trans h.tape, k.output.trans h.output, Nat.le_trans h.size k.size, fun i hi hv => (k.block i (Nat.lt_of_lt_of_le hi h.size) hv).trans (h.block i hi hv)⟩
theorem Below.other {w w' : World} (v : Value) (h : Below w.heap.size w w') : Other v w w' := ⟨h.os, h.tape, h.output, h.size, fun k hk _ => h.block k hk⟩
theorem Other.setCell {v : Value} {a w : World} (h : Other v a w) {g : Nat} (hg : v.ownBlock = some g) (j : Nat) (u : Value) : Other v a (w.setCell ⟨g, j, none⟩ u) :=
  h.trans ⟨rfl, rfl, rfl, by simp [World.setCell], fun k _ hk => Below.heap_setCell _ _ _ _ (by intro e; subst e; exact hk hg)⟩
/-- What v points into lies from base on: below it all is as it was. -/
theorem Other.below {v : Value} {w w' : World} (h : Other v w w') (base : Nat) (hb : ∀ g, v.ownBlock = some g → base ≤ g) (hs : base ≤ w.heap.size) : Below base w w' :=
  ⟨h.os, h.tape, h.output, h.size, fun k hk => h.block k (by omega) (by intro e; have := hb k e; omega)⟩
theorem own.base {I : TypeId} {w : World} {base : Nat} {v : Value} {l : List Int} (h : own I w base v l) : ∀ g, v.ownBlock = some g → base ≤ g := by
  intro g hg
  rcases h.2 with ⟨e, _⟩ | ⟨g', cap, cur, e, hb, _⟩
  · subst e; simp [Value.ownBlock] at hg
  · subst e; simp [Value.ownBlock] at hg; omega
theorem own.blockLt {I : TypeId} {w : World} {base : Nat} {v : Value} {l : List Int} (h : own I w base v l) : ∀ g, v.ownBlock = some g → g < w.heap.size := by
  intro g hg
  rcases h.2 with ⟨e, _⟩ | ⟨g', cap, cur, e, hb, hh, _⟩
  · subst e; simp [Value.ownBlock] at hg
  · subst e; simp [Value.ownBlock] at hg; have := hp_lt hh; omega
/-- A slice whose block is another one keeps its numbers. -/
theorem own.other {I : TypeId} {w w' : World} {base : Nat} {u v : Value} {l : List Int} (h : own I w base v l) (ho : Other u w w') (hne : ∀ g, v.ownBlock = some g → u.ownBlock ≠ some g) : own I w' base v l := by
  obtain ⟨h1, h2⟩ := h
  refine ⟨h1, ?_⟩
  rcases h2 with h2 | ⟨g, cap, cur, e, hg, hh, r⟩
  · exact .inl h2
  · exact .inr ⟨g, cap, cur, e, hg, (ho.block g (hp_lt hh) (hne g (by subst e; rfl))).trans hh, r⟩
theorem own.set {I : TypeId} {w : World} {base g : Nat} {v : Value} {l : List Int} (h : own I w base v l) (hg : v.ownBlock = some g) (j : Nat) (x : Int) : own I (w.setCell ⟨g, j, none⟩ (.int .i64 x)) base v (l.set j x) := by
  obtain ⟨h1, h2⟩ := h
  rcases h2 with ⟨e, _⟩ | ⟨g', cap, cur, e, hb, hh, h3, h4, h5, h6⟩
  · subst e; simp [Value.ownBlock] at hg
  · subst e
    have : g' = g := by simpa [Value.ownBlock] using hg
    subst this
    refine ⟨by simp, .inr ⟨g', cap, cur.setIfInBounds j (.int .i64 x), by rw [List.length_set], hb, hp_set _ _ _ _ _ _ hh, by rw [List.length_set]; exact h3, h4, by simpa using h5, ?_⟩⟩
    rw [List.length_set, Array.toList_setIfInBounds, List.take_set, h6, List.map_set]
theorem own.cell {I : TypeId} {w : World} {base g : Nat} {v : Value} {l : List Int} (h : own I w base v l) (hg : v.ownBlock = some g) (j : Nat) (hj : j < l.length) : w.cell? ⟨g, j, none⟩ = some (.int .i64 (l[j]?.getD 0)) ∧ w.frozen? ⟨g, j, none⟩ = false := by
  obtain ⟨h1, h2⟩ := h
  rcases h2 with ⟨e, _⟩ | ⟨g', cap, cur, e, hb, hh, h3, h4, h5, h6⟩
  · subst e; simp [Value.ownBlock] at hg
  · subst e
    have : g' = g := by simpa [Value.ownBlock] using hg
    subst this
    refine ⟨?_, hp_free hh _⟩
    rw [hp_cell hh]
    have h7 : (cur.toList.take (l.length * 1))[j]? = (l.map (Value.int .i64))[j]? := by rw [h6]
    rw [List.getElem?_take, if_pos (by omega), List.getElem?_map, List.getElem?_eq_getElem hj] at h7
    rw [← Array.getElem?_toList, h7, List.getElem?_eq_getElem hj]
    rfl
section
variable {P : Program}
/-- The address of an element of a slice of one's own. -/
theorem wpList_atOwn {t I : TypeId} (ht : P.underlying t = some (.slice I)) (hI : (P.info? I).map (·.size) = some 1) {ops : Array Oper} {rest : List Oper} {o : Oper} {a : Act} {w : World} {Q : Exit → Act → World → Prop} (hw : Region.wanted o (yielded ops a.tmps) = true)
    (x y : Operand) (ho : o.op = .indexAddr t x y) (v : Value) (hx : a.eval x = v) (i : Int) (hy : a.eval y = .int .i64 i) (k : Nat) (hik : i = (k : Int)) (base : Nat) (l : List Int) (hl : own I w base v l) (hk : k < l.length)
    (h : ∀ g, v.ownBlock = some g → wpList P ops Q rest (a.put o.dst (.pointer (some ⟨g, k, none⟩))) w) : wpList P ops Q (o :: rest) a w := by
  subst hik
  rcases hl.2 with ⟨_, h0⟩ | ⟨g, cap, cur, e, hb, hh, h3, h4, h5, h6⟩
  · omega
  subst e
  have he : P.underlying t = some (.slice (P.elem t)) := by
    rw [ht]; simp [Program.elem, ht]
  have hE : P.elem t = I := by simp [Program.elem, ht]
  have hs : (sizeOf I).run P w = .ok 1 w := by
    cases hq : P.info? I with
    | none => simp [hq] at hI
    | some j =>
      have : j.size = 1 := by simpa [hq] using hI
      simp [sizeOf, typeInfo, hq, this]
  have hr : (Instr.indexAt t (.slice (some ⟨g, 0, none⟩) l.length cap) (.int .i64 (k : Int))).run P w = .ok (.pointer (some ⟨g, k, none⟩)) w := by
    rw [run_indexAt_slice (h := he), if_pos (by omega), hE, hs]
    simp [Addr.add]
    intro h0; omega
  refine wpList_of_wp hw fun K hK => ?_
  unfold Oper.wp execOp
  simp only [ho, hx, hy, Sem.run_bind, Sem.run_pure, hr, Result.andThen_ok]
  exact hK _ _ (h g rfl)
end

/-- k, k + 1, .., n of them. -/
def upFrom (k : Int) (n : Nat) : List Int := (List.range n).map fun j : Nat => k + (j : Int)
theorem upFrom_len (k : Int) (n : Nat) : (upFrom k n).length = n := by simp [upFrom]
theorem upFrom_at (k : Int) (n j : Nat) (h : j < n) : (upFrom k n)[j]?.getD 0 = k + j := by simp [upFrom, h]

end Go.Proofs.Ytbcohlnimmoifaa
