/- Slices of int told by the list of their numbers, nil ones among them: laws for len, an index, an append of one number. No program is named here. -/
import Derived.Test.YtlgcnablhkmdaaaLib
namespace Go.Proofs.Ytlgcnablhkmdaaa
open Go.RowKit
section
variable {P : Program}

/-- v is a slice that reads as l, its cells below block B. -/
def ints (B : Nat) (w : World) (v : Value) (l : List Int) : Prop :=
  (l = [] ∧ ∃ a c, v = .slice a 0 c) ∨
  ∃ b o c, v = .slice (some ⟨b, o, none⟩) l.length c ∧ b < B ∧ b < w.heap.size ∧ ∀ j, j < l.length → w.cell? ⟨b, o + j, none⟩ = some (.int .i64 (l[j]?.getD 0))
theorem ints.below {B B' : Nat} {w w' : World} {v : Value} {l : List Int} (h : ints B w v l) (hb : Below B' w w') (hB : B ≤ B') : ints B w' v l := by
  rcases h with h | ⟨b, o, c, h1, h2, h3, h4⟩
  · exact .inl h
  · exact .inr ⟨b, o, c, h1, h2, Nat.lt_of_lt_of_le h3 hb.size, fun j hj => (hb.cell (p := ⟨b, o + j, none⟩) (by show b < B'; omega)).trans (h4 j hj)⟩
theorem ints.mono {B B' : Nat} {w : World} {v : Value} {l : List Int} (h : ints B w v l) (hB : B ≤ B') : ints B' w v l := by
  rcases h with h | ⟨b, o, c, h1, h2, h3⟩
  · exact .inl h
  · exact .inr ⟨b, o, c, h1, by omega, h3⟩
theorem ints.alloc {B : Nat} {w : World} {v : Value} {l : List Int} (h : ints B w v l) (ob : Obj) : ints B (w.alloc ob) v l := by
  rcases h with h | ⟨b, o, c, h1, h2, h3, h4⟩
  · exact .inl h
  · exact .inr ⟨b, o, c, h1, h2, by simp; omega, fun j hj => ((Below.refl w.heap.size w).alloc (Nat.le_refl _) ob |>.cell (p := ⟨b, o + j, none⟩) h3).trans (h4 j hj)⟩
theorem ints.setCell {B : Nat} {w : World} {v : Value} {l : List Int} (h : ints B w v l) (a : Addr) (ha : B ≤ a.block) (u : Value) : ints B (w.setCell a u) v l :=
  h.below ((Below.refl B w).setCell ha u) (Nat.le_refl _)
theorem ints.shape {B : Nat} {w : World} {v : Value} {l : List Int} (h : ints B w v l) : ∃ a c, v = .slice a l.length c := by
  rcases h with ⟨rfl, h⟩ | ⟨b, o, c, h1, _⟩
  · exact h
  · exact ⟨_, _, h1⟩
theorem ints.one {B : Nat} {w : World} {v : Value} {l : List Int} (h : ints B w v l) : v.oneCell' = true := by
  obtain ⟨a, c, rfl⟩ := h.shape; rfl
theorem ints_nil (B : Nat) (w : World) (a : Option Addr) (c : Nat) : ints B w (.slice a 0 c) [] := .inl ⟨rfl, a, c, rfl⟩

theorem wpList_len {t I : TypeId} (ht : P.underlying t = some (.slice I)) {ops : Array Oper} {rest : List Oper} {o : Oper} {a : Act} {w : World} {Q : Exit → Act → World → Prop} (hw : Region.wanted o (yielded ops a.tmps) = true)
    (x : Operand) (ho : o.op = .call { callee := .builtin .len, args := #[x], argTypes := #[t] }) (v : Value) (hx : a.eval x = v) (B : Nat) (l : List Int) (hl : ints B w v l)
    (h : wpList P ops Q rest (a.put o.dst (.int .i64 (l.length : Int))) w) : wpList P ops Q (o :: rest) a w := by
  obtain ⟨b, c, rfl⟩ := hl.shape
  have he : P.underlying t = some (.slice (P.elem t)) := by
    rw [ht]; simp [Program.elem, ht]
  have hr : (Builtin.len_ #[t] o.type #[.slice b l.length c]).run P w = .ok (.int .i64 (l.length : Int)) w := by
    rw [run_len_slice (h := he)]
    simp [goInt]
  refine wpList_of_wp hw fun K hK => ?_
  unfold Oper.wp execOp
  simp only [ho, resolve, invoke, Sem.run_bind, Sem.run_pure, Result.andThen_ok, List.map_toArray, List.map_cons, List.map_nil, hx, BigFrame.builtin_len, hr]
  exact hK _ _ h

/-- The address of an element that is there. -/
theorem wpList_at {t I : TypeId} (ht : P.underlying t = some (.slice I)) (hI : (P.info? I).map (·.size) = some 1) {ops : Array Oper} {rest : List Oper} {o : Oper} {a : Act} {w : World} {Q : Exit → Act → World → Prop} (hw : Region.wanted o (yielded ops a.tmps) = true)
    (x y : Operand) (ho : o.op = .indexAddr t x y) (v : Value) (hx : a.eval x = v) (k : Nat) (hy : a.eval y = .int .i64 (k : Int)) (B : Nat) (l : List Int) (hl : ints B w v l) (hk : k < l.length)
    (h : ∀ ad : Addr, w.cell? ad = some (.int .i64 (l[k]?.getD 0)) → ad.block < B → wpList P ops Q rest (a.put o.dst (.pointer (some ad))) w) : wpList P ops Q (o :: rest) a w := by
  rcases hl with ⟨rfl, _⟩ | ⟨b, of, c, rfl, h2, h3, h4⟩
  · simp at hk
  have he : P.underlying t = some (.slice (P.elem t)) := by
    rw [ht]; simp [Program.elem, ht]
  have hE : P.elem t = I := by simp [Program.elem, ht]
  have hs : (sizeOf I).run P w = .ok 1 w := by
    cases hq : P.info? I with
    | none => simp [hq] at hI
    | some j =>
      have : j.size = 1 := by simpa [hq] using hI
      simp [sizeOf, typeInfo, hq, this]
  have hr : (Instr.indexAt t (.slice (some ⟨b, of, none⟩) l.length c) (.int .i64 (k : Int))).run P w = .ok (.pointer (some ⟨b, of + k, none⟩)) w := by
    rw [run_indexAt_slice (h := he), if_pos (by omega), hE, hs]
    simp [Addr.add]
  refine wpList_of_wp hw fun K hK => ?_
  unfold Oper.wp execOp
  simp only [ho, hx, hy, Sem.run_bind, Sem.run_pure, hr, Result.andThen_ok]
  exact hK _ _ (h ⟨b, of + k, none⟩ (h4 k hk) h2)

theorem wpList_atI {t I : TypeId} (ht : P.underlying t = some (.slice I)) (hI : (P.info? I).map (·.size) = some 1) {ops : Array Oper} {rest : List Oper} {o : Oper} {a : Act} {w : World} {Q : Exit → Act → World → Prop} (hw : Region.wanted o (yielded ops a.tmps) = true)
    (x y : Operand) (ho : o.op = .indexAddr t x y) (v : Value) (hx : a.eval x = v) (i : Int) (hy : a.eval y = .int .i64 i) (k : Nat) (hik : i = (k : Int)) (B : Nat) (l : List Int) (hl : ints B w v l) (hk : k < l.length)
    (h : ∀ ad : Addr, w.cell? ad = some (.int .i64 (l[k]?.getD 0)) → ad.block < B → wpList P ops Q rest (a.put o.dst (.pointer (some ad))) w) : wpList P ops Q (o :: rest) a w :=
  wpList_at ht hI hw x y ho v hx k (by rw [hy, hik]) B l hl hk h

/-! ### A slice that the call itself made -/
def own (I : TypeId) (w : World) (base : Nat) (v : Value) (l : List Int) : Prop := w.ownsRow base I 1 v l.length (l.map (Value.int .i64))
theorem own_nil (I : TypeId) (w : World) (base : Nat) : own I w base (.slice none 0 0) [] := World.ownsRow_nil _ _ _ _
theorem own.alloc {I : TypeId} {w : World} {base : Nat} {v : Value} {l : List Int} (h : own I w base v l) (o : Obj) : own I (w.alloc o) base v l := World.ownsRow.alloc h o
theorem own.mono {I : TypeId} {w : World} {base base' : Nat} {v : Value} {l : List Int} (h : own I w base v l) (hb : base' ≤ base) : own I w base' v l := by
  obtain ⟨h1, h2⟩ := h
  refine ⟨h1, ?_⟩
  rcases h2 with h2 | ⟨g, cap, cur, e, hg, r⟩
  · exact .inl h2
  · exact .inr ⟨g, cap, cur, e, by omega, r⟩
/-- Blocks below B are as they were; from B on only new blocks and the slice's own one may differ. -/
theorem own.kept {I : TypeId} {w w' : World} {base : Nat} {v : Value} {l : List Int} (h : own I w base v l) (hb : Below w.heap.size w w') : own I w' base v l := by
  obtain ⟨h1, h2⟩ := h
  refine ⟨h1, ?_⟩
  rcases h2 with h2 | ⟨g, cap, cur, e, hg, hh, r⟩
  · exact .inl h2
  · exact .inr ⟨g, cap, cur, e, hg, (hb.block g (hp_lt hh)).trans hh, r⟩
theorem own.ints {I : TypeId} {w : World} {base : Nat} {v : Value} {l : List Int} (h : own I w base v l) : ints w.heap.size w v l := by
  obtain ⟨h1, h2⟩ := h
  rcases h2 with ⟨e, h2⟩ | ⟨g, cap, cur, e, hg, hh, h3, h4, h5, h6⟩
  · have : l = [] := List.eq_nil_of_length_eq_zero h2
    subst this
    exact .inl ⟨rfl, none, 0, e⟩
  · refine .inr ⟨g, 0, cap, e, hp_lt hh, hp_lt hh, fun j hj => ?_⟩
    rw [Nat.zero_add, hp_cell hh]
    have h7 : (cur.toList.take (l.length * 1))[j]? = (l.map (Value.int .i64))[j]? := by rw [h6]
    rw [List.getElem?_take, if_pos (by omega), List.getElem?_map, List.getElem?_eq_getElem hj] at h7
    rw [← Array.getElem?_toList, h7, List.getElem?_eq_getElem hj]
    rfl
theorem own.shape {I : TypeId} {w : World} {base : Nat} {v : Value} {l : List Int} (h : own I w base v l) : ∃ a c, v = .slice a l.length c := h.ints.shape

/-- One number is appended. -/
theorem wpList_append1 {t I : TypeId} (ht : P.underlying t = some (.slice I)) (hI : (P.info? I).map (fun i => (i.zero, i.size, i.bytes)) = some (some (.int .i64 0), 1, 8))
    {ops : Array Oper} {rest : List Oper} {o : Oper} {a : Act} {w : World} {Q : Exit → Act → World → Prop} (hgd : o.guard = none) (s x : Operand)
    (ho : o.op = .call { callee := .builtin .append, args := #[s, x], argTypes := #[t, t] }) (base : Nat) (v : Value) (l : List Int) (hs : a.eval s = v) (hown : own I w base v l)
    (g : Nat) (y : Int) (hx : a.eval x = .slice (some ⟨g, 0, none⟩) 1 1) (hg : w.cell? ⟨g, 0, none⟩ = some (.int .i64 y)) (hbase : base ≤ w.heap.size) (hlen : l.length < 1000000000)
    (h : ∀ v' w', own I w' base v' (l ++ [y]) → Below base w w' → wpList P ops Q rest (a.put o.dst v') w') : wpList P ops Q (o :: rest) a w := by
  obtain ⟨i0, hi, hz0, hz1, hz2⟩ := info_parts hI
  refine wpList_append_own w hgd s x t ho base I i0 (.int .i64 0) 1 8 ht hi hz0 hz1 hz2 rfl (by decide) v l.length _ hs hown ⟨g, 0, none⟩ 1 1 [.int .i64 y] hx rfl ?_ ?_ (by unfold maxLen; omega) (by omega) hbase ?_
  · intro j u hj
    match j, hj with
    | 0, hj => simp at hj; subst hj; simpa [Addr.add] using hg
  · intro u hu; simp at hu; subst hu; rfl
  · intro v' w' hown' hgrow _
    refine h v' w' ?_ ?_
    · simpa [own] using hown'
    · refine ⟨hgrow.os, hgrow.tape, hgrow.output, hgrow.size, fun k hk => hgrow.block k (by omega) ?_⟩
      intro e
      have := (World.ownsRow.lt hown k e.symm).1
      omega

end
end Go.Proofs.Ytlgcnablhkmdaaa
