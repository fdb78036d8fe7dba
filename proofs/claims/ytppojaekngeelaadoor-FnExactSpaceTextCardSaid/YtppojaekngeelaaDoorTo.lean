/- Slices of texts of one's own. -/
import Derived.Test.YtppojaekngeelaaDoorSt
import Derived.Maps.AppendAt
namespace Go.Proofs.YtppojaekngeelaaDoor
open Go.RowKit
set_option maxRecDepth 100000
/-- A slice of texts of one's own. -/
def strV (x : List UInt8) : Value := .string ⟨x.toArray⟩
def ownT (w : World) (base : Nat) (v : Value) (L : List (List UInt8)) : Prop := w.ownsRow base 9 1 v L.length (L.map strV)
theorem ownT_nil (w : World) (base : Nat) : ownT w base (.slice none 0 0) [] := World.ownsRow_nil _ _ _ _
theorem ownT.kept {w w' : World} {base : Nat} {v : Value} {L : List (List UInt8)} (h : ownT w base v L) (hb : Below w.heap.size w w') : ownT w' base v L := by
  obtain ⟨h1, h2⟩ := h
  refine ⟨h1, ?_⟩
  rcases h2 with h2 | ⟨g, cap, cur, e, hg, hh, r⟩
  · exact .inl h2
  · exact .inr ⟨g, cap, cur, e, hg, (hb.block g (hp_lt hh)).trans hh, r⟩
theorem ownT.lt {w : World} {base : Nat} {v : Value} {L : List (List UInt8)} (h : ownT w base v L) : ∀ g, v.ownBlock = some g → base ≤ g ∧ g < w.heap.size := World.ownsRow.lt h
theorem ownT.shape {w : World} {base : Nat} {v : Value} {L : List (List UInt8)} (h : ownT w base v L) : ∃ a c, v = .slice a L.length c := by
  obtain ⟨h1, h2⟩ := h
  rcases h2 with ⟨e, h0⟩ | ⟨g, cap, cur, e, _⟩
  · exact ⟨none, 0, by rw [e, h0]⟩
  · exact ⟨_, _, e⟩
theorem ownT.cells {w : World} {base : Nat} {v : Value} {L : List (List UInt8)} (h : ownT w base v L) (hpos : 0 < L.length) : ∃ g c, v = .slice (some ⟨g, 0, none⟩) L.length c ∧ g < w.heap.size ∧ L.length ≤ c ∧ ∀ (j : Nat) x, (L.map fun x => (⟨x.toArray⟩ : ByteArray))[j]? = some x → w.cell? ⟨g, 0 + j, none⟩ = some (.string x) := by
  obtain ⟨h1, h2⟩ := h
  rcases h2 with ⟨e, h0⟩ | ⟨g, cap, cur, e, hg, hh, h5, h6, h7, h8⟩
  · omega
  · refine ⟨g, cap, e, hp_lt hh, h5, fun j x hj => ?_⟩
    rw [Nat.zero_add, hp_cell hh]
    have hjl : j < L.length := by
      rcases Nat.lt_or_ge j L.length with h | h
      · exact h
      · rw [List.getElem?_eq_none (by simpa using h)] at hj; cases hj
    have h9 : (cur.toList.take (L.length * 1))[j]? = (L.map strV)[j]? := by rw [h8]
    rw [List.getElem?_take, if_pos (by omega), List.getElem?_map, List.getElem?_eq_getElem hjl] at h9
    rw [List.getElem?_map, List.getElem?_eq_getElem hjl] at hj
    rw [← Array.getElem?_toList, h9]
    simp only [Option.map_some, Option.some.injEq] at hj ⊢
    rw [← hj]
    rfl
theorem sliceStr : Tryd.prog.underlying 69 = some (.slice 9) := by kernel_rfl
theorem infoStr : (Tryd.prog.info? 9).map (fun i => (i.zero, i.size, i.bytes)) = some (some (.string ⟨#[]⟩), 1, 16) := by kernel_rfl
theorem wpList_appendT {ops : Array Oper} {rest : List Oper} {o : Oper} {a : Act} {w : World} {Q : Exit → Act → World → Prop} (hgd : o.guard = none) (s x : Operand)
    (ho : o.op = .call { callee := .builtin .append, args := #[s, x], argTypes := #[69, 69] }) (base : Nat) (v : Value) (L : List (List UInt8)) (hs : a.eval s = v) (hown : ownT w base v L)
    (g : Nat) (r : List UInt8) (hx : a.eval x = .slice (some ⟨g, 0, none⟩) 1 1) (hg : w.cell? ⟨g, 0, none⟩ = some (strV r)) (hbase : base ≤ w.heap.size) (hlen : L.length < 1000000000)
    (h : ∀ v' w', ownT w' base v' (L ++ [r]) → Below base w w' → wpList Tryd.prog ops Q rest (a.put o.dst v') w') : wpList Tryd.prog ops Q (o :: rest) a w := by
  obtain ⟨i0, hi, hz0, hz1, hz2⟩ : ∃ i, Tryd.prog.info? 9 = some i ∧ i.zero = some (.string ⟨#[]⟩) ∧ i.size = 1 ∧ i.bytes = 16 := by
    have hT := infoStr
    cases hq : Tryd.prog.info? 9 with
    | none => simp [hq] at hT
    | some j => simp [hq] at hT; exact ⟨j, rfl, hT.1, hT.2.1, hT.2.2⟩
  have hlt0 := hown.lt
  refine wpList_append_own_at w hgd s x 69 ho base 9 i0 (.string ⟨#[]⟩) 1 16 sliceStr hi hz0 hz1 hz2 rfl (by decide) v L.length _ hs hown ⟨g, 0, none⟩ 1 1 [strV r] hx rfl ?_ ?_ (by unfold maxLen; omega) (by omega) hbase ?_
  · intro j u hj
    match j, hj with
    | 0, hj => simp at hj; subst hj; simpa [Addr.add] using hg
  · intro u hu; simp at hu; subst hu; rfl
  · intro v' w' hown' hgrow _ _
    refine h v' w' ?_ ⟨hgrow.os, hgrow.tape, hgrow.output, hgrow.size, fun k hk => hgrow.block k (by omega) fun e => by have := hlt0 k e.symm; omega⟩
    unfold ownT
    rw [List.length_append, List.length_singleton, List.map_append, List.map_singleton]
    exact hown'
end Go.Proofs.YtppojaekngeelaaDoor
