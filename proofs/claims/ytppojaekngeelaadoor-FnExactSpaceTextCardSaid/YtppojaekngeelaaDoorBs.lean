/- Slices of bytes told by the list of their numbers, an append of one byte, the text of such a slice. No program is named here. -/
import Derived.Test.YtppojaekngeelaaDoorLib
import Derived.Laws.IdiomStrings
import Derived.Laws.Concat
namespace Go.Proofs.YtppojaekngeelaaDoor
open Go.RowKit
section
variable {P : Program}
/-- The text of a list of bytes. -/
def textOf (l : List Int) : ByteArray := l.foldl (fun r n => r.push (UInt8.ofNat n.toNat)) ByteArray.empty
theorem textOf_nil : textOf [] = ⟨#[]⟩ := rfl
theorem textOf_snoc (l : List Int) (x : Int) : textOf (l ++ [x]) = textOf l ++ textOf [x] := by
  simp only [textOf, List.foldl_append, List.foldl_cons, List.foldl_nil]
  apply ByteArray.ext
  simp [ByteArray.push, ByteArray.data_append]
theorem textOf_size (l : List Int) : (textOf l).size = l.length := by
  have : ∀ (l : List Int) (r : ByteArray), (l.foldl (fun r n => r.push (UInt8.ofNat n.toNat)) r).size = r.size + l.length := by
    intro l
    induction l with
    | nil => intro r; simp
    | cons x l ih => intro r; rw [List.foldl_cons, ih]; simp [ByteArray.size_push]; omega
  rw [textOf, this]; simp
/-- A slice of bytes, at least one. -/
def bytesAt (w : World) (v : Value) (l : List Int) : Prop := ∃ (ad : Addr) (c : Nat), v = .slice (some ad) l.length c ∧ ∀ j, j < l.length → w.cell? (ad.add j) = some (.int .u8 (l[j]?.getD 0))
theorem wpList_text {src dst e : TypeId} (hs : P.underlying src = some (.slice e)) (he : P.underlying e = some (.int .u8)) (hd : P.underlying dst = some .string)
    {ops : Array Oper} {rest : List Oper} {o : Oper} {a : Act} {w : World} {Q : Exit → Act → World → Prop} (hw : Region.wanted o (yielded ops a.tmps) = true)
    (x : Operand) (ho : o.op = .convert src dst x) (v : Value) (hx : a.eval x = v) (l : List Int) (hl : bytesAt w v l)
    (h : wpList P ops Q rest (a.put o.dst (.string (textOf l))) w) : wpList P ops Q (o :: rest) a w := by
  obtain ⟨ad, c, rfl, hc⟩ := hl
  have h1 := run_loadCells_list (P := P) w ad (l.map (Value.int .u8)) (fun j v hj => by
    have hj' : j < l.length := by
      have := (List.getElem?_eq_some_iff.1 hj).1
      simpa using this
    rw [hc j hj']
    simp [List.getElem?_eq_getElem hj'] at hj ⊢
    exact hj)
  simp only [List.length_map] at h1
  have hr : (convert src dst (.slice (some ad) l.length c)).run P w = .ok (.string (textOf l)) w := by
    rw [run_convert_bytes_string w src dst e (some ad) l.length c hs he hd, run_bytesToString w ad l.length c l h1]
    rfl
  refine wpList_of_wp hw fun K hK => ?_
  unfold Oper.wp execOp
  simp only [ho, hx, Sem.run_bind, Sem.run_pure, hr, Result.andThen_ok]
  exact hK _ _ h
/-- A slice of bytes that the call itself made. -/
def ownU (I : TypeId) (w : World) (base : Nat) (v : Value) (l : List Int) : Prop := w.ownsRow base I 1 v l.length (l.map (Value.int .u8))
theorem ownU_nil (I : TypeId) (w : World) (base : Nat) : ownU I w base (.slice none 0 0) [] := World.ownsRow_nil _ _ _ _
theorem ownU.alloc {I : TypeId} {w : World} {base : Nat} {v : Value} {l : List Int} (h : ownU I w base v l) (o : Obj) : ownU I (w.alloc o) base v l := World.ownsRow.alloc h o
theorem ownU.bytes {I : TypeId} {w : World} {base : Nat} {v : Value} {l : List Int} (h : ownU I w base v l) (hl : 1 ≤ l.length) : bytesAt w v l := by
  obtain ⟨h1, h2⟩ := h
  rcases h2 with ⟨e, h2⟩ | ⟨g, cap, cur, e, hg, hh, h3, h4, h5, h6⟩
  · omega
  · refine ⟨⟨g, 0, none⟩, cap, e, fun j hj => ?_⟩
    have e2 : (⟨g, 0, none⟩ : Addr).add j = ⟨g, j, none⟩ := by simp [Addr.add]; cases j <;> simp
    rw [e2, hp_cell hh]
    have h7 : (cur.toList.take (l.length * 1))[j]? = (l.map (Value.int .u8))[j]? := by rw [h6]
    rw [List.getElem?_take, if_pos (by omega), List.getElem?_map, List.getElem?_eq_getElem hj] at h7
    rw [← Array.getElem?_toList, h7, List.getElem?_eq_getElem hj]
    rfl
theorem ownU.shape {I : TypeId} {w : World} {base : Nat} {v : Value} {l : List Int} (h : ownU I w base v l) : ∃ a c, v = .slice a l.length c := by
  obtain ⟨h1, h2⟩ := h
  rcases h2 with ⟨e, h2⟩ | ⟨g, cap, cur, e, _⟩
  · exact ⟨none, 0, by rw [h2]; exact e⟩
  · exact ⟨_, _, e⟩
theorem bytesAt_one (w : World) (T : TypeId) (y : Int) : bytesAt (w.alloc (.cells #[.int .u8 y] T)) (.slice (some ⟨w.heap.size, 0, none⟩) 1 1) [y] := by
  refine ⟨⟨w.heap.size, 0, none⟩, 1, rfl, fun j hj => ?_⟩
  have : j = 0 := by simp at hj; omega
  subst this
  rw [show (⟨w.heap.size, 0, none⟩ : Addr).add 0 = ⟨w.heap.size, 0, none⟩ by simp [Addr.add], hp_cell (hp_last _ _)]
  rfl
theorem wpList_appendU {t I : TypeId} (ht : P.underlying t = some (.slice I)) (hI : (P.info? I).map (fun i => (i.zero, i.size, i.bytes)) = some (some (.int .u8 0), 1, 1))
    {ops : Array Oper} {rest : List Oper} {o : Oper} {a : Act} {w : World} {Q : Exit → Act → World → Prop} (hgd : o.guard = none) (s x : Operand)
    (ho : o.op = .call { callee := .builtin .append, args := #[s, x], argTypes := #[t, t] }) (base : Nat) (v : Value) (l : List Int) (hs : a.eval s = v) (hown : ownU I w base v l)
    (g : Nat) (y : Int) (hx : a.eval x = .slice (some ⟨g, 0, none⟩) 1 1) (hg : w.cell? ⟨g, 0, none⟩ = some (.int .u8 y)) (hbase : base ≤ w.heap.size) (hlen : l.length < 1000000000)
    (h : ∀ v' w', ownU I w' base v' (l ++ [y]) → Below base w w' → wpList P ops Q rest (a.put o.dst v') w') : wpList P ops Q (o :: rest) a w := by
  obtain ⟨i0, hi, hz0, hz1, hz2⟩ := info_parts hI
  refine wpList_append_own w hgd s x t ho base I i0 (.int .u8 0) 1 1 ht hi hz0 hz1 hz2 rfl (by decide) v l.length _ hs hown ⟨g, 0, none⟩ 1 1 [.int .u8 y] hx rfl ?_ ?_ (by unfold maxLen; omega) (by omega) hbase ?_
  · intro j u hj
    match j, hj with
    | 0, hj => simp at hj; subst hj; simpa [Addr.add] using hg
  · intro u hu; simp at hu; subst hu; rfl
  · intro v' w' hown' hgrow _
    refine h v' w' ?_ ?_
    · simpa [ownU] using hown'
    · refine ⟨hgrow.os, hgrow.tape, hgrow.output, hgrow.size, fun k hk => hgrow.block k (by omega) ?_⟩
      intro e
      have := (World.ownsRow.lt hown k e.symm).1
      omega
end
end Go.Proofs.YtppojaekngeelaaDoor
