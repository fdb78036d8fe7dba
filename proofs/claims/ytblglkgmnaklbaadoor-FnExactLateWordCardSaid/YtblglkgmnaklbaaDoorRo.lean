/- Slices of slices of int, told by the list of their lists: read, made by append, kept. No program is named here. -/
import Derived.Test.YtblglkgmnaklbaaDoorOw
import Derived.Maps.AppendAt
namespace Go.Proofs.YtblglkgmnaklbaaDoor
open Go.RowKit
section
variable {P : Program}
def nilS : Value := .slice none 0 0
/-- v is a slice whose elements read as the lists of L, all cells below block B. -/
def rows (B : Nat) (w : World) (v : Value) (L : List (List Int)) : Prop :=
  (L = [] ∧ ∃ a c, v = .slice a 0 c) ∨
  ∃ b o c, v = .slice (some ⟨b, o, none⟩) L.length c ∧ b < B ∧ b < w.heap.size ∧ ∀ j, j < L.length → ∃ u, w.cell? ⟨b, o + j, none⟩ = some u ∧ ints B w u (L[j]?.getD [])
theorem rows.below {B B' : Nat} {w w' : World} {v : Value} {L : List (List Int)} (h : rows B w v L) (hb : Below B' w w') (hB : B ≤ B') : rows B w' v L := by
  rcases h with h | ⟨b, o, c, h1, h2, h3, h4⟩
  · exact .inl h
  · refine .inr ⟨b, o, c, h1, h2, Nat.lt_of_lt_of_le h3 hb.size, fun j hj => ?_⟩
    obtain ⟨u, hu, hi⟩ := h4 j hj
    exact ⟨u, (hb.cell (p := ⟨b, o + j, none⟩) (by show b < B'; omega)).trans hu, hi.below hb hB⟩
theorem rows.mono {B B' : Nat} {w : World} {v : Value} {L : List (List Int)} (h : rows B w v L) (hB : B ≤ B') : rows B' w v L := by
  rcases h with h | ⟨b, o, c, h1, h2, h3, h4⟩
  · exact .inl h
  · refine .inr ⟨b, o, c, h1, by omega, h3, fun j hj => ?_⟩
    obtain ⟨u, hu, hi⟩ := h4 j hj
    exact ⟨u, hu, hi.mono hB⟩
theorem rows.alloc {B : Nat} {w : World} {v : Value} {L : List (List Int)} (h : rows B w v L) (ob : Obj) : rows B (w.alloc ob) v L := by
  rcases h with h | ⟨b, o, c, h1, h2, h3, h4⟩
  · exact .inl h
  · refine .inr ⟨b, o, c, h1, h2, by simp; omega, fun j hj => ?_⟩
    obtain ⟨u, hu, hi⟩ := h4 j hj
    exact ⟨u, ((Below.refl w.heap.size w).alloc (Nat.le_refl _) ob |>.cell (p := ⟨b, o + j, none⟩) h3).trans hu, hi.alloc ob⟩
theorem rows.shape {B : Nat} {w : World} {v : Value} {L : List (List Int)} (h : rows B w v L) : ∃ a c, v = .slice a L.length c := by
  rcases h with ⟨rfl, h⟩ | ⟨b, o, c, h1, _⟩
  · exact h
  · exact ⟨_, _, h1⟩
theorem rows_nil (B : Nat) (w : World) (a : Option Addr) (c : Nat) : rows B w (.slice a 0 c) [] := .inl ⟨rfl, a, c, rfl⟩

theorem wpList_len2 {t I : TypeId} (ht : P.underlying t = some (.slice I)) {ops : Array Oper} {rest : List Oper} {o : Oper} {a : Act} {w : World} {Q : Exit → Act → World → Prop} (hw : Region.wanted o (yielded ops a.tmps) = true)
    (x : Operand) (ho : o.op = .call { callee := .builtin .len, args := #[x], argTypes := #[t] }) (v : Value) (hx : a.eval x = v) (B : Nat) (L : List (List Int)) (hl : rows B w v L)
    (h : wpList P ops Q rest (a.put o.dst (.int .i64 (L.length : Int))) w) : wpList P ops Q (o :: rest) a w := by
  obtain ⟨b, c, rfl⟩ := hl.shape
  have he : P.underlying t = some (.slice (P.elem t)) := by
    rw [ht]; simp [Program.elem, ht]
  have hr : (Builtin.len_ #[t] o.type #[.slice b L.length c]).run P w = .ok (.int .i64 (L.length : Int)) w := by
    rw [run_len_slice (h := he)]
    simp [goInt]
  refine wpList_of_wp hw fun K hK => ?_
  unfold Oper.wp execOp
  simp only [ho, resolve, invoke, Sem.run_bind, Sem.run_pure, Result.andThen_ok, List.map_toArray, List.map_cons, List.map_nil, hx, BigFrame.builtin_len, hr]
  exact hK _ _ h
theorem wpList_at2 {t I : TypeId} (ht : P.underlying t = some (.slice I)) (hI : (P.info? I).map (·.size) = some 1) {ops : Array Oper} {rest : List Oper} {o : Oper} {a : Act} {w : World} {Q : Exit → Act → World → Prop} (hw : Region.wanted o (yielded ops a.tmps) = true)
    (x y : Operand) (ho : o.op = .indexAddr t x y) (v : Value) (hx : a.eval x = v) (i : Int) (hy : a.eval y = .int .i64 i) (k : Nat) (hik : i = (k : Int)) (B : Nat) (L : List (List Int)) (hl : rows B w v L) (hk : k < L.length)
    (h : ∀ (ad : Addr) (u : Value), w.cell? ad = some u → ad.block < B → ints B w u (L[k]?.getD []) → wpList P ops Q rest (a.put o.dst (.pointer (some ad))) w) : wpList P ops Q (o :: rest) a w := by
  subst hik
  rcases hl with ⟨rfl, _⟩ | ⟨b, of, c, rfl, h2, h3, h4⟩
  · simp at hk
  have he : P.underlying t = some (.slice (P.elem t)) := by
    rw [ht]; simp [Program.elem, ht]
  have hE : P.elem t = I := by simp [Program.elem, ht]
  have hs : (sizeOf I).run P w = .ok 1 w := by
    cases hq : P.info? I with
    | none => simp [hq] at hI
    | some j =>
      have : j.size = 1 := by simpa [hq] using hI
      simp [sizeOf, typeInfo, hq, this]
  have hr : (Instr.indexAt t (.slice (some ⟨b, of, none⟩) L.length c) (.int .i64 (k : Int))).run P w = .ok (.pointer (some ⟨b, of + k, none⟩)) w := by
    rw [run_indexAt_slice (h := he), if_pos (by omega), hE, hs]
    simp [Addr.add]
  obtain ⟨u, hu, hi⟩ := h4 k hk
  refine wpList_of_wp hw fun K hK => ?_
  unfold Oper.wp execOp
  simp only [ho, hx, hy, Sem.run_bind, Sem.run_pure, hr, Result.andThen_ok]
  exact hK _ _ (h ⟨b, of + k, none⟩ u hu h2 hi)

/-! ### Slices of slices that the call itself made -/
/-- The slice's elements are of the call's own making, each in a block of its own. -/
def own2 (T I : TypeId) (w : World) (base : Nat) (v : Value) (L : List (List Int)) : Prop :=
  ∃ us : List Value, us.length = L.length ∧ w.ownsRow base T 1 v L.length us ∧
    (∀ j, j < L.length → own I w base (us[j]?.getD nilS) (L[j]?.getD []) ∧ ∀ g, (us[j]?.getD nilS).ownBlock = some g → v.ownBlock ≠ some g) ∧
    ∀ i j, i < j → j < L.length → ∀ g, (us[i]?.getD nilS).ownBlock = some g → (us[j]?.getD nilS).ownBlock ≠ some g
theorem own2_nil (T I : TypeId) (w : World) (base : Nat) : own2 T I w base (.slice none 0 0) [] :=
  ⟨[], rfl, World.ownsRow_nil _ _ _ _, fun j hj => by simp at hj, fun i j _ hj => by simp at hj⟩
theorem row_kept {T : TypeId} {w w' : World} {base n : Nat} {v : Value} {us : List Value} (h : w.ownsRow base T 1 v n us) (hb : Below w.heap.size w w') : w'.ownsRow base T 1 v n us := by
  obtain ⟨h1, h2⟩ := h
  refine ⟨h1, ?_⟩
  rcases h2 with h2 | ⟨g, cap, cur, e, hg, hh, r⟩
  · exact .inl h2
  · exact .inr ⟨g, cap, cur, e, hg, (hb.block g (hp_lt hh)).trans hh, r⟩
theorem own2.kept {T I : TypeId} {w w' : World} {base : Nat} {v : Value} {L : List (List Int)} (h : own2 T I w base v L) (hb : Below w.heap.size w w') : own2 T I w' base v L := by
  obtain ⟨us, h1, h2, h3, h4⟩ := h
  exact ⟨us, h1, row_kept h2 hb, fun j hj => ⟨(h3 j hj).1.kept hb, (h3 j hj).2⟩, h4⟩
theorem own2.alloc {T I : TypeId} {w : World} {base : Nat} {v : Value} {L : List (List Int)} (h : own2 T I w base v L) (o : Obj) : own2 T I (w.alloc o) base v L :=
  h.kept ((Below.refl _ _).alloc (Nat.le_refl _) o)
theorem own2.mono {T I : TypeId} {w : World} {base base' : Nat} {v : Value} {L : List (List Int)} (h : own2 T I w base v L) (hb : base' ≤ base) : own2 T I w base' v L := by
  obtain ⟨us, h1, ⟨h2, h2'⟩, h3, h4⟩ := h
  refine ⟨us, h1, ⟨h2, ?_⟩, fun j hj => ⟨(h3 j hj).1.mono hb, (h3 j hj).2⟩, h4⟩
  rcases h2' with h5 | ⟨g, cap, cur, e, hg, r⟩
  · exact .inl h5
  · exact .inr ⟨g, cap, cur, e, by omega, r⟩
theorem own2.rows {T I : TypeId} {w : World} {base : Nat} {v : Value} {L : List (List Int)} (h : own2 T I w base v L) : rows w.heap.size w v L := by
  obtain ⟨us, h1, ⟨h2, h2'⟩, h3, h4⟩ := h
  rcases h2' with ⟨e, h0⟩ | ⟨g, cap, cur, e, hg, hh, h5, h6, h7, h8⟩
  · have : L = [] := List.eq_nil_of_length_eq_zero h0
    subst this
    exact .inl ⟨rfl, none, 0, e⟩
  · refine .inr ⟨g, 0, cap, e, hp_lt hh, hp_lt hh, fun j hj => ⟨us[j]?.getD nilS, ?_, (h3 j hj).1.ints⟩⟩
    rw [Nat.zero_add, hp_cell hh]
    have h9 : (cur.toList.take (L.length * 1))[j]? = us[j]? := by rw [h8]
    rw [List.getElem?_take, if_pos (by omega)] at h9
    rw [← Array.getElem?_toList, h9, List.getElem?_eq_getElem (by omega)]
    rfl
theorem own2.shape {T I : TypeId} {w : World} {base : Nat} {v : Value} {L : List (List Int)} (h : own2 T I w base v L) : ∃ a c, v = .slice a L.length c := h.rows.shape
theorem own2.lt {T I : TypeId} {w : World} {base : Nat} {v : Value} {L : List (List Int)} (h : own2 T I w base v L) : ∀ g, v.ownBlock = some g → base ≤ g ∧ g < w.heap.size := by
  obtain ⟨us, h1, h2, h3, h4⟩ := h
  exact World.ownsRow.lt h2
/-- What another slice's block holds changes; that block lies below all that is one's own here. -/
theorem own2.otherB {T I : TypeId} {w w' : World} {base : Nat} {u v : Value} {L : List (List Int)} (h : own2 T I w base v L) (ho : Other u w w') (hu : ∀ g, u.ownBlock = some g → g < base) : own2 T I w' base v L := by
  obtain ⟨us, h1, ⟨h2, h2'⟩, h3, h4⟩ := h
  refine ⟨us, h1, ⟨h2, ?_⟩, fun j hj => ⟨(h3 j hj).1.other ho fun g hg e => ?_, (h3 j hj).2⟩, h4⟩
  · rcases h2' with h5 | ⟨g, cap, cur, e, hg, hh, r⟩
    · exact .inl h5
    · exact .inr ⟨g, cap, cur, e, hg, (ho.block g (hp_lt hh) fun e => by have := hu g e; omega).trans hh, r⟩
  · have h5 := (h3 j hj).1.base g hg
    have h6 := hu g e
    omega
/-- One row, and what becomes of all when it alone is changed. -/
theorem own2.row {T I : TypeId} {w : World} {base : Nat} {v : Value} {L : List (List Int)} (h : own2 T I w base v L) (k : Nat) (hk : k < L.length) :
    ∃ b c u, v = .slice (some ⟨b, 0, none⟩) L.length c ∧ w.cell? ⟨b, k, none⟩ = some u ∧ own I w base u (L[k]?.getD []) ∧ ∀ l' w', own I w' base u l' → Other u w w' → own2 T I w' base v (L.set k l') := by
  obtain ⟨us, h1, ⟨h2, h2'⟩, h3, h4⟩ := h
  rcases h2' with ⟨e, h0⟩ | ⟨g, cap, cur, e, hg, hh, h5, h6, h7, h8⟩
  · omega
  · refine ⟨g, cap, us[k]?.getD nilS, e, ?_, (h3 k hk).1, fun l' w' hl' ho => ⟨us, by simp [h1], ?_, fun j hj => ?_, fun i j hij hj => h4 i j hij (by simpa using hj)⟩⟩
    · rw [hp_cell hh]
      have h9 : (cur.toList.take (L.length * 1))[k]? = us[k]? := by rw [h8]
      rw [List.getElem?_take, if_pos (by omega)] at h9
      rw [← Array.getElem?_toList, h9, List.getElem?_eq_getElem (by omega)]
      rfl
    · rw [List.length_set]
      refine ⟨h2, .inr ⟨g, cap, cur, e, hg, (ho.block g (hp_lt hh) fun e2 => ?_).trans hh, h5, h6, h7, h8⟩⟩
      exact (h3 k hk).2 g e2 (by subst e; rfl)
    · rw [List.length_set] at hj
      rcases Nat.lt_trichotomy j k with hjk | hjk | hjk
      · rw [List.getElem?_set_ne (by omega)]
        exact ⟨(h3 j hj).1.other ho fun x hx e2 => h4 j k hjk hk x hx e2, (h3 j hj).2⟩
      · subst hjk
        rw [List.getElem?_set_self (by omega)]
        exact ⟨hl', (h3 j hj).2⟩
      · rw [List.getElem?_set_ne (by omega)]
        exact ⟨(h3 j hj).1.other ho fun x hx e2 => h4 k j hjk hj x e2 hx, (h3 j hj).2⟩
/-- How many numbers the first k rows have. -/
def totTo (L : List (List Int)) : Nat → Nat
  | 0 => 0
  | k + 1 => totTo L k + (L[k]?.getD []).length
def tot (L : List (List Int)) : Nat := totTo L L.length
theorem totTo_mono (L : List (List Int)) (i : Nat) : ∀ k, i ≤ k → totTo L i ≤ totTo L k
  | 0, h => by have : i = 0 := by omega
               subst this; exact Nat.le_refl _
  | k + 1, h => by
    rcases Nat.lt_or_ge i (k + 1) with h1 | h1
    · have := totTo_mono L i k (by omega)
      rw [totTo]; omega
    · have : i = k + 1 := by omega
      subst this; exact Nat.le_refl _
theorem totTo_congr (L M : List (List Int)) : ∀ k, (∀ j, j < k → (M[j]?.getD []).length = (L[j]?.getD []).length) → totTo M k = totTo L k
  | 0, _ => rfl
  | k + 1, h => by rw [totTo, totTo, totTo_congr L M k fun j hj => h j (by omega), h k (by omega)]
theorem row_le (L : List (List Int)) (k : Nat) (hk : k < L.length) : totTo L k + (L[k]?.getD []).length ≤ tot L := totTo_mono L (k + 1) L.length hk
/-- Rows of marks. -/
def marksR (k0 : Int) (L : List (List Int)) : List (List Int) := (List.range L.length).map fun j => upFrom (k0 + (totTo L j : Int)) (L[j]?.getD []).length
theorem marksR_len (k0 : Int) (L : List (List Int)) : (marksR k0 L).length = L.length := by simp [marksR]
theorem marksR_at (k0 : Int) (L : List (List Int)) (j : Nat) (h : j < L.length) : (marksR k0 L)[j]?.getD [] = upFrom (k0 + (totTo L j : Int)) (L[j]?.getD []).length := by simp [marksR, h]
theorem rows_eq {L M : List (List Int)} (hlen : L.length = M.length) (h : ∀ j, j < M.length → L[j]?.getD [] = M[j]?.getD []) : L = M := by
  refine List.ext_getElem hlen fun j h1 h2 => ?_
  have := h j h2
  simpa [h1, h2] using this
/-- The address of an element of a slice whose block is known. -/
theorem wpList_atB {t I : TypeId} (ht : P.underlying t = some (.slice I)) (hI : (P.info? I).map (·.size) = some 1) {ops : Array Oper} {rest : List Oper} {o : Oper} {a : Act} {w : World} {Q : Exit → Act → World → Prop} (hw : Region.wanted o (yielded ops a.tmps) = true)
    (x y : Operand) (ho : o.op = .indexAddr t x y) (b n c : Nat) (hx : a.eval x = .slice (some ⟨b, 0, none⟩) n c) (i : Int) (hy : a.eval y = .int .i64 i) (k : Nat) (hik : i = (k : Int)) (hk : k < n)
    (h : wpList P ops Q rest (a.put o.dst (.pointer (some ⟨b, k, none⟩))) w) : wpList P ops Q (o :: rest) a w := by
  subst hik
  have he : P.underlying t = some (.slice (P.elem t)) := by
    rw [ht]; simp [Program.elem, ht]
  have hE : P.elem t = I := by simp [Program.elem, ht]
  have hs : (sizeOf I).run P w = .ok 1 w := by
    cases hq : P.info? I with
    | none => simp [hq] at hI
    | some j =>
      have : j.size = 1 := by simpa [hq] using hI
      simp [sizeOf, typeInfo, hq, this]
  have hr : (Instr.indexAt t (.slice (some ⟨b, 0, none⟩) n c) (.int .i64 (k : Int))).run P w = .ok (.pointer (some ⟨b, k, none⟩)) w := by
    rw [run_indexAt_slice (h := he), if_pos (by omega), hE, hs]
    simp [Addr.add]
    intro h0; omega
  refine wpList_of_wp hw fun K hK => ?_
  unfold Oper.wp execOp
  simp only [ho, hx, hy, Sem.run_bind, Sem.run_pure, hr, Result.andThen_ok]
  exact hK _ _ h
/-- A row that was made behind what is there is appended. -/
theorem wpList_append2 {t T I : TypeId} {bytes : Nat} (ht : P.underlying t = some (.slice T)) (hT : (P.info? T).map (fun i => (i.zero, i.size, i.bytes)) = some (some (.slice none 0 0), 1, bytes)) (hby : bytes ≤ 64)
    {ops : Array Oper} {rest : List Oper} {o : Oper} {a : Act} {w : World} {Q : Exit → Act → World → Prop} (hgd : o.guard = none) (s x : Operand)
    (ho : o.op = .call { callee := .builtin .append, args := #[s, x], argTypes := #[t, t] }) (base : Nat) (v : Value) (L : List (List Int)) (hs : a.eval s = v) (w0 : World) (hown : own2 T I w0 base v L) (hb0 : Below w0.heap.size w0 w)
    (g : Nat) (u : Value) (l : List Int) (hx : a.eval x = .slice (some ⟨g, 0, none⟩) 1 1) (hg : w.cell? ⟨g, 0, none⟩ = some u) (hu : own I w w0.heap.size u l) (hbase : base ≤ w0.heap.size) (hlen : L.length < 1000000000)
    (h : ∀ v' w', own2 T I w' base v' (L ++ [l]) → Below base w w' → Other v w w' → (v'.ownBlock = v.ownBlock ∨ v'.ownBlock = some w.heap.size) → wpList P ops Q rest (a.put o.dst v') w') : wpList P ops Q (o :: rest) a w := by
  obtain ⟨i0, hi, hz0, hz1, hz2⟩ : ∃ i, P.info? T = some i ∧ i.zero = some (.slice none 0 0) ∧ i.size = 1 ∧ i.bytes = bytes := by
    cases hq : P.info? T with
    | none => simp [hq] at hT
    | some j => simp [hq] at hT; exact ⟨j, rfl, hT.1, hT.2.1, hT.2.2⟩
  have hz := hb0.size
  obtain ⟨us, h1, h2, h3, h4⟩ := hown
  have hub := hu.base
  have hul := hu.blockLt
  have hsep : ∀ k, u.ownBlock = some k → w0.heap.size ≤ k := hub
  have hlt0 := World.ownsRow.lt h2
  refine wpList_append_own_at w hgd s x t ho base T i0 (.slice none 0 0) 1 bytes ht hi hz0 hz1 hz2 rfl (by decide) v L.length us hs (row_kept h2 hb0) ⟨g, 0, none⟩ 1 1 [u] hx rfl ?_ ?_ (by unfold maxLen; omega) ?_ (by omega) ?_
  · intro j y hj
    match j, hj with
    | 0, hj => simp at hj; subst hj; simpa [Addr.add] using hg
  · intro y hy
    simp at hy; subst hy
    exact hu.ints.one
  · have : (L.length + 1) * bytes ≤ 1000000000 * 64 := Nat.mul_le_mul (by omega) hby
    omega
  · intro v' w' hown' hgrow _ hlie
    have hoth : Other v w w' := ⟨hgrow.os, hgrow.tape, hgrow.output, hgrow.size, fun k hk hne => hgrow.block k hk fun e => hne e.symm⟩
    have hu' : own I w' w0.heap.size u l := hu.other hoth fun k hk e => by
      have h5 := hsep k hk
      have h6 := hlt0 k e
      omega
    refine h v' w' ⟨us ++ [u], by simp [h1], by simpa using hown', fun j hj => ?_, fun i j hij hj k => ?_⟩ ?_ hoth hlie
    · rw [List.length_append, List.length_singleton] at hj
      rcases Nat.lt_or_ge j L.length with hj2 | hj2
      · rw [List.getElem?_append_left (by omega), List.getElem?_append_left (by omega)]
        have h5 := h3 j hj2
        have h6 := h5.1.blockLt
        refine ⟨(h5.1.kept hb0).other hoth fun k hk e => h5.2 k hk e, fun k hk e => ?_⟩
        rcases hlie with hl | hl
        · exact h5.2 k hk (hl.symm.trans e)
        · have h7 := h6 k hk
          have h8 : w.heap.size = k := by rw [hl] at e; simpa using e
          omega
      · have hj3 : j = L.length := by omega
        subst hj3
        rw [List.getElem?_append_right (by omega), List.getElem?_append_right (by omega)]
        simp only [h1, Nat.sub_self, List.getElem?_cons_zero, Option.getD_some]
        refine ⟨hu'.mono hbase, fun k hk e => ?_⟩
        rcases hlie with hl | hl
        · have h7 := hlt0 k (hl.symm.trans e)
          have := hsep k hk
          omega
        · have h7 := hul k hk
          have h8 : w.heap.size = k := by rw [hl] at e; simpa using e
          omega
    · rw [List.length_append, List.length_singleton] at hj
      rcases Nat.lt_or_ge j L.length with hj2 | hj2
      · rw [List.getElem?_append_left (by omega), List.getElem?_append_left (by omega)]
        exact h4 i j hij hj2 k
      · have hj3 : j = L.length := by omega
        subst hj3
        rw [List.getElem?_append_left (by omega), List.getElem?_append_right (by omega)]
        simp only [h1, Nat.sub_self, List.getElem?_cons_zero, Option.getD_some]
        intro hk e
        have h5 := (h3 i (by omega)).1.blockLt k hk
        have := hsep k e
        omega
    · refine ⟨hgrow.os, hgrow.tape, hgrow.output, hgrow.size, fun k hk => hgrow.block k (by omega) fun e => ?_⟩
      have := hlt0 k e.symm
      omega
end
end Go.Proofs.YtblglkgmnaklbaaDoor
