/- Tasks in memory: slices of structs of three numbers: read, appended to, copied, marked. -/
import Derived.Test.YtblglkgmnaklbaaDoorKt
import Derived.Test.YtblglkgmnaklbaaDoorHar
import Derived.Test.YtblglkgmnaklbaaDoorBx
import Derived.Deep.MidRow
namespace Go.Proofs.YtblglkgmnaklbaaDoor
open Go.RowKit
set_option maxRecDepth 100000
set_option linter.unusedSimpArgs false
theorem kSl : Tryd.prog.underlying 40 = some (.slice 67) := by kernel_rfl
theorem kSz : (Tryd.prog.info? 67).map (·.size) = some 3 := by kernel_rfl
theorem kRw : (Tryd.prog.underlying 67).map TypeDesc.isRow = some true := by kernel_rfl
theorem kIn : (Tryd.prog.info? 67).map (fun i => (i.zero, i.size, i.bytes)) = some (some (.agg #[.int .i64 0, .int .i64 0, .int .i64 0]), 3, 24) := by kernel_rfl
/-! ### Cells -/
def kc (T : List Tsk) (q : Nat) : Value := if q % 3 = 0 then .int .i64 (tkT T (q / 3)) else if q % 3 = 1 then .int .i64 (tkR T (q / 3)) else .int .i64 (tkB T (q / 3))
theorem kc0 (T : List Tsk) (j : Nat) : kc T (3 * j) = .int .i64 (tkT T j) := by unfold kc; rw [if_pos (by omega), show 3 * j / 3 = j by omega]
theorem kc1 (T : List Tsk) (j : Nat) : kc T (3 * j + 1) = .int .i64 (tkR T j) := by unfold kc; rw [if_neg (by omega), if_pos (by omega), show (3 * j + 1) / 3 = j by omega]
theorem kc2 (T : List Tsk) (j : Nat) : kc T (3 * j + 2) = .int .i64 (tkB T j) := by unfold kc; rw [if_neg (by omega), if_neg (by omega), show (3 * j + 2) / 3 = j by omega]
theorem kc_one (T : List Tsk) (q : Nat) : (kc T q).oneCell' = true := by unfold kc; split; rfl; split <;> rfl
def tkCells (T : List Tsk) : List Value := (List.range (3 * T.length)).map (kc T)
theorem tkCells_len (T : List Tsk) : (tkCells T).length = 3 * T.length := by simp [tkCells]
theorem tkCells_get (T : List Tsk) (q : Nat) (h : q < 3 * T.length) : (tkCells T)[q]? = some (kc T q) := by simp [tkCells, h]
theorem tk_app (T : List Tsk) (t : Tsk) (j : Nat) (h : j < T.length) : tkT (T ++ [t]) j = tkT T j ∧ tkR (T ++ [t]) j = tkR T j ∧ tkB (T ++ [t]) j = tkB T j := by
  unfold tkT tkR tkB
  rw [List.getElem?_append_left h]
  exact ⟨rfl, rfl, rfl⟩
theorem tk_last (T : List Tsk) (t : Tsk) : tkT (T ++ [t]) T.length = t.1 ∧ tkR (T ++ [t]) T.length = t.2.1 ∧ tkB (T ++ [t]) T.length = t.2.2 := by
  unfold tkT tkR tkB
  rw [List.getElem?_append_right (Nat.le_refl _)]
  simp
theorem tkCells_app (T : List Tsk) (t : Tsk) : tkCells (T ++ [t]) = tkCells T ++ [.int .i64 t.1, .int .i64 t.2.1, .int .i64 t.2.2] := by
  apply List.ext_getElem?
  intro q
  have hl := tkCells_len T
  rcases Nat.lt_or_ge q (3 * T.length) with h | h
  · rw [List.getElem?_append_left (by omega), tkCells_get _ _ h, tkCells_get _ _ (by simp; omega)]
    have h2 := tk_app T t (q / 3) (by omega)
    unfold kc
    rw [h2.1, h2.2.1, h2.2.2]
  · rw [List.getElem?_append_right (by omega), hl]
    have h2 := tk_last T t
    rcases Nat.lt_or_ge q (3 * T.length + 3) with h3 | h3
    · rw [tkCells_get _ _ (by simp; omega)]
      have h4 : q = 3 * T.length ∨ q = 3 * T.length + 1 ∨ q = 3 * T.length + 2 := by omega
      rcases h4 with rfl | rfl | rfl
      · rw [kc0, h2.1, Nat.sub_self]; rfl
      · rw [kc1, h2.2.1, show 3 * T.length + 1 - 3 * T.length = 1 by omega]; rfl
      · rw [kc2, h2.2.2, show 3 * T.length + 2 - 3 * T.length = 2 by omega]; rfl
    · rw [List.getElem?_eq_none (by rw [tkCells_len]; simp; omega), List.getElem?_eq_none (by simp; omega)]
/-- The first k tasks, and nothing behind them. -/
def tkFill (T : List Tsk) (k : Nat) : List Value := (List.range (3 * T.length)).map fun q => if q < 3 * k then kc T q else .int .i64 0
theorem tkFill_len (T : List Tsk) (k : Nat) : (tkFill T k).length = 3 * T.length := by simp [tkFill]
theorem tkFill_all (T : List Tsk) : tkFill T T.length = tkCells T := by
  unfold tkFill tkCells
  refine List.map_congr_left fun q hq => ?_
  rw [List.mem_range] at hq
  rw [if_pos hq]
theorem tkFill_get (T : List Tsk) (k q : Nat) (h : q < 3 * T.length) : (tkFill T k)[q]? = some (if q < 3 * k then kc T q else .int .i64 0) := by simp [tkFill, h]
theorem fill_set (T : List Tsk) (k : Nat) : (((tkFill T k).set (3 * k) (.int .i64 (tkT T k))).set (3 * k + 1) (.int .i64 (tkR T k))).set (3 * k + 2) (.int .i64 (tkB T k)) = tkFill T (k + 1) := by
  apply List.ext_getElem (by simp [tkFill])
  intro q h1 h2
  simp only [tkFill, List.getElem_set, List.getElem_map, List.getElem_range]
  by_cases e2 : 3 * k + 2 = q
  · subst e2; rw [if_pos rfl, if_pos (by omega), kc2]
  · rw [if_neg e2]
    by_cases e1 : 3 * k + 1 = q
    · subst e1; rw [if_pos rfl, if_pos (by omega), kc1]
    · rw [if_neg e1]
      by_cases e0 : 3 * k = q
      · subst e0; rw [if_pos rfl, if_pos (by omega), kc0]
      · rw [if_neg e0]
        by_cases h : q < 3 * k
        · rw [if_pos h, if_pos (by omega)]
        · rw [if_neg h, if_neg (by omega)]
theorem fill_made (T : List Tsk) : (madeCells #[.int .i64 0, .int .i64 0, .int .i64 0] (T.length * 3)).toList = tkFill T 0 := by
  apply List.ext_getElem (by simp [tkFill, madeCells]; omega)
  intro q h1 h2
  have h3 : q % 3 = 0 ∨ q % 3 = 1 ∨ q % 3 = 2 := by omega
  simp only [tkFill, List.getElem_map, List.getElem_range, madeCells, Array.toList_map, Array.toList_range]
  rcases h3 with h | h | h <;> simp [h]
/-! ### Slices that come in -/
def tks (B : Nat) (w : World) (v : Value) (T : List Tsk) : Prop :=
  (T = [] ∧ ∃ a c, v = .slice a 0 c) ∨
  ∃ b o c, v = .slice (some ⟨b, o, none⟩) T.length c ∧ b < B ∧ b < w.heap.size ∧ ∀ q, q < 3 * T.length → w.cell? ⟨b, o + q, none⟩ = some (kc T q)
theorem tks.below {B B' : Nat} {w w' : World} {v : Value} {T : List Tsk} (h : tks B w v T) (hb : Below B' w w') (hB : B ≤ B') : tks B w' v T := by
  rcases h with h | ⟨b, o, c, h1, h2, h3, h4⟩
  · exact .inl h
  · exact .inr ⟨b, o, c, h1, h2, Nat.lt_of_lt_of_le h3 hb.size, fun j hj => (hb.cell (p := ⟨b, o + j, none⟩) (by show b < B'; omega)).trans (h4 j hj)⟩
theorem tks.mono {B B' : Nat} {w : World} {v : Value} {T : List Tsk} (h : tks B w v T) (hB : B ≤ B') : tks B' w v T := by
  rcases h with h | ⟨b, o, c, h1, h2, h3⟩
  · exact .inl h
  · exact .inr ⟨b, o, c, h1, by omega, h3⟩
theorem tks.alloc {B : Nat} {w : World} {v : Value} {T : List Tsk} (h : tks B w v T) (ob : Obj) : tks B (w.alloc ob) v T := by
  rcases h with h | ⟨b, o, c, h1, h2, h3, h4⟩
  · exact .inl h
  · exact .inr ⟨b, o, c, h1, h2, by simp; omega, fun j hj => ((Below.refl w.heap.size w).alloc (Nat.le_refl _) ob |>.cell (p := ⟨b, o + j, none⟩) h3).trans (h4 j hj)⟩
theorem tks.shape {B : Nat} {w : World} {v : Value} {T : List Tsk} (h : tks B w v T) : ∃ a c, v = .slice a T.length c := by
  rcases h with ⟨rfl, h⟩ | ⟨b, o, c, h1, _⟩
  · exact h
  · exact ⟨_, _, h1⟩
/-- At a later world of one's own. -/
theorem tks.to {w w' : World} {v : Value} {T : List Tsk} (h : tks w.heap.size w v T) (hb : Below w.heap.size w w') : tks w'.heap.size w' v T := (h.below hb (Nat.le_refl _)).mono hb.size
section
variable {P : Program}
theorem wpList_lenK {t I : TypeId} (ht : P.underlying t = some (.slice I)) {ops : Array Oper} {rest : List Oper} {o : Oper} {a : Act} {w : World} {Q : Exit → Act → World → Prop} (hw : Region.wanted o (yielded ops a.tmps) = true)
    (x : Operand) (ho : o.op = .call { callee := .builtin .len, args := #[x], argTypes := #[t] }) (v : Value) (hx : a.eval x = v) (n : Nat) (hl : ∃ b c, v = .slice b n c)
    (h : wpList P ops Q rest (a.put o.dst (.int .i64 (n : Int))) w) : wpList P ops Q (o :: rest) a w := by
  obtain ⟨b, c, rfl⟩ := hl
  have he : P.underlying t = some (.slice (P.elem t)) := by
    rw [ht]; simp [Program.elem, ht]
  have hr : (Builtin.len_ #[t] o.type #[.slice b n c]).run P w = .ok (.int .i64 (n : Int)) w := by
    rw [run_len_slice (h := he)]
    simp [goInt]
  refine wpList_of_wp hw fun K hK => ?_
  unfold Oper.wp execOp
  simp only [ho, resolve, invoke, Sem.run_bind, Sem.run_pure, Result.andThen_ok, List.map_toArray, List.map_cons, List.map_nil, hx, BigFrame.builtin_len, hr]
  exact hK _ _ h
theorem run_atK (w : World) {t I : TypeId} (ht : P.underlying t = some (.slice I)) (hI : (P.info? I).map (·.size) = some 3) (b of n c k : Nat) (hk : k < n) :
    (Instr.indexAt t (.slice (some ⟨b, of, none⟩) n c) (.int .i64 (k : Int))).run P w = .ok (.pointer (some ⟨b, of + 3 * k, none⟩)) w := by
  have he : P.underlying t = some (.slice (P.elem t)) := by
    rw [ht]; simp [Program.elem, ht]
  have hE : P.elem t = I := by simp [Program.elem, ht]
  rw [run_indexAt_slice (h := he), if_pos (by omega), hE, run_sizeOf' hI]
  simp [Addr.add, Nat.mul_comm]
theorem wpList_atK {t I : TypeId} (ht : P.underlying t = some (.slice I)) (hI : (P.info? I).map (·.size) = some 3) {ops : Array Oper} {rest : List Oper} {o : Oper} {a : Act} {w : World} {Q : Exit → Act → World → Prop} (hw : Region.wanted o (yielded ops a.tmps) = true)
    (x y : Operand) (ho : o.op = .indexAddr t x y) (v : Value) (hx : a.eval x = v) (k : Nat) (hy : a.eval y = .int .i64 (k : Int)) (B : Nat) (T : List Tsk) (hl : tks B w v T) (hk : k < T.length)
    (h : ∀ b f, b < B → b < w.heap.size → w.cell? ⟨b, f, none⟩ = some (.int .i64 (tkT T k)) → w.cell? ⟨b, f + 1, none⟩ = some (.int .i64 (tkR T k)) → w.cell? ⟨b, f + 2, none⟩ = some (.int .i64 (tkB T k)) → wpList P ops Q rest (a.put o.dst (.pointer (some ⟨b, f, none⟩))) w) : wpList P ops Q (o :: rest) a w := by
  rcases hl with ⟨rfl, _⟩ | ⟨b, of, c, rfl, h2, h3, h4⟩
  · simp at hk
  refine wpList_of_wp hw fun K hK => ?_
  unfold Oper.wp execOp
  simp only [ho, hx, hy, Sem.run_bind, Sem.run_pure, run_atK w ht hI b of T.length c k hk, Result.andThen_ok]
  exact hK _ _ (h b (of + 3 * k) h2 h3 (by rw [h4 _ (by omega), kc0]) (by rw [Nat.add_assoc, h4 _ (by omega), kc1]) (by rw [Nat.add_assoc, h4 _ (by omega), kc2]))
/-- A struct of three cells is read. -/
theorem wpList_load3 {ty : TypeId} (hT : (P.underlying ty).map TypeDesc.isRow = some true) (hZ : (P.info? ty).map (·.size) = some 3) {ops : Array Oper} {rest : List Oper} {o : Oper} {a : Act} {w : World} {Q : Exit → Act → World → Prop} (hw : Region.wanted o (yielded ops a.tmps) = true)
    (x : Operand) (ho : o.op = .load ty x) (g off : Nat) (hx : a.eval x = .pointer (some ⟨g, off, none⟩)) (u v z : Value) (h0 : w.cell? ⟨g, off, none⟩ = some u) (h1 : w.cell? ⟨g, off + 1, none⟩ = some v) (h2 : w.cell? ⟨g, off + 2, none⟩ = some z)
    (h : wpList P ops Q rest (a.put o.dst (.agg #[u, v, z])) w) : wpList P ops Q (o :: rest) a w := by
  obtain ⟨d, hu, hd⟩ := rowTy_of hT
  refine wpList_of_wp hw fun K hK => ?_
  exact wp_load_mid ty x ho g off hx [u, v, z] d (fun j y hy => by
    match j, hy with
    | 0, hy => simp at hy; subst hy; exact h0
    | 1, hy => simp at hy; subst hy; exact h1
    | 2, hy => simp at hy; subst hy; exact h2
    | j + 3, hy => simp at hy) hu hd (by rw [hZ]; rfl) (hK _ _ h)
theorem q_load3 {ty : TypeId} (hT : (P.underlying ty).map TypeDesc.isRow = some true) (hZ : (P.info? ty).map (·.size) = some 3) {ops : Array Oper} {rest : List Oper} {o : Oper} {a : Act} {C : World → Prop} {Q : Act → Prop} (hw : Region.wanted o (yielded ops a.tmps) = true)
    (x : Operand) (ho : o.op = .load ty x) (g off : Nat) (hx : a.eval x = .pointer (some ⟨g, off, none⟩)) (u v z : Value) (h0 : ∀ w, C w → w.cell? ⟨g, off, none⟩ = some u) (h1 : ∀ w, C w → w.cell? ⟨g, off + 1, none⟩ = some v) (h2 : ∀ w, C w → w.cell? ⟨g, off + 2, none⟩ = some z)
    (h : wpQuiet P ops C Q rest (a.put o.dst (.agg #[u, v, z]))) : wpQuiet P ops C Q (o :: rest) a := by
  obtain ⟨d, hu, hd⟩ := rowTy_of hT
  refine BigFrame.wpQuiet_want hw fun K hK => ⟨_, fun w hC => ?_, hK _ h⟩
  have hr := run_loadVar_mid (P := P) w g off ty [u, v, z] d (fun j y hy => by
    match j, hy with
    | 0, hy => simp at hy; subst hy; exact h0 w hC
    | 1, hy => simp at hy; subst hy; exact h1 w hC
    | 2, hy => simp at hy; subst hy; exact h2 w hC
    | j + 3, hy => simp at hy) hu hd (by rw [hZ]; rfl)
  unfold Oper.quietAt execOp
  simp only [ho, hx, Instr.loadAt, Instr.sureAddr, Sem.run_bind, Sem.run_pure, Result.andThen_ok, hr]
  exact ⟨rfl, rfl⟩
theorem q_atK {t I : TypeId} (ht : P.underlying t = some (.slice I)) (hI : (P.info? I).map (·.size) = some 3) {ops : Array Oper} {rest : List Oper} {o : Oper} {a : Act} {C : World → Prop} {Q : Act → Prop} (hw : Region.wanted o (yielded ops a.tmps) = true)
    (x y : Operand) (ho : o.op = .indexAddr t x y) (v : Value) (hx : a.eval x = v) (k : Nat) (hy : a.eval y = .int .i64 (k : Int)) (B : Nat) (T : List Tsk) (w0 : World) (hl : tks B w0 v T) (hk : k < T.length)
    (h : ∀ b f, b < B → b < w0.heap.size → w0.cell? ⟨b, f, none⟩ = some (.int .i64 (tkT T k)) → w0.cell? ⟨b, f + 1, none⟩ = some (.int .i64 (tkR T k)) → w0.cell? ⟨b, f + 2, none⟩ = some (.int .i64 (tkB T k)) → wpQuiet P ops C Q rest (a.put o.dst (.pointer (some ⟨b, f, none⟩)))) : wpQuiet P ops C Q (o :: rest) a := by
  rcases hl with ⟨rfl, _⟩ | ⟨b, of, c, rfl, h2, h3, h4⟩
  · simp at hk
  refine BigFrame.wpQuiet_want hw fun K hK => ⟨_, fun w hC => ?_, hK _ (h b (of + 3 * k) h2 h3 (by rw [h4 _ (by omega), kc0]) (by rw [Nat.add_assoc, h4 _ (by omega), kc1]) (by rw [Nat.add_assoc, h4 _ (by omega), kc2]))⟩
  unfold Oper.quietAt execOp
  simp only [ho, hx, hy, Sem.run_bind, Sem.run_pure, run_atK w ht hI b of T.length c k hk, Result.andThen_ok]
  exact ⟨rfl, rfl⟩
end
/-! ### Slices of one's own -/
def ownK (w : World) (base : Nat) (v : Value) (T : List Tsk) : Prop := w.ownsRow base 67 3 v T.length (tkCells T)
theorem ownK_nil (w : World) (base : Nat) : ownK w base (.slice none 0 0) [] := World.ownsRow_nil _ _ _ _
theorem ownK.kept {w w' : World} {base : Nat} {v : Value} {T : List Tsk} (h : ownK w base v T) (hb : Below w.heap.size w w') : ownK w' base v T := by
  obtain ⟨h1, h2⟩ := h
  refine ⟨h1, ?_⟩
  rcases h2 with h2 | ⟨g, cap, cur, e, hg, hh, r⟩
  · exact .inl h2
  · exact .inr ⟨g, cap, cur, e, hg, (hb.block g (hp_lt hh)).trans hh, r⟩
theorem ownK.mono {w : World} {base base' : Nat} {v : Value} {T : List Tsk} (h : ownK w base v T) (hb : base' ≤ base) : ownK w base' v T := by
  obtain ⟨h1, h2⟩ := h
  refine ⟨h1, ?_⟩
  rcases h2 with h2 | ⟨g, cap, cur, e, hg, r⟩
  · exact .inl h2
  · exact .inr ⟨g, cap, cur, e, by omega, r⟩
theorem ownK.alloc {w : World} {base : Nat} {v : Value} {T : List Tsk} (h : ownK w base v T) (o : Obj) : ownK (w.alloc o) base v T := World.ownsRow.alloc h o
theorem ownK.tks {w : World} {base : Nat} {v : Value} {T : List Tsk} (h : ownK w base v T) : tks w.heap.size w v T := by
  obtain ⟨h1, h2⟩ := h
  rcases h2 with ⟨e, h2⟩ | ⟨g, cap, cur, e, hg, hh, h3, h4, h5, h6⟩
  · exact .inl ⟨List.eq_nil_of_length_eq_zero h2, none, 0, e⟩
  · refine .inr ⟨g, 0, cap, e, hp_lt hh, hp_lt hh, fun q hq => ?_⟩
    have h7 := tkCells_get T q hq
    rw [← h6, List.getElem?_take, if_pos (by omega)] at h7
    rw [Nat.zero_add, hp_cell hh, ← Array.getElem?_toList]
    exact h7
theorem ownK.shape {w : World} {base : Nat} {v : Value} {T : List Tsk} (h : ownK w base v T) : ∃ a c, v = .slice a T.length c := h.tks.shape
theorem ownK.base {w : World} {base : Nat} {v : Value} {T : List Tsk} (h : ownK w base v T) : ∀ g, v.ownBlock = some g → base ≤ g := by
  obtain ⟨h1, h2⟩ := h
  intro g0 e0
  rcases h2 with ⟨e, h2⟩ | ⟨g, cap, cur, e, hg, hh, _⟩
  · subst e; cases e0
  · subst e; cases e0; exact hg
theorem ownK.blockLt {w : World} {base : Nat} {v : Value} {T : List Tsk} (h : ownK w base v T) : ∀ g, v.ownBlock = some g → g < w.heap.size := by
  obtain ⟨h1, h2⟩ := h
  intro g0 e0
  rcases h2 with ⟨e, h2⟩ | ⟨g, cap, cur, e, hg, hh, _⟩
  · subst e; cases e0
  · subst e; cases e0; exact hp_lt hh
theorem ownK.other {u : Value} {w w' : World} {base : Nat} {v : Value} {T : List Tsk} (h : ownK w base v T) (ho : Other u w w') (hne : ∀ g, v.ownBlock = some g → u.ownBlock ≠ some g) : ownK w' base v T := by
  have hlt := h.blockLt
  obtain ⟨h1, h2⟩ := h
  refine ⟨h1, ?_⟩
  rcases h2 with h2 | ⟨g, cap, cur, e, hg, hh, r⟩
  · exact .inl h2
  · exact .inr ⟨g, cap, cur, e, hg, (ho.block g (hp_lt hh) (hne g (by rw [e]; rfl))).trans hh, r⟩
theorem wpList_appendK {ops : Array Oper} {rest : List Oper} {o : Oper} {a : Act} {w : World} {Q : Exit → Act → World → Prop} (hgd : o.guard = none) (s x : Operand)
    (ho : o.op = .call { callee := .builtin .append, args := #[s, x], argTypes := #[40, 40] }) (base : Nat) (v : Value) (T : List Tsk) (hs : a.eval s = v) (hown : ownK w base v T)
    (g : Nat) (t r b : Int) (hx : a.eval x = .slice (some ⟨g, 0, none⟩) 1 1) (hg0 : w.cell? ⟨g, 0, none⟩ = some (.int .i64 t)) (hg1 : w.cell? ⟨g, 1, none⟩ = some (.int .i64 r)) (hg2 : w.cell? ⟨g, 2, none⟩ = some (.int .i64 b)) (hbase : base ≤ w.heap.size) (hlen : T.length < 1000000000)
    (h : ∀ v' w', ownK w' base v' (T ++ [(t, r, b)]) → Below base w w' → wpList Tryd.prog ops Q rest (a.put o.dst v') w') : wpList Tryd.prog ops Q (o :: rest) a w := by
  obtain ⟨i0, hi, hz0, hz1, hz2⟩ := info_parts kIn
  refine wpList_append_own w hgd s x 40 ho base 67 i0 (.agg #[.int .i64 0, .int .i64 0, .int .i64 0]) 3 24 kSl hi hz0 hz1 hz2 rfl (by decide) v T.length (tkCells T) hs hown ⟨g, 0, none⟩ 1 1 [.int .i64 t, .int .i64 r, .int .i64 b] hx rfl ?_ ?_ (by unfold maxLen; omega) (by omega) hbase ?_
  · intro j u hj
    match j, hj with
    | 0, hj => simp at hj; subst hj; simpa [Addr.add] using hg0
    | 1, hj => simp at hj; subst hj; simpa [Addr.add] using hg1
    | 2, hj => simp at hj; subst hj; simpa [Addr.add] using hg2
  · intro u hu; simp at hu; rcases hu with rfl | rfl | rfl <;> rfl
  · intro v' w' hown' hgrow _
    refine h v' w' ?_ ⟨hgrow.os, hgrow.tape, hgrow.output, hgrow.size, fun k hk => hgrow.block k (by omega) ?_⟩
    · unfold ownK
      rw [tkCells_app, List.length_append]
      exact hown'
    · intro e
      have := (World.ownsRow.lt hown k e.symm).1
      omega
end Go.Proofs.YtblglkgmnaklbaaDoor
