/- Planes in memory: slices of pairs of numbers; whether a pair is among them. -/
import Derived.Test.YtonimjpfaalniaaDoorQa
import Derived.Test.YtonimjpfaalniaaDoorRh
import Derived.Test.YtonimjpfaalniaaDoorBx
import Derived.Test.YtonimjpfaalniaaDoorTw
namespace Go.Proofs.YtonimjpfaalniaaDoor
open Go.RowKit
set_option maxRecDepth 100000
set_option linter.unusedSimpArgs false
theorem plT : Tryd.prog.underlying 137 = some (.slice 167) := by kernel_rfl
theorem pcS : (Tryd.prog.info? 167).map (·.size) = some 2 := by kernel_rfl
theorem pcI : (Tryd.prog.info? 167).map (fun i => (i.zero, i.size, i.bytes)) = some (some (.agg #[.int .i64 0, .int .i64 0]), 2, 16) := by kernel_rfl
theorem pcR : (Tryd.prog.underlying 167).map TypeDesc.isRow = some true := by kernel_rfl
theorem pcU : Tryd.prog.underlying 167 = some (.struct (Tryd.prog.fieldsOf 167)) := by kernel_rfl
theorem pcH : Tryd.prog.stoodInHeld 167 = false := by kernel_rfl
theorem pcF : (Tryd.prog.fieldsOf 167).toList.map (fun f => (f.name == "_", f.type, f.offset)) = [(false, 3, 0), (false, 3, 1)] := by kernel_rfl
theorem pcG : Tryd.prog.eqGuardType Tryd.prog.depth 167 = false := by kernel_rfl
theorem undI2 : Tryd.prog.underlying 3 = some (.int .i64) := by kernel_rfl
/-- v is a slice that reads as the first n points. -/
def pls (B : Nat) (w : World) (v : Value) (L : List (List Int)) (n : Nat) : Prop :=
  (n = 0 ∧ ∃ a c, v = .slice a 0 c) ∨
  ∃ b c, v = .slice (some ⟨b, 0, none⟩) n c ∧ b < B ∧ b < w.heap.size ∧ ∀ j, j < n → w.cell? ⟨b, 2 * j, none⟩ = some (.int .i64 (ptX L j)) ∧ w.cell? ⟨b, 2 * j + 1, none⟩ = some (.int .i64 (ptY L j))
theorem pls.below {B B' : Nat} {w w' : World} {v : Value} {L : List (List Int)} {n : Nat} (h : pls B w v L n) (hb : Below B' w w') (hB : B ≤ B') : pls B w' v L n := by
  rcases h with h | ⟨b, c, h1, h2, h3, h4⟩
  · exact .inl h
  · exact .inr ⟨b, c, h1, h2, Nat.lt_of_lt_of_le h3 hb.size, fun j hj => ⟨(hb.cell (p := ⟨b, 2 * j, none⟩) (by show b < B'; omega)).trans (h4 j hj).1, (hb.cell (p := ⟨b, 2 * j + 1, none⟩) (by show b < B'; omega)).trans (h4 j hj).2⟩⟩
theorem pls.mono {B B' : Nat} {w : World} {v : Value} {L : List (List Int)} {n : Nat} (h : pls B w v L n) (hB : B ≤ B') : pls B' w v L n := by
  rcases h with h | ⟨b, c, h1, h2, h3⟩
  · exact .inl h
  · exact .inr ⟨b, c, h1, by omega, h3⟩
theorem pls.alloc {B : Nat} {w : World} {v : Value} {L : List (List Int)} {n : Nat} (h : pls B w v L n) (ob : Obj) : pls B (w.alloc ob) v L n := by
  rcases h with h | ⟨b, c, h1, h2, h3, h4⟩
  · exact .inl h
  · exact .inr ⟨b, c, h1, h2, by simp; omega, fun j hj => ⟨((Below.refl w.heap.size w).alloc (Nat.le_refl _) ob |>.cell (p := ⟨b, 2 * j, none⟩) h3).trans (h4 j hj).1, ((Below.refl w.heap.size w).alloc (Nat.le_refl _) ob |>.cell (p := ⟨b, 2 * j + 1, none⟩) h3).trans (h4 j hj).2⟩⟩
theorem pls.full {B : Nat} {w w' : World} {v : Value} {L : List (List Int)} {n : Nat} (h : pls B w v L n) (hb : Below B w w') (hB : B ≤ w'.heap.size) : pls w'.heap.size w' v L n := (h.below hb (Nat.le_refl _)).mono hB
theorem pls.shape {B : Nat} {w : World} {v : Value} {L : List (List Int)} {n : Nat} (h : pls B w v L n) : ∃ a c, v = .slice a n c := by
  rcases h with ⟨rfl, h⟩ | ⟨b, c, h1, _⟩
  · exact h
  · exact ⟨_, _, h1⟩
section
variable {P : Program}
theorem wpList_lenP {t I : TypeId} (ht : P.underlying t = some (.slice I)) {ops : Array Oper} {rest : List Oper} {o : Oper} {a : Act} {w : World} {Q : Exit → Act → World → Prop} (hw : Region.wanted o (yielded ops a.tmps) = true)
    (x : Operand) (ho : o.op = .call { callee := .builtin .len, args := #[x], argTypes := #[t] }) (v : Value) (hx : a.eval x = v) (n : Nat) (hl : ∃ b c, v = .slice b n c)
    (h : wpList P ops Q rest (a.put o.dst (.int .i64 (n : Int))) w) : wpList P ops Q (o :: rest) a w := by
  obtain ⟨b, c, rfl⟩ := hl
  have he : P.underlying t = some (.slice (P.elem t)) := by
    rw [ht]; simp [Program.elem, ht]
  have hr : (Builtin.len_ #[t] o.type #[.slice b n c]).run P w = .ok (.int .i64 (n : Int)) w := by
    rw [run_len_slice (h := he)]
    simp [goInt]
  refine wpList_of_wp hw fun K hK => ?_
  unfold Oper.wp execOp
  simp only [ho, resolve, invoke, Sem.run_bind, Sem.run_pure, Result.andThen_ok, List.map_toArray, List.map_cons, List.map_nil, hx, BigFrame.builtin_len, hr]
  exact hK _ _ h
variable {ops : Array Oper} {rest : List Oper} {o : Oper} {a : Act} {C : World → Prop} {Q : Act → Prop}
/-- The address of a pair, in a drawn region that only reads. -/
theorem q_atP {t I : TypeId} (ht : P.underlying t = some (.slice I)) (hI : (P.info? I).map (·.size) = some 2) (hw : Region.wanted o (yielded ops a.tmps) = true)
    (x y : Operand) (ho : o.op = .indexAddr t x y) (v : Value) (hx : a.eval x = v) (k : Nat) (hy : a.eval y = .int .i64 (k : Int)) (B : Nat) (L : List (List Int)) (n : Nat) (w0 : World) (hl : pls B w0 v L n) (hk : k < n)
    (h : ∀ b, b < B → w0.cell? ⟨b, 2 * k, none⟩ = some (.int .i64 (ptX L k)) → w0.cell? ⟨b, 2 * k + 1, none⟩ = some (.int .i64 (ptY L k)) → wpQuiet P ops C Q rest (a.put o.dst (.pointer (some ⟨b, 2 * k, none⟩)))) : wpQuiet P ops C Q (o :: rest) a := by
  rcases hl with ⟨h0, _⟩ | ⟨b, c, rfl, h2, h3, h4⟩
  · omega
  have he : P.underlying t = some (.slice (P.elem t)) := by
    rw [ht]; simp [Program.elem, ht]
  have hE : P.elem t = I := by simp [Program.elem, ht]
  refine BigFrame.wpQuiet_want hw fun K hK => ⟨_, fun w hC => ?_, hK _ (h b h2 (h4 k hk).1 (h4 k hk).2)⟩
  have hr : (Instr.indexAt t (.slice (some ⟨b, 0, none⟩) n c) (.int .i64 (k : Int))).run P w = .ok (.pointer (some ⟨b, 2 * k, none⟩)) w := by
    rw [run_indexAt_slice (h := he), if_pos (by omega), hE, run_sizeOf' hI]
    simp [Addr.add, Nat.mul_comm]
    intro h0; omega
  unfold Oper.quietAt execOp
  simp only [ho, hx, hy, Sem.run_bind, Sem.run_pure, hr, Result.andThen_ok]
  exact ⟨rfl, rfl⟩
/-- Two pairs are compared, in a drawn region that only reads. -/
theorem q_eqlP {T : TypeId} (hg : P.eqGuardType P.depth T = false) (hw : Region.wanted o (yielded ops a.tmps) = true) (x y : Operand) (ho : o.op = .binOp .eql T x y T) {xs ys : Array Value} (hx : a.eval x = .agg xs) (hy : a.eval y = .agg ys) (b : Bool)
    (hb : ∀ w : World, (binOp .eql T (.agg xs) (.agg ys)).run P w = .ok (.bool b) w) (h : wpQuiet P ops C Q rest (a.put o.dst (.bool b))) : wpQuiet P ops C Q (o :: rest) a := by
  refine BigFrame.wpQuiet_want hw fun K hK => ⟨_, fun w hC => ?_, hK _ h⟩
  have hr := run_op_eql (P := P) hg x y ho hx hy (hb w)
  unfold Oper.quietAt
  obtain ⟨dst, op, ty, pos, after, guard⟩ := o
  simp only at ho
  subst ho
  simp only [hr]
  exact ⟨rfl, rfl⟩
end
theorem run_eql_pc (w : World) (x y x' y' : Int) : (binOp .eql 167 (.agg #[.int .i64 x, .int .i64 y]) (.agg #[.int .i64 x', .int .i64 y'])).run Tryd.prog w = .ok (.bool (x == x' && y == y')) w := by
  rw [run_eql_struct, run_equalIn_struct w 9999 167 _ _ pcU pcH]
  have hF := pcF
  generalize (Tryd.prog.fieldsOf 167).toList = fs at hF
  match fs, hF with
  | [], hF => simp at hF
  | [_], hF => simp at hF
  | _ :: _ :: _ :: _, hF => simp at hF
  | [f0, f1], hF =>
    simp only [List.map_cons, List.map_nil, List.cons.injEq, Prod.mk.injEq, and_true] at hF
    obtain ⟨⟨a0, a1, a2⟩, b0, b1, b2⟩ := hF
    have a0' : f0.name ≠ "_" := by simpa using a0
    have b0' : f1.name ≠ "_" := by simpa using b0
    have hIr : (Tryd.prog.underlying 3).map TypeDesc.isRow = some false := by rw [undI2]; rfl
    simp only [Op.eqFields, a0', b0', ne_eq, not_false_eq_true, if_true, a1, a2, b1, b2, Sem.run_bind, run_part_cell hIr w #[.int .i64 x, .int .i64 y] 0 (.int .i64 x) rfl, run_part_cell hIr w #[.int .i64 x', .int .i64 y'] 0 (.int .i64 x') rfl,
      run_part_cell hIr w #[.int .i64 x, .int .i64 y] 1 (.int .i64 y) rfl, run_part_cell hIr w #[.int .i64 x', .int .i64 y'] 1 (.int .i64 y') rfl, Result.andThen_ok, run_equalIn_int w 9998 3 .i64 .i64 x x' undI2, run_equalIn_int w 9998 3 .i64 .i64 y y' undI2]
    cases hb : (x == x')
    · simp
    · cases hq : (y == y') <;> simp [run_part_cell hIr w #[.int .i64 x, .int .i64 y] 1 (.int .i64 y) rfl, run_part_cell hIr w #[.int .i64 x', .int .i64 y'] 1 (.int .i64 y') rfl, run_equalIn_int w 9998 3 .i64 .i64 y y' undI2, hq]
/-- Whether a pair is one of the first n points. -/
def plHas (L : List (List Int)) (n : Nat) (x y : Int) : Bool := (List.range n).any fun j => decide (ptX L j = x) && decide (ptY L j = y)
theorem plHas_iff (L : List (List Int)) (n : Nat) (x y : Int) : plHas L n x y = true ↔ ∃ j, j < n ∧ ptX L j = x ∧ ptY L j = y := by
  unfold plHas
  rw [List.any_eq_true]
  simp only [List.mem_range, Bool.and_eq_true, decide_eq_true_eq]
theorem ptNew_has (L : List (List Int)) (k : Nat) : ptNew L k = !plHas L k (ptX L k) (ptY L k) := rfl
attribute [local irreducible] p2 low memB risB
set_option maxHeartbeats 1000000 in
theorem planeIndex_c (v : Value) (L : List (List Int)) (n : Nat) (x y : Int) (w : World) (hl : pls w.heap.size w v L n) (hn : n < 1000000000) :
    Calls Tryd.prog 197 #[v, .agg #[.int .i64 x, .int .i64 y]] w fun e w' => (∃ r : Int, e = .returned (.int .i64 r) ∧ (0 ≤ r ↔ plHas L n x y = true)) ∧ Below w.heap.size w w' := by
  have HL := hide hl
  have HSH := hide hl.shape
  have HHAS := hide (plHas_iff L n x y)
  have HB0 := hide (by_start 167 (.int .i64 x) (.int .i64 y) w)
  have HL0 := hide (hl.full (by_below HB0.out) (by have := by_size HB0.out; omega))
  clear hl
  go_enter Tryd.func197, Tryd.ntmps197
  go_wp2_with (refine wpList_lenP plT rfl (.tmp _) rfl v rfl n HSH.out ?_)
  go_loopw [8] (fun i wr => ∃ k : Nat, k ≤ n ∧ i = .int .i64 (k : Int) ∧ Hid (∀ j, j < k → ¬ (ptX L j = x ∧ ptY L j = y)) ∧ Hid (Below (w.heap.size + 1) (w.alloc (.cells #[.int .i64 x, .int .i64 y] 167)) wr)) (fun i _ => n - (intOf i).toNat)
  case atStart => exact ⟨0, Nat.zero_le _, rfl, fun j hj => by omega, HB0⟩
  case round =>
    obtain ⟨k, hk, rfl, HJ, HB⟩ := hrel
    have HLW := hide (HL.out.full (by_below HB.out) (by have := by_size HB.out; omega))
    by_cases hlt : k < n
    · generalize hx : ptX L k = a at *
      generalize hy : ptY L k = b at *
      have HX := hide hx
      have HY := hide hy
      clear hx hy
      cases he : (x == a && y == b)
      all_goals
        have HE := hide he
        clear he
        go_wp2_with fail
        refine wp_region_old (by kernel_rfl) (by kernel_rfl) ?_
        refine q_load_two pcR pcS rfl (.tmp _) rfl _ _ rfl (.int .i64 x) (.int .i64 y) (fun w' h => by_cell0 (by_to HB.out h)) (fun w' h => by_cell1 (by_to HB.out h)) ?_
        simp only [Act.put, List.setIfInBounds_toArray, List.set_cons_zero, List.set_cons_succ]
        go_big_quiet_step ((first | exact fun _ => rfl | exact fun _ => ⟨rfl, rfl⟩))
        go_big_quiet_step ((first | exact fun _ => rfl | exact fun _ => ⟨rfl, rfl⟩))
        refine q_atP plT pcS rfl (.tmp _) (.tmp _) rfl v rfl k rfl wr.heap.size L n wr HLW.out hlt ?_
        intro bb hbb hc0 hc1
        rw [HX.out] at hc0
        rw [HY.out] at hc1
        simp only [Act.put, List.setIfInBounds_toArray, List.set_cons_zero, List.set_cons_succ]
        refine q_load_two pcR pcS rfl (.tmp _) rfl bb (2 * k) rfl (.int .i64 a) (.int .i64 b) (fun w' h => (h.cell (p := ⟨bb, 2 * k, none⟩) hbb).trans hc0) (fun w' h => (h.cell (p := ⟨bb, 2 * k + 1, none⟩) hbb).trans hc1) ?_
        simp only [Act.put, List.setIfInBounds_toArray, List.set_cons_zero, List.set_cons_succ]
        refine q_eqlP pcG rfl (.tmp _) (.tmp _) rfl rfl rfl (x == a && y == b) (fun w' => run_eql_pc w' x y a b) ?_
        rw [HE.out]
        simp only [Act.put, List.setIfInBounds_toArray, List.set_cons_zero, List.set_cons_succ]
        refine wpQuiet_nil ?_
        intro w2 hb2
        have HB2 := hide (by_to HB.out hb2)
        clear hb2 hc0 hc1
        go_wp2
      · go_roundw
        case rel => exact ⟨k + 1, by omega, by go_num, hide (fun j hj => by
          rcases Nat.lt_or_ge j k with h | h
          · exact HJ.out j h
          · rw [show j = k by omega, HX.out, HY.out]
            rintro ⟨rfl, rfl⟩
            have := HE.out
            simp at this), HB2⟩
        case measure => simp [intOf]; omega
      · go_ret
        refine ⟨⟨_, rfl, ?_⟩, by_below HB2.out⟩
        rw [HHAS.out]
        have h := HE.out
        rw [Bool.and_eq_true, beq_iff_eq, beq_iff_eq] at h
        exact ⟨fun _ => ⟨k, hlt, by rw [HX.out]; exact h.1.symm, by rw [HY.out]; exact h.2.symm⟩, fun _ => by omega⟩
    · have hlt' : ¬ ((k : Int) < (n : Int)) := by omega
      go_wp2
      go_ret
      refine ⟨⟨_, rfl, ?_⟩, by_below HB.out⟩
      rw [HHAS.out]
      constructor
      · intro h; omega
      · rintro ⟨j, hj, h⟩; exact absurd h (HJ.out j (by omega))

set_option maxHeartbeats 1000000 in
theorem planeContains_c (v : Value) (L : List (List Int)) (n : Nat) (x y : Int) (w : World) (hl : pls w.heap.size w v L n) (hn : n < 1000000000) :
    Calls Tryd.prog 168 #[v, .agg #[.int .i64 x, .int .i64 y]] w fun e w' => e = .returned (.bool (plHas L n x y)) ∧ Below w.heap.size w w' := by
  have HL := hide hl
  have HB0 := hide (by_start 167 (.int .i64 x) (.int .i64 y) w)
  have HL0 := hide (hl.full (by_below HB0.out) (by have := by_size HB0.out; omega))
  clear hl
  go_enter Tryd.func168, Tryd.ntmps168
  go_wp2_with fail
  refine (planeIndex_c v L n x y _ HL0.out hn).mono ?_
  rintro e w1 ⟨⟨r, rfl, hr⟩, hb1⟩
  have HB1 := hide (by_to HB0.out hb1)
  have HR := hide hr
  clear hb1 hr
  by_cases h0 : 0 ≤ r
  · have HH := hide (HR.out.1 h0)
    go_wp2
    go_ret
    exact ⟨ret_b (by rw [HH.out]), by_below HB1.out⟩
  · have HH := hide (show plHas L n x y = false by rw [← Bool.not_eq_true, ← HR.out]; exact h0)
    go_wp2
    go_ret
    exact ⟨ret_b (by rw [HH.out, decide_eq_false_iff_not]; omega), by_below HB1.out⟩
end Go.Proofs.YtonimjpfaalniaaDoor
/- Contracts: reading a plane, the program's; ArePoints, the program's. -/
namespace Go.Proofs.YtonimjpfaalniaaDoor
open Go.RowKit
set_option maxRecDepth 100000
set_option linter.unusedSimpArgs false
def plCells (L : List (List Int)) : Nat → List Value
  | 0 => []
  | k + 1 => plCells L k ++ [.int .i64 (ptX L k), .int .i64 (ptY L k)]
theorem plCells_len (L : List (List Int)) : ∀ k, (plCells L k).length = k * 2
  | 0 => rfl
  | k + 1 => by rw [plCells, List.length_append, plCells_len L k]; simp; omega
theorem plCells_at (L : List (List Int)) : ∀ k j, j < k → (plCells L k)[2 * j]? = some (.int .i64 (ptX L j)) ∧ (plCells L k)[2 * j + 1]? = some (.int .i64 (ptY L j))
  | 0, j, h => by omega
  | k + 1, j, h => by
    have hl := plCells_len L k
    rcases Nat.lt_or_ge j k with h1 | h1
    · have := plCells_at L k j h1
      rw [plCells, List.getElem?_append_left (by omega), List.getElem?_append_left (by omega)]
      exact this
    · have : j = k := by omega
      subst this
      rw [plCells, List.getElem?_append_right (by omega), List.getElem?_append_right (by omega), hl, show 2 * j - j * 2 = 0 by omega, show 2 * j + 1 - j * 2 = 1 by omega]
      exact ⟨rfl, rfl⟩
theorem plCells_one (L : List (List Int)) : ∀ k, ∀ u ∈ plCells L k, u.oneCell' = true
  | 0, u, h => by simp [plCells] at h
  | k + 1, u, h => by
    rw [plCells, List.mem_append] at h
    rcases h with h | h
    · exact plCells_one L k u h
    · simp at h; rcases h with rfl | rfl <;> rfl
/-- A plane that a call has made. -/
def ownP (w : World) (base : Nat) (v : Value) (L : List (List Int)) (k : Nat) : Prop := w.ownsRow base 167 2 v k (plCells L k)
theorem ownP.pls {w : World} {base : Nat} {v : Value} {L : List (List Int)} {k : Nat} (h : ownP w base v L k) : pls w.heap.size w v L k := by
  obtain ⟨h1, h2⟩ := h
  rcases h2 with ⟨e, h2⟩ | ⟨g, cap, cur, e, hg, hh, h3, h4, h5, h6⟩
  · exact .inl ⟨h2, none, 0, by rw [e]⟩
  · refine .inr ⟨g, cap, e, hp_lt hh, hp_lt hh, fun j hj => ?_⟩
    have hc := plCells_at L k j hj
    rw [hp_cell hh, hp_cell hh, ← Array.getElem?_toList, ← Array.getElem?_toList]
    rw [← h6, List.getElem?_take, List.getElem?_take, if_pos (by omega), if_pos (by omega)] at hc
    exact hc
theorem ownP.kept {w w' : World} {base : Nat} {v : Value} {L : List (List Int)} {k : Nat} (h : ownP w base v L k) (hb : Below w.heap.size w w') : ownP w' base v L k := by
  obtain ⟨h1, h2⟩ := h
  refine ⟨h1, ?_⟩
  rcases h2 with h2 | ⟨g, cap, cur, e, hg, hh, r⟩
  · exact .inl h2
  · exact .inr ⟨g, cap, cur, e, hg, (hb.block g (hp_lt hh)).trans hh, r⟩
theorem ownP_nil (w : World) (base : Nat) (L : List (List Int)) : ownP w base (.slice none 0 0) L 0 := World.ownsRow_nil _ _ _ _
section
variable {P : Program}
/-- One pair is appended. -/
theorem wpList_appendP {t I : TypeId} (ht : P.underlying t = some (.slice I)) (hI : (P.info? I).map (fun i => (i.zero, i.size, i.bytes)) = some (some (.agg #[.int .i64 0, .int .i64 0]), 2, 16))
    {ops : Array Oper} {rest : List Oper} {o : Oper} {a : Act} {w : World} {Q : Exit → Act → World → Prop} (hgd : o.guard = none) (s x : Operand)
    (ho : o.op = .call { callee := .builtin .append, args := #[s, x], argTypes := #[t, t] }) (base : Nat) (v : Value) (k : Nat) (xs : List Value) (hs : a.eval s = v) (hown : w.ownsRow base I 2 v k xs)
    (g : Nat) (c0 c1 : Value) (hx : a.eval x = .slice (some ⟨g, 0, none⟩) 1 1) (hg0 : w.cell? ⟨g, 0, none⟩ = some c0) (hg1 : w.cell? ⟨g, 1, none⟩ = some c1) (h0 : c0.oneCell' = true) (h1 : c1.oneCell' = true) (hbase : base ≤ w.heap.size) (hlen : k < 1000000000)
    (h : ∀ v' w', w'.ownsRow base I 2 v' (k + 1) (xs ++ [c0, c1]) → Below base w w' → wpList P ops Q rest (a.put o.dst v') w') : wpList P ops Q (o :: rest) a w := by
  obtain ⟨i0, hi, hz0, hz1, hz2⟩ := info_parts hI
  refine wpList_append_own w hgd s x t ho base I i0 (.agg #[.int .i64 0, .int .i64 0]) 2 16 ht hi hz0 hz1 hz2 rfl (by decide) v k xs hs hown ⟨g, 0, none⟩ 1 1 [c0, c1] hx rfl ?_ ?_ (by unfold maxLen; omega) (by omega) hbase ?_
  · intro j u hj
    match j, hj with
    | 0, hj => simp at hj; subst hj; simpa [Addr.add] using hg0
    | 1, hj => simp at hj; subst hj; simpa [Addr.add] using hg1
  · intro u hu; simp at hu; rcases hu with rfl | rfl
    · exact h0
    · exact h1
  · intro v' w' hown' hgrow _
    refine h v' w' hown' ⟨hgrow.os, hgrow.tape, hgrow.output, hgrow.size, fun k hk => hgrow.block k (by omega) ?_⟩
    intro e
    have := (World.ownsRow.lt hown k e.symm).1
    omega
end
theorem ptTo_next (L : List (List Int)) (k : Nat) : ptTo L (k + 1) = (ptTo L k && (ptRow (L[k]?.getD []) && ptNew L k)) := rfl
theorem pt_bad {L : List (List Int)} {k : Nat} (hk : k < L.length) (h : ptTo L (k + 1) = false) : ptB L = false := by
  cases e : ptB L
  · rfl
  · unfold ptB at e
    rw [Bool.and_eq_true, ptTo_iff] at e
    have : ptTo L (k + 1) = true := (ptTo_iff L (k + 1)).2 fun j hj => e.2 j (by omega)
    rw [h] at this; cases this
theorem pt_yes {L : List (List Int)} (h : 1 ≤ (L.length : Int) ∧ (L.length : Int) ≤ 7) (h2 : ptTo L L.length = true) : ptB L = true := by unfold ptB; rw [decide_eq_true h, h2]; rfl
theorem pt_no {L : List (List Int)} (h : ¬ (1 ≤ (L.length : Int) ∧ (L.length : Int) ≤ 7)) : ptB L = false := by unfold ptB; rw [decide_eq_false h]; rfl
def ptN (L : List (List Int)) : Nat := if ptB L then L.length else 0
theorem ptN_no {L : List (List Int)} (h : ptB L = false) : ptN L = 0 := by unfold ptN; rw [h]; rfl
theorem ptN_yes {L : List (List Int)} (h : ptB L = true) : ptN L = L.length := by unfold ptN; rw [h]; rfl
theorem pls_nil (B : Nat) (w : World) (L : List (List Int)) : pls B w (.slice none 0 0) L 0 := .inl ⟨rfl, none, 0, rfl⟩
attribute [local irreducible] p2 low memB risB
theorem isPlaceNumber_c (x : Int) (w : World) : Calls Tryd.prog 167 #[.int .i64 x] w fun e w' => e = .returned (.bool (plB x)) ∧ w = w' := by
  have HD := hide (show plB x = decide (-20 ≤ x ∧ x ≤ 20) from rfl)
  by_cases h : -20 ≤ x <;> by_cases h2 : x ≤ 20
  all_goals
    go_enter Tryd.func167, Tryd.ntmps167
    go_wp2
    go_ret
    exact ⟨ret_b (by rw [HD.out]; simp [h, h2]), rfl⟩
theorem yields_at {P : Program} {ops : Array Oper} {S : World → Prop} {a : Act} {t I : TypeId} (ht : P.underlying t = some (.slice I)) (hI : (P.info? I).map (·.size) = some 1) {o : Oper} (hw : Region.wanted o (yielded ops a.tmps) = true) (x y : Operand) (ho : o.op = .indexAddr t x y)
    (b of n c k : Nat) (hx : a.eval x = .slice (some ⟨b, of, none⟩) n c) (hy : a.eval y = .int .i64 (k : Int)) (hk : k < n) : YieldsIf P ops S o (.pointer (some ⟨b, of + k, none⟩)) a := by
  have he : P.underlying t = some (.slice (P.elem t)) := by
    rw [ht]; simp [Program.elem, ht]
  have hE : P.elem t = I := by simp [Program.elem, ht]
  refine .inl ⟨hw, fun w _ => ?_⟩
  have hr : (Instr.indexAt t (.slice (some ⟨b, of, none⟩) n c) (.int .i64 (k : Int))).run P w = .ok (.pointer (some ⟨b, of + k, none⟩)) w := by
    rw [run_indexAt_slice (h := he), if_pos (by omega), hE, run_sizeOf' hI]
    simp [Addr.add]
  unfold execOp
  simp only [ho, hx, hy, Sem.run_bind, Sem.run_pure, hr, Result.andThen_ok]
set_option maxHeartbeats 4000000 in
theorem readPlane_c (u : Value) (L : List (List Int)) (w : World) (hl : rows w.heap.size w u L) :
    Calls Tryd.prog 123 #[u] w fun e w' => ∃ pv, e = .returned (.tuple #[pv, .bool (ptB L)]) ∧ pls w'.heap.size w' pv L (ptN L) ∧ Below w.heap.size w w' := by
  have HL := hide hl
  clear hl
  by_cases hn : 1 ≤ (L.length : Int) ∧ (L.length : Int) ≤ 7
  · have HN := hide hn
    have hl7 : L.length ≤ 7 := by omega
    have HYES := hide (fun h => pt_yes (L := L) HN.out h)
    clear hn
    go_enter Tryd.func123, Tryd.ntmps123
    go_wp2_with (first
      | (refine wpList_len2 sliceT2 rfl (.tmp _) rfl u rfl w.heap.size L HL.out ?_)
      | (go_at_call 105; refine (isItemCount_c _ _).mono ?_; rw [decide_eq_true HN.out]; rintro e w1 ⟨rfl, rfl⟩))
    go_loopw [4, 14] (fun pv i wr => ∃ k : Nat, k ≤ L.length ∧ i = .int .i64 (k : Int) ∧ Hid (ptTo L k = true) ∧ Hid (ownP wr w.heap.size pv L k) ∧ Hid (Below w.heap.size w wr)) (fun _ i _ => L.length - (intOf i).toNat)
    case atStart => exact ⟨0, Nat.zero_le _, rfl, rfl, ownP_nil _ _ _, Below.refl _ _⟩
    case round =>
      obtain ⟨k, hk, rfl, HJ, HO, HB⟩ := hrel
      have HLW := hide (HL.out.below HB.out (Nat.le_refl _))
      have hwz := HB.out.size
      by_cases hlt : k < L.length
      · have HNX := hide (ptTo_next L k)
        have HBAD := hide (fun h => pt_bad (L := L) hlt h)
        have HNW := hide (ptNew_has L k)
        have HPC := hide (show plCells L (k + 1) = plCells L k ++ [.int .i64 (ptX L k), .int .i64 (ptY L k)] from rfl)
        have HXD := hide (show (L[k]?.getD [])[0]?.getD 0 = ptX L k from rfl)
        have HYD := hide (show (L[k]?.getD [])[1]?.getD 0 = ptY L k from rfl)
        have HRD := hide (show ptRow (L[k]?.getD []) = (decide ((L[k]?.getD []).length = 2) && (plB ((L[k]?.getD [])[0]?.getD 0) && plB ((L[k]?.getD [])[1]?.getD 0))) from rfl)
        generalize hr : L[k]?.getD [] = r at *
        have HR := hide hr
        clear hr
        have HX := hide HXD.out
        have HY := hide HYD.out
        rw [HX.out, HY.out] at HRD
        clear HXD HYD
        generalize ptX L k = x at *
        generalize ptY L k = y at *
        by_cases h2 : r.length = 2
        · have hd : ((r.length : Int) != 2) = false := by rw [h2]; rfl
          have hd2 : (r.length != 2) = false := by rw [h2]; rfl
          rw [decide_eq_true h2, Bool.true_and] at HRD
          cases hx0 : plB x
          · have HX0 := hide hx0
            have HNO := hide (HBAD.out (by rw [HNX.out, HRD.out, hx0]; simp))
            have HZ := hide (ptN_no HNO.out)
            clear hx0
            go_wp2_with (first
              | (refine wpList_at2 sliceT2 rowS2 rfl (.tmp _) (.tmp _) rfl u rfl _ rfl k rfl w.heap.size L HLW.out hlt ?_; intro ad uu hcell hblk hu; rw [HR.out] at hu; have HU := hide hu; clear hu)
              | (refine wpList_len sliceT rfl (.tmp _) rfl uu rfl w.heap.size r HU.out ?_)
              | (refine wpList_at sliceT intS rfl (.tmp 22) _ rfl uu rfl 0 rfl w.heap.size r HU.out (by omega) ?_; intro ad0 hcell0 hblk0; rw [HX.out] at hcell0)
              | (refine wpList_at sliceT intS rfl (.tmp 29) _ rfl uu rfl 1 rfl w.heap.size r HU.out (by omega) ?_; intro ad1 hcell1 hblk1; rw [HY.out] at hcell1)
              | (go_at_call 167; refine (isPlaceNumber_c _ _).mono ?_; rw [HX0.out]; rintro e w1 ⟨rfl, rfl⟩))
            go_ret2
            exact ⟨_, by rw [HNO.out]; rfl, by rw [HZ.out]; exact pls_nil _ _ _, HB.out⟩
          · have HX0 := hide hx0
            clear hx0
            cases hy0 : plB y
            · have HY0 := hide hy0
              have HNO := hide (HBAD.out (by rw [HNX.out, HRD.out, hy0]; simp))
              have HZ := hide (ptN_no HNO.out)
              clear hy0
              go_wp2_with (first
                | (refine wpList_at2 sliceT2 rowS2 rfl (.tmp _) (.tmp _) rfl u rfl _ rfl k rfl w.heap.size L HLW.out hlt ?_; intro ad uu hcell hblk hu; rw [HR.out] at hu; have HU := hide hu; clear hu)
                | (refine wpList_len sliceT rfl (.tmp _) rfl uu rfl w.heap.size r HU.out ?_)
                | (refine wpList_at sliceT intS rfl (.tmp 22) _ rfl uu rfl 0 rfl w.heap.size r HU.out (by omega) ?_; intro ad0 hcell0 hblk0; rw [HX.out] at hcell0)
                | (refine wpList_at sliceT intS rfl (.tmp 29) _ rfl uu rfl 1 rfl w.heap.size r HU.out (by omega) ?_; intro ad1 hcell1 hblk1; rw [HY.out] at hcell1)
                | (go_at_call 167; refine (isPlaceNumber_c _ _).mono ?_; (first | rw [HX0.out] | rw [HY0.out]); rintro e w1 ⟨rfl, rfl⟩))
              go_ret2
              exact ⟨_, by rw [HNO.out]; rfl, by rw [HZ.out]; exact pls_nil _ _ _, HB.out⟩
            · have HY0 := hide hy0
              clear hy0
              go_wp2_with (first
                | (refine wpList_at2 sliceT2 rowS2 rfl (.tmp _) (.tmp _) rfl u rfl _ rfl k rfl w.heap.size L HLW.out hlt ?_; intro ad uu hcell hblk hu; rw [HR.out] at hu; have HU := hide hu; clear hu)
                | (refine wpList_len sliceT rfl (.tmp _) rfl uu rfl w.heap.size r HU.out ?_)
                | (refine wpList_at sliceT intS rfl (.tmp 22) _ rfl uu rfl 0 rfl w.heap.size r HU.out (by omega) ?_; intro ad0 hcell0 hblk0; rw [HX.out] at hcell0)
                | (refine wpList_at sliceT intS rfl (.tmp 29) _ rfl uu rfl 1 rfl w.heap.size r HU.out (by omega) ?_; intro ad1 hcell1 hblk1; rw [HY.out] at hcell1)
                | (go_at_call 167; refine (isPlaceNumber_c _ _).mono ?_; (first | rw [HX0.out] | rw [HY0.out]); rintro e w1 ⟨rfl, rfl⟩))
              obtain ⟨bb, of, cc, hv, hbb, hbw, hcs⟩ : ∃ b of c, uu = .slice (some ⟨b, of, none⟩) 2 c ∧ b < w.heap.size ∧ b < wr.heap.size ∧ (wr.cell? ⟨b, of + 0, none⟩ = some (.int .i64 x) ∧ wr.cell? ⟨b, of + 1, none⟩ = some (.int .i64 y)) := by
                rcases HU.out with ⟨h0, _⟩ | ⟨b, o, c, h3, h4, h5, h6⟩
                · rw [h0] at h2; cases h2
                · refine ⟨b, o, c, by rw [h3, h2], h4, h5, ?_, ?_⟩
                  · rw [h6 0 (by omega), HX.out]
                  · rw [h6 1 (by omega), HY.out]
              subst hv
              clear hcell hcell0 hcell1
              refine wp_region_held (S := Below wr.heap.size wr) (by kernel_rfl) ?_
              have hS0 : Below wr.heap.size wr { wr with drawn := wr.drawn + 1 } := (Below.refl _ _).drew
              generalize ({ wr with drawn := wr.drawn + 1 } : World) = C0 at hS0 ⊢
              have hz0 : wr.heap.size ≤ C0.heap.size := hS0.size
              refine wpAnyH_take (i := 0) (v := .slice (some ⟨bb, of, none⟩) 2 cc) rfl (by kernel_rfl) (by kernel_rfl) (by kernel_rfl) (fun _ _ _ h => h) (.inl ⟨rfl, fun w' _ => by go_simp⟩) hS0 ?_
              try simp only [Act.put, List.getElem_toArray, List.getElem_cons_zero, List.getElem_cons_succ, List.setIfInBounds_toArray, List.set_cons_zero, List.set_cons_succ]
              refine wpAnyH_take (i := 1) rfl (by kernel_rfl) (by kernel_rfl) (by kernel_rfl) (fun _ _ _ h => h) (yields_at sliceT intS rfl (.tmp _) _ rfl bb of 2 cc 0 rfl rfl (by omega)) hS0 ?_
              try simp only [Act.put, List.getElem_toArray, List.getElem_cons_zero, List.getElem_cons_succ, List.setIfInBounds_toArray, List.set_cons_zero, List.set_cons_succ]
              refine wpAnyH_take (i := 2) rfl (by kernel_rfl) (by kernel_rfl) (by kernel_rfl) (fun _ _ _ h => h) (yields_load_cell rowI rfl (.tmp _) rfl ⟨bb, of + 0, none⟩ rfl (.int .i64 x) (fun w' h => (h.cell (p := ⟨bb, of + 0, none⟩) hbw).trans hcs.1)) hS0 ?_
              try simp only [Act.put, List.getElem_toArray, List.getElem_cons_zero, List.getElem_cons_succ, List.setIfInBounds_toArray, List.set_cons_zero, List.set_cons_succ]
              refine wpAnyH_take (i := 3) (v := .slice (some ⟨bb, of, none⟩) 2 cc) rfl (by kernel_rfl) (by kernel_rfl) (by kernel_rfl) (fun _ _ _ h => h) (.inl ⟨rfl, fun w' _ => by go_simp⟩) hS0 ?_
              try simp only [Act.put, List.getElem_toArray, List.getElem_cons_zero, List.getElem_cons_succ, List.setIfInBounds_toArray, List.set_cons_zero, List.set_cons_succ]
              refine wpAnyH_take (i := 4) rfl (by kernel_rfl) (by kernel_rfl) (by kernel_rfl) (fun _ _ _ h => h) (yields_at sliceT intS rfl (.tmp _) _ rfl bb of 2 cc 1 rfl rfl (by omega)) hS0 ?_
              try simp only [Act.put, List.getElem_toArray, List.getElem_cons_zero, List.getElem_cons_succ, List.setIfInBounds_toArray, List.set_cons_zero, List.set_cons_succ]
              refine wpAnyH_take (i := 5) rfl (by kernel_rfl) (by kernel_rfl) (by kernel_rfl) (fun _ _ _ h => h) (yields_load_cell rowI rfl (.tmp _) rfl ⟨bb, of + 1, none⟩ rfl (.int .i64 y) (fun w' h => (h.cell (p := ⟨bb, of + 1, none⟩) hbw).trans hcs.2)) hS0 ?_
              try simp only [Act.put, List.getElem_toArray, List.getElem_cons_zero, List.getElem_cons_succ, List.setIfInBounds_toArray, List.set_cons_zero, List.set_cons_succ]
              refine wpAnyH_take (i := 6) (v := .agg #[.int .i64 x, .int .i64 y]) rfl (by kernel_rfl) (by kernel_rfl) (by kernel_rfl) (fun _ _ _ h => h) (.inl ⟨rfl, fun w' _ => by go_simp⟩) hS0 ?_
              try simp only [Act.put, List.getElem_toArray, List.getElem_cons_zero, List.getElem_cons_succ, List.setIfInBounds_toArray, List.set_cons_zero, List.set_cons_succ]
              obtain ⟨B, hBe⟩ : ∃ B, B = C0.heap.size := ⟨_, rfl⟩
              have hB1 := hp_last C0 (.cells #[.int .i64 0, .int .i64 0] 167)
              rw [← hBe] at hB1
              have hS1 : Below wr.heap.size wr (C0.alloc (.cells #[.int .i64 0, .int .i64 0] 167)) := hS0.alloc hz0 _
              refine anyH_op (i := 7) (by kernel_rfl) rfl rfl (.pointer (some ⟨B, 0, none⟩)) (C0.alloc (.cells #[.int .i64 0, .int .i64 0] 167)) (by simp [go_sem, hBe]) hS1 ?_
              generalize C0.alloc (.cells #[.int .i64 0, .int .i64 0] 167) = C1 at hB1 hS1 ⊢
              try simp only [Act.put, List.getElem_toArray, List.getElem_cons_zero, List.getElem_cons_succ, List.setIfInBounds_toArray, List.set_cons_zero, List.set_cons_succ]
              have hS2 : Below wr.heap.size wr (C1.setRow B #[.int .i64 x, .int .i64 y]) := bl_row hS1 (by omega) _
              refine anyH_store_row (i := 8) #[.int .i64 0, .int .i64 0] #[.int .i64 x, .int .i64 y] pcS (by kernel_rfl) rfl rfl (.tmp _) (.tmp _) rfl B (by rfl) (by rfl) hB1 rfl (by simp [Value.oneCell']) hS2 ?_
              have hB2 := hp_row _ _ _ #[.int .i64 x, .int .i64 y] _ hB1
              generalize C1.setRow B #[.int .i64 x, .int .i64 y] = C2 at hS2 hB2 ⊢
              try simp only [Act.put, List.getElem_toArray, List.getElem_cons_zero, List.getElem_cons_succ, List.setIfInBounds_toArray, List.set_cons_zero, List.set_cons_succ]
              refine wpAnyH_done (by kernel_rfl) ?_ _
              try simp only [Act.put, List.getElem_toArray, List.getElem_cons_zero, List.getElem_cons_succ, List.setIfInBounds_toArray, List.set_cons_zero, List.set_cons_succ]
              have HO2 := hide (HO.out.kept hS2)
              have hz2 := hS2.size
              have HB2 := hide (HB.out.trans (hS2.mono hwz))
              have p0 := cells_at0 hB2
              have p1 := cells_at1 hB2
              have HBL := hide hB2
              have hBz := hp_lt hB2
              have hPL := HO2.out.pls
              have HPL := hide hPL
              clear hS0 hS1 hS2 hB1 hB2 hBe hPL hcs HU HO HB HLW
              cases hh : plHas L k x y
              · have HH := hide hh
                have HN2 := hide (show ptTo L (k + 1) = true by rw [HNX.out, HJ.out, HRD.out, HX0.out, HY0.out, HNW.out, hh]; rfl)
                clear hh
                go_wp2_with (first
                  | (go_at_call 168; refine (planeContains_c _ L k x y _ HPL.out (by omega)).mono ?_; rw [HH.out]; rintro e w5 ⟨rfl, hb5⟩; have hz5 := hb5.size; have HO5 := hide (HO2.out.kept hb5); have HB5 := hide (HB2.out.trans (hb5.mono (by omega))); have hB5 := (hb5.block B hBz).trans HBL.out; have s0 := cells_at0 hB5; have s1 := cells_at1 hB5; clear hb5 hB5)
                  | (at_builtin; refine wpList_appendP plT pcI rfl _ _ rfl w.heap.size _ k _ rfl (World.ownsRow.alloc HO5.out _) _ (.int .i64 x) (.int .i64 y) rfl (by simp [go_sem]) (by simp [go_sem]) rfl rfl (by simp; omega) (by omega) ?_; intro v6 w6 ho6 hb6; have HO6 : Hid (ownP w6 w.heap.size v6 L (k + 1)) := hide (by unfold ownP; rw [HPC.out]; exact ho6); have HB6 := hide ((HB5.out.alloc (by omega) _).trans hb6); clear ho6 hb6))
                go_roundw
                case rel => exact ⟨k + 1, by omega, by go_num, HN2, HO6, HB6⟩
                case measure => simp [intOf]; omega
              · have HH := hide hh
                have HNO := hide (HBAD.out (by rw [HNX.out, HNW.out, hh]; simp))
                have HZ := hide (ptN_no HNO.out)
                clear hh
                go_wp2_with (first
                  | (go_at_call 168; refine (planeContains_c _ L k x y _ HPL.out (by omega)).mono ?_; rw [HH.out]; rintro e w5 ⟨rfl, hb5⟩; have hz5 := hb5.size; have HB5 := hide (HB2.out.trans (hb5.mono (by omega))); clear hb5))
                go_ret2
                exact ⟨_, by rw [HNO.out]; rfl, by rw [HZ.out]; exact pls_nil _ _ _, HB5.out⟩
        · have hd : ((r.length : Int) != 2) = true := by simp; omega
          have hd2 : (r.length != 2) = true := by simp; exact h2
          have HNO := hide (HBAD.out (by rw [HNX.out, HRD.out, decide_eq_false h2]; simp))
          have HZ := hide (ptN_no HNO.out)
          go_wp2_with (first
            | (refine wpList_at2 sliceT2 rowS2 rfl (.tmp _) (.tmp _) rfl u rfl _ rfl k rfl w.heap.size L HLW.out hlt ?_; intro ad uu hcell hblk hu; rw [HR.out] at hu; have HU := hide hu; clear hu)
            | (refine wpList_len sliceT rfl (.tmp _) rfl uu rfl w.heap.size r HU.out ?_)
            | (refine wpList_at sliceT intS rfl (.tmp 22) _ rfl uu rfl 0 rfl w.heap.size r HU.out (by omega) ?_; intro ad0 hcell0 hblk0; rw [HX.out] at hcell0)
            | (refine wpList_at sliceT intS rfl (.tmp 29) _ rfl uu rfl 1 rfl w.heap.size r HU.out (by omega) ?_; intro ad1 hcell1 hblk1; rw [HY.out] at hcell1)
            | fail)
          go_ret2
          exact ⟨_, by rw [HNO.out]; rfl, by rw [HZ.out]; exact pls_nil _ _ _, HB.out⟩
      · have HE := hide (HYES.out (by rw [← show k = L.length by omega]; exact HJ.out))
        have HZ := hide (show ptN L = k by rw [ptN_yes HE.out]; omega)
        have hlt' : ¬ ((k : Int) < (L.length : Int)) := by omega
        go_wp2
        go_ret2
        exact ⟨_, by rw [HE.out]; rfl, by rw [HZ.out]; exact HO.out.pls, HB.out⟩
  · have HN := hide hn
    have HNO := hide (pt_no hn)
    have HZ := hide (ptN_no HNO.out)
    clear hn
    go_enter Tryd.func123, Tryd.ntmps123
    go_wp2_with (first
      | (refine wpList_len2 sliceT2 rfl (.tmp _) rfl u rfl w.heap.size L HL.out ?_)
      | (go_at_call 105; refine (isItemCount_c _ _).mono ?_; rw [decide_eq_false HN.out]; rintro e w1 ⟨rfl, rfl⟩))
    go_ret2
    exact ⟨_, by rw [HNO.out]; rfl, by rw [HZ.out]; exact pls_nil _ _ _, Below.refl _ _⟩
end Go.Proofs.YtonimjpfaalniaaDoor
