/- Planes in memory: slices of pairs of numbers; whether a pair is among them. -/
import Derived.Test.YtojejhdlfklhkaaQp
import Derived.Test.YtojejhdlfklhkaaRh
import Derived.Test.YtojejhdlfklhkaaBx
namespace Go.Proofs.Ytojejhdlfklhkaa
open Go.RowKit
set_option maxRecDepth 100000
set_option linter.unusedSimpArgs false
theorem plT : Try.prog.underlying 38 = some (.slice 48) := by kernel_rfl
theorem pcS : (Try.prog.info? 48).map (·.size) = some 2 := by kernel_rfl
theorem pcI : (Try.prog.info? 48).map (fun i => (i.zero, i.size, i.bytes)) = some (some (.agg #[.int .i64 0, .int .i64 0]), 2, 16) := by kernel_rfl
theorem pcR : (Try.prog.underlying 48).map TypeDesc.isRow = some true := by kernel_rfl
theorem pcU : Try.prog.underlying 48 = some (.struct (Try.prog.fieldsOf 48)) := by kernel_rfl
theorem pcH : Try.prog.stoodInHeld 48 = false := by kernel_rfl
theorem pcF : (Try.prog.fieldsOf 48).toList.map (fun f => (f.name == "_", f.type, f.offset)) = [(false, 3, 0), (false, 3, 1)] := by kernel_rfl
theorem pcG : Try.prog.eqGuardType Try.prog.depth 48 = false := by kernel_rfl
theorem undI2 : Try.prog.underlying 3 = some (.int .i64) := by kernel_rfl
/-- v is a slice that reads as the first n points. -/
def pls (B : Nat) (w : World) (v : Value) (L : List (List Int)) (n : Nat) : Prop :=
  (n = 0 ∧ ∃ a c, v = .slice a 0 c) ∨
  ∃ b c, v = .slice (some ⟨b, 0, none⟩) n c ∧ b < B ∧ b < w.heap.size ∧ ∀ j, j < n → w.cell? ⟨b, 2 * j, none⟩ = some (.int .i64 (ptX L j)) ∧ w.cell? ⟨b, 2 * j + 1, none⟩ = some (.int .i64 (ptY L j))
theorem pls.below {B B' : Nat} {w w' : World} {v : Value} {L : List (List Int)} {n : Nat} (h : pls B w v L n) (hb : Below B' w w') (hB : B ≤ B') : pls B w' v L n := by
  rcases h with h | ⟨b, c, h1, h2, h3, h4⟩
  · exact .inl h
  · exact .inr ⟨b, c, h1, h2, Nat.lt_of_lt_of_le h3 hb.size, fun j hj => ⟨(hb.cell (p := ⟨b, 2 * j, none⟩) (by show b < B'; omega)).trans (h4 j hj).1, (hb.cell (p := ⟨b, 2 * j + 1, none⟩) (by show b < B'; omega)).trans (h4 j hj).2⟩⟩
theorem pls.mono {B B' : Nat} {w : World} {v : Value} {L : List (List Int)} {n : Nat} (h : pls B w v L n) (hB : B ≤ B') : pls B' w v L n := by
  rcases h with h | ⟨b, c, h1, h2, h3⟩
  · exact .inl h
  · exact .inr ⟨b, c, h1, by omega, h3⟩
theorem pls.alloc {B : Nat} {w : World} {v : Value} {L : List (List Int)} {n : Nat} (h : pls B w v L n) (ob : Obj) : pls B (w.alloc ob) v L n := by
  rcases h with h | ⟨b, c, h1, h2, h3, h4⟩
  · exact .inl h
  · exact .inr ⟨b, c, h1, h2, by simp; omega, fun j hj => ⟨((Below.refl w.heap.size w).alloc (Nat.le_refl _) ob |>.cell (p := ⟨b, 2 * j, none⟩) h3).trans (h4 j hj).1, ((Below.refl w.heap.size w).alloc (Nat.le_refl _) ob |>.cell (p := ⟨b, 2 * j + 1, none⟩) h3).trans (h4 j hj).2⟩⟩
theorem pls.full {B : Nat} {w w' : World} {v : Value} {L : List (List Int)} {n : Nat} (h : pls B w v L n) (hb : Below B w w') (hB : B ≤ w'.heap.size) : pls w'.heap.size w' v L n := (h.below hb (Nat.le_refl _)).mono hB
theorem pls.shape {B : Nat} {w : World} {v : Value} {L : List (List Int)} {n : Nat} (h : pls B w v L n) : ∃ a c, v = .slice a n c := by
  rcases h with ⟨rfl, h⟩ | ⟨b, c, h1, _⟩
  · exact h
  · exact ⟨_, _, h1⟩
section
variable {P : Program}
theorem wpList_lenP {t I : TypeId} (ht : P.underlying t = some (.slice I)) {ops : Array Oper} {rest : List Oper} {o : Oper} {a : Act} {w : World} {Q : Exit → Act → World → Prop} (hw : Region.wanted o (yielded ops a.tmps) = true)
    (x : Operand) (ho : o.op = .call { callee := .builtin .len, args := #[x], argTypes := #[t] }) (v : Value) (hx : a.eval x = v) (n : Nat) (hl : ∃ b c, v = .slice b n c)
    (h : wpList P ops Q rest (a.put o.dst (.int .i64 (n : Int))) w) : wpList P ops Q (o :: rest) a w := by
  obtain ⟨b, c, rfl⟩ := hl
  have he : P.underlying t = some (.slice (P.elem t)) := by
    rw [ht]; simp [Program.elem, ht]
  have hr : (Builtin.len_ #[t] o.type #[.slice b n c]).run P w = .ok (.int .i64 (n : Int)) w := by
    rw [run_len_slice (h := he)]
    simp [goInt]
  refine wpList_of_wp hw fun K hK => ?_
  unfold Oper.wp execOp
  simp only [ho, resolve, invoke, Sem.run_bind, Sem.run_pure, Result.andThen_ok, List.map_toArray, List.map_cons, List.map_nil, hx, BigFrame.builtin_len, hr]
  exact hK _ _ h
variable {ops : Array Oper} {rest : List Oper} {o : Oper} {a : Act} {C : World → Prop} {Q : Act → Prop}
/-- The address of a pair, in a drawn region that only reads. -/
theorem q_atP {t I : TypeId} (ht : P.underlying t = some (.slice I)) (hI : (P.info? I).map (·.size) = some 2) (hw : Region.wanted o (yielded ops a.tmps) = true)
    (x y : Operand) (ho : o.op = .indexAddr t x y) (v : Value) (hx : a.eval x = v) (k : Nat) (hy : a.eval y = .int .i64 (k : Int)) (B : Nat) (L : List (List Int)) (n : Nat) (w0 : World) (hl : pls B w0 v L n) (hk : k < n)
    (h : ∀ b, b < B → w0.cell? ⟨b, 2 * k, none⟩ = some (.int .i64 (ptX L k)) → w0.cell? ⟨b, 2 * k + 1, none⟩ = some (.int .i64 (ptY L k)) → wpQuiet P ops C Q rest (a.put o.dst (.pointer (some ⟨b, 2 * k, none⟩)))) : wpQuiet P ops C Q (o :: rest) a := by
  rcases hl with ⟨h0, _⟩ | ⟨b, c, rfl, h2, h3, h4⟩
  · omega
  have he : P.underlying t = some (.slice (P.elem t)) := by
    rw [ht]; simp [Program.elem, ht]
  have hE : P.elem t = I := by simp [Program.elem, ht]
  refine BigFrame.wpQuiet_want hw fun K hK => ⟨_, fun w hC => ?_, hK _ (h b h2 (h4 k hk).1 (h4 k hk).2)⟩
  have hr : (Instr.indexAt t (.slice (some ⟨b, 0, none⟩) n c) (.int .i64 (k : Int))).run P w = .ok (.pointer (some ⟨b, 2 * k, none⟩)) w := by
    rw [run_indexAt_slice (h := he), if_pos (by omega), hE, run_sizeOf' hI]
    simp [Addr.add, Nat.mul_comm]
    intro h0; omega
  unfold Oper.quietAt execOp
  simp only [ho, hx, hy, Sem.run_bind, Sem.run_pure, hr, Result.andThen_ok]
  exact ⟨rfl, rfl⟩
/-- Two pairs are compared, in a drawn region that only reads. -/
theorem q_eqlP {T : TypeId} (hg : P.eqGuardType P.depth T = false) (hw : Region.wanted o (yielded ops a.tmps) = true) (x y : Operand) (ho : o.op = .binOp .eql T x y T) {xs ys : Array Value} (hx : a.eval x = .agg xs) (hy : a.eval y = .agg ys) (b : Bool)
    (hb : ∀ w : World, (binOp .eql T (.agg xs) (.agg ys)).run P w = .ok (.bool b) w) (h : wpQuiet P ops C Q rest (a.put o.dst (.bool b))) : wpQuiet P ops C Q (o :: rest) a := by
  refine BigFrame.wpQuiet_want hw fun K hK => ⟨_, fun w hC => ?_, hK _ h⟩
  have hr := run_op_eql (P := P) hg x y ho hx hy (hb w)
  unfold Oper.quietAt
  obtain ⟨dst, op, ty, pos, after, guard⟩ := o
  simp only at ho
  subst ho
  simp only [hr]
  exact ⟨rfl, rfl⟩
end
theorem run_eql_pc (w : World) (x y x' y' : Int) : (binOp .eql 48 (.agg #[.int .i64 x, .int .i64 y]) (.agg #[.int .i64 x', .int .i64 y'])).run Try.prog w = .ok (.bool (x == x' && y == y')) w := by
  rw [run_eql_struct, run_equalIn_struct w 9999 48 _ _ pcU pcH]
  have hF := pcF
  generalize (Try.prog.fieldsOf 48).toList = fs at hF
  match fs, hF with
  | [], hF => simp at hF
  | [_], hF => simp at hF
  | _ :: _ :: _ :: _, hF => simp at hF
  | [f0, f1], hF =>
    simp only [List.map_cons, List.map_nil, List.cons.injEq, Prod.mk.injEq, and_true] at hF
    obtain ⟨⟨a0, a1, a2⟩, b0, b1, b2⟩ := hF
    have a0' : f0.name ≠ "_" := by simpa using a0
    have b0' : f1.name ≠ "_" := by simpa using b0
    have hIr : (Try.prog.underlying 3).map TypeDesc.isRow = some false := by rw [undI2]; rfl
    simp only [Op.eqFields, a0', b0', ne_eq, not_false_eq_true, if_true, a1, a2, b1, b2, Sem.run_bind, run_part_cell hIr w #[.int .i64 x, .int .i64 y] 0 (.int .i64 x) rfl, run_part_cell hIr w #[.int .i64 x', .int .i64 y'] 0 (.int .i64 x') rfl,
      run_part_cell hIr w #[.int .i64 x, .int .i64 y] 1 (.int .i64 y) rfl, run_part_cell hIr w #[.int .i64 x', .int .i64 y'] 1 (.int .i64 y') rfl, Result.andThen_ok, run_equalIn_int w 9998 3 .i64 .i64 x x' undI2, run_equalIn_int w 9998 3 .i64 .i64 y y' undI2]
    cases hb : (x == x')
    · simp
    · cases hq : (y == y') <;> simp [run_part_cell hIr w #[.int .i64 x, .int .i64 y] 1 (.int .i64 y) rfl, run_part_cell hIr w #[.int .i64 x', .int .i64 y'] 1 (.int .i64 y') rfl, run_equalIn_int w 9998 3 .i64 .i64 y y' undI2, hq]
/-- Whether a pair is one of the first n points. -/
def plHas (L : List (List Int)) (n : Nat) (x y : Int) : Bool := (List.range n).any fun j => decide (ptX L j = x) && decide (ptY L j = y)
theorem plHas_iff (L : List (List Int)) (n : Nat) (x y : Int) : plHas L n x y = true ↔ ∃ j, j < n ∧ ptX L j = x ∧ ptY L j = y := by
  unfold plHas
  rw [List.any_eq_true]
  simp only [List.mem_range, Bool.and_eq_true, decide_eq_true_eq]
theorem ptNew_has (L : List (List Int)) (k : Nat) : ptNew L k = !plHas L k (ptX L k) (ptY L k) := rfl
attribute [local irreducible] p2 low memB risB
set_option maxHeartbeats 1000000 in
theorem planeIndex_c (v : Value) (L : List (List Int)) (n : Nat) (x y : Int) (w : World) (hl : pls w.heap.size w v L n) (hn : n < 1000000000) :
    Calls Try.prog 43 #[v, .agg #[.int .i64 x, .int .i64 y]] w fun e w' => (∃ r : Int, e = .returned (.int .i64 r) ∧ (0 ≤ r ↔ plHas L n x y = true)) ∧ Below w.heap.size w w' := by
  have HL := hide hl
  have HSH := hide hl.shape
  have HHAS := hide (plHas_iff L n x y)
  have HB0 := hide (by_start 48 (.int .i64 x) (.int .i64 y) w)
  have HL0 := hide (hl.full (by_below HB0.out) (by have := by_size HB0.out; omega))
  clear hl
  go_enter Try.func43, Try.ntmps43
  go_wp2_with (refine wpList_lenP plT rfl (.tmp _) rfl v rfl n HSH.out ?_)
  go_loopw [8] (fun i wr => ∃ k : Nat, k ≤ n ∧ i = .int .i64 (k : Int) ∧ Hid (∀ j, j < k → ¬ (ptX L j = x ∧ ptY L j = y)) ∧ Hid (Below (w.heap.size + 1) (w.alloc (.cells #[.int .i64 x, .int .i64 y] 48)) wr)) (fun i _ => n - (intOf i).toNat)
  case atStart => exact ⟨0, Nat.zero_le _, rfl, fun j hj => by omega, HB0⟩
  case round =>
    obtain ⟨k, hk, rfl, HJ, HB⟩ := hrel
    have HLW := hide (HL.out.full (by_below HB.out) (by have := by_size HB.out; omega))
    by_cases hlt : k < n
    · generalize hx : ptX L k = a at *
      generalize hy : ptY L k = b at *
      have HX := hide hx
      have HY := hide hy
      clear hx hy
      cases he : (x == a && y == b)
      all_goals
        have HE := hide he
        clear he
        go_wp2_with fail
        refine wp_region_old (by kernel_rfl) (by kernel_rfl) ?_
        refine q_load_two pcR pcS rfl (.tmp _) rfl _ _ rfl (.int .i64 x) (.int .i64 y) (fun w' h => by_cell0 (by_to HB.out h)) (fun w' h => by_cell1 (by_to HB.out h)) ?_
        simp only [Act.put, List.setIfInBounds_toArray, List.set_cons_zero, List.set_cons_succ]
        go_big_quiet_step ((first | exact fun _ => rfl | exact fun _ => ⟨rfl, rfl⟩))
        go_big_quiet_step ((first | exact fun _ => rfl | exact fun _ => ⟨rfl, rfl⟩))
        refine q_atP plT pcS rfl (.tmp _) (.tmp _) rfl v rfl k rfl wr.heap.size L n wr HLW.out hlt ?_
        intro bb hbb hc0 hc1
        rw [HX.out] at hc0
        rw [HY.out] at hc1
        simp only [Act.put, List.setIfInBounds_toArray, List.set_cons_zero, List.set_cons_succ]
        refine q_load_two pcR pcS rfl (.tmp _) rfl bb (2 * k) rfl (.int .i64 a) (.int .i64 b) (fun w' h => (h.cell (p := ⟨bb, 2 * k, none⟩) hbb).trans hc0) (fun w' h => (h.cell (p := ⟨bb, 2 * k + 1, none⟩) hbb).trans hc1) ?_
        simp only [Act.put, List.setIfInBounds_toArray, List.set_cons_zero, List.set_cons_succ]
        refine q_eqlP pcG rfl (.tmp _) (.tmp _) rfl rfl rfl (x == a && y == b) (fun w' => run_eql_pc w' x y a b) ?_
        rw [HE.out]
        simp only [Act.put, List.setIfInBounds_toArray, List.set_cons_zero, List.set_cons_succ]
        refine wpQuiet_nil ?_
        intro w2 hb2
        have HB2 := hide (by_to HB.out hb2)
        clear hb2 hc0 hc1
        go_wp2
      · go_roundw
        case rel => exact ⟨k + 1, by omega, by go_num, hide (fun j hj => by
          rcases Nat.lt_or_ge j k with h | h
          · exact HJ.out j h
          · rw [show j = k by omega, HX.out, HY.out]
            rintro ⟨rfl, rfl⟩
            have := HE.out
            simp at this), HB2⟩
        case measure => simp [intOf]; omega
      · go_ret
        refine ⟨⟨_, rfl, ?_⟩, by_below HB2.out⟩
        rw [HHAS.out]
        have h := HE.out
        rw [Bool.and_eq_true, beq_iff_eq, beq_iff_eq] at h
        exact ⟨fun _ => ⟨k, hlt, by rw [HX.out]; exact h.1.symm, by rw [HY.out]; exact h.2.symm⟩, fun _ => by omega⟩
    · have hlt' : ¬ ((k : Int) < (n : Int)) := by omega
      go_wp2
      go_ret
      refine ⟨⟨_, rfl, ?_⟩, by_below HB.out⟩
      rw [HHAS.out]
      constructor
      · intro h; omega
      · rintro ⟨j, hj, h⟩; exact absurd h (HJ.out j (by omega))

set_option maxHeartbeats 1000000 in
theorem planeContains_c (v : Value) (L : List (List Int)) (n : Nat) (x y : Int) (w : World) (hl : pls w.heap.size w v L n) (hn : n < 1000000000) :
    Calls Try.prog 33 #[v, .agg #[.int .i64 x, .int .i64 y]] w fun e w' => e = .returned (.bool (plHas L n x y)) ∧ Below w.heap.size w w' := by
  have HL := hide hl
  have HB0 := hide (by_start 48 (.int .i64 x) (.int .i64 y) w)
  have HL0 := hide (hl.full (by_below HB0.out) (by have := by_size HB0.out; omega))
  clear hl
  go_enter Try.func33, Try.ntmps33
  go_wp2_with fail
  refine (planeIndex_c v L n x y _ HL0.out hn).mono ?_
  rintro e w1 ⟨⟨r, rfl, hr⟩, hb1⟩
  have HB1 := hide (by_to HB0.out hb1)
  have HR := hide hr
  clear hb1 hr
  by_cases h0 : 0 ≤ r
  · have HH := hide (HR.out.1 h0)
    go_wp2
    go_ret
    exact ⟨ret_b (by rw [HH.out]), by_below HB1.out⟩
  · have HH := hide (show plHas L n x y = false by rw [← Bool.not_eq_true, ← HR.out]; exact h0)
    go_wp2
    go_ret
    exact ⟨ret_b (by rw [HH.out, decide_eq_false_iff_not]; omega), by_below HB1.out⟩
end Go.Proofs.Ytojejhdlfklhkaa
