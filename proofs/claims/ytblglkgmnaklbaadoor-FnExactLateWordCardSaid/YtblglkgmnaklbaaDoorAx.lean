/- Slices of slices put together; a drawn region with a call and a new block beside it. No program is named here. -/
import Derived.Test.YtblglkgmnaklbaaDoorRo
import Derived.Test.YtblglkgmnaklbaaDoorPut
import Derived.Test.YtblglkgmnaklbaaDoorLib
namespace Go.Proofs.YtblglkgmnaklbaaDoor
open Go.RowKit
set_option maxRecDepth 100000
section
variable {P : Program}
/-- All rows of a slice that was made behind what is there are appended. -/
theorem wpList_append2N {t T I : TypeId} {bytes : Nat} (ht : P.underlying t = some (.slice T)) (hT : (P.info? T).map (fun i => (i.zero, i.size, i.bytes)) = some (some (.slice none 0 0), 1, bytes)) (hby : bytes ≤ 64)
    {ops : Array Oper} {rest : List Oper} {o : Oper} {a : Act} {w : World} {Q : Exit → Act → World → Prop} (hgd : o.guard = none) (s x : Operand)
    (ho : o.op = .call { callee := .builtin .append, args := #[s, x], argTypes := #[t, t] }) (base : Nat) (v : Value) (L : List (List Int)) (hs : a.eval s = v) (w0 : World) (hown : own2 T I w0 base v L) (hb0 : Below w0.heap.size w0 w)
    (xv : Value) (M : List (List Int)) (hx : a.eval x = xv) (hu : own2 T I w w0.heap.size xv M) (hbase : base ≤ w0.heap.size) (hlen : L.length + M.length < 1000000000)
    (h : ∀ v' w', own2 T I w' base v' (L ++ M) → Below base w w' → wpList P ops Q rest (a.put o.dst v') w') : wpList P ops Q (o :: rest) a w := by
  obtain ⟨i0, hi, hz0, hz1, hz2⟩ : ∃ i, P.info? T = some i ∧ i.zero = some (.slice none 0 0) ∧ i.size = 1 ∧ i.bytes = bytes := by
    cases hq : P.info? T with
    | none => simp [hq] at hT
    | some j => simp [hq] at hT; exact ⟨j, rfl, hT.1, hT.2.1, hT.2.2⟩
  have hz := hb0.size
  have hkeep := hown.kept hb0
  obtain ⟨us, h1, h2, h3, h4⟩ := hown
  obtain ⟨ms, m1, ⟨m2, m2'⟩, m3, m4⟩ := hu
  have hlt0 := World.ownsRow.lt h2
  rcases m2' with ⟨e, h0⟩ | ⟨g, cap, cur, e, hg, hh, h5, h6, h7, h8⟩
  · have hM : M = [] := List.eq_nil_of_length_eq_zero h0
    subst hM e
    have hr : (Builtin.append_ #[t, t] o.type #[v, .slice none 0 0]).run P w = .ok v w := by
      rcases h2.2 with ⟨rfl, h0⟩ | ⟨g, cap, cur, rfl, _, _, hnc, _⟩
      · simp [Builtin.append_, run_underlying ht, sizeOf, typeInfo, hi, Builtin.lenOf, Builtin.firstCells]
      · simp [Builtin.append_, run_underlying ht, sizeOf, typeInfo, hi, Builtin.lenOf, Builtin.firstCells, hnc, storeCells]
    have hf := h v w (by simpa using hkeep) (Below.refl _ _)
    refine wpList_plain hgd fun K hK => ?_
    unfold Oper.wp execOp
    simp only [ho, resolve, invoke, builtin, Sem.run_bind, Sem.run_pure, Result.andThen_ok, List.map_toArray, List.map_cons, List.map_nil, hs, hx, hr]
    exact hK _ _ hf
  · subst e
    refine wpList_append_own_at w hgd s x t ho base T i0 (.slice none 0 0) 1 bytes ht hi hz0 hz1 hz2 rfl (by decide) v L.length us hs (row_kept h2 hb0) ⟨g, 0, none⟩ M.length cap ms hx (by rw [m1, Nat.mul_one]) ?_ ?_ (by unfold maxLen; omega) ?_ (by omega) ?_
    · intro j y hj
      have hjl : j < ms.length := by
        rcases Nat.lt_or_ge j ms.length with h | h
        · exact h
        · rw [List.getElem?_eq_none h] at hj; cases hj
      rw [add_at, Nat.zero_add, hp_cell hh]
      have h9 : (cur.toList.take (M.length * 1))[j]? = ms[j]? := by rw [h8]
      rw [List.getElem?_take, if_pos (by omega)] at h9
      rw [← Array.getElem?_toList, h9, hj]
    · intro y hy
      obtain ⟨j, hj, e⟩ := List.mem_iff_getElem.1 hy
      have h9 := (m3 j (by omega)).1.ints.one
      rw [List.getElem?_eq_getElem hj, Option.getD_some, e] at h9
      exact h9
    · have : (L.length + M.length) * bytes ≤ 1000000000 * 64 := Nat.mul_le_mul (by omega) hby
      omega
    · intro v' w' hown' hgrow _ hlie
      have hoth : Other v w w' := ⟨hgrow.os, hgrow.tape, hgrow.output, hgrow.size, fun k hk hne => hgrow.block k hk fun e => hne e.symm⟩
      have hsep : ∀ j, j < M.length → ∀ k, (ms[j]?.getD nilS).ownBlock = some k → w0.heap.size ≤ k ∧ k < w.heap.size := fun j hj k hk => ⟨(m3 j hj).1.base k hk, (m3 j hj).1.blockLt k hk⟩
      refine h v' w' ⟨us ++ ms, by simp [h1, m1], by rw [List.length_append]; exact hown', fun j hj => ?_, fun i j hij hj k => ?_⟩ ?_
      · rw [List.length_append] at hj
        rcases Nat.lt_or_ge j L.length with hj2 | hj2
        · rw [List.getElem?_append_left (by omega), List.getElem?_append_left (by omega)]
          have h5 := h3 j hj2
          have h6 := h5.1.blockLt
          refine ⟨(h5.1.kept hb0).other hoth fun k hk e => h5.2 k hk e, fun k hk e => ?_⟩
          rcases hlie with hl | hl
          · exact h5.2 k hk (hl.symm.trans e)
          · have h7 := h6 k hk
            have h8 : w.heap.size = k := by rw [hl] at e; simpa using e
            omega
        · rw [List.getElem?_append_right (by omega), List.getElem?_append_right (by omega), h1]
          have hjm : j - L.length < M.length := by omega
          have h5 := m3 _ hjm
          have h6 := hsep _ hjm
          refine ⟨(h5.1.other hoth fun k hk e => ?_).mono hbase, fun k hk e => ?_⟩
          · have := h6 k hk
            have := hlt0 k e
            omega
          · rcases hlie with hl | hl
            · have h7 := hlt0 k (hl.symm.trans e)
              have := h6 k hk
              omega
            · have h7 := h6 k hk
              have h8 : w.heap.size = k := by rw [hl] at e; simpa using e
              omega
      · rw [List.length_append] at hj
        rcases Nat.lt_or_ge j L.length with hj2 | hj2
        · rw [List.getElem?_append_left (by omega), List.getElem?_append_left (by omega)]
          exact h4 i j hij hj2 k
        · rw [List.getElem?_append_right (show us.length ≤ j by omega), h1]
          have hjm : j - L.length < M.length := by omega
          rcases Nat.lt_or_ge i L.length with hi2 | hi2
          · rw [List.getElem?_append_left (by omega)]
            intro hk e
            have h5 := (h3 i hi2).1.blockLt k hk
            have := hsep _ hjm k e
            omega
          · rw [List.getElem?_append_right (by omega), h1]
            exact m4 _ _ (by omega) hjm k
      · refine ⟨hgrow.os, hgrow.tape, hgrow.output, hgrow.size, fun k hk => hgrow.block k (by omega) fun e => ?_⟩
        have := hlt0 k e.symm
        omega
/-- A slice of one row that is one's own. -/
theorem own2_one {T I : TypeId} {w : World} {base : Nat} {u : Value} {l : List Int} (hu : own I w base u l) (hb : base ≤ w.heap.size) :
    own2 T I (w.alloc (.cells #[u] T)) base (.slice (some ⟨w.heap.size, 0, none⟩) 1 1) [l] := by
  refine ⟨[u], rfl, ⟨by simp, .inr ⟨w.heap.size, 1, #[u], rfl, hb, hp_last _ _, Nat.le_refl _, by unfold maxLen; omega, by simp, by simp⟩⟩, fun j hj => ?_, fun i j hij hj => ?_⟩
  · have hj0 : j = 0 := by simpa using hj
    subst hj0
    refine ⟨hu.kept ((Below.refl _ _).alloc (Nat.le_refl _) _), fun g hg e => ?_⟩
    have h1 := hu.blockLt g hg
    have h2 : w.heap.size = g := by simpa [Value.ownBlock] using e
    omega
  · have : j = 0 := by simpa using hj
    omega
variable {ops : Array Oper} {Q : Exit → Act → World → Prop} {md : Region.Mode} {S : World → Prop} {fuel : Nat} {listed : Array Bool} {a : Act} {w : World}
/-- One operation that comes up alone, told by a walk over it. -/
theorem anyH_oneX {i : Nat} {o : Oper} (hr : Region.ready md ops listed = [i]) (hi : ops[i]? = some o) (hw : Region.wanted o (yielded ops a.tmps) = true)
    (h : ∀ Q1 : Exit → Act → World → Prop, (∀ a' w', S w' → wpAnyH P md ops Q S fuel (listed.setIfInBounds i true) a' w' → Q1 .normal a' w') → wpList P ops Q1 [o] a w) : wpAnyH P md ops Q S (fuel + 1) listed a w := by
  refine wpAnyH_all hr (by simp) fun j hj => ?_
  have hj' : j = i := by simpa using hj
  subst hj'
  have h1 := h (fun e a' w' => (e = .normal ∧ S w' ∧ wpAnyH P md ops Q S fuel (listed.setIfInBounds j true) a' w') ∨ (e ≠ .normal ∧ Q e a' w')) (fun a' w' h1 h2 => .inl ⟨rfl, h1, h2⟩)
  unfold wpList at h1
  rw [if_pos hw] at h1
  unfold wpOp
  simp only [hi, hw, if_true]
  rcases h1 with h1 | ⟨h1, a', w', h2⟩
  · refine .inl ?_
    unfold Oper.wp at *
    generalize (execOp a.eval o).run P w = r at *
    have hn : ∀ a' w', wpList P ops (fun e a' w' => (e = .normal ∧ S w' ∧ wpAnyH P md ops Q S fuel (listed.setIfInBounds j true) a' w') ∨ (e ≠ .normal ∧ Q e a' w')) [] a' w' → S w' ∧ wpAnyH P md ops Q S fuel (listed.setIfInBounds j true) a' w' := fun a' w' h => by
      rcases h with h | h
      · exact h.2
      · exact absurd rfl h.1
    have hp : ∀ c a' w', ((Exit.panic c = .normal ∧ S w' ∧ wpAnyH P md ops Q S fuel (listed.setIfInBounds j true) a' w') ∨ (Exit.panic c ≠ .normal ∧ Q (.panic c) a' w')) → Q (.panic c) a' w' := fun c a' w' h => by
      rcases h with h | h
      · cases h.1
      · exact h.2
    cases r with
    | ok n w' =>
      cases n <;> simp only [Oper.upon] at h1 ⊢
      case value => exact hn _ _ h1
      case skip => exact hn _ _ h1
      case defer => exact hn _ _ h1
      case enter =>
        refine Calls.mono h1 (fun e w'' he => ?_)
        cases e with
        | returned v => exact hn _ _ he
        | panicked c => exact hp _ _ _ he
        | outgrown =>
          obtain ⟨a2, w2, h3⟩ := he
          rcases h3 with h3 | h3
          · cases h3.1
          · exact ⟨a2, w2, h3.2⟩
      case row => exact Rows.mono h1 (fun _ _ he => hn _ _ he)
    | halt x w' =>
      cases x <;> simp only [Oper.upon] at h1 ⊢
      case panic => exact hp _ _ _ h1
  · refine .inr ⟨h1, ?_⟩
    rcases h2 with h2 | h2
    · cases h2.1
    · exact ⟨a', w', h2.2⟩
theorem wpOp_call {j : Nat} {oj : Oper} {K : Act → World → Prop} (hj : ops[j]? = some oj) (hwj : Region.wanted oj (yielded ops a.tmps) = true) (kf : FuncId) (hk : enters P kf) (xs : Array Operand) (ts : Array TypeId)
    (ho : oj.op = .call { callee := .value (.func kf), args := xs, argTypes := ts }) (args : Array Value) (hal : xs.toList.map a.eval = args.toList) {R : Ending → World → Prop} (hc : Calls P kf args w R) (h : ∀ e w', R e w' → ∃ v, e = .returned v ∧ K (a.put oj.dst v) w') : wpOp P ops Q j K a w := by
  unfold wpOp
  simp only [hj, hwj, if_true]
  refine .inl ?_
  have ha : xs.map a.eval = args := Array.toList_inj.1 (by simpa using hal)
  obtain ⟨dst, op, ty, pos, after, guard⟩ := oj
  simp only at ho
  subst ho
  unfold Oper.wp
  rw [execOp_call_go, ha]
  simp only [Array.append_empty, Array.empty_append]
  rw [hk]
  refine hc.mono fun e w' hR => ?_
  obtain ⟨v, rfl, h1⟩ := h e w' hR
  exact h1
/-- A call (i) and a new block of one cell (j), in either order. -/
theorem anyH_call_alloc {i j : Nat} {oi oj : Oper} (hr : Region.ready md ops listed = [i, j]) (hri : Region.ready md ops (listed.setIfInBounds i true) = [j]) (hrj : Region.ready md ops (listed.setIfInBounds j true) = [i])
    (hi : ops[i]? = some oi) (hj : ops[j]? = some oj) (hij : i ≠ j) (hcomm : ∀ u v, (a.put oj.dst u).put oi.dst v = (a.put oi.dst v).put oj.dst u)
    (hwi : Region.wanted oi (yielded ops a.tmps) = true) (hwi2 : ∀ u, Region.wanted oi (yielded ops (a.put oj.dst u).tmps) = true)
    (hwj : Region.wanted oj (yielded ops a.tmps) = true) (hwj2 : ∀ v, Region.wanted oj (yielded ops (a.put oi.dst v).tmps) = true)
    (x : Value) (T : TypeId) (hrun : ∀ w', (execOp a.eval oj).run P w' = .ok (.value (.slice (some ⟨w'.heap.size, 0, none⟩) 1 1)) (w'.alloc (.cells #[x] T)))
    (hrun2 : ∀ v w', (execOp (a.put oi.dst v).eval oj).run P w' = .ok (.value (.slice (some ⟨w'.heap.size, 0, none⟩) 1 1)) (w'.alloc (.cells #[x] T)))
    (k : FuncId) (hk : enters P k) (xs : Array Operand) (ts : Array TypeId) (ho : oi.op = .call { callee := .value (.func k), args := xs, argTypes := ts }) (args : Array Value)
    (hal : xs.toList.map a.eval = args.toList) (hal2 : ∀ u, xs.toList.map (a.put oj.dst u).eval = args.toList) (I : TypeId) (l : List Int)
    (hc : ∀ w', Below w.heap.size w w' → Calls P k args w' fun e w'' => ∃ v, e = .returned v ∧ own I w'' w'.heap.size v l ∧ Below w'.heap.size w' w'') (hS : ∀ w', Below w.heap.size w w' → S w')
    (h : ∀ v g w', own I w' w.heap.size v l → w'.cell? ⟨g, 0, none⟩ = some x → Below w.heap.size w w' → wpAnyH P md ops Q S fuel ((listed.setIfInBounds i true).setIfInBounds j true) ((a.put oi.dst v).put oj.dst (.slice (some ⟨g, 0, none⟩) 1 1)) w') : wpAnyH P md ops Q S (fuel + 1 + 1) listed a w := by
  have hba := (Below.refl w.heap.size w).alloc (Nat.le_refl _) (.cells #[x] T)
  refine wpAnyH_all hr (by simp) fun y hy => ?_
  rcases (show y = i ∨ y = j by simpa using hy) with rfl | rfl
  · refine wpOp_call hi hwi k hk xs ts ho args hal (hc w (Below.refl _ _)) ?_
    rintro e w1 ⟨v, rfl, ho1, hb1⟩
    have hb2 := hb1.trans ((Below.refl w1.heap.size w1).alloc (Nat.le_refl _) (.cells #[x] T) |>.mono hb1.size)
    refine ⟨v, rfl, hS w1 hb1, anyH_op hri hj (hwj2 v) _ _ (hrun2 v w1) (hS _ hb2) (h v w1.heap.size _ (ho1.alloc _) (by rw [hp_cell (hp_last _ _)]; rfl) hb2)⟩
  · refine wpOp_op hj hwj _ _ (hrun w) ⟨hS _ hba, ?_⟩
    refine anyH_call hrj hi (hwi2 _) k hk xs ts ho args (hal2 _) (hc _ hba) ?_
    rintro e w1 ⟨v, rfl, ho1, hb1⟩
    have hz : (w.alloc (.cells #[x] T)).heap.size = w.heap.size + 1 := by simp
    have hb2 := hba.trans (hb1.mono (by omega))
    refine ⟨v, rfl, hS _ hb2, ?_⟩
    rw [hcomm, Array.setIfInBounds_comm _ _ (Ne.symm hij)]
    exact h v w.heap.size w1 (ho1.mono (by omega)) ((hb1.cell (p := ⟨w.heap.size, 0, none⟩) (by show w.heap.size < _; omega)).trans (by rw [hp_cell (hp_last _ _)]; rfl)) hb2
end
end Go.Proofs.YtblglkgmnaklbaaDoor
