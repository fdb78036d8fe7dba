/- Contracts: clauses: values of an interface type, the program's. -/
import Derived.Test.YtagahoaogfogkaaDoorCs
import Derived.Test.YtagahoaogfogkaaDoorPf
namespace Go.Proofs.YtagahoaogfogkaaDoor
open Go.RowKit
set_option maxRecDepth 100000
/-- A clause's value. -/
def clV (i s : Nat) : Value := if s = 0 then .iface 99 (.int .i64 (i : Int)) else .iface 101 (.agg #[.int .i64 (i : Int), .int .i64 (s : Int)])
attribute [local irreducible] p2 low memB risB
theorem newClause_c (i s : Nat) (w : World) : Calls Tryd.prog 92 #[.int .i64 (i : Int), .int .i64 (s : Int)] w fun e w' => e = .returned (clV i s) ∧ Below w.heap.size w w' := by
  by_cases hs : s = 0
  · subst hs
    go_enter Tryd.func92, Tryd.ntmps92
    go_wp2
    go_ret
    exact ⟨by simp [clV], Below.refl _ _⟩
  · have hb : ((s : Int) == 0) = false := by simp; omega
    have HS := hide hs
    clear hs
    go_enter Tryd.func92, Tryd.ntmps92
    go_wp2
    go_ret
    exact ⟨by have := HS.out; simp [clV, this], Below.refl _ _⟩
theorem assert_free_yes (i : Int) (w : World) : (Instr.typeAssert (.iface 99 (.int .i64 i)) 80 99 true).run Tryd.prog w = .ok (.tuple #[.int .i64 i, .bool true]) w := by
  simp [Instr.typeAssert, run_underlying (show Tryd.prog.underlying 99 = some (.int .i64) by kernel_rfl), go_sem, Result.andThen]
def noIface : TypeDesc → Bool
  | .interface _ => false
  | _ => true
theorem ask_type : (Tryd.prog.underlying 101).map noIface = some true := by kernel_rfl
theorem assert_ask_yes (v : Value) (w : World) : (Instr.typeAssert (.iface 101 v) 80 101 true).run Tryd.prog w = .ok (.tuple #[v, .bool true]) w := by
  have h := ask_type
  cases hd : Tryd.prog.underlying 101 with
  | none => rw [hd] at h; cases h
  | some d =>
    rw [hd] at h
    cases d <;> first | (simp [noIface] at h; done) | simp [Instr.typeAssert, run_underlying hd, go_sem, Result.andThen]
theorem assert_free_no (v : Value) (w : World) : (Instr.typeAssert (.iface 101 v) 80 99 true).run Tryd.prog w = .ok (.tuple #[.int .i64 0, .bool false]) w := by
  have hz : (zeroValue 99).run Tryd.prog w = .ok (.int .i64 0) w := by
    have h : (Tryd.prog.info? 99).map (·.zero) = some (some (.int .i64 0)) := by kernel_rfl
    cases hq : Tryd.prog.info? 99 with
    | none => simp [hq] at h
    | some j =>
      have : j.zero = some (.int .i64 0) := by simpa [hq] using h
      simp [zeroValue, typeInfo, hq, this, go_sem, Result.andThen]
  simp [Instr.typeAssert, run_underlying (show Tryd.prog.underlying 99 = some (.int .i64) by kernel_rfl), go_sem, Result.andThen, hz]
theorem clauseList_c (i s : Nat) (w : World) : Calls Tryd.prog 65 #[clV i s] w fun e w' => ∃ v, e = .returned v ∧ own 3 w' w.heap.size v [(i : Int), (s : Int)] ∧ Below w.heap.size w w' := by
  have f1 := assert_free_yes
  have f2 := assert_ask_yes
  have f3 := assert_free_no
  by_cases hs : s = 0
  · subst hs
    rw [show clV i 0 = .iface 99 (.int .i64 (i : Int)) by simp [clV]]
    go_enter Tryd.func65, Tryd.ntmps65
    go_wp2
    go_ret
    exact ⟨_, rfl, own_pair _ _ _ _, (Below.refl _ _).alloc (Nat.le_refl _) _⟩
  · rw [show clV i s = .iface 101 (.agg #[.int .i64 (i : Int), .int .i64 (s : Int)]) by simp [clV, hs]]
    clear hs
    go_enter Tryd.func65, Tryd.ntmps65
    go_wp2
    go_ret
    have h := own_pair 3 (w.alloc (.cells #[.int .i64 (i : Int), .int .i64 (s : Int)] 101)) i s
    rw [show (w.alloc (.cells #[.int .i64 (i : Int), .int .i64 (s : Int)] 101)).heap.size = w.heap.size + 1 by simp] at h
    exact ⟨_, rfl, h.mono (by omega), ((Below.refl _ _).alloc (Nat.le_refl _) _).alloc (by simp) _⟩

/-! ### The clauses of a space, as lists -/
def clF (k : Nat) (a : Int) : List Int := [(k : Int), ((andNot a.toNat (p2 k) : Nat) : Int)]
def clTo (l : List Int) : Nat → List (List Int)
  | 0 => []
  | k + 1 => clTo l k ++ (paTo (fun s => pathSp l s && (endSp l s == k)) l l.length).map (clF k)
theorem clTo_next (l : List Int) (k : Nat) : clTo l (k + 1) = clTo l k ++ (paTo (fun s => pathSp l s && (endSp l s == k)) l l.length).map (clF k) := rfl
def clL (n : Int) (l : List Int) : List (List Int) := if okSp n l then clTo l n.toNat else []
theorem clL_no {n : Int} {l : List Int} (h : okSp n l = false) : clL n l = [] := by simp [clL, h]
theorem clL_yes {n : Int} {l : List Int} (h : okSp n l = true) : clL n l = clTo l n.toNat := by simp [clL, h]
theorem clTo_len (l : List Int) : ∀ k, (clTo l k).length ≤ k * l.length
  | 0 => by simp [clTo]
  | k + 1 => by
    have h1 := clTo_len l k
    have h2 := paTo_len (fun s => pathSp l s && (endSp l s == k)) l l.length
    rw [clTo, List.length_append, List.length_map, Nat.add_mul, Nat.one_mul]
    omega
theorem clTo_two (l : List Int) : ∀ k, ∀ r ∈ clTo l k, ∃ i s : Nat, r = [(i : Int), (s : Int)]
  | 0 => by simp [clTo]
  | k + 1 => by
    intro r hr
    rw [clTo, List.mem_append] at hr
    rcases hr with hr | hr
    · exact clTo_two l k r hr
    · rw [List.mem_map] at hr
      obtain ⟨b, _, rfl⟩ := hr
      exact ⟨_, _, rfl⟩
theorem clL_small (n : Int) (l : List Int) : small2 (clL n l) := by
  cases h : okSp n l
  · rw [clL_no h]; exact small2_nil
  · rw [clL_yes h]
    have h1 := clTo_len l n.toNat
    have h2 := okSp_len h
    have h4 := okSp_n h
    have h3 : n.toNat * l.length ≤ 7 * 128 := Nat.mul_le_mul (by omega) h2
    refine small2_of _ 2 (fun r hr => by obtain ⟨i, s, rfl⟩ := clTo_two l _ r hr; exact Nat.le_refl 2) (by omega) (by omega)
/-- A list of an item and a set, as a clause's value. -/
def clR (r : List Int) : Value := clV (r[0]?.getD 0).toNat (r[1]?.getD 0).toNat
theorem clR_one (r : List Int) : (clR r).oneCell' = true := by
  unfold clR clV
  split <;> rfl
theorem clR_pair (i s : Nat) : clR [(i : Int), (s : Int)] = clV i s := by simp [clR]
theorem sliceC : Tryd.prog.underlying 77 = some (.slice 80) := by kernel_rfl
theorem infoC : (Tryd.prog.info? 80).map (fun i => (i.zero, i.size, i.bytes)) = some (some .nilIface, 1, 16) := by kernel_rfl
theorem infoC1 : (Tryd.prog.info? 80).map (·.size) = some 1 := by kernel_rfl
/-- A slice of clauses of one's own. -/
def ownC (w : World) (base : Nat) (v : Value) (L : List (List Int)) : Prop := w.ownsRow base 80 1 v L.length (L.map clR)
theorem ownC_nil (w : World) (base : Nat) : ownC w base (.slice none 0 0) [] := World.ownsRow_nil _ _ _ _
theorem ownC.kept {w w' : World} {base : Nat} {v : Value} {L : List (List Int)} (h : ownC w base v L) (hb : Below w.heap.size w w') : ownC w' base v L := row_kept h hb
theorem ownC.lt {w : World} {base : Nat} {v : Value} {L : List (List Int)} (h : ownC w base v L) : ∀ g, v.ownBlock = some g → base ≤ g ∧ g < w.heap.size := World.ownsRow.lt h
theorem ownC.below {w w' : World} {base B : Nat} {v : Value} {L : List (List Int)} (h : ownC w base v L) (hb : Below B w w') (hB : ∀ g, v.ownBlock = some g → g < B) : ownC w' base v L := by
  obtain ⟨h1, h2⟩ := h
  refine ⟨h1, ?_⟩
  rcases h2 with h2 | ⟨g, cap, cur, e, hg, hh, r⟩
  · exact .inl h2
  · exact .inr ⟨g, cap, cur, e, hg, (hb.block g (hB g (by subst e; rfl))).trans hh, r⟩
/-- A slice's shape, and the cell of an element that is there. -/
theorem ownC.shape {w : World} {base : Nat} {v : Value} {L : List (List Int)} (h : ownC w base v L) : ∃ a c, v = .slice a L.length c := by
  obtain ⟨h1, h2⟩ := h
  rcases h2 with ⟨e, h0⟩ | ⟨g, cap, cur, e, _⟩
  · exact ⟨none, 0, by rw [e, h0]⟩
  · exact ⟨_, _, e⟩
theorem ownC.at {w : World} {base : Nat} {v : Value} {L : List (List Int)} (h : ownC w base v L) (k : Nat) (hk : k < L.length) : ∃ b c, v = .slice (some ⟨b, 0, none⟩) L.length c ∧ w.cell? ⟨b, k, none⟩ = some (clR (L[k]?.getD [])) := by
  obtain ⟨h1, h2⟩ := h
  rcases h2 with ⟨e, h0⟩ | ⟨g, cap, cur, e, hg, hh, h5, h6, h7, h8⟩
  · omega
  · refine ⟨g, cap, e, ?_⟩
    rw [hp_cell hh]
    have h9 : (cur.toList.take (L.length * 1))[k]? = (L.map clR)[k]? := by rw [h8]
    rw [List.getElem?_take, if_pos (by omega), List.getElem?_map, List.getElem?_eq_getElem hk] at h9
    rw [← Array.getElem?_toList, h9, List.getElem?_eq_getElem hk]
    rfl
theorem wpList_appendC {ops : Array Oper} {rest : List Oper} {o : Oper} {a : Act} {w : World} {Q : Exit → Act → World → Prop} (hgd : o.guard = none) (s x : Operand)
    (ho : o.op = .call { callee := .builtin .append, args := #[s, x], argTypes := #[77, 77] }) (base : Nat) (v : Value) (L : List (List Int)) (hs : a.eval s = v) (hown : ownC w base v L)
    (g : Nat) (r : List Int) (hx : a.eval x = .slice (some ⟨g, 0, none⟩) 1 1) (hg : w.cell? ⟨g, 0, none⟩ = some (clR r)) (hbase : base ≤ w.heap.size) (hlen : L.length < 1000000000)
    (h : ∀ v' w', ownC w' base v' (L ++ [r]) → Other v w w' → (v'.ownBlock = v.ownBlock ∨ v'.ownBlock = some w.heap.size) → wpList Tryd.prog ops Q rest (a.put o.dst v') w') : wpList Tryd.prog ops Q (o :: rest) a w := by
  obtain ⟨i0, hi, hz0, hz1, hz2⟩ : ∃ i, Tryd.prog.info? 80 = some i ∧ i.zero = some .nilIface ∧ i.size = 1 ∧ i.bytes = 16 := by
    have hT := infoC
    cases hq : Tryd.prog.info? 80 with
    | none => simp [hq] at hT
    | some j => simp [hq] at hT; exact ⟨j, rfl, hT.1, hT.2.1, hT.2.2⟩
  refine wpList_append_own_at w hgd s x 77 ho base 80 i0 .nilIface 1 16 sliceC hi hz0 hz1 hz2 rfl (by decide) v L.length _ hs hown ⟨g, 0, none⟩ 1 1 [clR r] hx rfl ?_ ?_ (by unfold maxLen; omega) (by omega) hbase ?_
  · intro j u hj
    match j, hj with
    | 0, hj => simp at hj; subst hj; simpa [Addr.add] using hg
  · intro u hu; simp at hu; subst hu; exact clR_one r
  · intro v' w' hown' hgrow _ hlie
    refine h v' w' ?_ ⟨hgrow.os, hgrow.tape, hgrow.output, hgrow.size, fun k hk hne => hgrow.block k hk fun e => hne e.symm⟩ hlie
    unfold ownC
    rw [List.length_append, List.length_singleton, List.map_append, List.map_singleton]
    exact hown'
end Go.Proofs.YtagahoaogfogkaaDoor
