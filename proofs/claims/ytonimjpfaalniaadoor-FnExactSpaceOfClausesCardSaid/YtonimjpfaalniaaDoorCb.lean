/- Clauses: values of an interface type, slices of them; newClause. -/
import Derived.Test.YtonimjpfaalniaaDoorRo
namespace Go.Proofs.YtonimjpfaalniaaDoor
open Go.RowKit
set_option maxRecDepth 100000
/-- A clause's value. -/
def clV (i s : Nat) : Value := if s = 0 then .iface 178 (.int .i64 (i : Int)) else .iface 180 (.agg #[.int .i64 (i : Int), .int .i64 (s : Int)])
attribute [local irreducible] p2 low memB risB
theorem newClause_c (i s : Nat) (w : World) : Calls Tryd.prog 154 #[.int .i64 (i : Int), .int .i64 (s : Int)] w fun e w' => e = .returned (clV i s) ∧ Below w.heap.size w w' := by
  by_cases hs : s = 0
  · subst hs
    go_enter Tryd.func154, Tryd.ntmps154
    go_wp2
    go_ret
    exact ⟨by simp [clV], Below.refl _ _⟩
  · have hb : ((s : Int) == 0) = false := by simp; omega
    have HS := hide hs
    clear hs
    go_enter Tryd.func154, Tryd.ntmps154
    go_wp2
    go_ret
    exact ⟨by have := HS.out; simp [clV, this], Below.refl _ _⟩
/-- A list of an item and a set, as a clause's value. -/
def clR (r : List Int) : Value := clV (r[0]?.getD 0).toNat (r[1]?.getD 0).toNat
theorem clR_one (r : List Int) : (clR r).oneCell' = true := by
  unfold clR clV
  split <;> rfl
theorem clR_pair (i s : Nat) : clR [(i : Int), (s : Int)] = clV i s := by simp [clR]
theorem sliceC : Tryd.prog.underlying 125 = some (.slice 159) := by kernel_rfl
theorem infoC : (Tryd.prog.info? 159).map (fun i => (i.zero, i.size, i.bytes)) = some (some .nilIface, 1, 16) := by kernel_rfl
theorem infoC1 : (Tryd.prog.info? 159).map (·.size) = some 1 := by kernel_rfl
/-- A slice of clauses of one's own. -/
def ownC (w : World) (base : Nat) (v : Value) (L : List (List Int)) : Prop := w.ownsRow base 159 1 v L.length (L.map clR)
theorem ownC_nil (w : World) (base : Nat) : ownC w base (.slice none 0 0) [] := World.ownsRow_nil _ _ _ _
theorem ownC.kept {w w' : World} {base : Nat} {v : Value} {L : List (List Int)} (h : ownC w base v L) (hb : Below w.heap.size w w') : ownC w' base v L := row_kept h hb
theorem ownC.lt {w : World} {base : Nat} {v : Value} {L : List (List Int)} (h : ownC w base v L) : ∀ g, v.ownBlock = some g → base ≤ g ∧ g < w.heap.size := World.ownsRow.lt h
theorem ownC.below {w w' : World} {base B : Nat} {v : Value} {L : List (List Int)} (h : ownC w base v L) (hb : Below B w w') (hB : ∀ g, v.ownBlock = some g → g < B) : ownC w' base v L := by
  obtain ⟨h1, h2⟩ := h
  refine ⟨h1, ?_⟩
  rcases h2 with h2 | ⟨g, cap, cur, e, hg, hh, r⟩
  · exact .inl h2
  · exact .inr ⟨g, cap, cur, e, hg, (hb.block g (hB g (by subst e; rfl))).trans hh, r⟩
/-- A slice's shape, and the cell of an element that is there. -/
theorem ownC.shape {w : World} {base : Nat} {v : Value} {L : List (List Int)} (h : ownC w base v L) : ∃ a c, v = .slice a L.length c := by
  obtain ⟨h1, h2⟩ := h
  rcases h2 with ⟨e, h0⟩ | ⟨g, cap, cur, e, _⟩
  · exact ⟨none, 0, by rw [e, h0]⟩
  · exact ⟨_, _, e⟩
theorem ownC.at {w : World} {base : Nat} {v : Value} {L : List (List Int)} (h : ownC w base v L) (k : Nat) (hk : k < L.length) : ∃ b c, v = .slice (some ⟨b, 0, none⟩) L.length c ∧ w.cell? ⟨b, k, none⟩ = some (clR (L[k]?.getD [])) := by
  obtain ⟨h1, h2⟩ := h
  rcases h2 with ⟨e, h0⟩ | ⟨g, cap, cur, e, hg, hh, h5, h6, h7, h8⟩
  · omega
  · refine ⟨g, cap, e, ?_⟩
    rw [hp_cell hh]
    have h9 : (cur.toList.take (L.length * 1))[k]? = (L.map clR)[k]? := by rw [h8]
    rw [List.getElem?_take, if_pos (by omega), List.getElem?_map, List.getElem?_eq_getElem hk] at h9
    rw [← Array.getElem?_toList, h9, List.getElem?_eq_getElem hk]
    rfl
theorem wpList_appendC {ops : Array Oper} {rest : List Oper} {o : Oper} {a : Act} {w : World} {Q : Exit → Act → World → Prop} (hgd : o.guard = none) (s x : Operand)
    (ho : o.op = .call { callee := .builtin .append, args := #[s, x], argTypes := #[125, 125] }) (base : Nat) (v : Value) (L : List (List Int)) (hs : a.eval s = v) (hown : ownC w base v L)
    (g : Nat) (r : List Int) (hx : a.eval x = .slice (some ⟨g, 0, none⟩) 1 1) (hg : w.cell? ⟨g, 0, none⟩ = some (clR r)) (hbase : base ≤ w.heap.size) (hlen : L.length < 1000000000)
    (h : ∀ v' w', ownC w' base v' (L ++ [r]) → Other v w w' → (v'.ownBlock = v.ownBlock ∨ v'.ownBlock = some w.heap.size) → wpList Tryd.prog ops Q rest (a.put o.dst v') w') : wpList Tryd.prog ops Q (o :: rest) a w := by
  obtain ⟨i0, hi, hz0, hz1, hz2⟩ : ∃ i, Tryd.prog.info? 159 = some i ∧ i.zero = some .nilIface ∧ i.size = 1 ∧ i.bytes = 16 := by
    have hT := infoC
    cases hq : Tryd.prog.info? 159 with
    | none => simp [hq] at hT
    | some j => simp [hq] at hT; exact ⟨j, rfl, hT.1, hT.2.1, hT.2.2⟩
  refine wpList_append_own_at w hgd s x 125 ho base 159 i0 .nilIface 1 16 sliceC hi hz0 hz1 hz2 rfl (by decide) v L.length _ hs hown ⟨g, 0, none⟩ 1 1 [clR r] hx rfl ?_ ?_ (by unfold maxLen; omega) (by omega) hbase ?_
  · intro j u hj
    match j, hj with
    | 0, hj => simp at hj; subst hj; simpa [Addr.add] using hg
  · intro u hu; simp at hu; subst hu; exact clR_one r
  · intro v' w' hown' hgrow _ hlie
    refine h v' w' ?_ ⟨hgrow.os, hgrow.tape, hgrow.output, hgrow.size, fun k hk hne => hgrow.block k hk fun e => hne e.symm⟩ hlie
    unfold ownC
    rw [List.length_append, List.length_singleton, List.map_append, List.map_singleton]
    exact hown'
theorem clV_form (i s : Nat) : ∃ T x, clV i s = .iface T x := by
  unfold clV
  split
  · exact ⟨_, _, rfl⟩
  · exact ⟨_, _, rfl⟩
end Go.Proofs.YtonimjpfaalniaaDoor
