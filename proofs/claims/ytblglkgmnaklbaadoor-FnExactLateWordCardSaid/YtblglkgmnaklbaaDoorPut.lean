/- Contracts: a slice appended to one's own; a number put into an increasing list. -/
import Derived.Test.YtblglkgmnaklbaaDoorFam
import Derived.Test.YtblglkgmnaklbaaDoorSpc
namespace Go.Proofs.YtblglkgmnaklbaaDoor
open Go.RowKit
set_option maxRecDepth 100000
theorem add_at (b o j : Nat) : (⟨b, o, none⟩ : Addr).add j = ⟨b, o + j, none⟩ := by
  unfold Addr.add
  split
  · rename_i h; simp_all
  · rfl
section
variable {P : Program}
/-- All numbers of a slice are appended to one of one's own. -/
theorem wpList_appendN {t I : TypeId} (ht : P.underlying t = some (.slice I)) (hI : (P.info? I).map (fun i => (i.zero, i.size, i.bytes)) = some (some (.int .i64 0), 1, 8))
    {ops : Array Oper} {rest : List Oper} {o : Oper} {a : Act} {w : World} {Q : Exit → Act → World → Prop} (hgd : o.guard = none) (s x : Operand)
    (ho : o.op = .call { callee := .builtin .append, args := #[s, x], argTypes := #[t, t] }) (base : Nat) (v : Value) (l : List Int) (hs : a.eval s = v) (hown : own I w base v l)
    (u : Value) (m : List Int) (B : Nat) (hx : a.eval x = u) (hu : ints B w u m) (hbase : base ≤ w.heap.size) (hlen : l.length + m.length < 1000000000)
    (h : ∀ v' w', own I w' base v' (l ++ m) → Below base w w' → wpList P ops Q rest (a.put o.dst v') w') : wpList P ops Q (o :: rest) a w := by
  obtain ⟨i0, hi, hz0, hz1, hz2⟩ := info_parts hI
  have key : ∀ (ad : Addr) (c : Nat), u = .slice (some ad) m.length c → (∀ (j : Nat) (y : Value), (m.map (Value.int .i64))[j]? = some y → w.cell? (ad.add j) = some y) → wpList P ops Q (o :: rest) a w := by
    intro ad c hu2 hcells
    refine wpList_append_own w hgd s x t ho base I i0 (.int .i64 0) 1 8 ht hi hz0 hz1 hz2 rfl (by decide) v l.length _ hs hown ad m.length c (m.map (Value.int .i64)) (by rw [hx, hu2]) (by simp) hcells ?_ (by unfold maxLen; omega) (by omega) hbase ?_
    · intro y hy
      obtain ⟨z, _, rfl⟩ := List.mem_map.1 hy
      rfl
    · intro v' w' hown' hgrow _
      refine h v' w' ?_ ?_
      · simpa [own] using hown'
      · refine ⟨hgrow.os, hgrow.tape, hgrow.output, hgrow.size, fun k hk => hgrow.block k (by omega) ?_⟩
        intro e
        have := (World.ownsRow.lt hown k e.symm).1
        omega
  rcases hu with ⟨rfl, ao, c, rfl⟩ | ⟨b, of, c, rfl, h2, h3, h4⟩
  · cases ao with
    | some ad => exact key ad c rfl (fun j y hj => by simp at hj)
    | none =>
      have hr : (Builtin.append_ #[t, t] o.type #[v, .slice none 0 c]).run P w = .ok v w := by
        rcases hown.2 with ⟨rfl, h0⟩ | ⟨g, cap, cur, rfl, _, _, hnc, _⟩
        · simp [Builtin.append_, run_underlying ht, sizeOf, typeInfo, hi, Builtin.lenOf, Builtin.firstCells]
        · simp [Builtin.append_, run_underlying ht, sizeOf, typeInfo, hi, Builtin.lenOf, Builtin.firstCells, hnc, storeCells]
      have hh := h v w (by simpa using hown) (Below.refl _ _)
      refine wpList_plain hgd fun K hK => ?_
      unfold Oper.wp execOp
      simp only [ho, resolve, invoke, builtin, Sem.run_bind, Sem.run_pure, Result.andThen_ok, List.map_toArray, List.map_cons, List.map_nil, hs, hx, hr]
      exact hK _ _ hh
  · refine key ⟨b, of, none⟩ c rfl fun j y hj => ?_
    rw [List.getElem?_map] at hj
    rcases Nat.lt_or_ge j m.length with hlt | hge
    · rw [List.getElem?_eq_getElem hlt] at hj
      simp at hj
      subst hj
      have := h4 j hlt
      rw [List.getElem?_eq_getElem hlt] at this
      rw [add_at]
      simpa using this
    · rw [List.getElem?_eq_none hge] at hj; cases hj
/-- A new slice of no numbers. -/
theorem own_empty (I : TypeId) (w : World) : own I (w.alloc (.cells #[] I)) w.heap.size (.slice (some ⟨w.heap.size, 0, none⟩) 0 0) [] :=
  ⟨by simp, .inr ⟨w.heap.size, 0, #[], rfl, Nat.le_refl _, hp_last _ _, Nat.le_refl _, by unfold maxLen; omega, by simp, by simp⟩⟩
end
theorem drop_own {I : TypeId} {w : World} {base g : Nat} {c : Nat} {n : Nat} {l : List Int} (h : own I w base (.slice (some ⟨g, 0, none⟩) n c) l) (k : Nat) (_ : k ≤ n) (c' : Nat) : ints w.heap.size w (.slice (some ⟨g, k, none⟩) (n - k) c') (l.drop k) := by
  obtain ⟨a, c2, hv⟩ := h.shape
  have hn : n = l.length := by injection hv
  subst hn
  refine .inr ⟨g, k, c', by simp, h.blockLt g rfl, h.blockLt g rfl, fun j hj => ?_⟩
  simp at hj
  have := (h.cell (g := g) rfl (k + j) (by omega)).1
  rw [this, List.getElem?_drop]
theorem take_own {I : TypeId} {w : World} {base g : Nat} {c : Nat} {n : Nat} {l : List Int} (h : own I w base (.slice (some ⟨g, 0, none⟩) n c) l) (k : Nat) (hk : k ≤ n) (c' : Nat) : ints w.heap.size w (.slice (some ⟨g, 0, none⟩) k c') (l.take k) := by
  obtain ⟨a, c2, hv⟩ := h.shape
  have hn : n = l.length := by injection hv
  subst hn
  have hl : (l.take k).length = k := by simp; omega
  refine .inr ⟨g, 0, c', by rw [hl], h.blockLt g rfl, h.blockLt g rfl, fun j hj => ?_⟩
  rw [hl] at hj
  have := (h.cell (g := g) rfl j (by omega)).1
  rw [Nat.zero_add, this, List.getElem?_take, if_pos hj]

set_option maxHeartbeats 1000000 in
theorem l1Own_c (v : Value) (l : List Int) (w : World) (hl : ints w.heap.size w v l) (hlen : l.length < 1000000000) :
    Calls Tryd.prog 65 #[v] w fun e w' => ∃ v', e = .returned v' ∧ own 3 w' w.heap.size v' l ∧ Below w.heap.size w w' := by
  have HL := hide (hl.alloc (.cells #[] 3))
  have HE := hide (own_empty 3 w)
  have H0 := hide ((Below.refl w.heap.size w).alloc (Nat.le_refl _) (.cells #[] 3))
  clear hl
  go_enter Tryd.func65, Tryd.ntmps65
  go_wp2_with (at_builtin; refine wpList_appendN sliceT intI rfl _ _ rfl w.heap.size _ [] rfl HE.out v l w.heap.size rfl HL.out (by simp) (by simp; omega) ?_; intro v' w' ho' hb')
  have HO := hide ho'
  have HB := hide (H0.out.trans hb')
  clear ho' hb'
  go_wp2
  go_ret
  exact ⟨_, rfl, by simpa using HO.out, HB.out⟩

/-- n put behind A and ahead of B. -/
def putIn (A B : List Int) (n : Int) : List Int := if B.head? = some n then A ++ B else A ++ n :: B

end Go.Proofs.YtblglkgmnaklbaaDoor
