/- Contracts: the least space that has the sets of both, the specification's and the program's. -/
import Derived.Test.YtblglkgmnaklbaaDoorUn
import Derived.Test.YtblglkgmnaklbaaDoorFo
namespace Go.Proofs.YtblglkgmnaklbaaDoor
open Go.RowKit
set_option maxRecDepth 100000

def usB (n : Int) (la : List Int) (m : Int) (lb : List Int) : Bool := okSp n la && (okSp m lb && decide (n = m))
def usN (n : Int) (la : List Int) (m : Int) (lb : List Int) : Int := if usB n la m lb then n else 0
def usL (n : Int) (la : List Int) (m : Int) (lb : List Int) : List Int := if usB n la m lb then setsTo (prOut la lb la.length) 128 else []
theorem usB_no1 {n m : Int} {la lb : List Int} (h : okSp n la = false) : usB n la m lb = false := by simp [usB, h]
theorem usB_no2 {n m : Int} {la lb : List Int} (h : okSp m lb = false) : usB n la m lb = false := by simp [usB, h]
theorem usB_no3 {n m : Int} {la lb : List Int} (h : ¬ n = m) : usB n la m lb = false := by simp [usB, h]
theorem usB_yes {n m : Int} {la lb : List Int} (h : okSp n la = true) (h2 : okSp m lb = true) (h3 : n = m) : usB n la m lb = true := by subst h3; simp [usB, h, h2]
theorem usN_no {n m : Int} {la lb : List Int} (h : usB n la m lb = false) : usN n la m lb = 0 := by simp [usN, h]
theorem usN_yes {n m : Int} {la lb : List Int} (h : usB n la m lb = true) : usN n la m lb = n := by simp [usN, h]
theorem usL_no {n m : Int} {la lb : List Int} (h : usB n la m lb = false) : usL n la m lb = [] := by simp [usL, h]
theorem usL_yes {n m : Int} {la lb : List Int} (h : usB n la m lb = true) : usL n la m lb = setsTo (prOut la lb la.length) 128 := by simp [usL, h]
theorem usL_len (n m : Int) (la lb : List Int) : (usL n la m lb).length < 1000000000 := by
  unfold usL
  split
  · have := setsTo_len (prOut la lb la.length) 128; omega
  · simp
theorem sets_app_range (F G : Nat → Bool) : ∀ j, j < (setsTo F 128 ++ setsTo G 128).length → 0 ≤ (setsTo F 128 ++ setsTo G 128)[j]?.getD 0 ∧ (setsTo F 128 ++ setsTo G 128)[j]?.getD 0 < 128 := by
  intro j hj
  rcases Nat.lt_or_ge j (setsTo F 128).length with h | h
  · rw [List.getElem?_append_left h]; exact setsTo_range F 128 j h
  · rw [List.getElem?_append_right h]; exact setsTo_range G 128 _ (by simp at hj; omega)
attribute [local irreducible] p2 low memB risB

section
variable {P : Program}
theorem run_appendN {t I : TypeId} (ht : P.underlying t = some (.slice I)) (hI : (P.info? I).map (fun i => (i.zero, i.size, i.bytes)) = some (some (.int .i64 0), 1, 8)) (ty : TypeId) (w : World)
    (base : Nat) (v : Value) (l : List Int) (hown : own I w base v l) (u : Value) (m : List Int) (B : Nat) (hu : ints B w u m) (hbase : base ≤ w.heap.size) (hlen : l.length + m.length < 1000000000) :
    ∃ v' w', (Builtin.append_ #[t, t] ty #[v, u]).run P w = .ok v' w' ∧ own I w' base v' (l ++ m) ∧ Below base w w' := by
  obtain ⟨i0, hi, hz0, hz1, hz2⟩ := info_parts hI
  have key : ∀ (ad : Addr) (c : Nat), u = .slice (some ad) m.length c → (∀ (j : Nat) (y : Value), (m.map (Value.int .i64))[j]? = some y → w.cell? (ad.add j) = some y) → ∃ v' w', (Builtin.append_ #[t, t] ty #[v, u]).run P w = .ok v' w' ∧ own I w' base v' (l ++ m) ∧ Below base w w' := by
    intro ad c hu2 hcells
    subst hu2
    obtain ⟨v', w', hr, hown', hgrow, _⟩ := run_append_own (P := P) w base t ty I i0 (.int .i64 0) 1 8 ht hi hz0 hz1 hz2 rfl (by decide) v l.length _ hown ad m.length c (m.map (Value.int .i64)) (by simp) hcells (by
      intro y hy
      obtain ⟨z, _, rfl⟩ := List.mem_map.1 hy
      rfl) (by unfold maxLen; omega) (by omega) hbase
    refine ⟨v', w', hr, by simpa [own] using hown', hgrow.os, hgrow.tape, hgrow.output, hgrow.size, fun k hk => hgrow.block k (by omega) ?_⟩
    intro e
    have := (World.ownsRow.lt hown k e.symm).1
    omega
  rcases hu with ⟨rfl, ao, c, rfl⟩ | ⟨b, of, c, rfl, h2, h3, h4⟩
  · cases ao with
    | some ad => exact key ad c rfl (fun j y hj => by simp at hj)
    | none =>
      have hr : (Builtin.append_ #[t, t] ty #[v, .slice none 0 c]).run P w = .ok v w := by
        rcases hown.2 with ⟨rfl, h0⟩ | ⟨g, cap, cur, rfl, _, _, hnc, _⟩
        · simp [Builtin.append_, run_underlying ht, sizeOf, typeInfo, hi, Builtin.lenOf, Builtin.firstCells]
        · simp [Builtin.append_, run_underlying ht, sizeOf, typeInfo, hi, Builtin.lenOf, Builtin.firstCells, hnc, storeCells]
      exact ⟨v, w, hr, by simpa using hown, Below.refl _ _⟩
  · refine key ⟨b, of, none⟩ c rfl fun j y hj => ?_
    rw [List.getElem?_map] at hj
    rcases Nat.lt_or_ge j m.length with hlt | hge
    · rw [List.getElem?_eq_getElem hlt] at hj
      simp at hj
      subst hj
      have := h4 j hlt
      rw [List.getElem?_eq_getElem hlt] at this
      rw [add_at]
      simpa using this
    · rw [List.getElem?_eq_none hge] at hj; cases hj
theorem exec_append {t : TypeId} {o : Oper} {a : Act} {w w' : World} {v u v' : Value} (s x : Operand) (ho : o.op = .call { callee := .builtin .append, args := #[s, x], argTypes := #[t, t] }) (hs : a.eval s = v) (hx : a.eval x = u)
    (hr : (Builtin.append_ #[t, t] o.type #[v, u]).run P w = .ok v' w') : (execOp a.eval o).run P w = .ok (.value v') w' := by
  unfold execOp
  simp only [ho, resolve, invoke, builtin, Sem.run_bind, Sem.run_pure, Result.andThen_ok, List.map_toArray, List.map_cons, List.map_nil, hs, hx, hr]
end

theorem ent_setsU : enters Tryd.prog 111 := enters_of Tryd.func111 (by kernel_rfl) (by kernel_rfl)
theorem ent_unionsU : enters Tryd.prog 116 := enters_of Tryd.func116 (by kernel_rfl) (by kernel_rfl)
theorem ent_spaceU : enters Tryd.prog 94 := enters_of Tryd.func94 (by kernel_rfl) (by kernel_rfl)

end Go.Proofs.YtblglkgmnaklbaaDoor
