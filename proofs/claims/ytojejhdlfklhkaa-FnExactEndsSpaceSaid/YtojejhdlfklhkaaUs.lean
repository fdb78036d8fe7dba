/- Contracts: the least space that has the sets of both, the specification's and the program's. -/
import Derived.Test.YtojejhdlfklhkaaUn
import Derived.Test.YtojejhdlfklhkaaRs
namespace Go.Proofs.Ytojejhdlfklhkaa
open Go.RowKit
set_option maxRecDepth 100000

def usB (n : Int) (la : List Int) (m : Int) (lb : List Int) : Bool := okSp n la && (okSp m lb && decide (n = m))
def usN (n : Int) (la : List Int) (m : Int) (lb : List Int) : Int := if usB n la m lb then n else 0
def usL (n : Int) (la : List Int) (m : Int) (lb : List Int) : List Int := if usB n la m lb then setsTo (prOut la lb la.length) 128 else []
theorem usB_no1 {n m : Int} {la lb : List Int} (h : okSp n la = false) : usB n la m lb = false := by simp [usB, h]
theorem usB_no2 {n m : Int} {la lb : List Int} (h : okSp m lb = false) : usB n la m lb = false := by simp [usB, h]
theorem usB_no3 {n m : Int} {la lb : List Int} (h : ¬ n = m) : usB n la m lb = false := by simp [usB, h]
theorem usB_yes {n m : Int} {la lb : List Int} (h : okSp n la = true) (h2 : okSp m lb = true) (h3 : n = m) : usB n la m lb = true := by subst h3; simp [usB, h, h2]
theorem usN_no {n m : Int} {la lb : List Int} (h : usB n la m lb = false) : usN n la m lb = 0 := by simp [usN, h]
theorem usN_yes {n m : Int} {la lb : List Int} (h : usB n la m lb = true) : usN n la m lb = n := by simp [usN, h]
theorem usL_no {n m : Int} {la lb : List Int} (h : usB n la m lb = false) : usL n la m lb = [] := by simp [usL, h]
theorem usL_yes {n m : Int} {la lb : List Int} (h : usB n la m lb = true) : usL n la m lb = setsTo (prOut la lb la.length) 128 := by simp [usL, h]
theorem usL_len (n m : Int) (la lb : List Int) : (usL n la m lb).length < 1000000000 := by
  unfold usL
  split
  · have := setsTo_len (prOut la lb la.length) 128; omega
  · simp
theorem sets_app_range (F G : Nat → Bool) : ∀ j, j < (setsTo F 128 ++ setsTo G 128).length → 0 ≤ (setsTo F 128 ++ setsTo G 128)[j]?.getD 0 ∧ (setsTo F 128 ++ setsTo G 128)[j]?.getD 0 < 128 := by
  intro j hj
  rcases Nat.lt_or_ge j (setsTo F 128).length with h | h
  · rw [List.getElem?_append_left h]; exact setsTo_range F 128 j h
  · rw [List.getElem?_append_right h]; exact setsTo_range G 128 _ (by simp at hj; omega)
attribute [local irreducible] p2 low memB risB

section
variable {P : Program}
theorem run_appendN {t I : TypeId} (ht : P.underlying t = some (.slice I)) (hI : (P.info? I).map (fun i => (i.zero, i.size, i.bytes)) = some (some (.int .i64 0), 1, 8)) (ty : TypeId) (w : World)
    (base : Nat) (v : Value) (l : List Int) (hown : own I w base v l) (u : Value) (m : List Int) (B : Nat) (hu : ints B w u m) (hbase : base ≤ w.heap.size) (hlen : l.length + m.length < 1000000000) :
    ∃ v' w', (Builtin.append_ #[t, t] ty #[v, u]).run P w = .ok v' w' ∧ own I w' base v' (l ++ m) ∧ Below base w w' := by
  obtain ⟨i0, hi, hz0, hz1, hz2⟩ := info_parts hI
  have key : ∀ (ad : Addr) (c : Nat), u = .slice (some ad) m.length c → (∀ (j : Nat) (y : Value), (m.map (Value.int .i64))[j]? = some y → w.cell? (ad.add j) = some y) → ∃ v' w', (Builtin.append_ #[t, t] ty #[v, u]).run P w = .ok v' w' ∧ own I w' base v' (l ++ m) ∧ Below base w w' := by
    intro ad c hu2 hcells
    subst hu2
    obtain ⟨v', w', hr, hown', hgrow, _⟩ := run_append_own (P := P) w base t ty I i0 (.int .i64 0) 1 8 ht hi hz0 hz1 hz2 rfl (by decide) v l.length _ hown ad m.length c (m.map (Value.int .i64)) (by simp) hcells (by
      intro y hy
      obtain ⟨z, _, rfl⟩ := List.mem_map.1 hy
      rfl) (by unfold maxLen; omega) (by omega) hbase
    refine ⟨v', w', hr, by simpa [own] using hown', hgrow.os, hgrow.tape, hgrow.output, hgrow.size, fun k hk => hgrow.block k (by omega) ?_⟩
    intro e
    have := (World.ownsRow.lt hown k e.symm).1
    omega
  rcases hu with ⟨rfl, ao, c, rfl⟩ | ⟨b, of, c, rfl, h2, h3, h4⟩
  · cases ao with
    | some ad => exact key ad c rfl (fun j y hj => by simp at hj)
    | none =>
      have hr : (Builtin.append_ #[t, t] ty #[v, .slice none 0 c]).run P w = .ok v w := by
        rcases hown.2 with ⟨rfl, h0⟩ | ⟨g, cap, cur, rfl, _, _, hnc, _⟩
        · simp [Builtin.append_, run_underlying ht, sizeOf, typeInfo, hi, Builtin.lenOf, Builtin.firstCells]
        · simp [Builtin.append_, run_underlying ht, sizeOf, typeInfo, hi, Builtin.lenOf, Builtin.firstCells, hnc, storeCells]
      exact ⟨v, w, hr, by simpa using hown, Below.refl _ _⟩
  · refine key ⟨b, of, none⟩ c rfl fun j y hj => ?_
    rw [List.getElem?_map] at hj
    rcases Nat.lt_or_ge j m.length with hlt | hge
    · rw [List.getElem?_eq_getElem hlt] at hj
      simp at hj
      subst hj
      have := h4 j hlt
      rw [List.getElem?_eq_getElem hlt] at this
      rw [add_at]
      simpa using this
    · rw [List.getElem?_eq_none hge] at hj; cases hj
theorem exec_append {t : TypeId} {o : Oper} {a : Act} {w w' : World} {v u v' : Value} (s x : Operand) (ho : o.op = .call { callee := .builtin .append, args := #[s, x], argTypes := #[t, t] }) (hs : a.eval s = v) (hx : a.eval x = u)
    (hr : (Builtin.append_ #[t, t] o.type #[v, u]).run P w = .ok v' w') : (execOp a.eval o).run P w = .ok (.value v') w' := by
  unfold execOp
  simp only [ho, resolve, invoke, builtin, Sem.run_bind, Sem.run_pure, Result.andThen_ok, List.map_toArray, List.map_cons, List.map_nil, hs, hx, hr]
end

theorem ent_setsU : enters Try.prog 42 := enters_of Try.func42 (by kernel_rfl) (by kernel_rfl)
theorem ent_unionsU : enters Try.prog 41 := enters_of Try.func41 (by kernel_rfl) (by kernel_rfl)
theorem ent_spaceU : enters Try.prog 39 := enters_of Try.func39 (by kernel_rfl) (by kernel_rfl)

set_option maxHeartbeats 3000000 in
theorem implUnionSpaces_c (n : Int) (v : Value) (la : List Int) (m : Int) (u : Value) (lb : List Int) (w : World) (hl : ints w.heap.size w v la) (hlen : la.length < 1000000000) (hm : ints w.heap.size w u lb) (hml : lb.length < 1000000000) :
    Calls Try.prog 27 #[.agg #[.int .i64 n, v], .agg #[.int .i64 m, u]] w fun e w' => ∃ v', e = .returned (.tuple #[.agg #[.int .i64 (usN n la m lb), v'], .bool (usB n la m lb)]) ∧ own 3 w' w.heap.size v' (usL n la m lb) ∧ Below w.heap.size w w' := by
  have ha0 : (((w.alloc (.cells #[.int .i64 n, v] 29)).alloc (.cells #[.int .i64 m, u] 29)).alloc (.cells #[.int .i64 0, .slice none 0 0] 29)).heap[w.heap.size]? = some (.cells #[.int .i64 n, v] 29) := (hp_old _ _ _ (by simp; omega)).trans ((hp_old _ _ _ (by simp)).trans (hp_last _ _))
  have hb0 : (((w.alloc (.cells #[.int .i64 n, v] 29)).alloc (.cells #[.int .i64 m, u] 29)).alloc (.cells #[.int .i64 0, .slice none 0 0] 29)).heap[w.heap.size + 1]? = some (.cells #[.int .i64 m, u] 29) := (hp_old _ _ _ (by simp)).trans (by have := hp_last (w.alloc (.cells #[.int .i64 n, v] 29)) (.cells #[.int .i64 m, u] 29); simpa using this)
  have hr0 : (((w.alloc (.cells #[.int .i64 n, v] 29)).alloc (.cells #[.int .i64 m, u] 29)).alloc (.cells #[.int .i64 0, .slice none 0 0] 29)).heap[w.heap.size + 2]? = some (.cells #[.int .i64 0, .slice none 0 0] 29) := by have := hp_last ((w.alloc (.cells #[.int .i64 n, v] 29)).alloc (.cells #[.int .i64 m, u] 29)) (.cells #[.int .i64 0, .slice none 0 0] 29); simpa using this
  have H0 := hide ((((Below.refl w.heap.size w).alloc (Nat.le_refl _) (.cells #[.int .i64 n, v] 29)).alloc (by simp) (.cells #[.int .i64 m, u] 29)).alloc (by simp; omega) (.cells #[.int .i64 0, .slice none 0 0] 29))
  have HL0 := hide (((hl.alloc (.cells #[.int .i64 n, v] 29)).alloc (.cells #[.int .i64 m, u] 29)).alloc (.cells #[.int .i64 0, .slice none 0 0] 29))
  have HM0 := hide (((hm.alloc (.cells #[.int .i64 n, v] 29)).alloc (.cells #[.int .i64 m, u] 29)).alloc (.cells #[.int .i64 0, .slice none 0 0] 29))
  have hz0 : (((w.alloc (.cells #[.int .i64 n, v] 29)).alloc (.cells #[.int .i64 m, u] 29)).alloc (.cells #[.int .i64 0, .slice none 0 0] 29)).heap.size = w.heap.size + 3 := by simp
  have HA0 := hide ha0
  have HBX0 := hide hb0
  have HR0 := hide hr0
  have HZ0 := hide hz0
  clear hl hm ha0 hb0 hr0 hz0
  have hFA : famVal n la = .tuple #[.agg (fam (famN n la) (famM n la)), .bool (okSp n la)] := rfl
  have hFB : famVal m lb = .tuple #[.agg (fam (famN m lb) (famM m lb)), .bool (okSp m lb)] := rfl
  have HNA := hide (fun (h : okSp n la = true) => show famN n la = n ∧ famM n la = marksTo la la.length from ⟨by simp [famN, h], by simp [famM, h]⟩)
  have HNB := hide (fun (h : okSp m lb = true) => show famN m lb = m ∧ famM m lb = marksTo lb lb.length from ⟨by simp [famN, h], by simp [famM, h]⟩)
  generalize famN n la = N1 at hFA HNA
  generalize famM n la = M1 at hFA HNA
  generalize famN m lb = N2 at hFB HNB
  generalize famM m lb = M2 at hFB HNB
  have HFA := hide hFA
  have HFB := hide hFB
  clear hFA hFB
  have key : ∀ (A B C : Bool), okSp n la = A → okSp m lb = B → (N1 != N2) = C → (A && (B && !C)) = false →
      Calls Try.prog 27 #[.agg #[.int .i64 n, v], .agg #[.int .i64 m, u]] w fun e w' => ∃ v', e = .returned (.tuple #[.agg #[.int .i64 0, v'], .bool false]) ∧ own 3 w' w.heap.size v' [] ∧ Below w.heap.size w w' := by
    intro A B C hA hB hC hABC
    have HA := hide hA
    have HBB := hide hB
    clear hA hB
    cases A
    · go_enter Try.func27, Try.ntmps27
      go_wp2_with (refine wpList_alloc_fam zeroT rfl rfl _ (by first | (simp only [World.size_alloc]; rfl) | rfl) ?_)
      refine (familyOf_c n v la _ (HL0.out.mono (by rw [HZ0.out]; omega)) hlen).mono ?_
      rw [HFA.out, HA.out]
      rintro e w1 ⟨rfl, hb1⟩
      have hz1 : w.heap.size + 3 ≤ w1.heap.size := by have := hb1.size; rw [HZ0.out] at this; exact this
      have hn1 : w1.heap.size ≠ w.heap.size + 1 := by omega
      have hbx1 : ((w1.alloc (.cells (fam 0 noSet) 53)).setRow w1.heap.size (fam N1 M1)).heap[w.heap.size + 1]? = some (.cells #[.int .i64 m, u] 29) := (hp_rowO _ _ _ _ (by omega)).trans ((hp_old _ _ _ (by omega)).trans ((hb1.block (w.heap.size + 1) (by rw [HZ0.out]; omega)).trans HBX0.out))
      have hr1 : ((w1.alloc (.cells (fam 0 noSet) 53)).setRow w1.heap.size (fam N1 M1)).heap[w.heap.size + 2]? = some (.cells #[.int .i64 0, .slice none 0 0] 29) := (hp_rowO _ _ _ _ (by omega)).trans ((hp_old _ _ _ (by omega)).trans ((hb1.block (w.heap.size + 2) (by rw [HZ0.out]; omega)).trans HR0.out))
      have b0 := cells_at0 hbx1
      have b1 := cells_at1 hbx1
      have HR1 := hide hr1
      have HFA1 := hide ((famAt.new 53 w1 0 noSet).row N1 M1)
      have HZA := hide (show ((w1.alloc (.cells (fam 0 noSet) 53)).setRow w1.heap.size (fam N1 M1)).heap.size = w1.heap.size + 1 by simp [World.setRow])
      have HB1 := hide (bl_row ((H0.out.trans (hb1.mono (by rw [HZ0.out]; omega))).alloc (by omega) (.cells (fam 0 noSet) 53)) (show w.heap.size ≤ w1.heap.size by omega) (fam N1 M1))
      have HM1 := hide ((HM0.out.below hb1 (by rw [HZ0.out]; omega)).below (bl_row ((Below.refl w1.heap.size w1).alloc (Nat.le_refl _) (.cells (fam 0 noSet) 53)) (Nat.le_refl _) (fam N1 M1)) (by omega))
      have HZ1 := hide hz1
      clear hb1 hbx1 hr1 hn1
      go_wp2_with (first
        | (refine wpList_alloc_fam zeroT rfl rfl _ (by first | (simp only [World.size_alloc]; rfl) | rfl) ?_)
        | (refine wpList_store_fam sizeT rfl (.tmp _) (.tmp _) rfl _ _ _ rfl rfl _ _ (famAt.new _ _ _ _) ?_))
      refine (familyOf_c m u lb _ (HM1.out.mono (by rw [HZA.out]; have := HZ1.out; omega)) hml).mono ?_
      rw [HFB.out, HBB.out]
      rintro e w2 ⟨rfl, hb2⟩
      have hz2 : w1.heap.size + 1 ≤ w2.heap.size := by have := hb2.size; rw [HZA.out] at this; exact this
      have hr2 : ((w2.alloc (.cells (fam 0 noSet) 53)).setRow w2.heap.size (fam N2 M2)).heap[w.heap.size + 2]? = some (.cells #[.int .i64 0, .slice none 0 0] 29) := (hp_rowO _ _ _ _ (by omega)).trans ((hp_old _ _ _ (by omega)).trans ((hb2.block (w.heap.size + 2) (by rw [HZA.out]; omega)).trans HR1.out))
      have hfa2 : famAt 53 ((w2.alloc (.cells (fam 0 noSet) 53)).setRow w2.heap.size (fam N2 M2)) w1.heap.size N1 M1 := (hp_rowO _ _ _ _ (by omega)).trans ((hp_old _ _ _ (by omega)).trans ((hb2.block w1.heap.size (by rw [HZA.out]; omega)).trans HFA1.out))
      have hfb2 : famAt 53 ((w2.alloc (.cells (fam 0 noSet) 53)).setRow w2.heap.size (fam N2 M2)) w2.heap.size N2 M2 := (famAt.new 53 w2 0 noSet).row N2 M2
      have g1 := hfa2.get0
      have g2 := hfb2.get0
      clear b0 b1
      obtain ⟨q0, q1, q2, q3⟩ := zero_slots hr2
      have HR4 := hide hr2
      have HFA4 := hide hfa2
      have HFB4 := hide hfb2
      have HZX := hide (show ((w2.alloc (.cells (fam 0 noSet) 53)).setRow w2.heap.size (fam N2 M2)).heap.size = w2.heap.size + 1 by simp [World.setRow])
      have HB4 := hide (bl_row ((HB1.out.trans (hb2.mono (by rw [HZA.out]; omega))).alloc (by omega) (.cells (fam 0 noSet) 53)) (show w.heap.size ≤ w2.heap.size by omega) (fam N2 M2))
      have HZ4 := hide (show w.heap.size + 4 ≤ w2.heap.size by omega)
      clear hb2 hr2 hfa2 hfb2 hz2 hz1
      go_wp2_with (first
        | (refine wpList_alloc_fam zeroT rfl rfl _ (by first | (simp only [World.size_alloc]; rfl) | rfl) ?_)
        | (refine wpList_store_fam sizeT rfl (.tmp _) (.tmp _) rfl _ _ _ rfl rfl _ _ (famAt.new _ _ _ _) ?_))
      go_wp2
      refine bodyPost_ret (v := .tuple #[.agg #[.int .i64 0, .slice none 0 0], .bool false]) (by simp [results, Try.results27, go_sem, q0, q1]) rfl ⟨_, rfl, own_nil _ _ _, ?_⟩
      exact (HB4.out.setCell (by show w.heap.size ≤ w.heap.size + 2; omega) _).setCell (by show w.heap.size ≤ w.heap.size + 2; omega) _
    · cases B
      · go_enter Try.func27, Try.ntmps27
        go_wp2_with (refine wpList_alloc_fam zeroT rfl rfl _ (by first | (simp only [World.size_alloc]; rfl) | rfl) ?_)
        refine (familyOf_c n v la _ (HL0.out.mono (by rw [HZ0.out]; omega)) hlen).mono ?_
        rw [HFA.out, HA.out]
        rintro e w1 ⟨rfl, hb1⟩
        have hz1 : w.heap.size + 3 ≤ w1.heap.size := by have := hb1.size; rw [HZ0.out] at this; exact this
        have hn1 : w1.heap.size ≠ w.heap.size + 1 := by omega
        have hbx1 : ((w1.alloc (.cells (fam 0 noSet) 53)).setRow w1.heap.size (fam N1 M1)).heap[w.heap.size + 1]? = some (.cells #[.int .i64 m, u] 29) := (hp_rowO _ _ _ _ (by omega)).trans ((hp_old _ _ _ (by omega)).trans ((hb1.block (w.heap.size + 1) (by rw [HZ0.out]; omega)).trans HBX0.out))
        have hr1 : ((w1.alloc (.cells (fam 0 noSet) 53)).setRow w1.heap.size (fam N1 M1)).heap[w.heap.size + 2]? = some (.cells #[.int .i64 0, .slice none 0 0] 29) := (hp_rowO _ _ _ _ (by omega)).trans ((hp_old _ _ _ (by omega)).trans ((hb1.block (w.heap.size + 2) (by rw [HZ0.out]; omega)).trans HR0.out))
        have b0 := cells_at0 hbx1
        have b1 := cells_at1 hbx1
        have HR1 := hide hr1
        have HFA1 := hide ((famAt.new 53 w1 0 noSet).row N1 M1)
        have HZA := hide (show ((w1.alloc (.cells (fam 0 noSet) 53)).setRow w1.heap.size (fam N1 M1)).heap.size = w1.heap.size + 1 by simp [World.setRow])
        have HB1 := hide (bl_row ((H0.out.trans (hb1.mono (by rw [HZ0.out]; omega))).alloc (by omega) (.cells (fam 0 noSet) 53)) (show w.heap.size ≤ w1.heap.size by omega) (fam N1 M1))
        have HM1 := hide ((HM0.out.below hb1 (by rw [HZ0.out]; omega)).below (bl_row ((Below.refl w1.heap.size w1).alloc (Nat.le_refl _) (.cells (fam 0 noSet) 53)) (Nat.le_refl _) (fam N1 M1)) (by omega))
        have HZ1 := hide hz1
        clear hb1 hbx1 hr1 hn1
        go_wp2_with (first
          | (refine wpList_alloc_fam zeroT rfl rfl _ (by first | (simp only [World.size_alloc]; rfl) | rfl) ?_)
          | (refine wpList_store_fam sizeT rfl (.tmp _) (.tmp _) rfl _ _ _ rfl rfl _ _ (famAt.new _ _ _ _) ?_))
        refine (familyOf_c m u lb _ (HM1.out.mono (by rw [HZA.out]; have := HZ1.out; omega)) hml).mono ?_
        rw [HFB.out, HBB.out]
        rintro e w2 ⟨rfl, hb2⟩
        have hz2 : w1.heap.size + 1 ≤ w2.heap.size := by have := hb2.size; rw [HZA.out] at this; exact this
        have hr2 : ((w2.alloc (.cells (fam 0 noSet) 53)).setRow w2.heap.size (fam N2 M2)).heap[w.heap.size + 2]? = some (.cells #[.int .i64 0, .slice none 0 0] 29) := (hp_rowO _ _ _ _ (by omega)).trans ((hp_old _ _ _ (by omega)).trans ((hb2.block (w.heap.size + 2) (by rw [HZA.out]; omega)).trans HR1.out))
        have hfa2 : famAt 53 ((w2.alloc (.cells (fam 0 noSet) 53)).setRow w2.heap.size (fam N2 M2)) w1.heap.size N1 M1 := (hp_rowO _ _ _ _ (by omega)).trans ((hp_old _ _ _ (by omega)).trans ((hb2.block w1.heap.size (by rw [HZA.out]; omega)).trans HFA1.out))
        have hfb2 : famAt 53 ((w2.alloc (.cells (fam 0 noSet) 53)).setRow w2.heap.size (fam N2 M2)) w2.heap.size N2 M2 := (famAt.new 53 w2 0 noSet).row N2 M2
        have g1 := hfa2.get0
        have g2 := hfb2.get0
        clear b0 b1
        obtain ⟨q0, q1, q2, q3⟩ := zero_slots hr2
        have HR4 := hide hr2
        have HFA4 := hide hfa2
        have HFB4 := hide hfb2
        have HZX := hide (show ((w2.alloc (.cells (fam 0 noSet) 53)).setRow w2.heap.size (fam N2 M2)).heap.size = w2.heap.size + 1 by simp [World.setRow])
        have HB4 := hide (bl_row ((HB1.out.trans (hb2.mono (by rw [HZA.out]; omega))).alloc (by omega) (.cells (fam 0 noSet) 53)) (show w.heap.size ≤ w2.heap.size by omega) (fam N2 M2))
        have HZ4 := hide (show w.heap.size + 4 ≤ w2.heap.size by omega)
        clear hb2 hr2 hfa2 hfb2 hz2 hz1
        go_wp2_with (first
          | (refine wpList_alloc_fam zeroT rfl rfl _ (by first | (simp only [World.size_alloc]; rfl) | rfl) ?_)
          | (refine wpList_store_fam sizeT rfl (.tmp _) (.tmp _) rfl _ _ _ rfl rfl _ _ (famAt.new _ _ _ _) ?_))
        go_wp2
        refine bodyPost_ret (v := .tuple #[.agg #[.int .i64 0, .slice none 0 0], .bool false]) (by simp [results, Try.results27, go_sem, q0, q1]) rfl ⟨_, rfl, own_nil _ _ _, ?_⟩
        exact (HB4.out.setCell (by show w.heap.size ≤ w.heap.size + 2; omega) _).setCell (by show w.heap.size ≤ w.heap.size + 2; omega) _
      · cases C
        · cases hABC
        · go_enter Try.func27, Try.ntmps27
          go_wp2_with (refine wpList_alloc_fam zeroT rfl rfl _ (by first | (simp only [World.size_alloc]; rfl) | rfl) ?_)
          refine (familyOf_c n v la _ (HL0.out.mono (by rw [HZ0.out]; omega)) hlen).mono ?_
          rw [HFA.out, HA.out]
          rintro e w1 ⟨rfl, hb1⟩
          have hz1 : w.heap.size + 3 ≤ w1.heap.size := by have := hb1.size; rw [HZ0.out] at this; exact this
          have hn1 : w1.heap.size ≠ w.heap.size + 1 := by omega
          have hbx1 : ((w1.alloc (.cells (fam 0 noSet) 53)).setRow w1.heap.size (fam N1 M1)).heap[w.heap.size + 1]? = some (.cells #[.int .i64 m, u] 29) := (hp_rowO _ _ _ _ (by omega)).trans ((hp_old _ _ _ (by omega)).trans ((hb1.block (w.heap.size + 1) (by rw [HZ0.out]; omega)).trans HBX0.out))
          have hr1 : ((w1.alloc (.cells (fam 0 noSet) 53)).setRow w1.heap.size (fam N1 M1)).heap[w.heap.size + 2]? = some (.cells #[.int .i64 0, .slice none 0 0] 29) := (hp_rowO _ _ _ _ (by omega)).trans ((hp_old _ _ _ (by omega)).trans ((hb1.block (w.heap.size + 2) (by rw [HZ0.out]; omega)).trans HR0.out))
          have b0 := cells_at0 hbx1
          have b1 := cells_at1 hbx1
          have HR1 := hide hr1
          have HFA1 := hide ((famAt.new 53 w1 0 noSet).row N1 M1)
          have HZA := hide (show ((w1.alloc (.cells (fam 0 noSet) 53)).setRow w1.heap.size (fam N1 M1)).heap.size = w1.heap.size + 1 by simp [World.setRow])
          have HB1 := hide (bl_row ((H0.out.trans (hb1.mono (by rw [HZ0.out]; omega))).alloc (by omega) (.cells (fam 0 noSet) 53)) (show w.heap.size ≤ w1.heap.size by omega) (fam N1 M1))
          have HM1 := hide ((HM0.out.below hb1 (by rw [HZ0.out]; omega)).below (bl_row ((Below.refl w1.heap.size w1).alloc (Nat.le_refl _) (.cells (fam 0 noSet) 53)) (Nat.le_refl _) (fam N1 M1)) (by omega))
          have HZ1 := hide hz1
          clear hb1 hbx1 hr1 hn1
          go_wp2_with (first
            | (refine wpList_alloc_fam zeroT rfl rfl _ (by first | (simp only [World.size_alloc]; rfl) | rfl) ?_)
            | (refine wpList_store_fam sizeT rfl (.tmp _) (.tmp _) rfl _ _ _ rfl rfl _ _ (famAt.new _ _ _ _) ?_))
          refine (familyOf_c m u lb _ (HM1.out.mono (by rw [HZA.out]; have := HZ1.out; omega)) hml).mono ?_
          rw [HFB.out, HBB.out]
          rintro e w2 ⟨rfl, hb2⟩
          have hz2 : w1.heap.size + 1 ≤ w2.heap.size := by have := hb2.size; rw [HZA.out] at this; exact this
          have hr2 : ((w2.alloc (.cells (fam 0 noSet) 53)).setRow w2.heap.size (fam N2 M2)).heap[w.heap.size + 2]? = some (.cells #[.int .i64 0, .slice none 0 0] 29) := (hp_rowO _ _ _ _ (by omega)).trans ((hp_old _ _ _ (by omega)).trans ((hb2.block (w.heap.size + 2) (by rw [HZA.out]; omega)).trans HR1.out))
          have hfa2 : famAt 53 ((w2.alloc (.cells (fam 0 noSet) 53)).setRow w2.heap.size (fam N2 M2)) w1.heap.size N1 M1 := (hp_rowO _ _ _ _ (by omega)).trans ((hp_old _ _ _ (by omega)).trans ((hb2.block w1.heap.size (by rw [HZA.out]; omega)).trans HFA1.out))
          have hfb2 : famAt 53 ((w2.alloc (.cells (fam 0 noSet) 53)).setRow w2.heap.size (fam N2 M2)) w2.heap.size N2 M2 := (famAt.new 53 w2 0 noSet).row N2 M2
          have g1 := hfa2.get0
          have g2 := hfb2.get0
          clear b0 b1
          obtain ⟨q0, q1, q2, q3⟩ := zero_slots hr2
          have HR4 := hide hr2
          have HFA4 := hide hfa2
          have HFB4 := hide hfb2
          have HZX := hide (show ((w2.alloc (.cells (fam 0 noSet) 53)).setRow w2.heap.size (fam N2 M2)).heap.size = w2.heap.size + 1 by simp [World.setRow])
          have HB4 := hide (bl_row ((HB1.out.trans (hb2.mono (by rw [HZA.out]; omega))).alloc (by omega) (.cells (fam 0 noSet) 53)) (show w.heap.size ≤ w2.heap.size by omega) (fam N2 M2))
          have HZ4 := hide (show w.heap.size + 4 ≤ w2.heap.size by omega)
          clear hb2 hr2 hfa2 hfb2 hz2 hz1
          go_wp2_with (first
            | (refine wpList_alloc_fam zeroT rfl rfl _ (by first | (simp only [World.size_alloc]; rfl) | rfl) ?_)
            | (refine wpList_store_fam sizeT rfl (.tmp _) (.tmp _) rfl _ _ _ rfl rfl _ _ (famAt.new _ _ _ _) ?_))
          go_wp2
          refine bodyPost_ret (v := .tuple #[.agg #[.int .i64 0, .slice none 0 0], .bool false]) (by simp [results, Try.results27, go_sem, q0, q1]) rfl ⟨_, rfl, own_nil _ _ _, ?_⟩
          exact (HB4.out.setCell (by show w.heap.size ≤ w.heap.size + 2; omega) _).setCell (by show w.heap.size ≤ w.heap.size + 2; omega) _
  cases hok : usB n la m lb
  · rw [usN_no hok, usL_no hok]
    refine key _ _ _ rfl rfl rfl ?_
    cases h1 : okSp n la
    · rfl
    · cases h2 : okSp m lb
      · rfl
      · have hne : ¬ n = m := by
          intro e
          rw [usB_yes h1 h2 e] at hok
          cases hok
        rw [(HNA.out h1).1, (HNB.out h2).1]
        have : (n != m) = true := by simpa using hne
        rw [this]; rfl
  · have hall := hok
    simp only [usB, Bool.and_eq_true, decide_eq_true_eq] at hall
    obtain ⟨h1, h2, h3⟩ := hall
    rw [usN_yes hok, usL_yes hok]
    have HA := hide h1
    have HBB := hide h2
    obtain ⟨e1, e2⟩ := HNA.out h1
    obtain ⟨e3, e4⟩ := HNB.out h2
    have HU := hide (both_same h1 (show okSp n lb = true by rw [h3]; exact h2))
    rw [← e2, ← e4] at HU
    have hnn : (N1 != N2) = false := by rw [e1, e3, h3]; simp
    have HE1 := hide e1
    have HRG := hide (sets_app_range M1 M2)
    have HLN := hide (show (setsTo M1 128 ++ setsTo M2 128).length < 1000000000 by have := setsTo_len M1 128; have := setsTo_len M2 128; simp; omega)
    clear key hok h1 h2 h3 e1 e2 e3 e4 HNA HNB
    go_enter Try.func27, Try.ntmps27
    go_wp2_with (refine wpList_alloc_fam zeroT rfl rfl _ (by first | (simp only [World.size_alloc]; rfl) | rfl) ?_)
    refine (familyOf_c n v la _ (HL0.out.mono (by rw [HZ0.out]; omega)) hlen).mono ?_
    rw [HFA.out, HA.out]
    rintro e w1 ⟨rfl, hb1⟩
    have hz1 : w.heap.size + 3 ≤ w1.heap.size := by have := hb1.size; rw [HZ0.out] at this; exact this
    have hn1 : w1.heap.size ≠ w.heap.size + 1 := by omega
    have hbx1 : ((w1.alloc (.cells (fam 0 noSet) 53)).setRow w1.heap.size (fam N1 M1)).heap[w.heap.size + 1]? = some (.cells #[.int .i64 m, u] 29) := (hp_rowO _ _ _ _ (by omega)).trans ((hp_old _ _ _ (by omega)).trans ((hb1.block (w.heap.size + 1) (by rw [HZ0.out]; omega)).trans HBX0.out))
    have hr1 : ((w1.alloc (.cells (fam 0 noSet) 53)).setRow w1.heap.size (fam N1 M1)).heap[w.heap.size + 2]? = some (.cells #[.int .i64 0, .slice none 0 0] 29) := (hp_rowO _ _ _ _ (by omega)).trans ((hp_old _ _ _ (by omega)).trans ((hb1.block (w.heap.size + 2) (by rw [HZ0.out]; omega)).trans HR0.out))
    have b0 := cells_at0 hbx1
    have b1 := cells_at1 hbx1
    have HR1 := hide hr1
    have HFA1 := hide ((famAt.new 53 w1 0 noSet).row N1 M1)
    have HZA := hide (show ((w1.alloc (.cells (fam 0 noSet) 53)).setRow w1.heap.size (fam N1 M1)).heap.size = w1.heap.size + 1 by simp [World.setRow])
    have HB1 := hide (bl_row ((H0.out.trans (hb1.mono (by rw [HZ0.out]; omega))).alloc (by omega) (.cells (fam 0 noSet) 53)) (show w.heap.size ≤ w1.heap.size by omega) (fam N1 M1))
    have HM1 := hide ((HM0.out.below hb1 (by rw [HZ0.out]; omega)).below (bl_row ((Below.refl w1.heap.size w1).alloc (Nat.le_refl _) (.cells (fam 0 noSet) 53)) (Nat.le_refl _) (fam N1 M1)) (by omega))
    have HZ1 := hide hz1
    clear hb1 hbx1 hr1 hn1
    go_wp2_with (first
      | (refine wpList_alloc_fam zeroT rfl rfl _ (by first | (simp only [World.size_alloc]; rfl) | rfl) ?_)
      | (refine wpList_store_fam sizeT rfl (.tmp _) (.tmp _) rfl _ _ _ rfl rfl _ _ (famAt.new _ _ _ _) ?_))
    refine (familyOf_c m u lb _ (HM1.out.mono (by rw [HZA.out]; have := HZ1.out; omega)) hml).mono ?_
    rw [HFB.out, HBB.out]
    rintro e w2 ⟨rfl, hb2⟩
    have hz2 : w1.heap.size + 1 ≤ w2.heap.size := by have := hb2.size; rw [HZA.out] at this; exact this
    have hr2 : ((w2.alloc (.cells (fam 0 noSet) 53)).setRow w2.heap.size (fam N2 M2)).heap[w.heap.size + 2]? = some (.cells #[.int .i64 0, .slice none 0 0] 29) := (hp_rowO _ _ _ _ (by omega)).trans ((hp_old _ _ _ (by omega)).trans ((hb2.block (w.heap.size + 2) (by rw [HZA.out]; omega)).trans HR1.out))
    have hfa2 : famAt 53 ((w2.alloc (.cells (fam 0 noSet) 53)).setRow w2.heap.size (fam N2 M2)) w1.heap.size N1 M1 := (hp_rowO _ _ _ _ (by omega)).trans ((hp_old _ _ _ (by omega)).trans ((hb2.block w1.heap.size (by rw [HZA.out]; omega)).trans HFA1.out))
    have hfb2 : famAt 53 ((w2.alloc (.cells (fam 0 noSet) 53)).setRow w2.heap.size (fam N2 M2)) w2.heap.size N2 M2 := (famAt.new 53 w2 0 noSet).row N2 M2
    have g1 := hfa2.get0
    have g2 := hfb2.get0
    clear b0 b1
    obtain ⟨q0, q1, q2, q3⟩ := zero_slots hr2
    have HR4 := hide hr2
    have HFA4 := hide hfa2
    have HFB4 := hide hfb2
    have HZX := hide (show ((w2.alloc (.cells (fam 0 noSet) 53)).setRow w2.heap.size (fam N2 M2)).heap.size = w2.heap.size + 1 by simp [World.setRow])
    have HB4 := hide (bl_row ((HB1.out.trans (hb2.mono (by rw [HZA.out]; omega))).alloc (by omega) (.cells (fam 0 noSet) 53)) (show w.heap.size ≤ w2.heap.size by omega) (fam N2 M2))
    have HZ4 := hide (show w.heap.size + 4 ≤ w2.heap.size by omega)
    clear hb2 hr2 hfa2 hfb2 hz2 hz1
    go_wp2_with (first
      | (refine wpList_alloc_fam zeroT rfl rfl _ (by first | (simp only [World.size_alloc]; rfl) | rfl) ?_)
      | (refine wpList_store_fam sizeT rfl (.tmp _) (.tmp _) rfl _ _ _ rfl rfl _ _ (famAt.new _ _ _ _) ?_))
    go_wp2
    refine wp_region_held (S := fun w' => famAt 53 w' w1.heap.size N1 M1 ∧ famAt 53 w' w2.heap.size N2 M2) (by kernel_rfl) ?_
    have hS : famAt 53 ((w2.alloc (.cells (fam 0 noSet) 53)).setRow w2.heap.size (fam N2 M2)).drew w1.heap.size N1 M1 ∧ famAt 53 ((w2.alloc (.cells (fam 0 noSet) 53)).setRow w2.heap.size (fam N2 M2)).drew w2.heap.size N2 M2 := ⟨HFA4.out, HFB4.out⟩
    refine wpAnyH_take (i := 0) (v := .pointer (some ⟨w1.heap.size, 0, none⟩)) rfl (by kernel_rfl) (by kernel_rfl) (by kernel_rfl) (fun _ _ _ h => h) (.inl ⟨rfl, fun w' _ => by go_simp⟩) hS ?_
    refine wpAnyH_take (i := 2) rfl (by kernel_rfl) (by kernel_rfl) (by kernel_rfl) (fun _ _ _ h => h) (yields_load_fam rowT sizeT rfl (.tmp _) rfl _ rfl N1 M1 (fun w' h => h.1)) hS ?_
    refine wpAnyH_take (i := 4) rfl (by kernel_rfl) (by kernel_rfl) (by kernel_rfl) (fun _ _ _ h => h) (yields_load_fam rowT sizeT rfl (.tmp _) rfl _ rfl N2 M2 (fun w' h => h.2)) hS ?_
    refine wpAnyH_take (i := 1) rfl (by kernel_rfl) (by kernel_rfl) (by kernel_rfl) (fun _ _ _ h => h) (yields_load_cell rowI rfl (.tmp _) rfl ⟨w1.heap.size, 0, none⟩ rfl (.int .i64 N1) (fun w' h => h.1.get0)) hS ?_
    simp only [Act.put, List.getElem_toArray, List.getElem_cons_zero, List.getElem_cons_succ, List.setIfInBounds_toArray, List.set_cons_zero, List.set_cons_succ]
    refine anyH_call (i := 3) (by kernel_rfl) rfl rfl 42 ent_setsU _ _ rfl #[.agg (fam N1 M1)] rfl (sets_c N1 M1 _) ?_
    rintro e w3 ⟨v3, rfl, ho3, hb3⟩
    have hS3 : famAt 53 w3 w1.heap.size N1 M1 ∧ famAt 53 w3 w2.heap.size N2 M2 := ⟨hS.1.below hb3 hS.1.lt, hS.2.below hb3 hS.2.lt⟩
    refine ⟨_, rfl, hS3, ?_⟩
    simp only [Act.put, List.getElem_toArray, List.getElem_cons_zero, List.getElem_cons_succ, List.setIfInBounds_toArray, List.set_cons_zero, List.set_cons_succ]
    refine anyH_call (i := 5) (by kernel_rfl) rfl rfl 42 ent_setsU _ _ rfl #[.agg (fam N2 M2)] rfl (sets_c N2 M2 _) ?_
    rintro e w4 ⟨v4, rfl, ho4, hb4⟩
    have hS4 : famAt 53 w4 w1.heap.size N1 M1 ∧ famAt 53 w4 w2.heap.size N2 M2 := ⟨hS3.1.below hb4 hS3.1.lt, hS3.2.below hb4 hS3.2.lt⟩
    refine ⟨_, rfl, hS4, ?_⟩
    have hz2 := HZ4.out
    have hzX := HZX.out
    have hz3 : w2.heap.size + 1 ≤ w3.heap.size := by have h : ((w2.alloc (.cells (fam 0 noSet) 53)).setRow w2.heap.size (fam N2 M2)).heap.size ≤ w3.heap.size := hb3.size; omega
    have hz4 := hb4.size
    have ho34 := ho3.kept hb4
    have ho34' : own 3 w4 (w2.heap.size + 1) v3 (setsTo M1 128) := ho34.mono (show w2.heap.size + 1 ≤ ((w2.alloc (.cells (fam 0 noSet) 53)).setRow w2.heap.size (fam N2 M2)).heap.size by omega)
    obtain ⟨v5, w5, hr5, ho5, hb5⟩ := run_appendN (P := Try.prog) (t := 27) sliceT intI 27 w4 (w2.heap.size + 1) v3 _ ho34' v4 _ w4.heap.size ho4.ints (by omega) (by have := HLN.out; simpa using this)
    have hS5 : famAt 53 w5 w1.heap.size N1 M1 ∧ famAt 53 w5 w2.heap.size N2 M2 := ⟨hS4.1.below hb5 (by have := HFA4.out.lt; have := HZ1.out; omega), hS4.2.below hb5 (by omega)⟩
    simp only [Act.put, List.getElem_toArray, List.getElem_cons_zero, List.getElem_cons_succ, List.setIfInBounds_toArray, List.set_cons_zero, List.set_cons_succ]
    refine anyH_op (i := 6) (by kernel_rfl) rfl rfl v5 w5 (exec_append _ _ rfl rfl rfl hr5) hS5 ?_
    simp only [Act.put, List.getElem_toArray, List.getElem_cons_zero, List.getElem_cons_succ, List.setIfInBounds_toArray, List.set_cons_zero, List.set_cons_succ]
    refine anyH_call (i := 7) (by kernel_rfl) rfl rfl 41 ent_unionsU _ _ rfl #[.int .i64 N1, v5] rfl (unionsOf_c N1 v5 (setsTo M1 128 ++ setsTo M2 128) w5 ho5.ints HRG.out HLN.out) ?_
    rw [HU.out]
    rintro e w6 ⟨rfl, hb6⟩
    have hS6 : famAt 53 w6 w1.heap.size N1 M1 ∧ famAt 53 w6 w2.heap.size N2 M2 := ⟨hS5.1.below hb6 hS5.1.lt, hS5.2.below hb6 hS5.2.lt⟩
    refine ⟨_, rfl, hS6, ?_⟩
    simp only [Act.put, List.getElem_toArray, List.getElem_cons_zero, List.getElem_cons_succ, List.setIfInBounds_toArray, List.set_cons_zero, List.set_cons_succ]
    refine anyH_call (i := 8) (by kernel_rfl) rfl rfl 39 ent_spaceU _ _ rfl #[.agg (fam N1 (prOut la lb la.length))] rfl (space_c N1 (prOut la lb la.length) w6) ?_
    rintro e w7 ⟨v7, rfl, ho7, hb7⟩
    have hS7 : famAt 53 w7 w1.heap.size N1 M1 ∧ famAt 53 w7 w2.heap.size N2 M2 := ⟨hS6.1.below hb7 hS6.1.lt, hS6.2.below hb7 hS6.2.lt⟩
    obtain ⟨aa, cc, hv⟩ := ho7.shape
    have hz5 := hb5.size
    have hz6 := hb6.size
    have hbA : Below (w2.heap.size + 1) ((w2.alloc (.cells (fam 0 noSet) 53)).setRow w2.heap.size (fam N2 M2)) w7 := (Below.refl _ _).drew.trans ((hb3.mono (by show w2.heap.size + 1 ≤ ((w2.alloc (.cells (fam 0 noSet) 53)).setRow w2.heap.size (fam N2 M2)).heap.size; omega)).trans ((hb4.mono hz3).trans (hb5.trans ((hb6.mono (by omega)).trans (hb7.mono (by omega))))))
    have hr7 := (hbA.block (w.heap.size + 2) (by omega)).trans HR4.out
    refine ⟨_, rfl, hS7, ?_⟩
    clear q0 q1 q2 q3
    obtain ⟨q0, q1, q2, q3⟩ := zero_slots hr7
    have HB7 := hide (HB4.out.trans (hbA.mono (by omega)))
    have HO7 := hide ho7
    have hz1' : w.heap.size + 3 ≤ w1.heap.size := HZ1.out
    subst hv
    have hSF : famAt 53 ((w7.setCell ⟨w.heap.size + 2, 0, none⟩ (.int .i64 N1)).setCell ⟨w.heap.size + 2, 1, none⟩ (.slice aa (setsTo (prOut la lb la.length) 128).length cc)) w1.heap.size N1 M1 ∧ famAt 53 ((w7.setCell ⟨w.heap.size + 2, 0, none⟩ (.int .i64 N1)).setCell ⟨w.heap.size + 2, 1, none⟩ (.slice aa (setsTo (prOut la lb la.length) 128).length cc)) w2.heap.size N2 M2 := ⟨(hS7.1.setO ⟨w.heap.size + 2, 0, none⟩ (show w1.heap.size ≠ w.heap.size + 2 by omega) _).setO ⟨w.heap.size + 2, 1, none⟩ (show w1.heap.size ≠ w.heap.size + 2 by omega) _, (hS7.2.setO ⟨w.heap.size + 2, 0, none⟩ (show w2.heap.size ≠ w.heap.size + 2 by omega) _).setO ⟨w.heap.size + 2, 1, none⟩ (show w2.heap.size ≠ w.heap.size + 2 by omega) _⟩
    simp only [Act.put, List.getElem_toArray, List.getElem_cons_zero, List.getElem_cons_succ, List.setIfInBounds_toArray, List.set_cons_zero, List.set_cons_succ]
    refine anyH_skip (i := 9) (by kernel_rfl) rfl rfl ((w7.setCell ⟨w.heap.size + 2, 0, none⟩ (.int .i64 N1)).setCell ⟨w.heap.size + 2, 1, none⟩ (.slice aa (setsTo (prOut la lb la.length) 128).length cc)) ?hq2 hSF ?_
    case hq2 => simp [go_sem, q0, q1, q2, q3]
    refine anyH_op (i := 10) (by kernel_rfl) rfl rfl (.bool true) _ ?hq3 hSF ?_
    case hq3 => simp [go_sem]
    refine wpAnyH_done (by kernel_rfl) ?_ _
    simp only [Act.put, List.getElem_toArray, List.getElem_cons_zero, List.getElem_cons_succ, List.setIfInBounds_toArray, List.set_cons_zero, List.set_cons_succ]
    clear hS hS3 hS4 hS5 hS6 hS7 hSF hb3 hb4 hb5 hb6 hb7 hbA hr7 ho7 ho3 ho4 ho34 ho34' ho5 hr5 g1 g2
    go_wp2
    refine bodyPost_ret (v := .tuple #[.agg #[.int .i64 N1, .slice aa (setsTo (prOut la lb la.length) 128).length cc], .bool true]) (by simp [results, Try.results27, go_sem, q0, q1]) rfl ⟨_, by rw [HE1.out], ?_, ?_⟩
    · have hfin := ((HO7.out.setLow ⟨w.heap.size + 2, 0, none⟩ (show w.heap.size + 2 < w6.heap.size by omega) (.int .i64 N1)).setLow ⟨w.heap.size + 2, 1, none⟩ (show w.heap.size + 2 < w6.heap.size by omega) (.slice aa (setsTo (prOut la lb la.length) 128).length cc))
      exact hfin.mono (show w.heap.size ≤ w6.heap.size by omega)
    · exact (HB7.out.setCell (by show w.heap.size ≤ w.heap.size + 2; omega) _).setCell (by show w.heap.size ≤ w.heap.size + 2; omega) _
end Go.Proofs.Ytojejhdlfklhkaa
