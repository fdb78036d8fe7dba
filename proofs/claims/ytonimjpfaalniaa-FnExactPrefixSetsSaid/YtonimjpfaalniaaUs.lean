/- Contracts: the least space that has the sets of both, the specification's and the program's. -/
import Derived.Test.YtonimjpfaalniaaUn
import Derived.Test.YtonimjpfaalniaaFo
namespace Go.Proofs.Ytonimjpfaalniaa
open Go.RowKit
set_option maxRecDepth 100000

def usB (n : Int) (la : List Int) (m : Int) (lb : List Int) : Bool := okSp n la && (okSp m lb && decide (n = m))
def usN (n : Int) (la : List Int) (m : Int) (lb : List Int) : Int := if usB n la m lb then n else 0
def usL (n : Int) (la : List Int) (m : Int) (lb : List Int) : List Int := if usB n la m lb then setsTo (prOut la lb la.length) 128 else []
theorem usB_no1 {n m : Int} {la lb : List Int} (h : okSp n la = false) : usB n la m lb = false := by simp [usB, h]
theorem usB_no2 {n m : Int} {la lb : List Int} (h : okSp m lb = false) : usB n la m lb = false := by simp [usB, h]
theorem usB_no3 {n m : Int} {la lb : List Int} (h : ¬ n = m) : usB n la m lb = false := by simp [usB, h]
theorem usB_yes {n m : Int} {la lb : List Int} (h : okSp n la = true) (h2 : okSp m lb = true) (h3 : n = m) : usB n la m lb = true := by subst h3; simp [usB, h, h2]
theorem usN_no {n m : Int} {la lb : List Int} (h : usB n la m lb = false) : usN n la m lb = 0 := by simp [usN, h]
theorem usN_yes {n m : Int} {la lb : List Int} (h : usB n la m lb = true) : usN n la m lb = n := by simp [usN, h]
theorem usL_no {n m : Int} {la lb : List Int} (h : usB n la m lb = false) : usL n la m lb = [] := by simp [usL, h]
theorem usL_yes {n m : Int} {la lb : List Int} (h : usB n la m lb = true) : usL n la m lb = setsTo (prOut la lb la.length) 128 := by simp [usL, h]
theorem usL_len (n m : Int) (la lb : List Int) : (usL n la m lb).length < 1000000000 := by
  unfold usL
  split
  · have := setsTo_len (prOut la lb la.length) 128; omega
  · simp
theorem sets_app_range (F G : Nat → Bool) : ∀ j, j < (setsTo F 128 ++ setsTo G 128).length → 0 ≤ (setsTo F 128 ++ setsTo G 128)[j]?.getD 0 ∧ (setsTo F 128 ++ setsTo G 128)[j]?.getD 0 < 128 := by
  intro j hj
  rcases Nat.lt_or_ge j (setsTo F 128).length with h | h
  · rw [List.getElem?_append_left h]; exact setsTo_range F 128 j h
  · rw [List.getElem?_append_right h]; exact setsTo_range G 128 _ (by simp at hj; omega)
attribute [local irreducible] p2 low memB risB

section
variable {P : Program}
theorem run_appendN {t I : TypeId} (ht : P.underlying t = some (.slice I)) (hI : (P.info? I).map (fun i => (i.zero, i.size, i.bytes)) = some (some (.int .i64 0), 1, 8)) (ty : TypeId) (w : World)
    (base : Nat) (v : Value) (l : List Int) (hown : own I w base v l) (u : Value) (m : List Int) (B : Nat) (hu : ints B w u m) (hbase : base ≤ w.heap.size) (hlen : l.length + m.length < 1000000000) :
    ∃ v' w', (Builtin.append_ #[t, t] ty #[v, u]).run P w = .ok v' w' ∧ own I w' base v' (l ++ m) ∧ Below base w w' := by
  obtain ⟨i0, hi, hz0, hz1, hz2⟩ := info_parts hI
  have key : ∀ (ad : Addr) (c : Nat), u = .slice (some ad) m.length c → (∀ (j : Nat) (y : Value), (m.map (Value.int .i64))[j]? = some y → w.cell? (ad.add j) = some y) → ∃ v' w', (Builtin.append_ #[t, t] ty #[v, u]).run P w = .ok v' w' ∧ own I w' base v' (l ++ m) ∧ Below base w w' := by
    intro ad c hu2 hcells
    subst hu2
    obtain ⟨v', w', hr, hown', hgrow, _⟩ := run_append_own (P := P) w base t ty I i0 (.int .i64 0) 1 8 ht hi hz0 hz1 hz2 rfl (by decide) v l.length _ hown ad m.length c (m.map (Value.int .i64)) (by simp) hcells (by
      intro y hy
      obtain ⟨z, _, rfl⟩ := List.mem_map.1 hy
      rfl) (by unfold maxLen; omega) (by omega) hbase
    refine ⟨v', w', hr, by simpa [own] using hown', hgrow.os, hgrow.tape, hgrow.output, hgrow.size, fun k hk => hgrow.block k (by omega) ?_⟩
    intro e
    have := (World.ownsRow.lt hown k e.symm).1
    omega
  rcases hu with ⟨rfl, ao, c, rfl⟩ | ⟨b, of, c, rfl, h2, h3, h4⟩
  · cases ao with
    | some ad => exact key ad c rfl (fun j y hj => by simp at hj)
    | none =>
      have hr : (Builtin.append_ #[t, t] ty #[v, .slice none 0 c]).run P w = .ok v w := by
        rcases hown.2 with ⟨rfl, h0⟩ | ⟨g, cap, cur, rfl, _, _, hnc, _⟩
        · simp [Builtin.append_, run_underlying ht, sizeOf, typeInfo, hi, Builtin.lenOf, Builtin.firstCells]
        · simp [Builtin.append_, run_underlying ht, sizeOf, typeInfo, hi, Builtin.lenOf, Builtin.firstCells, hnc, storeCells]
      exact ⟨v, w, hr, by simpa using hown, Below.refl _ _⟩
  · refine key ⟨b, of, none⟩ c rfl fun j y hj => ?_
    rw [List.getElem?_map] at hj
    rcases Nat.lt_or_ge j m.length with hlt | hge
    · rw [List.getElem?_eq_getElem hlt] at hj
      simp at hj
      subst hj
      have := h4 j hlt
      rw [List.getElem?_eq_getElem hlt] at this
      rw [add_at]
      simpa using this
    · rw [List.getElem?_eq_none hge] at hj; cases hj
theorem exec_append {t : TypeId} {o : Oper} {a : Act} {w w' : World} {v u v' : Value} (s x : Operand) (ho : o.op = .call { callee := .builtin .append, args := #[s, x], argTypes := #[t, t] }) (hs : a.eval s = v) (hx : a.eval x = u)
    (hr : (Builtin.append_ #[t, t] o.type #[v, u]).run P w = .ok v' w') : (execOp a.eval o).run P w = .ok (.value v') w' := by
  unfold execOp
  simp only [ho, resolve, invoke, builtin, Sem.run_bind, Sem.run_pure, Result.andThen_ok, List.map_toArray, List.map_cons, List.map_nil, hs, hx, hr]
end

theorem ent_setsU : enters Try.prog 78 := enters_of Try.func78 (by kernel_rfl) (by kernel_rfl)
theorem ent_unionsU : enters Try.prog 92 := enters_of Try.func92 (by kernel_rfl) (by kernel_rfl)
theorem ent_spaceU : enters Try.prog 89 := enters_of Try.func89 (by kernel_rfl) (by kernel_rfl)

set_option maxHeartbeats 3000000 in
theorem specUnionSpaces_c (n : Int) (v : Value) (la : List Int) (m : Int) (u : Value) (lb : List Int) (w : World) (hl : ints w.heap.size w v la) (hlen : la.length < 1000000000) (hm : ints w.heap.size w u lb) (hml : lb.length < 1000000000) :
    Calls Try.prog 49 #[.agg #[.int .i64 n, v], .agg #[.int .i64 m, u]] w fun e w' => ∃ v', e = .returned (.tuple #[.agg #[.int .i64 (usN n la m lb), v'], .bool (usB n la m lb)]) ∧ own 3 w' w.heap.size v' (usL n la m lb) ∧ Below w.heap.size w w' := by
  have ha0 : (((w.alloc (.cells #[.int .i64 n, v] 28)).alloc (.cells #[.int .i64 m, u] 28)).alloc (.cells #[.int .i64 0, .slice none 0 0] 28)).heap[w.heap.size]? = some (.cells #[.int .i64 n, v] 28) := (hp_old _ _ _ (by simp; omega)).trans ((hp_old _ _ _ (by simp)).trans (hp_last _ _))
  have hb0 : (((w.alloc (.cells #[.int .i64 n, v] 28)).alloc (.cells #[.int .i64 m, u] 28)).alloc (.cells #[.int .i64 0, .slice none 0 0] 28)).heap[w.heap.size + 1]? = some (.cells #[.int .i64 m, u] 28) := (hp_old _ _ _ (by simp)).trans (by have := hp_last (w.alloc (.cells #[.int .i64 n, v] 28)) (.cells #[.int .i64 m, u] 28); simpa using this)
  have hr0 : (((w.alloc (.cells #[.int .i64 n, v] 28)).alloc (.cells #[.int .i64 m, u] 28)).alloc (.cells #[.int .i64 0, .slice none 0 0] 28)).heap[w.heap.size + 2]? = some (.cells #[.int .i64 0, .slice none 0 0] 28) := by have := hp_last ((w.alloc (.cells #[.int .i64 n, v] 28)).alloc (.cells #[.int .i64 m, u] 28)) (.cells #[.int .i64 0, .slice none 0 0] 28); simpa using this
  have H0 := hide ((((Below.refl w.heap.size w).alloc (Nat.le_refl _) (.cells #[.int .i64 n, v] 28)).alloc (by simp) (.cells #[.int .i64 m, u] 28)).alloc (by simp; omega) (.cells #[.int .i64 0, .slice none 0 0] 28))
  have HL0 := hide (((hl.alloc (.cells #[.int .i64 n, v] 28)).alloc (.cells #[.int .i64 m, u] 28)).alloc (.cells #[.int .i64 0, .slice none 0 0] 28))
  have HM0 := hide (((hm.alloc (.cells #[.int .i64 n, v] 28)).alloc (.cells #[.int .i64 m, u] 28)).alloc (.cells #[.int .i64 0, .slice none 0 0] 28))
  have hz0 : (((w.alloc (.cells #[.int .i64 n, v] 28)).alloc (.cells #[.int .i64 m, u] 28)).alloc (.cells #[.int .i64 0, .slice none 0 0] 28)).heap.size = w.heap.size + 3 := by simp
  have HA0 := hide ha0
  have HBX0 := hide hb0
  have HR0 := hide hr0
  have HZ0 := hide hz0
  clear hl hm ha0 hb0 hr0 hz0
  cases hok : okSp n la
  · have HG := hide (show goodB n la = false by rw [← ok_good]; exact hok)
    have HB := hide (usB_no1 (m := m) (lb := lb) hok)
    rw [usN_no HB.out, usL_no HB.out, HB.out]
    clear hok
    go_enter Try.func49, Try.ntmps49
    go_wp2_with fail
    refine (spGood_c _ v la _ (HL0.out.mono (by rw [HZ0.out]; omega)) hlen).mono ?_
    rw [HG.out]
    rintro e w1 ⟨rfl, hb1⟩
    have ha1 := (hb1.block w.heap.size (by rw [HZ0.out]; omega)).trans HA0.out
    have hbx1 := (hb1.block (w.heap.size + 1) (by rw [HZ0.out]; omega)).trans HBX0.out
    have hr1 := (hb1.block (w.heap.size + 2) (by rw [HZ0.out]; omega)).trans HR0.out
    have a0 := cells_at0 ha1
    have a1 := cells_at1 ha1
    have b0 := cells_at0 hbx1
    have b1 := cells_at1 hbx1
    obtain ⟨q0, q1, q2, q3⟩ := zero_slots hr1
    have HA1 := hide ha1
    have HBX1 := hide hbx1
    have HR1 := hide hr1
    have HB1 := hide (H0.out.trans (hb1.mono (by rw [HZ0.out]; omega)))
    have HL1 := hide (HL0.out.below hb1 (by rw [HZ0.out]; omega))
    have HM1 := hide (HM0.out.below hb1 (by rw [HZ0.out]; omega))
    have HZ1 := hide (show w.heap.size + 3 ≤ w1.heap.size by rw [← HZ0.out]; exact hb1.size)
    clear hb1 ha1 hbx1 hr1
    go_wp2
    refine bodyPost_ret (v := .tuple #[.agg #[.int .i64 0, .slice none 0 0], .bool false]) (by simp [results, Try.results49, go_sem, q0, q1]) rfl ⟨_, rfl, own_nil _ _ _, ?_⟩
    exact (HB1.out.setCell (by show w.heap.size ≤ w.heap.size + 2; omega) _).setCell (by show w.heap.size ≤ w.heap.size + 2; omega) _
  · have HG := hide (show goodB n la = true by rw [← ok_good]; exact hok)
    cases hok2 : okSp m lb
    · have HG2 := hide (show goodB m lb = false by rw [← ok_good]; exact hok2)
      have HB := hide (usB_no2 (n := n) (la := la) hok2)
      rw [usN_no HB.out, usL_no HB.out, HB.out]
      clear hok hok2
      go_enter Try.func49, Try.ntmps49
      go_wp2_with fail
      refine (spGood_c _ v la _ (HL0.out.mono (by rw [HZ0.out]; omega)) hlen).mono ?_
      rw [HG.out]
      rintro e w1 ⟨rfl, hb1⟩
      have ha1 := (hb1.block w.heap.size (by rw [HZ0.out]; omega)).trans HA0.out
      have hbx1 := (hb1.block (w.heap.size + 1) (by rw [HZ0.out]; omega)).trans HBX0.out
      have hr1 := (hb1.block (w.heap.size + 2) (by rw [HZ0.out]; omega)).trans HR0.out
      have a0 := cells_at0 ha1
      have a1 := cells_at1 ha1
      have b0 := cells_at0 hbx1
      have b1 := cells_at1 hbx1
      obtain ⟨q0, q1, q2, q3⟩ := zero_slots hr1
      have HA1 := hide ha1
      have HBX1 := hide hbx1
      have HR1 := hide hr1
      have HB1 := hide (H0.out.trans (hb1.mono (by rw [HZ0.out]; omega)))
      have HL1 := hide (HL0.out.below hb1 (by rw [HZ0.out]; omega))
      have HM1 := hide (HM0.out.below hb1 (by rw [HZ0.out]; omega))
      have HZ1 := hide (show w.heap.size + 3 ≤ w1.heap.size by rw [← HZ0.out]; exact hb1.size)
      clear hb1 ha1 hbx1 hr1
      go_wp2_with fail
      refine (spGood_c _ u lb _ (HM1.out.mono (by have := HZ1.out; omega)) hml).mono ?_
      rw [HG2.out]
      rintro e w2 ⟨rfl, hb2⟩
      have ha2 := (hb2.block w.heap.size (by have := HZ1.out; omega)).trans HA1.out
      have hbx2 := (hb2.block (w.heap.size + 1) (by have := HZ1.out; omega)).trans HBX1.out
      have hr2 := (hb2.block (w.heap.size + 2) (by have := HZ1.out; omega)).trans HR1.out
      clear a0 a1 b0 b1 q0 q1 q2 q3
      have a0 := cells_at0 ha2
      have a1 := cells_at1 ha2
      have b0 := cells_at0 hbx2
      have b1 := cells_at1 hbx2
      obtain ⟨q0, q1, q2, q3⟩ := zero_slots hr2
      have HA2 := hide ha2
      have HBX2 := hide hbx2
      have HR2 := hide hr2
      have HB2 := hide (HB1.out.trans (hb2.mono (by have := HZ1.out; omega)))
      have HL2 := hide (HL1.out.below hb2 (by have := HZ1.out; omega))
      have HM2 := hide (HM1.out.below hb2 (by have := HZ1.out; omega))
      have HZ2 := hide (show w.heap.size + 3 ≤ w2.heap.size by have := HZ1.out; have := hb2.size; omega)
      clear hb2 ha2 hbx2 hr2
      go_wp2
      refine bodyPost_ret (v := .tuple #[.agg #[.int .i64 0, .slice none 0 0], .bool false]) (by simp [results, Try.results49, go_sem, q0, q1]) rfl ⟨_, rfl, own_nil _ _ _, ?_⟩
      exact (HB2.out.setCell (by show w.heap.size ≤ w.heap.size + 2; omega) _).setCell (by show w.heap.size ≤ w.heap.size + 2; omega) _
    · have HG2 := hide (show goodB m lb = true by rw [← ok_good]; exact hok2)
      by_cases hnm : n = m
      · subst hnm
        have hnn : (n != n) = false := by simp
        have HB := hide (usB_yes hok hok2 rfl)
        have HSA := hide hok
        have HSB := hide hok2
        rw [usN_yes HB.out, usL_yes HB.out, HB.out]
        clear hok hok2
        go_enter Try.func49, Try.ntmps49
        go_wp2_with fail
        refine (spGood_c _ v la _ (HL0.out.mono (by rw [HZ0.out]; omega)) hlen).mono ?_
        rw [HG.out]
        rintro e w1 ⟨rfl, hb1⟩
        have ha1 := (hb1.block w.heap.size (by rw [HZ0.out]; omega)).trans HA0.out
        have hbx1 := (hb1.block (w.heap.size + 1) (by rw [HZ0.out]; omega)).trans HBX0.out
        have hr1 := (hb1.block (w.heap.size + 2) (by rw [HZ0.out]; omega)).trans HR0.out
        have a0 := cells_at0 ha1
        have a1 := cells_at1 ha1
        have b0 := cells_at0 hbx1
        have b1 := cells_at1 hbx1
        obtain ⟨q0, q1, q2, q3⟩ := zero_slots hr1
        have HA1 := hide ha1
        have HBX1 := hide hbx1
        have HR1 := hide hr1
        have HB1 := hide (H0.out.trans (hb1.mono (by rw [HZ0.out]; omega)))
        have HL1 := hide (HL0.out.below hb1 (by rw [HZ0.out]; omega))
        have HM1 := hide (HM0.out.below hb1 (by rw [HZ0.out]; omega))
        have HZ1 := hide (show w.heap.size + 3 ≤ w1.heap.size by rw [← HZ0.out]; exact hb1.size)
        clear hb1 ha1 hbx1 hr1
        go_wp2_with fail
        refine (spGood_c _ u lb _ (HM1.out.mono (by have := HZ1.out; omega)) hml).mono ?_
        rw [HG2.out]
        rintro e w2 ⟨rfl, hb2⟩
        have ha2 := (hb2.block w.heap.size (by have := HZ1.out; omega)).trans HA1.out
        have hbx2 := (hb2.block (w.heap.size + 1) (by have := HZ1.out; omega)).trans HBX1.out
        have hr2 := (hb2.block (w.heap.size + 2) (by have := HZ1.out; omega)).trans HR1.out
        clear a0 a1 b0 b1 q0 q1 q2 q3
        have a0 := cells_at0 ha2
        have a1 := cells_at1 ha2
        have b0 := cells_at0 hbx2
        have b1 := cells_at1 hbx2
        obtain ⟨q0, q1, q2, q3⟩ := zero_slots hr2
        have HA2 := hide ha2
        have HBX2 := hide hbx2
        have HR2 := hide hr2
        have HB2 := hide (HB1.out.trans (hb2.mono (by have := HZ1.out; omega)))
        have HL2 := hide (HL1.out.below hb2 (by have := HZ1.out; omega))
        have HM2 := hide (HM1.out.below hb2 (by have := HZ1.out; omega))
        have HZ2 := hide (show w.heap.size + 3 ≤ w2.heap.size by have := HZ1.out; have := hb2.size; omega)
        clear hb2 ha2 hbx2 hr2
        have HT0 := hide (hp_last w2 (.cells #[.int .i64 n, .slice none 0 0] 28))
        have HA3 := hide ((hp_old w2 (.cells #[.int .i64 n, .slice none 0 0] 28) w.heap.size (by have := HZ2.out; omega)).trans HA2.out)
        have HBX3 := hide ((hp_old w2 (.cells #[.int .i64 n, .slice none 0 0] 28) (w.heap.size + 1) (by have := HZ2.out; omega)).trans HBX2.out)
        have HR3 := hide ((hp_old w2 (.cells #[.int .i64 n, .slice none 0 0] 28) (w.heap.size + 2) (by have := HZ2.out; omega)).trans HR2.out)
        have HB3 := hide (HB2.out.alloc (by have := HZ2.out; omega) (.cells #[.int .i64 n, .slice none 0 0] 28))
        have HL3 := hide (HL2.out.alloc (.cells #[.int .i64 n, .slice none 0 0] 28))
        have HM3 := hide (HM2.out.alloc (.cells #[.int .i64 n, .slice none 0 0] 28))
        have hd1 := cells_at1 HA3.out
        have hz3 : (w2.alloc (.cells #[.int .i64 n, .slice none 0 0] 28)).heap.size = w2.heap.size + 1 := by simp
        have HZ3 := hide hz3
        clear hz3 q0 q1 q2 q3 a1 b1
        go_wp2_with (refine wpList_len sliceT rfl (.tmp _) rfl v rfl w.heap.size la HL3.out ?_)
        go_loopw [33] (fun iv wr => ∃ k : Nat, k ≤ la.length ∧ iv = .int .i64 k ∧ Hid (∃ sv, own 3 wr (w2.heap.size + 1) sv (setsTo (prOut la lb k) 128) ∧ wr.heap[w2.heap.size]? = some (.cells #[.int .i64 n, sv] 28)) ∧ Hid (wr.heap[w.heap.size + 2]? = some (.cells #[.int .i64 0, .slice none 0 0] 28)) ∧ Hid (Below w.heap.size w wr) ∧ Hid (ints w.heap.size wr v la) ∧ Hid (ints w.heap.size wr u lb) ∧ Hid (wr.heap[w.heap.size + 1]? = some (.cells #[.int .i64 n, u] 28)) ∧ w2.heap.size + 1 ≤ wr.heap.size) (fun iv _ => la.length - (intOf iv).toNat)
        case atStart => exact ⟨0, Nat.zero_le _, rfl, ⟨_, by rw [show prOut la lb 0 = noSet from rfl, ← sets_none]; exact own_nil _ _ _, HT0.out⟩, HR3, HB3, HL3, HM3, HBX3, by rw [HZ3.out]; exact Nat.le_refl _⟩
        case round =>
          obtain ⟨k, hk, rfl, HO, HRR, HBB, HLL, HMM, HBX, hsz⟩ := hrel
          clear HT0 HA3 HR3 HB3 HL3 HM3 HZ3 HBX3 hd1
          by_cases hlt : k < la.length
          · have HX := hide (nth_cast HSA.out k hlt)
            have hy := okSp_lt128 HSA.out _ ((okSp_has HSA.out (nth la k)).2 ⟨k, hlt, rfl⟩)
            have HST := hide (show prOut la lb (k + 1) = prIn lb (nth la k) (prOut la lb k) lb.length from rfl)
            generalize nth la k = y at HX hy HST
            generalize prOut la lb k = G at HO HST
            have HI0 := hide (show prIn lb y G 0 = G from rfl)
            have hbx1 := cells_at1 HBX.out
            go_wp2_with (first
              | (refine wpList_at sliceT intS rfl (.tmp _) (.tmp _) rfl v rfl k rfl w.heap.size la HLL.out hlt ?_; intro ad hcell hblk; rw [HX.out] at hcell)
              | (refine wpList_len sliceT rfl (.tmp _) rfl u rfl w.heap.size lb HMM.out ?_))
            go_loopw [40] (fun jv wr => ∃ d : Nat, d ≤ lb.length ∧ jv = .int .i64 d ∧ Hid (∃ sv, own 3 wr (w2.heap.size + 1) sv (setsTo (prIn lb y G d) 128) ∧ wr.heap[w2.heap.size]? = some (.cells #[.int .i64 n, sv] 28)) ∧ Hid (wr.heap[w.heap.size + 2]? = some (.cells #[.int .i64 0, .slice none 0 0] 28)) ∧ Hid (Below w.heap.size w wr) ∧ Hid (ints w.heap.size wr v la) ∧ Hid (ints w.heap.size wr u lb) ∧ Hid (wr.heap[w.heap.size + 1]? = some (.cells #[.int .i64 n, u] 28)) ∧ w2.heap.size + 1 ≤ wr.heap.size) (fun jv _ => lb.length - (intOf jv).toNat)
            case atStart => exact ⟨0, Nat.zero_le _, rfl, by rw [HI0.out]; exact HO, HRR, HBB, HLL, HMM, HBX, hsz⟩
            case round =>
              clear HO HRR HBB HLL HMM HBX hsz HI0 hbx1 hcell
              obtain ⟨d, hd, rfl, HO, HRR, HBB, HLL, HMM, HBX, hsz⟩ := hrel
              by_cases hdl : d < lb.length
              · have HX2 := hide (nth_cast HSB.out d hdl)
                have hb2 := okSp_lt128 HSB.out _ ((okSp_has HSB.out (nth lb d)).2 ⟨d, hdl, rfl⟩)
                have HS2 := hide (show prIn lb y G (d + 1) = upd (prIn lb y G d) (y ||| nth lb d) true from rfl)
                generalize nth lb d = z at HX2 hb2 HS2
                have hor := i64_or y z (by omega) (by omega)
                have hor2 := or_lt128 y z hy hb2
                generalize y ||| z = r at hor hor2 HS2
                generalize prIn lb y G d = H at HO HS2
                obtain ⟨sv, ho2, ht2⟩ := HO.out
                obtain ⟨sa, sc, hsv⟩ := ho2.shape
                subst hsv
                have hcv := cells_at1 ht2
                have HOO := hide ho2
                have HTT := hide ht2
                clear ho2 ht2 HO
                go_wp2_with (first
                  | (refine wpList_at sliceT intS rfl (.tmp _) (.tmp _) rfl u rfl d rfl w.heap.size lb HMM.out hdl ?_; intro ad2 hcell2 hblk2; rw [HX2.out] at hcell2)
                  | (go_at_call 91; refine (spPut_c _ H r _ (w2.heap.size + 1) hor2 HOO.out hsz).mono ?_; rw [← HS2.out]; rintro e w3 ⟨v1, rfl, ho1, hb1⟩; obtain ⟨sa1, sc1, hv1⟩ := ho1.shape; subst hv1; have ht1 := (hb1.block w2.heap.size (by omega)).trans HTT.out; have ct1 := cells_at1 ht1; have ft1 := hp_free ht1 1; have HT1 := hide ht1; have HO1 := hide ho1; have HR1 := hide ((hb1.block (w.heap.size + 2) (by have := HZ2.out; omega)).trans HRR.out); have HBX1 := hide ((hb1.block (w.heap.size + 1) (by have := HZ2.out; omega)).trans HBX.out); have HB1' := hide (HBB.out.trans (hb1.mono (by have := HZ2.out; omega))); have HL1' := hide (HLL.out.below hb1 (by have := HZ2.out; omega)); have HM1' := hide (HMM.out.below hb1 (by have := HZ2.out; omega)); have hz1 := hb1.size; clear ho1 hb1 ht1))
                go_roundw
                case rel => exact ⟨d + 1, by omega, by go_num, ⟨_, HO1.out.setLow ⟨w2.heap.size, 1, none⟩ (by show w2.heap.size < _; omega) _, bareN HT1.out _⟩, (hp_setO w3 ⟨w2.heap.size, 1, none⟩ (w.heap.size + 2) _ (by show w.heap.size + 2 ≠ w2.heap.size; have := HZ2.out; omega)).trans HR1.out, HB1'.out.setCell (p := ⟨w2.heap.size, 1, none⟩) (by show w.heap.size ≤ w2.heap.size; have := HZ2.out; omega) _, HL1'.out.setCell ⟨w2.heap.size, 1, none⟩ (by show w.heap.size ≤ w2.heap.size; have := HZ2.out; omega) _, HM1'.out.setCell ⟨w2.heap.size, 1, none⟩ (by show w.heap.size ≤ w2.heap.size; have := HZ2.out; omega) _, (hp_setO w3 ⟨w2.heap.size, 1, none⟩ (w.heap.size + 1) _ (by show w.heap.size + 1 ≠ w2.heap.size; have := HZ2.out; omega)).trans HBX1.out, by show w2.heap.size + 1 ≤ _; simp [World.setCell]; omega⟩
                case measure => simp [intOf]; omega
              · have HDE := hide (show d = lb.length by omega)
                clear hd hdl
                have hdl2 : ¬ ((d : Int) < (lb.length : Int)) := by have := HDE.out; omega
                have hdl3 : ¬ (d < lb.length) := by have := HDE.out; omega
                go_wp2
                go_roundw
                case rel => exact ⟨k + 1, by omega, by go_num, by rw [HST.out, ← HDE.out]; exact HO, HRR, HBB, HLL, HMM, HBX, hsz⟩
                case measure => simp [intOf]; omega
          · have HKE := hide (show k = la.length by omega)
            obtain ⟨sv, ho, ht⟩ := HO.out
            obtain ⟨aa, cc, hsv⟩ := ho.shape
            subst hsv
            have HE := hide (show prOut la lb k = prOut la lb la.length by rw [HKE.out])
            rw [HE.out] at ho ht
            have HOO := hide ho
            have hd0 := cells_at0 ht
            have hd1 := cells_at1 ht
            have c0 := cells_at0 HRR.out
            have c1 := cells_at1 HRR.out
            have f0 := hp_free HRR.out 0
            have f1 := hp_free HRR.out 1
            generalize hRE : setsTo (prOut la lb la.length) 128 = R at HOO hd1
            have HRE := hide hRE
            clear ho ht HO hk hRE
            go_wp2
            refine bodyPost_ret (v := .tuple #[.agg #[.int .i64 n, .slice aa R.length cc], .bool true]) (by simp [results, Try.results49, go_sem, c0, c1]) rfl ⟨_, rfl, ?_, ?_⟩
            · have hz := HZ2.out
              have hfin := ((HOO.out.setLow ⟨w.heap.size + 2, 0, none⟩ (show w.heap.size + 2 < w2.heap.size + 1 by omega) (.int .i64 n)).setLow ⟨w.heap.size + 2, 1, none⟩ (show w.heap.size + 2 < w2.heap.size + 1 by omega) (.slice aa R.length cc))
              have hfin2 : own 3 _ w.heap.size (.slice aa R.length cc) R := hfin.mono (show w.heap.size ≤ w2.heap.size + 1 by omega)
              rw [HRE.out]; exact hfin2
            · exact (HBB.out.setCell (by show w.heap.size ≤ w.heap.size + 2; omega) _).setCell (by show w.heap.size ≤ w.heap.size + 2; omega) _
      · have hnn : (n != m) = true := by simpa using hnm
        have HB := hide (usB_no3 (la := la) (lb := lb) hnm)
        rw [usN_no HB.out, usL_no HB.out, HB.out]
        clear hok hok2 hnm
        go_enter Try.func49, Try.ntmps49
        go_wp2_with fail
        refine (spGood_c _ v la _ (HL0.out.mono (by rw [HZ0.out]; omega)) hlen).mono ?_
        rw [HG.out]
        rintro e w1 ⟨rfl, hb1⟩
        have ha1 := (hb1.block w.heap.size (by rw [HZ0.out]; omega)).trans HA0.out
        have hbx1 := (hb1.block (w.heap.size + 1) (by rw [HZ0.out]; omega)).trans HBX0.out
        have hr1 := (hb1.block (w.heap.size + 2) (by rw [HZ0.out]; omega)).trans HR0.out
        have a0 := cells_at0 ha1
        have a1 := cells_at1 ha1
        have b0 := cells_at0 hbx1
        have b1 := cells_at1 hbx1
        obtain ⟨q0, q1, q2, q3⟩ := zero_slots hr1
        have HA1 := hide ha1
        have HBX1 := hide hbx1
        have HR1 := hide hr1
        have HB1 := hide (H0.out.trans (hb1.mono (by rw [HZ0.out]; omega)))
        have HL1 := hide (HL0.out.below hb1 (by rw [HZ0.out]; omega))
        have HM1 := hide (HM0.out.below hb1 (by rw [HZ0.out]; omega))
        have HZ1 := hide (show w.heap.size + 3 ≤ w1.heap.size by rw [← HZ0.out]; exact hb1.size)
        clear hb1 ha1 hbx1 hr1
        go_wp2_with fail
        refine (spGood_c _ u lb _ (HM1.out.mono (by have := HZ1.out; omega)) hml).mono ?_
        rw [HG2.out]
        rintro e w2 ⟨rfl, hb2⟩
        have ha2 := (hb2.block w.heap.size (by have := HZ1.out; omega)).trans HA1.out
        have hbx2 := (hb2.block (w.heap.size + 1) (by have := HZ1.out; omega)).trans HBX1.out
        have hr2 := (hb2.block (w.heap.size + 2) (by have := HZ1.out; omega)).trans HR1.out
        clear a0 a1 b0 b1 q0 q1 q2 q3
        have a0 := cells_at0 ha2
        have a1 := cells_at1 ha2
        have b0 := cells_at0 hbx2
        have b1 := cells_at1 hbx2
        obtain ⟨q0, q1, q2, q3⟩ := zero_slots hr2
        have HA2 := hide ha2
        have HBX2 := hide hbx2
        have HR2 := hide hr2
        have HB2 := hide (HB1.out.trans (hb2.mono (by have := HZ1.out; omega)))
        have HL2 := hide (HL1.out.below hb2 (by have := HZ1.out; omega))
        have HM2 := hide (HM1.out.below hb2 (by have := HZ1.out; omega))
        have HZ2 := hide (show w.heap.size + 3 ≤ w2.heap.size by have := HZ1.out; have := hb2.size; omega)
        clear hb2 ha2 hbx2 hr2
        go_wp2
        refine bodyPost_ret (v := .tuple #[.agg #[.int .i64 0, .slice none 0 0], .bool false]) (by simp [results, Try.results49, go_sem, q0, q1]) rfl ⟨_, rfl, own_nil _ _ _, ?_⟩
        exact (HB2.out.setCell (by show w.heap.size ≤ w.heap.size + 2; omega) _).setCell (by show w.heap.size ≤ w.heap.size + 2; omega) _

set_option maxHeartbeats 3000000 in
theorem implUnionSpaces_c (n : Int) (v : Value) (la : List Int) (m : Int) (u : Value) (lb : List Int) (w : World) (hl : ints w.heap.size w v la) (hlen : la.length < 1000000000) (hm : ints w.heap.size w u lb) (hml : lb.length < 1000000000) :
    Calls Try.prog 50 #[.agg #[.int .i64 n, v], .agg #[.int .i64 m, u]] w fun e w' => ∃ v', e = .returned (.tuple #[.agg #[.int .i64 (usN n la m lb), v'], .bool (usB n la m lb)]) ∧ own 3 w' w.heap.size v' (usL n la m lb) ∧ Below w.heap.size w w' := by
  have ha0 : (((w.alloc (.cells #[.int .i64 n, v] 28)).alloc (.cells #[.int .i64 m, u] 28)).alloc (.cells #[.int .i64 0, .slice none 0 0] 28)).heap[w.heap.size]? = some (.cells #[.int .i64 n, v] 28) := (hp_old _ _ _ (by simp; omega)).trans ((hp_old _ _ _ (by simp)).trans (hp_last _ _))
  have hb0 : (((w.alloc (.cells #[.int .i64 n, v] 28)).alloc (.cells #[.int .i64 m, u] 28)).alloc (.cells #[.int .i64 0, .slice none 0 0] 28)).heap[w.heap.size + 1]? = some (.cells #[.int .i64 m, u] 28) := (hp_old _ _ _ (by simp)).trans (by have := hp_last (w.alloc (.cells #[.int .i64 n, v] 28)) (.cells #[.int .i64 m, u] 28); simpa using this)
  have hr0 : (((w.alloc (.cells #[.int .i64 n, v] 28)).alloc (.cells #[.int .i64 m, u] 28)).alloc (.cells #[.int .i64 0, .slice none 0 0] 28)).heap[w.heap.size + 2]? = some (.cells #[.int .i64 0, .slice none 0 0] 28) := by have := hp_last ((w.alloc (.cells #[.int .i64 n, v] 28)).alloc (.cells #[.int .i64 m, u] 28)) (.cells #[.int .i64 0, .slice none 0 0] 28); simpa using this
  have H0 := hide ((((Below.refl w.heap.size w).alloc (Nat.le_refl _) (.cells #[.int .i64 n, v] 28)).alloc (by simp) (.cells #[.int .i64 m, u] 28)).alloc (by simp; omega) (.cells #[.int .i64 0, .slice none 0 0] 28))
  have HL0 := hide (((hl.alloc (.cells #[.int .i64 n, v] 28)).alloc (.cells #[.int .i64 m, u] 28)).alloc (.cells #[.int .i64 0, .slice none 0 0] 28))
  have HM0 := hide (((hm.alloc (.cells #[.int .i64 n, v] 28)).alloc (.cells #[.int .i64 m, u] 28)).alloc (.cells #[.int .i64 0, .slice none 0 0] 28))
  have hz0 : (((w.alloc (.cells #[.int .i64 n, v] 28)).alloc (.cells #[.int .i64 m, u] 28)).alloc (.cells #[.int .i64 0, .slice none 0 0] 28)).heap.size = w.heap.size + 3 := by simp
  have HA0 := hide ha0
  have HBX0 := hide hb0
  have HR0 := hide hr0
  have HZ0 := hide hz0
  clear hl hm ha0 hb0 hr0 hz0
  have HFO := hide (familiesOf_c n v la m u lb _ (HL0.out.mono (by rw [HZ0.out]; omega)) hlen (HM0.out.mono (by rw [HZ0.out]; omega)) hml)
  cases hfb : fbB n la m lb
  · have hno : usB n la m lb = false := by
      unfold fbB at hfb
      unfold usB
      rw [← Bool.and_assoc, hfb]; rfl
    rw [usN_no hno, usL_no hno, hno]
    rw [hfb] at HFO
    clear hfb hno
    generalize fbN false n = N1 at HFO
    generalize fbM false la = M1 at HFO
    generalize fbN false m = N2 at HFO
    generalize fbM false lb = M2 at HFO
    go_enter Try.func50, Try.ntmps50
    go_wp2_with (first
      | (go_at_call 70; refine HFO.out.mono ?_; rintro e w1 ⟨rfl, hb1⟩; rw [HZ0.out] at hb1; have hz1 := hb1.size; rw [HZ0.out] at hz1; have HA6 := hide ((famAt.new 63 w1 0 noSet).alloc (.cells (fam 0 noSet) 63)); have HA7 := hide (show famAt 63 (((w1.alloc (.cells (fam 0 noSet) 63)).alloc (.cells (fam 0 noSet) 63)).setRow w1.heap.size (fam N1 M1)) (w1.heap.size + 1) 0 noSet from (show famAt 63 ((w1.alloc (.cells (fam 0 noSet) 63)).alloc (.cells (fam 0 noSet) 63)) (w1.heap.size + 1) 0 noSet by (have h := famAt.new 63 (w1.alloc (.cells (fam 0 noSet) 63)) 0 noSet; simpa using h)).rowO w1.heap.size (by omega) _); have hfa4 := (HA6.out.row N1 M1).rowO (w1.heap.size + 1) (by omega) (fam N2 M2); have hfb4 := HA7.out.row N2 M2; have hr4 : ((((w1.alloc (.cells (fam 0 noSet) 63)).alloc (.cells (fam 0 noSet) 63)).setRow w1.heap.size (fam N1 M1)).setRow (w1.heap.size + 1) (fam N2 M2)).heap[w.heap.size + 2]? = some (.cells #[.int .i64 0, .slice none 0 0] 28) := (hp_rowO _ _ _ _ (by omega)).trans ((hp_rowO _ _ _ _ (by omega)).trans ((hp_old _ _ _ (by simp; omega)).trans ((hp_old _ _ _ (by omega)).trans ((hb1.block (w.heap.size + 2) (by omega)).trans HR0.out)))); have HR4 := hide hr4; have HFA4 := hide hfa4; have HFB4 := hide hfb4; have g1 := hfa4.get0; have g2 := hfb4.get0; obtain ⟨q0, q1, q2, q3⟩ := zero_slots hr4; have HB4 := hide (bl_row (bl_row (((H0.out.trans (hb1.mono (by omega))).alloc (by omega) (.cells (fam 0 noSet) 63)).alloc (by simp; omega) (.cells (fam 0 noSet) 63)) (show w.heap.size ≤ w1.heap.size by omega) (fam N1 M1)) (show w.heap.size ≤ w1.heap.size + 1 by omega) (fam N2 M2)); have HZX := hide (show ((((w1.alloc (.cells (fam 0 noSet) 63)).alloc (.cells (fam 0 noSet) 63)).setRow w1.heap.size (fam N1 M1)).setRow (w1.heap.size + 1) (fam N2 M2)).heap.size = w1.heap.size + 1 + 1 by simp [World.setRow]); clear hb1 hfa4 hfb4 hr4)
      | (refine wpList_alloc_fam zeroT rfl rfl _ (by first | (simp only [World.size_alloc]; rfl) | rfl) ?_)
      | (refine wpList_store_fam sizeT rfl (.tmp 6) (.tmp 13) rfl w1.heap.size N1 M1 rfl rfl _ _ HA6.out ?_)
      | (refine wpList_store_fam sizeT rfl (.tmp 7) (.tmp 14) rfl (w1.heap.size + 1) N2 M2 rfl rfl _ _ HA7.out ?_))
    refine bodyPost_ret (v := .tuple #[.agg #[.int .i64 0, .slice none 0 0], .bool false]) (by simp [results, Try.results50, go_sem, q0, q1]) rfl ⟨_, rfl, own_nil _ _ _, ?_⟩
    exact (HB4.out.setCell (by show w.heap.size ≤ w.heap.size + 2; omega) _).setCell (by show w.heap.size ≤ w.heap.size + 2; omega) _
  · obtain ⟨h1, h2⟩ := fbB_in hfb
    rw [hfb] at HFO
    have e1 : fbN true n = n := rfl
    have e2 : fbN true m = m := rfl
    have e3 : fbM true la = marksTo la la.length := rfl
    have e4 : fbM true lb = marksTo lb lb.length := rfl
    generalize fbN true n = N1 at HFO e1
    generalize fbN true m = N2 at HFO e2
    generalize fbM true la = M1 at HFO e3
    generalize fbM true lb = M2 at HFO e4
    by_cases h3 : n = m
    · have hok := usB_yes h1 h2 h3
      rw [usN_yes hok, usL_yes hok, hok]
      have HU := hide (both_same h1 (show okSp n lb = true by rw [h3]; exact h2))
      rw [← e3, ← e4] at HU
      have hnn : (N1 != N2) = false := by rw [e1, e2, h3]; simp
      have HE1 := hide e1
      have HRG := hide (sets_app_range M1 M2)
      have HLN := hide (show (setsTo M1 128 ++ setsTo M2 128).length < 1000000000 by have := setsTo_len M1 128; have := setsTo_len M2 128; simp; omega)
      clear hok h1 h2 hfb h3 e1 e2 e3 e4
      go_enter Try.func50, Try.ntmps50
      go_wp2_with (first
        | (go_at_call 70; refine HFO.out.mono ?_; rintro e w1 ⟨rfl, hb1⟩; rw [HZ0.out] at hb1; have hz1 := hb1.size; rw [HZ0.out] at hz1; have HA6 := hide ((famAt.new 63 w1 0 noSet).alloc (.cells (fam 0 noSet) 63)); have HA7 := hide (show famAt 63 (((w1.alloc (.cells (fam 0 noSet) 63)).alloc (.cells (fam 0 noSet) 63)).setRow w1.heap.size (fam N1 M1)) (w1.heap.size + 1) 0 noSet from (show famAt 63 ((w1.alloc (.cells (fam 0 noSet) 63)).alloc (.cells (fam 0 noSet) 63)) (w1.heap.size + 1) 0 noSet by (have h := famAt.new 63 (w1.alloc (.cells (fam 0 noSet) 63)) 0 noSet; simpa using h)).rowO w1.heap.size (by omega) _); have hfa4 := (HA6.out.row N1 M1).rowO (w1.heap.size + 1) (by omega) (fam N2 M2); have hfb4 := HA7.out.row N2 M2; have hr4 : ((((w1.alloc (.cells (fam 0 noSet) 63)).alloc (.cells (fam 0 noSet) 63)).setRow w1.heap.size (fam N1 M1)).setRow (w1.heap.size + 1) (fam N2 M2)).heap[w.heap.size + 2]? = some (.cells #[.int .i64 0, .slice none 0 0] 28) := (hp_rowO _ _ _ _ (by omega)).trans ((hp_rowO _ _ _ _ (by omega)).trans ((hp_old _ _ _ (by simp; omega)).trans ((hp_old _ _ _ (by omega)).trans ((hb1.block (w.heap.size + 2) (by omega)).trans HR0.out)))); have HR4 := hide hr4; have HFA4 := hide hfa4; have HFB4 := hide hfb4; have g1 := hfa4.get0; have g2 := hfb4.get0; obtain ⟨q0, q1, q2, q3⟩ := zero_slots hr4; have HB4 := hide (bl_row (bl_row (((H0.out.trans (hb1.mono (by omega))).alloc (by omega) (.cells (fam 0 noSet) 63)).alloc (by simp; omega) (.cells (fam 0 noSet) 63)) (show w.heap.size ≤ w1.heap.size by omega) (fam N1 M1)) (show w.heap.size ≤ w1.heap.size + 1 by omega) (fam N2 M2)); have HZX := hide (show ((((w1.alloc (.cells (fam 0 noSet) 63)).alloc (.cells (fam 0 noSet) 63)).setRow w1.heap.size (fam N1 M1)).setRow (w1.heap.size + 1) (fam N2 M2)).heap.size = w1.heap.size + 1 + 1 by simp [World.setRow]); clear hb1 hfa4 hfb4 hr4)
        | (refine wpList_alloc_fam zeroT rfl rfl _ (by first | (simp only [World.size_alloc]; rfl) | rfl) ?_)
        | (refine wpList_store_fam sizeT rfl (.tmp 6) (.tmp 13) rfl w1.heap.size N1 M1 rfl rfl _ _ HA6.out ?_)
        | (refine wpList_store_fam sizeT rfl (.tmp 7) (.tmp 14) rfl (w1.heap.size + 1) N2 M2 rfl rfl _ _ HA7.out ?_))
      generalize ((((w1.alloc (.cells (fam 0 noSet) 63)).alloc (.cells (fam 0 noSet) 63)).setRow w1.heap.size (fam N1 M1)).setRow (w1.heap.size + 1) (fam N2 M2)) = C at HR4 HFA4 HFB4 HB4 HZX q0 q1 q2 q3 g1 g2 ⊢
      refine wp_region_held (S := fun w' => famAt 63 w' w1.heap.size N1 M1 ∧ famAt 63 w' (w1.heap.size + 1) N2 M2) (by kernel_rfl) ?_
      have hS : famAt 63 C.drew w1.heap.size N1 M1 ∧ famAt 63 C.drew (w1.heap.size + 1) N2 M2 := ⟨HFA4.out, HFB4.out⟩
      refine wpAnyH_take (i := 0) (v := .pointer (some ⟨w1.heap.size, 0, none⟩)) rfl (by kernel_rfl) (by kernel_rfl) (by kernel_rfl) (fun _ _ _ h => h) (.inl ⟨rfl, fun w' _ => by go_simp⟩) hS ?_
      refine wpAnyH_take (i := 2) rfl (by kernel_rfl) (by kernel_rfl) (by kernel_rfl) (fun _ _ _ h => h) (yields_load_fam rowT sizeT rfl (.tmp _) rfl _ rfl N1 M1 (fun w' h => h.1)) hS ?_
      refine wpAnyH_take (i := 4) rfl (by kernel_rfl) (by kernel_rfl) (by kernel_rfl) (fun _ _ _ h => h) (yields_load_fam rowT sizeT rfl (.tmp _) rfl _ rfl N2 M2 (fun w' h => h.2)) hS ?_
      refine wpAnyH_take (i := 1) rfl (by kernel_rfl) (by kernel_rfl) (by kernel_rfl) (fun _ _ _ h => h) (yields_load_cell rowI rfl (.tmp _) rfl ⟨w1.heap.size, 0, none⟩ rfl (.int .i64 N1) (fun w' h => h.1.get0)) hS ?_
      simp only [Act.put, List.getElem_toArray, List.getElem_cons_zero, List.getElem_cons_succ, List.setIfInBounds_toArray, List.set_cons_zero, List.set_cons_succ]
      refine anyH_call (i := 3) (by kernel_rfl) rfl rfl 78 ent_setsU _ _ rfl #[.agg (fam N1 M1)] rfl (sets_c N1 M1 _) ?_
      rintro e w3 ⟨v3, rfl, ho3, hb3⟩
      have hS3 : famAt 63 w3 w1.heap.size N1 M1 ∧ famAt 63 w3 (w1.heap.size + 1) N2 M2 := ⟨hS.1.below hb3 hS.1.lt, hS.2.below hb3 hS.2.lt⟩
      refine ⟨_, rfl, hS3, ?_⟩
      simp only [Act.put, List.getElem_toArray, List.getElem_cons_zero, List.getElem_cons_succ, List.setIfInBounds_toArray, List.set_cons_zero, List.set_cons_succ]
      refine anyH_call (i := 5) (by kernel_rfl) rfl rfl 78 ent_setsU _ _ rfl #[.agg (fam N2 M2)] rfl (sets_c N2 M2 _) ?_
      rintro e w4 ⟨v4, rfl, ho4, hb4⟩
      have hS4 : famAt 63 w4 w1.heap.size N1 M1 ∧ famAt 63 w4 (w1.heap.size + 1) N2 M2 := ⟨hS3.1.below hb4 hS3.1.lt, hS3.2.below hb4 hS3.2.lt⟩
      refine ⟨_, rfl, hS4, ?_⟩
      have hzX := HZX.out
      have hz3 : (w1.heap.size + 1) + 1 ≤ w3.heap.size := by have h : C.heap.size ≤ w3.heap.size := hb3.size; omega
      have hz4 := hb4.size
      have ho34 := ho3.kept hb4
      have ho34' : own 3 w4 ((w1.heap.size + 1) + 1) v3 (setsTo M1 128) := ho34.mono (show (w1.heap.size + 1) + 1 ≤ C.heap.size by omega)
      obtain ⟨v5, w5, hr5, ho5, hb5⟩ := run_appendN (P := Try.prog) (t := 22) sliceT intI 22 w4 ((w1.heap.size + 1) + 1) v3 _ ho34' v4 _ w4.heap.size ho4.ints (by omega) (by have := HLN.out; simpa using this)
      have hS5 : famAt 63 w5 w1.heap.size N1 M1 ∧ famAt 63 w5 (w1.heap.size + 1) N2 M2 := ⟨hS4.1.below hb5 (by have := HFA4.out.lt; omega), hS4.2.below hb5 (by omega)⟩
      simp only [Act.put, List.getElem_toArray, List.getElem_cons_zero, List.getElem_cons_succ, List.setIfInBounds_toArray, List.set_cons_zero, List.set_cons_succ]
      refine anyH_op (i := 6) (by kernel_rfl) rfl rfl v5 w5 (exec_append _ _ rfl rfl rfl hr5) hS5 ?_
      simp only [Act.put, List.getElem_toArray, List.getElem_cons_zero, List.getElem_cons_succ, List.setIfInBounds_toArray, List.set_cons_zero, List.set_cons_succ]
      refine anyH_call (i := 7) (by kernel_rfl) rfl rfl 92 ent_unionsU _ _ rfl #[.int .i64 N1, v5] rfl (unionsOf_c N1 v5 (setsTo M1 128 ++ setsTo M2 128) w5 ho5.ints HRG.out HLN.out) ?_
      rw [HU.out]
      rintro e w6 ⟨rfl, hb6⟩
      have hS6 : famAt 63 w6 w1.heap.size N1 M1 ∧ famAt 63 w6 (w1.heap.size + 1) N2 M2 := ⟨hS5.1.below hb6 hS5.1.lt, hS5.2.below hb6 hS5.2.lt⟩
      refine ⟨_, rfl, hS6, ?_⟩
      simp only [Act.put, List.getElem_toArray, List.getElem_cons_zero, List.getElem_cons_succ, List.setIfInBounds_toArray, List.set_cons_zero, List.set_cons_succ]
      refine anyH_call (i := 8) (by kernel_rfl) rfl rfl 89 ent_spaceU _ _ rfl #[.agg (fam N1 (prOut la lb la.length))] rfl (space_c N1 (prOut la lb la.length) w6) ?_
      rintro e w7 ⟨v7, rfl, ho7, hb7⟩
      have hS7 : famAt 63 w7 w1.heap.size N1 M1 ∧ famAt 63 w7 (w1.heap.size + 1) N2 M2 := ⟨hS6.1.below hb7 hS6.1.lt, hS6.2.below hb7 hS6.2.lt⟩
      obtain ⟨aa, cc, hv⟩ := ho7.shape
      have hz5 := hb5.size
      have hz6 := hb6.size
      have hbA : Below ((w1.heap.size + 1) + 1) C w7 := (Below.refl _ _).drew.trans ((hb3.mono (by show (w1.heap.size + 1) + 1 ≤ C.heap.size; omega)).trans ((hb4.mono hz3).trans (hb5.trans ((hb6.mono (by omega)).trans (hb7.mono (by omega))))))
      have hr7 := (hbA.block (w.heap.size + 2) (by omega)).trans HR4.out
      refine ⟨_, rfl, hS7, ?_⟩
      clear q0 q1 q2 q3
      obtain ⟨q0, q1, q2, q3⟩ := zero_slots hr7
      have HB7 := hide (HB4.out.trans (hbA.mono (by omega)))
      have HO7 := hide ho7
      have hz1' : w.heap.size + 3 ≤ w1.heap.size := hz1
      subst hv
      have hSF : famAt 63 ((w7.setCell ⟨w.heap.size + 2, 0, none⟩ (.int .i64 N1)).setCell ⟨w.heap.size + 2, 1, none⟩ (.slice aa (setsTo (prOut la lb la.length) 128).length cc)) w1.heap.size N1 M1 ∧ famAt 63 ((w7.setCell ⟨w.heap.size + 2, 0, none⟩ (.int .i64 N1)).setCell ⟨w.heap.size + 2, 1, none⟩ (.slice aa (setsTo (prOut la lb la.length) 128).length cc)) (w1.heap.size + 1) N2 M2 := ⟨(hS7.1.setO ⟨w.heap.size + 2, 0, none⟩ (show w1.heap.size ≠ w.heap.size + 2 by omega) _).setO ⟨w.heap.size + 2, 1, none⟩ (show w1.heap.size ≠ w.heap.size + 2 by omega) _, (hS7.2.setO ⟨w.heap.size + 2, 0, none⟩ (show (w1.heap.size + 1) ≠ w.heap.size + 2 by omega) _).setO ⟨w.heap.size + 2, 1, none⟩ (show (w1.heap.size + 1) ≠ w.heap.size + 2 by omega) _⟩
      simp only [Act.put, List.getElem_toArray, List.getElem_cons_zero, List.getElem_cons_succ, List.setIfInBounds_toArray, List.set_cons_zero, List.set_cons_succ]
      refine anyH_skip (i := 9) (by kernel_rfl) rfl rfl ((w7.setCell ⟨w.heap.size + 2, 0, none⟩ (.int .i64 N1)).setCell ⟨w.heap.size + 2, 1, none⟩ (.slice aa (setsTo (prOut la lb la.length) 128).length cc)) ?hq2 hSF ?_
      case hq2 => simp [go_sem, q0, q1, q2, q3]
      refine anyH_op (i := 10) (by kernel_rfl) rfl rfl (.bool true) _ ?hq3 hSF ?_
      case hq3 => simp [go_sem]
      refine wpAnyH_done (by kernel_rfl) ?_ _
      simp only [Act.put, List.getElem_toArray, List.getElem_cons_zero, List.getElem_cons_succ, List.setIfInBounds_toArray, List.set_cons_zero, List.set_cons_succ]
      clear hS hS3 hS4 hS5 hS6 hS7 hSF hb3 hb4 hb5 hb6 hb7 hbA hr7 ho7 ho3 ho4 ho34 ho34' ho5 hr5 g1 g2
      go_wp2
      refine bodyPost_ret (v := .tuple #[.agg #[.int .i64 N1, .slice aa (setsTo (prOut la lb la.length) 128).length cc], .bool true]) (by simp [results, Try.results50, go_sem, q0, q1]) rfl ⟨_, by rw [HE1.out], ?_, ?_⟩
      · have hfin := ((HO7.out.setLow ⟨w.heap.size + 2, 0, none⟩ (show w.heap.size + 2 < w6.heap.size by omega) (.int .i64 N1)).setLow ⟨w.heap.size + 2, 1, none⟩ (show w.heap.size + 2 < w6.heap.size by omega) (.slice aa (setsTo (prOut la lb la.length) 128).length cc))
        exact hfin.mono (show w.heap.size ≤ w6.heap.size by omega)
      · exact (HB7.out.setCell (by show w.heap.size ≤ w.heap.size + 2; omega) _).setCell (by show w.heap.size ≤ w.heap.size + 2; omega) _
    · have hno : usB n la m lb = false := usB_no3 h3
      rw [usN_no hno, usL_no hno, hno]
      have hnn : (N1 != N2) = true := by rw [e1, e2]; simpa using h3
      clear hfb hno h1 h2 h3 e1 e2 e3 e4
      go_enter Try.func50, Try.ntmps50
      go_wp2_with (first
        | (go_at_call 70; refine HFO.out.mono ?_; rintro e w1 ⟨rfl, hb1⟩; rw [HZ0.out] at hb1; have hz1 := hb1.size; rw [HZ0.out] at hz1; have HA6 := hide ((famAt.new 63 w1 0 noSet).alloc (.cells (fam 0 noSet) 63)); have HA7 := hide (show famAt 63 (((w1.alloc (.cells (fam 0 noSet) 63)).alloc (.cells (fam 0 noSet) 63)).setRow w1.heap.size (fam N1 M1)) (w1.heap.size + 1) 0 noSet from (show famAt 63 ((w1.alloc (.cells (fam 0 noSet) 63)).alloc (.cells (fam 0 noSet) 63)) (w1.heap.size + 1) 0 noSet by (have h := famAt.new 63 (w1.alloc (.cells (fam 0 noSet) 63)) 0 noSet; simpa using h)).rowO w1.heap.size (by omega) _); have hfa4 := (HA6.out.row N1 M1).rowO (w1.heap.size + 1) (by omega) (fam N2 M2); have hfb4 := HA7.out.row N2 M2; have hr4 : ((((w1.alloc (.cells (fam 0 noSet) 63)).alloc (.cells (fam 0 noSet) 63)).setRow w1.heap.size (fam N1 M1)).setRow (w1.heap.size + 1) (fam N2 M2)).heap[w.heap.size + 2]? = some (.cells #[.int .i64 0, .slice none 0 0] 28) := (hp_rowO _ _ _ _ (by omega)).trans ((hp_rowO _ _ _ _ (by omega)).trans ((hp_old _ _ _ (by simp; omega)).trans ((hp_old _ _ _ (by omega)).trans ((hb1.block (w.heap.size + 2) (by omega)).trans HR0.out)))); have HR4 := hide hr4; have HFA4 := hide hfa4; have HFB4 := hide hfb4; have g1 := hfa4.get0; have g2 := hfb4.get0; obtain ⟨q0, q1, q2, q3⟩ := zero_slots hr4; have HB4 := hide (bl_row (bl_row (((H0.out.trans (hb1.mono (by omega))).alloc (by omega) (.cells (fam 0 noSet) 63)).alloc (by simp; omega) (.cells (fam 0 noSet) 63)) (show w.heap.size ≤ w1.heap.size by omega) (fam N1 M1)) (show w.heap.size ≤ w1.heap.size + 1 by omega) (fam N2 M2)); have HZX := hide (show ((((w1.alloc (.cells (fam 0 noSet) 63)).alloc (.cells (fam 0 noSet) 63)).setRow w1.heap.size (fam N1 M1)).setRow (w1.heap.size + 1) (fam N2 M2)).heap.size = w1.heap.size + 1 + 1 by simp [World.setRow]); clear hb1 hfa4 hfb4 hr4)
        | (refine wpList_alloc_fam zeroT rfl rfl _ (by first | (simp only [World.size_alloc]; rfl) | rfl) ?_)
        | (refine wpList_store_fam sizeT rfl (.tmp 6) (.tmp 13) rfl w1.heap.size N1 M1 rfl rfl _ _ HA6.out ?_)
        | (refine wpList_store_fam sizeT rfl (.tmp 7) (.tmp 14) rfl (w1.heap.size + 1) N2 M2 rfl rfl _ _ HA7.out ?_))
      refine bodyPost_ret (v := .tuple #[.agg #[.int .i64 0, .slice none 0 0], .bool false]) (by simp [results, Try.results50, go_sem, q0, q1]) rfl ⟨_, rfl, own_nil _ _ _, ?_⟩
      exact (HB4.out.setCell (by show w.heap.size ≤ w.heap.size + 2; omega) _).setCell (by show w.heap.size ≤ w.heap.size + 2; omega) _

end Go.Proofs.Ytonimjpfaalniaa
