/- Contracts: SpaceOfClauses: the program's reading of the clauses. -/
import Derived.Test.YtonimjpfaalniaaDoorCb
import Derived.Test.YtonimjpfaalniaaDoorSc
import Derived.Test.YtonimjpfaalniaaDoorRt
import Derived.Test.YtonimjpfaalniaaDoorLib
namespace Go.Proofs.YtonimjpfaalniaaDoor
open Go.RowKit
set_option maxRecDepth 100000
section
variable {P : Program} {ops : Array Oper} {Q : Exit → Act → World → Prop} {md : Region.Mode} {S : World → Prop} {fuel : Nat} {listed : Array Bool} {a : Act} {w : World}
/-- One operation that comes up alone, told by a walk over it. -/
theorem anyH_one {i : Nat} {o : Oper} (hr : Region.ready md ops listed = [i]) (hi : ops[i]? = some o) (hw : Region.wanted o (yielded ops a.tmps) = true)
    (h : ∀ Q1 : Exit → Act → World → Prop, (∀ a' w', S w' → wpAnyH P md ops Q S fuel (listed.setIfInBounds i true) a' w' → Q1 .normal a' w') → wpList P ops Q1 [o] a w) : wpAnyH P md ops Q S (fuel + 1) listed a w := by
  refine wpAnyH_all hr (by simp) fun j hj => ?_
  have hj' : j = i := by simpa using hj
  subst hj'
  have h1 := h (fun e a' w' => (e = .normal ∧ S w' ∧ wpAnyH P md ops Q S fuel (listed.setIfInBounds j true) a' w') ∨ (e ≠ .normal ∧ Q e a' w')) (fun a' w' h1 h2 => .inl ⟨rfl, h1, h2⟩)
  unfold wpList at h1
  rw [if_pos hw] at h1
  unfold wpOp
  simp only [hi, hw, if_true]
  rcases h1 with h1 | ⟨h1, a', w', h2⟩
  · refine .inl ?_
    unfold Oper.wp at *
    generalize (execOp a.eval o).run P w = r at *
    have hn : ∀ a' w', wpList P ops (fun e a' w' => (e = .normal ∧ S w' ∧ wpAnyH P md ops Q S fuel (listed.setIfInBounds j true) a' w') ∨ (e ≠ .normal ∧ Q e a' w')) [] a' w' → S w' ∧ wpAnyH P md ops Q S fuel (listed.setIfInBounds j true) a' w' := fun a' w' h => by
      rcases h with h | h
      · exact h.2
      · exact absurd rfl h.1
    have hp : ∀ c a' w', ((Exit.panic c = .normal ∧ S w' ∧ wpAnyH P md ops Q S fuel (listed.setIfInBounds j true) a' w') ∨ (Exit.panic c ≠ .normal ∧ Q (.panic c) a' w')) → Q (.panic c) a' w' := fun c a' w' h => by
      rcases h with h | h
      · cases h.1
      · exact h.2
    cases r with
    | ok n w' =>
      cases n <;> simp only [Oper.upon] at h1 ⊢
      case value => exact hn _ _ h1
      case skip => exact hn _ _ h1
      case defer => exact hn _ _ h1
      case enter =>
        refine Calls.mono h1 (fun e w'' he => ?_)
        cases e with
        | returned v => exact hn _ _ he
        | panicked c => exact hp _ _ _ he
        | outgrown =>
          obtain ⟨a2, w2, h3⟩ := he
          rcases h3 with h3 | h3
          · cases h3.1
          · exact ⟨a2, w2, h3.2⟩
      case row => exact Rows.mono h1 (fun _ _ he => hn _ _ he)
    | halt x w' =>
      cases x <;> simp only [Oper.upon] at h1 ⊢
      case panic => exact hp _ _ _ h1
  · refine .inr ⟨h1, ?_⟩
    rcases h2 with h2 | h2
    · cases h2.1
    · exact ⟨a', w', h2.2⟩
theorem q_callL {rest : List Oper} {o : Oper} {Q : Act → Prop} (hw : Region.wanted o (yielded ops a.tmps) = true) (k : FuncId) (hk : enters P k) (xs : Array Operand) (ts : Array TypeId)
    (ho : o.op = .call { callee := .value (.func k), args := xs, argTypes := ts }) (args : Array Value) (hal : xs.toList.map a.eval = args.toList) (v : Value)
    (hc : ∀ w', Below w.heap.size w w' → Calls P k args w' fun e w'' => e = .returned v ∧ Below w'.heap.size w' w'')
    (h : wpQuiet P ops (fun w' => Below w.heap.size w w') Q rest (a.put o.dst v)) : wpQuiet P ops (fun w' => Below w.heap.size w w') Q (o :: rest) a :=
  q_call hw k hk xs ts ho args (Array.toList_inj.1 (by simpa using hal)) v hc h
/-- An element's address. -/
theorem exec_atk {t I : TypeId} (ht : P.underlying t = some (.slice I)) {o : Oper} {a : Act} (x y : Operand) (ho : o.op = .indexAddr t x y)
    (b of c n k : Nat) (hx : a.eval x = .slice (some ⟨b, of, none⟩) n c) (i : Int) (hy : a.eval y = .int .i64 i) (hik : i = (k : Int)) (hn : k < n) (hI : (P.info? I).map (·.size) = some 1) (w : World) : (execOp a.eval o).run P w = .ok (.value (.pointer (some ⟨b, of + k, none⟩))) w := by
  subst hik
  have he : P.underlying t = some (.slice (P.elem t)) := by
    rw [ht]; simp [Program.elem, ht]
  have hE : P.elem t = I := by simp [Program.elem, ht]
  have hs : (sizeOf I).run P w = .ok 1 w := by
    cases hq : P.info? I with
    | none => simp [hq] at hI
    | some j =>
      have : j.size = 1 := by simpa [hq] using hI
      simp [sizeOf, typeInfo, hq, this]
  have hr : (Instr.indexAt t (.slice (some ⟨b, of, none⟩) n c) (.int .i64 (k : Int))).run P w = .ok (.pointer (some ⟨b, of + k, none⟩)) w := by
    rw [run_indexAt_slice (h := he), if_pos (by omega), hE, hs]
    simp [Addr.add]
  unfold execOp
  simp only [ho, hx, hy, Sem.run_bind, Sem.run_pure, hr, Result.andThen_ok]
end
theorem ent_isItemC : enters Tryd.prog 112 := enters_of Tryd.func112 (by kernel_rfl) (by kernel_rfl)
theorem ent_isSetC : enters Tryd.prog 143 := enters_of Tryd.func143 (by kernel_rfl) (by kernel_rfl)
theorem ent_hasC : enters Tryd.prog 135 := enters_of Tryd.func135 (by kernel_rfl) (by kernel_rfl)
theorem ent_newClauseC : enters Tryd.prog 154 := enters_of Tryd.func154 (by kernel_rfl) (by kernel_rfl)
theorem take_nextC (L : List (List Int)) (k : Nat) (hk : k < L.length) : L.take (k + 1) = L.take k ++ [L[k]?.getD []] := by
  rw [List.getElem?_eq_getElem hk, Option.getD_some, ← List.take_append_getElem hk]
attribute [local irreducible] p2 low memB risB
set_option maxHeartbeats 4000000 in
theorem readClauses_c (n : Nat) (v : Value) (L : List (List Int)) (w : World) (hl : rows w.heap.size w v L) (hs : small2 L) (h60 : L.length ≤ 60) (h7 : n ≤ 7) :
    Calls Tryd.prog 106 #[.agg (fam (n : Int) noSet), v] w fun e w' => ∃ v', e = .returned (.tuple #[v', .bool (rowsOk n L L.length)]) ∧ (rowsOk n L L.length = true → ownC w' w.heap.size v' L) ∧ Below w.heap.size w w' := by
  have HL := hide (hl.alloc (.cells (fam (n : Int) noSet) 83))
  have H0 := hide ((Below.refl w.heap.size w).alloc (Nat.le_refl _) (.cells (fam (n : Int) noSet) 83))
  have HF := hide (famAt.new 83 w (n : Int) noSet)
  have HZ := hide (show (w.alloc (.cells (fam (n : Int) noSet) 83)).heap.size = w.heap.size + 1 by simp)
  have hll := hs.1
  clear hl hs
  go_enter Tryd.func106, Tryd.ntmps106
  go_wp2_with (refine wpList_len2 sliceT2 rfl (.tmp _) rfl v rfl w.heap.size L HL.out ?_)
  generalize (w.alloc (.cells (fam (n : Int) noSet) 83)) = W at HL H0 HF HZ ⊢
  go_loopw [6, 11] (fun s i wr => ∃ k : Nat, k ≤ L.length ∧ i = .int .i64 (k : Int) ∧ Hid (ownC wr (w.heap.size + 1) s (L.take k)) ∧ Hid (rowsOk n L k = true) ∧ Hid (Below (w.heap.size + 1) W wr)) (fun _ i _ => L.length - (intOf i).toNat)
  case atStart => exact ⟨0, Nat.zero_le _, rfl, ownC_nil _ _, rfl, Below.refl _ _⟩
  case round =>
    obtain ⟨k, hk, rfl, HO, HJ, HB⟩ := hrel
    have hsz := HB.out.size
    rw [HZ.out] at hsz
    have HLW := hide (HL.out.below HB.out (by omega))
    have HFW := hide (HF.out.below HB.out (by omega))
    have HG0 := hide HFW.out.get0
    by_cases hlt : k < L.length
    · have HNX := hide (show rowsOk n L (k + 1) = (rowsOk n L k && rowOk n (L[k]?.getD [])) from rfl)
      have HFA := hide (fun h => rowsOk_false (n := (n : Int)) (L := L) (k := k) h L.length hlt)
      have HTK := hide (take_nextC L k hlt)
      have HTL := hide (show (L.take k).length ≤ 60 by rw [List.length_take]; omega)
      generalize hr : L[k]?.getD [] = r at HNX HFA HTK
      have HR := hide hr
      clear hr
      generalize L.take k = A at HO HTK HTL
      go_wp2_with (refine wpList_at2 sliceT2 rowS2 rfl (.tmp _) (.tmp _) rfl v rfl _ rfl k rfl w.heap.size L HLW.out hlt ?_; intro ad u hcell hblk hu; rw [HR.out] at hu; have HU := hide hu; obtain ⟨sa, sc, hsu⟩ := hu.shape; have HSU := hide (show ∃ b c, u = .slice b r.length c from ⟨sa, sc, hsu⟩); clear hu hsu)
      by_cases h2 : r.length = 2
      · have hb2 : ((r.length : Int) != 2) = false := by rw [h2]; rfl
        rcases HU.out with ⟨h0, _⟩ | ⟨ub, uo, uc, rfl, hub, hub2, hu4⟩
        · rw [h0] at h2; cases h2
        have HC4 := hide hu4
        clear hu4
        refine wp_region_old (by kernel_rfl) (by kernel_rfl) ?_
        go_big_quiet_step ((first | exact fun _ => rfl | exact fun _ => ⟨rfl, rfl⟩))
        refine q_len sliceT rfl (.tmp _) rfl _ rfl r.length HSU.out ?_
        simp only [Act.put, List.setIfInBounds_toArray, List.set_cons_zero, List.set_cons_succ]
        generalize hx : r[0]?.getD (0 : Int) = x
        generalize hy : r[1]?.getD (0 : Int) = y
        have HX := hide hx
        have HY := hide hy
        have HPB := hide (show rowOk n r = (decide (0 ≤ x ∧ x < (n : Int)) && (decide (0 ≤ y ∧ y ≤ (low n : Int)) && !(y.toNat.testBit x.toNat))) by
          unfold rowOk; rw [decide_eq_true h2, hx, hy, Bool.true_and, Int.toNat_natCast])
        clear hx hy
        go_big_quiet_step ((first | exact fun _ => rfl | exact fun _ => ⟨rfl, rfl⟩))
        go_big_quiet_step ((first | exact fun _ => rfl | exact fun _ => ⟨rfl, rfl⟩))
        go_big_quiet_step ((first | exact fun _ => rfl | exact fun _ => ⟨rfl, rfl⟩))
        refine q_at sliceT intS rfl _ _ rfl _ rfl _ rfl 0 rfl w.heap.size r wr HU.out (by omega) ?_
        intro ad0 hcell0 hblk0
        rw [HX.out] at hcell0
        simp only [Act.put, List.setIfInBounds_toArray, List.set_cons_zero, List.set_cons_succ]
        refine q_load_cell rowI rfl (.tmp _) rfl ad0 rfl (.int .i64 _) (fun w' h => (h.cell (by omega)).trans hcell0) ?_
        simp only [Act.put, List.setIfInBounds_toArray, List.set_cons_zero, List.set_cons_succ]
        go_big_quiet_step ((first | exact fun _ => rfl | exact fun _ => ⟨rfl, rfl⟩))
        refine q_load_cell rowI rfl (.tmp _) rfl ⟨w.heap.size, 0, none⟩ rfl (.int .i64 (n : Int)) (fun w' h => (h.cell (by show w.heap.size < wr.heap.size; omega)).trans HG0.out) ?_
        simp only [Act.put, List.setIfInBounds_toArray, List.set_cons_zero, List.set_cons_succ]
        cases hb0 : decide (0 ≤ x ∧ x < (n : Int))
        · have HB0 := hide hb0
          rw [hb0] at HPB
          have HRB := hide (HFA.out (by rw [HPB.out]; rfl))
          clear hb0
          refine q_pure rfl 112 ent_isItemC _ _ rfl #[.int .i64 x, .int .i64 (n : Int)] rfl (.bool false) (fun w' _ => by have := isItem_c x (n : Int) w'; rw [HB0.out] at this; exact this) ?_
          simp only [Act.put, List.setIfInBounds_toArray, List.set_cons_zero, List.set_cons_succ]
          repeat (first | go_big_quiet_skip | go_big_quiet_step ((first | exact fun _ => rfl | exact fun _ => ⟨rfl, rfl⟩)))
          refine wpQuiet_nil ?_
          intro w2 hb2
          have HW2 := hide (HB.out.trans (hb2.mono hsz))
          have HWB := hide hb2
          have hz2 := hb2.size
          clear hb2
          go_wp2
          refine bodyPost_ret (v := .tuple #[.slice none 0 0, .bool false]) (by simp [results, Tryd.results106, go_sem]) rfl ⟨_, by rw [HRB.out], fun h => ?_, H0.out.trans (HW2.out.mono (by omega))⟩
          rw [HRB.out] at h
          cases h
        · have HB0 := hide hb0
          rw [hb0] at HPB
          clear hb0
          refine q_pure rfl 112 ent_isItemC _ _ rfl #[.int .i64 x, .int .i64 (n : Int)] rfl (.bool true) (fun w' _ => by have := isItem_c x (n : Int) w'; rw [HB0.out] at this; exact this) ?_
          simp only [Act.put, List.setIfInBounds_toArray, List.set_cons_zero, List.set_cons_succ]
          have hxx := HB0.out
          rw [decide_eq_true_eq] at hxx
          obtain ⟨xi, hxi⟩ := Int.eq_ofNat_of_zero_le hxx.1
          subst hxi
          go_big_quiet_step ((first | exact fun _ => rfl | exact fun _ => ⟨rfl, rfl⟩))
          go_big_quiet_step ((first | exact fun _ => rfl | exact fun _ => ⟨rfl, rfl⟩))
          go_big_quiet_step ((first | exact fun _ => rfl | exact fun _ => ⟨rfl, rfl⟩))
          refine q_load_fam rowT sizeT rfl (.tmp _) rfl w.heap.size rfl (n : Int) noSet (fun w' h => HFW.out.below h (show w.heap.size < wr.heap.size by omega)) ?_
          simp only [Act.put, List.setIfInBounds_toArray, List.set_cons_zero, List.set_cons_succ]
          go_big_quiet_step ((first | exact fun _ => rfl | exact fun _ => ⟨rfl, rfl⟩))
          refine q_at sliceT intS rfl _ _ rfl _ rfl _ rfl 1 rfl w.heap.size r wr HU.out (by omega) ?_
          intro ad1 hcell1 hblk1
          rw [HY.out] at hcell1
          simp only [Act.put, List.setIfInBounds_toArray, List.set_cons_zero, List.set_cons_succ]
          refine q_load_cell rowI rfl (.tmp _) rfl ad1 rfl (.int .i64 _) (fun w' h => (h.cell (by omega)).trans hcell1) ?_
          simp only [Act.put, List.setIfInBounds_toArray, List.set_cons_zero, List.set_cons_succ]
          cases hb1 : decide (0 ≤ y ∧ y ≤ (low n : Int))
          · have HB1 := hide hb1
            rw [hb1] at HPB
            have HRB := hide (HFA.out (by rw [HPB.out]; rfl))
            clear hb1
            refine q_callL rfl 143 ent_isSetC _ _ rfl #[.agg (fam (n : Int) noSet), .int .i64 y] rfl (.bool false) (fun w' _ => by have := isSet_c (n : Int) noSet y w' (by omega) (by omega); rw [Int.toNat_natCast, HB1.out] at this; exact this) ?_
            simp only [Act.put, List.setIfInBounds_toArray, List.set_cons_zero, List.set_cons_succ]
            repeat (first | go_big_quiet_skip | go_big_quiet_step ((first | exact fun _ => rfl | exact fun _ => ⟨rfl, rfl⟩)))
            refine wpQuiet_nil ?_
            intro w2 hb2
            have HW2 := hide (HB.out.trans (hb2.mono hsz))
            have HWB := hide hb2
            have hz2 := hb2.size
            clear hb2
            go_wp2
            refine bodyPost_ret (v := .tuple #[.slice none 0 0, .bool false]) (by simp [results, Tryd.results106, go_sem]) rfl ⟨_, by rw [HRB.out], fun h => ?_, H0.out.trans (HW2.out.mono (by omega))⟩
            rw [HRB.out] at h
            cases h
          · have HB1 := hide hb1
            rw [hb1] at HPB
            clear hb1
            refine q_callL rfl 143 ent_isSetC _ _ rfl #[.agg (fam (n : Int) noSet), .int .i64 y] rfl (.bool true) (fun w' _ => by have := isSet_c (n : Int) noSet y w' (by omega) (by omega); rw [Int.toNat_natCast, HB1.out] at this; exact this) ?_
            simp only [Act.put, List.setIfInBounds_toArray, List.set_cons_zero, List.set_cons_succ]
            have hyy := HB1.out
            rw [decide_eq_true_eq] at hyy
            obtain ⟨yi, hyi⟩ := Int.eq_ofNat_of_zero_le hyy.1
            subst hyi
            have hl128 : low n < 128 := by have := low_succ n; have := p2_le n 7 h7; omega
            have hy128 : yi < 128 := by omega
            have hx7 : xi < 7 := by omega
            go_big_quiet_step ((first | exact fun _ => rfl | exact fun _ => ⟨rfl, rfl⟩))
            go_big_quiet_step ((first | exact fun _ => rfl | exact fun _ => ⟨rfl, rfl⟩))
            go_big_quiet_step ((first | exact fun _ => rfl | exact fun _ => ⟨rfl, rfl⟩))
            go_big_quiet_step ((first | exact fun _ => rfl | exact fun _ => ⟨rfl, rfl⟩))
            refine q_at sliceT intS rfl _ _ rfl _ rfl _ rfl 1 rfl w.heap.size r wr HU.out (by omega) ?_
            intro ad1 hcell1 hblk1
            rw [HY.out] at hcell1
            simp only [Act.put, List.setIfInBounds_toArray, List.set_cons_zero, List.set_cons_succ]
            refine q_load_cell rowI rfl (.tmp _) rfl ad1 rfl (.int .i64 _) (fun w' h => (h.cell (by omega)).trans hcell1) ?_
            simp only [Act.put, List.setIfInBounds_toArray, List.set_cons_zero, List.set_cons_succ]
            go_big_quiet_step ((first | exact fun _ => rfl | exact fun _ => ⟨rfl, rfl⟩))
            refine q_at sliceT intS rfl _ _ rfl _ rfl _ rfl 0 rfl w.heap.size r wr HU.out (by omega) ?_
            intro ad0 hcell0 hblk0
            rw [HX.out] at hcell0
            simp only [Act.put, List.setIfInBounds_toArray, List.set_cons_zero, List.set_cons_succ]
            refine q_load_cell rowI rfl (.tmp _) rfl ad0 rfl (.int .i64 _) (fun w' h => (h.cell (by omega)).trans hcell0) ?_
            simp only [Act.put, List.setIfInBounds_toArray, List.set_cons_zero, List.set_cons_succ]
            rw [Int.toNat_natCast, Int.toNat_natCast] at HPB
            cases hbit : yi.testBit xi
            · have HBT := hide hbit
              rw [hbit] at HPB
              clear hbit
              refine q_pure rfl 135 ent_hasC _ _ rfl #[.int .i64 (yi : Int), .int .i64 (xi : Int)] rfl (.bool false) (fun w' _ => by have := has_c (yi : Int) (xi : Int) w' (by omega) (by omega) (by omega) (by omega); rw [Int.toNat_natCast, Int.toNat_natCast, HBT.out] at this; exact this) ?_
              simp only [Act.put, List.setIfInBounds_toArray, List.set_cons_zero, List.set_cons_succ]
              repeat (first | go_big_quiet_skip | go_big_quiet_step ((first | exact fun _ => rfl | exact fun _ => ⟨rfl, rfl⟩)))
              refine wpQuiet_nil ?_
              intro w2 hb2
              have HW2 := hide (HB.out.trans (hb2.mono hsz))
              have HWB := hide hb2
              have hz2 := hb2.size
              clear hb2
              have HNN := hide (show rowsOk n L (k + 1) = true by rw [HNX.out, HJ.out, HPB.out]; rfl)
              have HO2 := hide (HO.out.kept HWB.out)
              obtain ⟨oa, oc, hso⟩ := HO2.out.shape
              subst hso
              have hc0 : w2.drew.cell? ⟨ub, uo + 0, none⟩ = some (.int .i64 (xi : Int)) := (HWB.out.cell (p := ⟨ub, uo + 0, none⟩) hub2).trans (by have := HC4.out 0 (by omega); rw [HX.out] at this; exact this)
              have hc1 : w2.drew.cell? ⟨ub, uo + 1, none⟩ = some (.int .i64 (yi : Int)) := (HWB.out.cell (p := ⟨ub, uo + 1, none⟩) hub2).trans (by have := HC4.out 1 (by omega); rw [HY.out] at this; exact this)
              obtain ⟨T, xv, hcv⟩ := clV_form xi yi
              have HCV := hide hcv
              have HRR := hide (show clR r = clV xi yi by unfold clR; rw [HX.out, HY.out, Int.toNat_natCast, Int.toNat_natCast])
              clear hcv
              go_wp2
              refine wp_region_held (S := fun w' => w'.cell? ⟨ub, uo + 0, none⟩ = some (.int .i64 (xi : Int)) ∧ w'.cell? ⟨ub, uo + 1, none⟩ = some (.int .i64 (yi : Int))) (by kernel_rfl) ?_
              have hS := And.intro hc0 hc1
              refine wpAnyH_take (i := 0) (v := .slice oa A.length oc) rfl (by kernel_rfl) (by kernel_rfl) (by kernel_rfl) (fun _ _ _ h => h) (.inl ⟨rfl, fun w' _ => by go_simp⟩) hS ?_
              refine wpAnyH_take (i := 1) (v := .slice (some ⟨ub, uo, none⟩) r.length uc) rfl (by kernel_rfl) (by kernel_rfl) (by kernel_rfl) (fun _ _ _ h => h) (.inl ⟨rfl, fun w' _ => by go_simp⟩) hS ?_
              refine wpAnyH_take (i := 4) (v := .slice (some ⟨ub, uo, none⟩) r.length uc) rfl (by kernel_rfl) (by kernel_rfl) (by kernel_rfl) (fun _ _ _ h => h) (.inl ⟨rfl, fun w' _ => by go_simp⟩) hS ?_
              refine wpAnyH_take (i := 2) (v := .pointer (some ⟨ub, uo + 0, none⟩)) rfl (by kernel_rfl) (by kernel_rfl) (by kernel_rfl) (fun _ _ _ h => h) (.inl ⟨rfl, fun w' _ => exec_atk sliceT _ _ rfl ub uo uc r.length 0 rfl 0 rfl rfl (by omega) intS w'⟩) hS ?_
              refine wpAnyH_take (i := 5) (v := .pointer (some ⟨ub, uo + 1, none⟩)) rfl (by kernel_rfl) (by kernel_rfl) (by kernel_rfl) (fun _ _ _ h => h) (.inl ⟨rfl, fun w' _ => exec_atk sliceT _ _ rfl ub uo uc r.length 1 rfl 1 rfl rfl (by omega) intS w'⟩) hS ?_
              refine wpAnyH_take (i := 3) rfl (by kernel_rfl) (by kernel_rfl) (by kernel_rfl) (fun _ _ _ h => h) (yields_load_cell rowI rfl (.tmp _) rfl ⟨ub, uo + 0, none⟩ rfl (.int .i64 (xi : Int)) (fun w' h => h.1)) hS ?_
              refine wpAnyH_take (i := 6) rfl (by kernel_rfl) (by kernel_rfl) (by kernel_rfl) (fun _ _ _ h => h) (yields_load_cell rowI rfl (.tmp _) rfl ⟨ub, uo + 1, none⟩ rfl (.int .i64 (yi : Int)) (fun w' h => h.2)) hS ?_
              simp only [Act.put, List.getElem_toArray, List.getElem_cons_zero, List.getElem_cons_succ, List.setIfInBounds_toArray, List.set_cons_zero, List.set_cons_succ]
              refine anyH_call (i := 7) (by kernel_rfl) rfl rfl 154 ent_newClauseC _ _ rfl #[.int .i64 (xi : Int), .int .i64 (yi : Int)] rfl (newClause_c xi yi w2.drew) ?_
              rw [HCV.out]
              rintro e w5 ⟨rfl, hb5⟩
              have hz5 : w2.heap.size ≤ w5.heap.size := hb5.size
              have hS5 : w5.cell? ⟨ub, uo + 0, none⟩ = some (.int .i64 (xi : Int)) ∧ w5.cell? ⟨ub, uo + 1, none⟩ = some (.int .i64 (yi : Int)) := ⟨(hb5.cell (p := ⟨ub, uo + 0, none⟩) (by show ub < w2.heap.size; omega)).trans hS.1, (hb5.cell (p := ⟨ub, uo + 1, none⟩) (by show ub < w2.heap.size; omega)).trans hS.2⟩
              have HO5 := hide (show ownC w5 (w.heap.size + 1) (.slice oa A.length oc) A from HO2.out.kept ((Below.refl _ _).drew.trans hb5))
              have HB5 := hide (HW2.out.trans ((Below.refl _ _).drew.trans (hb5.mono (show w.heap.size + 1 ≤ w2.heap.size by omega))))
              refine ⟨_, rfl, hS5, ?_⟩
              simp only [Act.put, List.getElem_toArray, List.getElem_cons_zero, List.getElem_cons_succ, List.setIfInBounds_toArray, List.set_cons_zero, List.set_cons_succ]
              have hS6 : (w5.alloc (.cells #[.iface T xv] 159)).cell? ⟨ub, uo + 0, none⟩ = some (.int .i64 (xi : Int)) ∧ (w5.alloc (.cells #[.iface T xv] 159)).cell? ⟨ub, uo + 1, none⟩ = some (.int .i64 (yi : Int)) := by
                have hba := (Below.refl w5.heap.size w5).alloc (Nat.le_refl _) (.cells #[.iface T xv] 159)
                exact ⟨(hba.cell (p := ⟨ub, uo + 0, none⟩) (by show ub < w5.heap.size; omega)).trans hS5.1, (hba.cell (p := ⟨ub, uo + 1, none⟩) (by show ub < w5.heap.size; omega)).trans hS5.2⟩
              refine anyH_op (i := 8) (by kernel_rfl) rfl rfl (.slice (some ⟨w5.heap.size, 0, none⟩) 1 1) (w5.alloc (.cells #[.iface T xv] 159)) ?hq8 hS6 ?_
              case hq8 => simp [go_sem]
              simp only [Act.put, List.getElem_toArray, List.getElem_cons_zero, List.getElem_cons_succ, List.setIfInBounds_toArray, List.set_cons_zero, List.set_cons_succ]
              have HO7 := hide (HO5.out.kept ((Below.refl w5.heap.size w5).alloc (Nat.le_refl _) (.cells #[.iface T xv] 159)))
              refine anyH_one (i := 9) (by kernel_rfl) rfl rfl ?_
              intro Q1 hQ1
              have htl := HTL.out
              refine wpList_appendC rfl _ _ rfl (w.heap.size + 1) _ A rfl HO7.out w5.heap.size r rfl (by rw [HRR.out, HCV.out]; simp [go_sem]) (by simp; omega) (by omega) ?_
              intro v8 w8 ho8 hoth8 _
              obtain ⟨va, vc, hsv⟩ := ho8.shape
              subst hsv
              have hB8 := hoth8.below (w.heap.size + 1) (fun g hg => (HO7.out.lt g hg).1) (by simp; omega)
              have HB8 := hide ((HB5.out.alloc (show w.heap.size + 1 ≤ w5.heap.size by omega) (.cells #[.iface T xv] 159)).trans hB8)
              have HO8 := hide ho8
              have hS8 : w8.cell? ⟨ub, uo + 0, none⟩ = some (.int .i64 (xi : Int)) ∧ w8.cell? ⟨ub, uo + 1, none⟩ = some (.int .i64 (yi : Int)) :=
                ⟨(hB8.cell (p := ⟨ub, uo + 0, none⟩) (by show ub < w.heap.size + 1; omega)).trans hS6.1, (hB8.cell (p := ⟨ub, uo + 1, none⟩) (by show ub < w.heap.size + 1; omega)).trans hS6.2⟩
              refine wpList_nil ?_
              refine hQ1 _ _ hS8 ?_
              simp only [Act.put, List.getElem_toArray, List.getElem_cons_zero, List.getElem_cons_succ, List.setIfInBounds_toArray, List.set_cons_zero, List.set_cons_succ]
              refine anyH_op (i := 10) (by kernel_rfl) rfl rfl (.slice va (A ++ [r]).length vc) w8 ?hq10 hS8 ?_
              case hq10 => simp [go_sem]
              refine wpAnyH_done (by kernel_rfl) ?_ _
              simp only [Act.put, List.getElem_toArray, List.getElem_cons_zero, List.getElem_cons_succ, List.setIfInBounds_toArray, List.set_cons_zero, List.set_cons_succ]
              clear hS hS5 hS6 hS8 hb5 ho8 hoth8 hB8 hc0 hc1
              go_wp2
              go_roundw
              case rel => exact ⟨k + 1, by omega, by go_num, hide (by rw [HTK.out]; exact HO8.out), HNN, HB8⟩
              case measure => (simp [intOf] <;> omega)
            · have HBT := hide hbit
              rw [hbit] at HPB
              have HRB := hide (HFA.out (by rw [HPB.out]; rfl))
              clear hbit
              refine q_pure rfl 135 ent_hasC _ _ rfl #[.int .i64 (yi : Int), .int .i64 (xi : Int)] rfl (.bool true) (fun w' _ => by have := has_c (yi : Int) (xi : Int) w' (by omega) (by omega) (by omega) (by omega); rw [Int.toNat_natCast, Int.toNat_natCast, HBT.out] at this; exact this) ?_
              simp only [Act.put, List.setIfInBounds_toArray, List.set_cons_zero, List.set_cons_succ]
              repeat (first | go_big_quiet_skip | go_big_quiet_step ((first | exact fun _ => rfl | exact fun _ => ⟨rfl, rfl⟩)))
              refine wpQuiet_nil ?_
              intro w2 hb2
              have HW2 := hide (HB.out.trans (hb2.mono hsz))
              have HWB := hide hb2
              have hz2 := hb2.size
              clear hb2
              go_wp2
              refine bodyPost_ret (v := .tuple #[.slice none 0 0, .bool false]) (by simp [results, Tryd.results106, go_sem]) rfl ⟨_, by rw [HRB.out], fun h => ?_, H0.out.trans (HW2.out.mono (by omega))⟩
              rw [HRB.out] at h
              cases h
      · have hb2 : ((r.length : Int) != 2) = true := by simp; omega
        have HRB := hide (HFA.out (show rowOk n r = false by simp [rowOk, h2]))
        refine wp_region_old (by kernel_rfl) (by kernel_rfl) ?_
        go_big_quiet_step ((first | exact fun _ => rfl | exact fun _ => ⟨rfl, rfl⟩))
        refine q_len sliceT rfl (.tmp _) rfl u rfl r.length HSU.out ?_
        simp only [Act.put, List.setIfInBounds_toArray, List.set_cons_zero, List.set_cons_succ]
        repeat (first | go_big_quiet_skip | go_big_quiet_step ((first | exact fun _ => rfl | exact fun _ => ⟨rfl, rfl⟩)))
        refine wpQuiet_nil ?_
        intro w2 hb2
        have HW2 := hide (HB.out.trans (hb2.mono hsz))
        have HWB := hide hb2
        have hz2 := hb2.size
        clear hb2
        go_wp2
        refine bodyPost_ret (v := .tuple #[.slice none 0 0, .bool false]) (by simp [results, Tryd.results106, go_sem]) rfl ⟨_, by rw [HRB.out], fun h => ?_, H0.out.trans (HW2.out.mono (by omega))⟩
        rw [HRB.out] at h
        cases h
    · have HK := hide (show k = L.length by omega)
      have hlt' : ¬ ((k : Int) < (L.length : Int)) := by omega
      rw [HK.out, List.take_length] at HO
      obtain ⟨oa, oc, hso⟩ := HO.out.shape
      subst hso
      go_wp2
      refine bodyPost_ret (v := .tuple #[.slice oa L.length oc, .bool true]) (by simp [results, Tryd.results106, go_sem]) rfl ⟨_, by rw [show rowsOk (n : Int) L L.length = true by rw [← HK.out]; exact HJ.out], fun _ => ?_, H0.out.trans (HB.out.mono (by omega))⟩
      have h := HO.out
      obtain ⟨h1, h2⟩ := h
      refine ⟨h1, ?_⟩
      rcases h2 with h2 | ⟨g, cap, cur, e, hg, r⟩
      · exact .inl h2
      · exact .inr ⟨g, cap, cur, e, by omega, r⟩
end Go.Proofs.YtonimjpfaalniaaDoor
