/- Contracts: SpaceOfClauses: the specification's. -/
import Derived.Test.YtonimjpfaalniaaDoorSc
import Derived.Test.YtonimjpfaalniaaDoorRt
import Derived.Test.YtonimjpfaalniaaDoorLib
import Derived.Test.YtonimjpfaalniaaDoorTz
namespace Go.Proofs.YtonimjpfaalniaaDoor
open Go.RowKit
set_option maxRecDepth 100000
theorem ent_l1InG : enters Tryd.prog 99 := enters_of Tryd.func99 (by kernel_rfl) (by kernel_rfl)
theorem ent_spInG : enters Tryd.prog 100 := enters_of Tryd.func100 (by kernel_rfl) (by kernel_rfl)
theorem scB_noG {n : Int} {L : List (List Int)} (h : scA n L = false) : scN n L = 0 ∧ scL n L = [] ∧ scB n L = false := sc_no3 (scB_no1 h)
theorem rowOk_atG {n : Nat} {L : List (List Int)} (h7 : n ≤ 7) (h : rowsOk (n : Int) L L.length = true) (k : Nat) (hk : k < L.length) :
    ∃ i s : Nat, scI L k = i ∧ scM L k = s ∧ i < n ∧ s < 128 ∧ L[k]?.getD [] = [(i : Int), (s : Int)] := by
  have := (rowsOk_iff (n : Int) L L.length).1 h k hk
  obtain ⟨_, i, s, e, hi, hs, _⟩ := rowOk_in this (by omega)
  rw [Int.toNat_natCast] at hs
  have h1 := low_succ n
  have h2 := p2_le n 7 h7
  refine ⟨i, s, ?_, ?_, by omega, by omega, e⟩
  · unfold scI; rw [e]; simp
  · unfold scM; rw [e]; simp
theorem scIn_yes {L : List (List Int)} {k a : Nat} {F : Nat → Bool} {d : Nat} (h : scC L k a d = true) : scIn L k a F (d + 1) = upd (scIn L k a F d) (a ||| p2 (scI L d)) true := by rw [scIn, if_pos h]
theorem scIn_no {L : List (List Int)} {k a : Nat} {F : Nat → Bool} {d : Nat} (h : scC L k a d = false) : scIn L k a F (d + 1) = scIn L k a F d := by rw [scIn, if_neg (by rw [h]; exact Bool.false_ne_true)]
theorem scOut_rg (L : List (List Int)) (k : Nat) : ∀ j, j < (setsTo (scOut L k) 128).length → (setsTo (scOut L k) 128)[j]?.getD 0 = (nth (setsTo (scOut L k) 128) j : Int) ∧ nth (setsTo (scOut L k) 128) j < 128 := fun j hj => by
  have := setsTo_range (scOut L k) 128 j hj
  unfold nth; omega
attribute [local irreducible] p2 low memB risB
set_option maxHeartbeats 8000000 in
theorem specSpaceOfClauses_c (n : Int) (u : Value) (L : List (List Int)) (w : World) (hl : rows w.heap.size w u L) (hs : small2 L) (_hT : tab w) :
    Calls Tryd.prog 44 #[.int .i64 n, u] w fun e w' => ∃ v', e = .returned (.tuple #[.agg #[.int .i64 (scN n L), v'], .bool (scB n L)]) ∧ own 3 w' w.heap.size v' (scL n L) ∧ Below w.heap.size w w' := by
  have HR0 := hide (hp_last w (.cells #[.int .i64 0, .slice none 0 0] 30))
  have HBZ := hide ((Below.refl w.heap.size w).alloc (Nat.le_refl _) (.cells #[.int .i64 0, .slice none 0 0] 30))
  have HL0 := hide (hl.alloc (.cells #[.int .i64 0, .slice none 0 0] 30))
  have HZ0 := hide (show (w.alloc (.cells #[.int .i64 0, .slice none 0 0] 30)).heap.size = w.heap.size + 1 by simp)
  have HSM := hide hs
  have hll := hs.1
  obtain ⟨q0, q1, q2, q3⟩ := zero_slotsQ HR0.out
  clear hl hs
  by_cases hn : 1 ≤ n ∧ n ≤ 7
  · have HN := hide hn
    by_cases h60 : 60 < L.length
    · have HBX := hide (scB_noG (n := n) (L := L) (by unfold scA; rw [decide_eq_false (show ¬ L.length ≤ 60 by omega)]; simp))
      have hgt : (60 : Int) < (L.length : Int) := by omega
      clear hn
      go_enter Tryd.func44, Tryd.ntmps44
      go_wp2_with (first
        | (go_at_call 72; refine (spItems_c _ _).mono ?_; rw [decide_eq_true HN.out]; rintro e w1 ⟨rfl, rfl⟩)
        | (refine wpList_len2 sliceT2 rfl (.tmp _) rfl u rfl w.heap.size L HL0.out ?_))
      refine bodyPost_ret (v := .tuple #[.agg #[.int .i64 0, .slice none 0 0], .bool false]) (by simp [results, Tryd.results44, go_sem, q0, q1]) rfl ⟨_, by rw [HBX.out.1, HBX.out.2.2], by rw [HBX.out.2.1]; exact own_nil _ _ _, ?_⟩
      first | exact HBZ.out | exact (HBZ.out.setCell (by show w.heap.size ≤ w.heap.size; omega) _).setCell (by show w.heap.size ≤ w.heap.size; omega) _
    · have hgt : ¬ ((60 : Int) < (L.length : Int)) := by omega
      obtain ⟨m, rfl⟩ := Int.eq_ofNat_of_zero_le (show 0 ≤ n by omega)
      have hm1 : 1 ≤ m := by omega
      have hm7 : m ≤ 7 := by omega
      have HA := hide (show scA (m : Int) L = rowsOk (m : Int) L L.length by unfold scA; rw [decide_eq_true (show 1 ≤ (m : Int) ∧ (m : Int) ≤ 7 by omega), decide_eq_true (show L.length ≤ 60 by omega)]; rfl)
      have HB1 := hide (show scB (m : Int) L = (rowsOk (m : Int) L L.length && scF m L (low m)) by unfold scB; rw [HA.out, Int.toNat_natCast])
      have hsub : IntKind.i64.wrap ((m : Int) - 1) = (m : Int) - 1 := IntWalk.i64_in _ (by omega)
      have hp1 := wrap_p2 m (by omega)
      have hp2 : IntKind.i64.wrap (2 ^ m) = (p2 m : Int) := by rw [IntWalk.i64_left]; exact hp1
      have hp3 := wrap_low m (by omega)
      have hp4 : wrap64 ((p2 m : Int) - 1) = (low m : Int) := by rw [← IntWalk.i64_left]; exact hp3
      have hmin : min m 64 = m := by omega
      clear hn
      go_enter Tryd.func44, Tryd.ntmps44
      go_wp2_with (first
        | (go_at_call 72; refine (spItems_c _ _).mono ?_; rw [decide_eq_true HN.out]; rintro e w1 ⟨rfl, rfl⟩)
        | (refine wpList_len2 sliceT2 rfl (.tmp _) rfl u rfl w.heap.size L HL0.out ?_))
      generalize (w.alloc (.cells #[.int .i64 0, .slice none 0 0] 30)) = W at HR0 HBZ HL0 HZ0 q0 q1 q2 q3 ⊢
      clear q0 q1 q2 q3
      go_loopw [25] (fun i wr => ∃ k : Nat, k ≤ L.length ∧ i = .int .i64 (k : Int) ∧ Hid (rowsOk (m : Int) L k = true) ∧ Hid (Below (w.heap.size + 1) W wr)) (fun i _ => L.length - (intOf i).toNat)
      case atStart => exact ⟨0, Nat.zero_le _, rfl, rfl, Below.refl _ _⟩
      case round =>
        obtain ⟨k, hk, rfl, HJ, HB⟩ := hrel
        have hsz := HB.out.size
        rw [HZ0.out] at hsz
        have HLW := hide (HL0.out.below HB.out (by omega))
        by_cases hlt : k < L.length
        · have HNX := hide (show rowsOk (m : Int) L (k + 1) = (rowsOk (m : Int) L k && rowOk (m : Int) (L[k]?.getD [])) from rfl)
          have HFA := hide (fun h => scB_noG (n := (m : Int)) (L := L) (by rw [HA.out]; exact rowsOk_false (k := k) h L.length hlt))
          generalize hr : L[k]?.getD [] = r at HNX HFA
          have HR := hide hr
          clear hr
          go_wp2_with (refine wpList_at2 sliceT2 rowS2 rfl (.tmp _) (.tmp _) rfl u rfl _ rfl k rfl w.heap.size L HLW.out hlt ?_; intro ad uu hcell hblk hu; rw [HR.out] at hu; have HU := hide hu; obtain ⟨sa, sc, hsu⟩ := hu.shape; have HSU := hide (show ∃ b c, uu = .slice b r.length c from ⟨sa, sc, hsu⟩); clear hu hsu)
          refine wp_region_old (by kernel_rfl) (by kernel_rfl) ?_
          go_big_quiet_step ((first | exact fun _ => rfl | exact fun _ => ⟨rfl, rfl⟩))
          refine q_len sliceT rfl (.tmp _) rfl _ rfl r.length HSU.out ?_
          simp only [Act.put, List.setIfInBounds_toArray, List.set_cons_zero, List.set_cons_succ]
          by_cases h2 : r.length = 2
          · have hb2 : ((r.length : Int) != 2) = false := by rw [h2]; rfl
            generalize hx : r[0]?.getD (0 : Int) = x
            generalize hy : r[1]?.getD (0 : Int) = y
            have HX := hide hx
            have HY := hide hy
            have HPB := hide (show rowOk (m : Int) r = (decide (0 ≤ x ∧ x < (m : Int)) && (decide (0 ≤ y ∧ y ≤ (low m : Int)) && !(y.toNat.testBit x.toNat))) by
              unfold rowOk; rw [decide_eq_true h2, hx, hy, Bool.true_and, Int.toNat_natCast])
            clear hx hy
            go_big_quiet_step ((first | exact fun _ => rfl | exact fun _ => ⟨rfl, rfl⟩))
            go_big_quiet_step ((first | exact fun _ => rfl | exact fun _ => ⟨rfl, rfl⟩))
            go_big_quiet_step ((first | exact fun _ => rfl | exact fun _ => ⟨rfl, rfl⟩))
            refine q_at sliceT intS rfl _ _ rfl _ rfl _ rfl 0 rfl w.heap.size r wr HU.out (by omega) ?_
            intro ad0 hcell0 hblk0
            rw [HX.out] at hcell0
            simp only [Act.put, List.setIfInBounds_toArray, List.set_cons_zero, List.set_cons_succ]
            refine q_load_cell rowI rfl (.tmp _) rfl ad0 rfl (.int .i64 _) (fun w' h => (h.cell (by omega)).trans hcell0) ?_
            simp only [Act.put, List.setIfInBounds_toArray, List.set_cons_zero, List.set_cons_succ]
            go_big_quiet_step ((first | exact fun _ => rfl | exact fun _ => ⟨rfl, rfl⟩))
            go_big_quiet_step ((first | exact fun _ => rfl | exact fun _ => ⟨rfl, rfl⟩))
            cases hb0 : decide (0 ≤ x ∧ x < (m : Int))
            · have HB0 := hide (show decide (0 ≤ x ∧ x ≤ (m : Int) - 1) = false by rw [← hb0, decide_eq_decide]; omega)
              rw [hb0] at HPB
              have HRB := hide (HFA.out (by rw [HPB.out]; rfl))
              clear hb0
              refine q_pure rfl 99 ent_l1InG _ _ rfl #[.int .i64 x, .int .i64 0, .int .i64 ((m : Int) - 1)] rfl (.bool false) (fun w' _ => by have := l1In_c x 0 ((m : Int) - 1) w'; rw [HB0.out] at this; exact this) ?_
              simp only [Act.put, List.setIfInBounds_toArray, List.set_cons_zero, List.set_cons_succ]
              repeat (first | go_big_quiet_skip | go_big_quiet_step ((first | exact fun _ => rfl | exact fun _ => ⟨rfl, rfl⟩)))
              refine wpQuiet_nil ?_
              intro w2 hb2
              have HW2 := hide (HB.out.trans (hb2.mono hsz))
              clear hb2
              have hr2 := (HW2.out.block w.heap.size (by omega)).trans HR0.out
              obtain ⟨q0, q1, q2, q3⟩ := zero_slotsQ hr2
              have HB2 := hide (HBZ.out.trans (HW2.out.mono (by omega)))
              clear hr2
              go_wp2
              refine bodyPost_ret (v := .tuple #[.agg #[.int .i64 0, .slice none 0 0], .bool false]) (by simp [results, Tryd.results44, go_sem, q0, q1]) rfl ⟨_, by rw [HRB.out.1, HRB.out.2.2], by rw [HRB.out.2.1]; exact own_nil _ _ _, ?_⟩
              first | exact HB2.out | exact (HB2.out.setCell (by show w.heap.size ≤ w.heap.size; omega) _).setCell (by show w.heap.size ≤ w.heap.size; omega) _
            · have HB0 := hide (show decide (0 ≤ x ∧ x ≤ (m : Int) - 1) = true by rw [← hb0, decide_eq_decide]; omega)
              have hxx := hb0
              rw [decide_eq_true_eq] at hxx
              rw [hb0] at HPB
              clear hb0
              refine q_pure rfl 99 ent_l1InG _ _ rfl #[.int .i64 x, .int .i64 0, .int .i64 ((m : Int) - 1)] rfl (.bool true) (fun w' _ => by have := l1In_c x 0 ((m : Int) - 1) w'; rw [HB0.out] at this; exact this) ?_
              simp only [Act.put, List.setIfInBounds_toArray, List.set_cons_zero, List.set_cons_succ]
              obtain ⟨xi, hxi⟩ := Int.eq_ofNat_of_zero_le hxx.1
              subst hxi
              go_big_quiet_step ((first | exact fun _ => rfl | exact fun _ => ⟨rfl, rfl⟩))
              go_big_quiet_step ((first | exact fun _ => rfl | exact fun _ => ⟨rfl, rfl⟩))
              go_big_quiet_step ((first | exact fun _ => rfl | exact fun _ => ⟨rfl, rfl⟩))
              go_big_quiet_step ((first | exact fun _ => rfl | exact fun _ => ⟨rfl, rfl⟩))
              refine q_at sliceT intS rfl _ _ rfl _ rfl _ rfl 1 rfl w.heap.size r wr HU.out (by omega) ?_
              intro ad1 hcell1 hblk1
              rw [HY.out] at hcell1
              simp only [Act.put, List.setIfInBounds_toArray, List.set_cons_zero, List.set_cons_succ]
              refine q_load_cell rowI rfl (.tmp _) rfl ad1 rfl (.int .i64 _) (fun w' h => (h.cell (by omega)).trans hcell1) ?_
              simp only [Act.put, List.setIfInBounds_toArray, List.set_cons_zero, List.set_cons_succ]
              go_big_quiet_step ((first | exact fun _ => rfl | exact fun _ => ⟨rfl, rfl⟩))
              go_big_quiet_step ((first | exact fun _ => rfl | exact fun _ => ⟨rfl, rfl⟩))
              go_big_quiet_step ((first | exact fun _ => rfl | exact fun _ => ⟨rfl, rfl⟩))
              cases hb1 : decide (0 ≤ y ∧ y ≤ (low m : Int))
              · have HB1 := hide hb1
                rw [hb1] at HPB
                have HRB := hide (HFA.out (by rw [HPB.out]; rfl))
                clear hb1
                refine q_pure rfl 99 ent_l1InG _ _ rfl #[.int .i64 y, .int .i64 0, .int .i64 (low m : Int)] rfl (.bool false) (fun w' _ => by have := l1In_c y 0 (low m : Int) w'; rw [HB1.out] at this; exact this) ?_
                simp only [Act.put, List.setIfInBounds_toArray, List.set_cons_zero, List.set_cons_succ]
                repeat (first | go_big_quiet_skip | go_big_quiet_step ((first | exact fun _ => rfl | exact fun _ => ⟨rfl, rfl⟩)))
                refine wpQuiet_nil ?_
                intro w2 hb2
                have HW2 := hide (HB.out.trans (hb2.mono hsz))
                clear hb2
                have hr2 := (HW2.out.block w.heap.size (by omega)).trans HR0.out
                obtain ⟨q0, q1, q2, q3⟩ := zero_slotsQ hr2
                have HB2 := hide (HBZ.out.trans (HW2.out.mono (by omega)))
                clear hr2
                go_wp2
                refine bodyPost_ret (v := .tuple #[.agg #[.int .i64 0, .slice none 0 0], .bool false]) (by simp [results, Tryd.results44, go_sem, q0, q1]) rfl ⟨_, by rw [HRB.out.1, HRB.out.2.2], by rw [HRB.out.2.1]; exact own_nil _ _ _, ?_⟩
                first | exact HB2.out | exact (HB2.out.setCell (by show w.heap.size ≤ w.heap.size; omega) _).setCell (by show w.heap.size ≤ w.heap.size; omega) _
              · have HB1 := hide hb1
                rw [hb1] at HPB
                clear hb1
                refine q_pure rfl 99 ent_l1InG _ _ rfl #[.int .i64 y, .int .i64 0, .int .i64 (low m : Int)] rfl (.bool true) (fun w' _ => by have := l1In_c y 0 (low m : Int) w'; rw [HB1.out] at this; exact this) ?_
                simp only [Act.put, List.setIfInBounds_toArray, List.set_cons_zero, List.set_cons_succ]
                have hyy := HB1.out
                rw [decide_eq_true_eq] at hyy
                obtain ⟨yi, hyi⟩ := Int.eq_ofNat_of_zero_le hyy.1
                subst hyi
                have hl128 : low m < 128 := by have := low_succ m; have := p2_le m 7 hm7; omega
                have hy128 : yi < 128 := by omega
                have hx7 : xi < 7 := by omega
                go_big_quiet_step ((first | exact fun _ => rfl | exact fun _ => ⟨rfl, rfl⟩))
                go_big_quiet_step ((first | exact fun _ => rfl | exact fun _ => ⟨rfl, rfl⟩))
                go_big_quiet_step ((first | exact fun _ => rfl | exact fun _ => ⟨rfl, rfl⟩))
                go_big_quiet_step ((first | exact fun _ => rfl | exact fun _ => ⟨rfl, rfl⟩))
                refine q_at sliceT intS rfl _ _ rfl _ rfl _ rfl 1 rfl w.heap.size r wr HU.out (by omega) ?_
                intro ad1 hcell1 hblk1
                rw [HY.out] at hcell1
                simp only [Act.put, List.setIfInBounds_toArray, List.set_cons_zero, List.set_cons_succ]
                refine q_load_cell rowI rfl (.tmp _) rfl ad1 rfl (.int .i64 _) (fun w' h => (h.cell (by omega)).trans hcell1) ?_
                simp only [Act.put, List.setIfInBounds_toArray, List.set_cons_zero, List.set_cons_succ]
                go_big_quiet_step ((first | exact fun _ => rfl | exact fun _ => ⟨rfl, rfl⟩))
                refine q_at sliceT intS rfl _ _ rfl _ rfl _ rfl 0 rfl w.heap.size r wr HU.out (by omega) ?_
                intro ad0 hcell0 hblk0
                rw [HX.out] at hcell0
                simp only [Act.put, List.setIfInBounds_toArray, List.set_cons_zero, List.set_cons_succ]
                refine q_load_cell rowI rfl (.tmp _) rfl ad0 rfl (.int .i64 _) (fun w' h => (h.cell (by omega)).trans hcell0) ?_
                simp only [Act.put, List.setIfInBounds_toArray, List.set_cons_zero, List.set_cons_succ]
                rw [Int.toNat_natCast, Int.toNat_natCast] at HPB
                cases hbit : yi.testBit xi
                · have HBT := hide hbit
                  rw [hbit] at HPB
                  clear hbit
                  refine q_pure rfl 100 ent_spInG _ _ rfl #[.int .i64 (yi : Int), .int .i64 (xi : Int)] rfl (.bool false) (fun w' _ => by have := spIn_c (yi : Int) (xi : Int) w' (by omega) (by omega) (by omega) (by omega); rw [Int.toNat_natCast, Int.toNat_natCast, HBT.out] at this; exact this) ?_
                  simp only [Act.put, List.setIfInBounds_toArray, List.set_cons_zero, List.set_cons_succ]
                  repeat (first | go_big_quiet_skip | go_big_quiet_step ((first | exact fun _ => rfl | exact fun _ => ⟨rfl, rfl⟩)))
                  refine wpQuiet_nil ?_
                  intro w2 hb2
                  have HW2 := hide (HB.out.trans (hb2.mono hsz))
                  clear hb2
                  go_wp2
                  go_roundw
                  case rel => exact ⟨k + 1, by omega, by go_num, hide (by rw [HNX.out, HJ.out, HPB.out]; rfl), HW2⟩
                  case measure => (simp [intOf] <;> omega)
                · have HBT := hide hbit
                  rw [hbit] at HPB
                  have HRB := hide (HFA.out (by rw [HPB.out]; rfl))
                  clear hbit
                  refine q_pure rfl 100 ent_spInG _ _ rfl #[.int .i64 (yi : Int), .int .i64 (xi : Int)] rfl (.bool true) (fun w' _ => by have := spIn_c (yi : Int) (xi : Int) w' (by omega) (by omega) (by omega) (by omega); rw [Int.toNat_natCast, Int.toNat_natCast, HBT.out] at this; exact this) ?_
                  simp only [Act.put, List.setIfInBounds_toArray, List.set_cons_zero, List.set_cons_succ]
                  repeat (first | go_big_quiet_skip | go_big_quiet_step ((first | exact fun _ => rfl | exact fun _ => ⟨rfl, rfl⟩)))
                  refine wpQuiet_nil ?_
                  intro w2 hb2
                  have HW2 := hide (HB.out.trans (hb2.mono hsz))
                  clear hb2
                  have hr2 := (HW2.out.block w.heap.size (by omega)).trans HR0.out
                  obtain ⟨q0, q1, q2, q3⟩ := zero_slotsQ hr2
                  have HB2 := hide (HBZ.out.trans (HW2.out.mono (by omega)))
                  clear hr2
                  go_wp2
                  refine bodyPost_ret (v := .tuple #[.agg #[.int .i64 0, .slice none 0 0], .bool false]) (by simp [results, Tryd.results44, go_sem, q0, q1]) rfl ⟨_, by rw [HRB.out.1, HRB.out.2.2], by rw [HRB.out.2.1]; exact own_nil _ _ _, ?_⟩
                  first | exact HB2.out | exact (HB2.out.setCell (by show w.heap.size ≤ w.heap.size; omega) _).setCell (by show w.heap.size ≤ w.heap.size; omega) _
          · have hb2 : ((r.length : Int) != 2) = true := by simp; omega
            have HRB := hide (HFA.out (show rowOk (m : Int) r = false by simp [rowOk, h2]))
            repeat (first | go_big_quiet_skip | go_big_quiet_step ((first | exact fun _ => rfl | exact fun _ => ⟨rfl, rfl⟩)))
            refine wpQuiet_nil ?_
            intro w2 hb2
            have HW2 := hide (HB.out.trans (hb2.mono hsz))
            clear hb2
            have hr2 := (HW2.out.block w.heap.size (by omega)).trans HR0.out
            obtain ⟨q0, q1, q2, q3⟩ := zero_slotsQ hr2
            have HB2 := hide (HBZ.out.trans (HW2.out.mono (by omega)))
            clear hr2
            go_wp2
            refine bodyPost_ret (v := .tuple #[.agg #[.int .i64 0, .slice none 0 0], .bool false]) (by simp [results, Tryd.results44, go_sem, q0, q1]) rfl ⟨_, by rw [HRB.out.1, HRB.out.2.2], by rw [HRB.out.2.1]; exact own_nil _ _ _, ?_⟩
            first | exact HB2.out | exact (HB2.out.setCell (by show w.heap.size ≤ w.heap.size; omega) _).setCell (by show w.heap.size ≤ w.heap.size; omega) _
        · have HK := hide (show k = L.length by omega)
          have HOK := hide (show rowsOk (m : Int) L L.length = true by rw [← HK.out]; exact HJ.out)
          have hlt' : ¬ ((k : Int) < (L.length : Int)) := by omega
          have HO0 := hide (show own 3 (wr.alloc (.cells #[.int .i64 0] 3)) (w.heap.size + 1) (.slice (some ⟨wr.heap.size, 0, none⟩) 1 1) (setsTo (scOut L 0) 128) by
            rw [show scOut L 0 = upd noSet 0 true from rfl, ← sets_zero]
            exact ⟨by simp, .inr ⟨wr.heap.size, 1, #[.int .i64 0], rfl, by omega, hp_last _ _, Nat.le_refl _, by unfold maxLen; omega, by simp, by simp⟩⟩)
          have HB0 := hide (HB.out.alloc (show w.heap.size + 1 ≤ wr.heap.size by omega) (.cells #[.int .i64 0] 3))
          clear hp1 hp2 hp3 hp4 hmin hsub HLW HJ
          go_wp2_with fail
          generalize (wr.alloc (.cells #[.int .i64 0] 3)) = W1 at HO0 HB0 ⊢
          clear HB hsz
          go_loopw [8, 9] (fun s i w2 => ∃ k : Nat, k ≤ m ∧ i = .int .i64 (k : Int) ∧ Hid (own 3 w2 (w.heap.size + 1) s (setsTo (scOut L k) 128)) ∧ Hid (Below (w.heap.size + 1) W w2)) (fun _ i _ => m - (intOf i).toNat)
          case atStart => exact ⟨0, Nat.zero_le _, rfl, HO0, HB0⟩
          case round =>
            clear HO0 HB0 hlt hlt' HK hk
            obtain ⟨k, hk, rfl, HO, HB⟩ := hrel
            have hsz := HB.out.size
            rw [HZ0.out] at hsz
            by_cases hkm : k < m
            · have HST := hide (show scOut L (k + 1) = scMid L k (setsTo (scOut L k) 128) (scOut L k) (setsTo (scOut L k) 128).length from rfl)
              have H00 := hide (show scMid L k (setsTo (scOut L k) 128) (scOut L k) 0 = scOut L k from rfl)
              have HRG := hide (scOut_rg L k)
              have hSl := setsTo_len (scOut L k) 128
              generalize hG : scOut L k = G at HO HST H00 HRG hSl
              clear hG
              generalize hS : setsTo G 128 = S at HO HST H00 HRG hSl
              have HS := hide hS
              clear hS
              obtain ⟨sa, sc, hsv⟩ := HO.out.shape
              subst hsv
              go_wp2_with (first
                | (go_at_call 101; refine (l1Own_c _ S wr HO.out.ints (by omega)).mono ?_; rintro e w3 ⟨v3, rfl, ho3, hb3⟩; obtain ⟨a3, c3, hv3⟩ := ho3.shape; subst hv3; have hz3 := hb3.size; have HC3 := hide (ho3.mono (show w.heap.size + 1 ≤ wr.heap.size by omega)); have HO3 := hide (HO.out.kept hb3); have HB3 := hide (HB.out.trans (hb3.mono (by omega))); clear ho3 hb3)
                | (refine wpList_len sliceT rfl (.tmp _) rfl _ rfl _ S HC3.out.ints ?_))
              go_loopw [8, 71] (fun s i w4 => ∃ j : Nat, j ≤ S.length ∧ i = .int .i64 (j : Int) ∧ Hid (own 3 w4 (w.heap.size + 1) s (setsTo (scMid L k S G j) 128)) ∧ Hid (own 3 w4 (w.heap.size + 1) (.slice a3 S.length c3) S) ∧ Hid (Below (w.heap.size + 1) W w4)) (fun _ i _ => S.length - (intOf i).toNat)
              case atStart => exact ⟨0, Nat.zero_le _, rfl, hide (by rw [H00.out, HS.out]; exact HO3.out), HC3, HB3⟩
              case round =>
                have hwr := hsz
                clear HO HB HO3 HC3 HB3 hz3 hsz
                obtain ⟨j, hj, rfl, HO, HC, HB⟩ := hrel
                have hsz := HB.out.size
                rw [HZ0.out] at hsz
                by_cases hjl : j < S.length
                · have HX := hide (HRG.out j hjl).1
                  have ha128 := (HRG.out j hjl).2
                  have HMS := hide (show scMid L k S G (j + 1) = scIn L k (nth S j) (scMid L k S G j) L.length from rfl)
                  have H01 := hide (show scIn L k (nth S j) (scMid L k S G j) 0 = scMid L k S G j from rfl)
                  generalize nth S j = a at HX ha128 HMS H01
                  generalize scMid L k S G j = M at HO HMS H01
                  have HLW := hide (HL0.out.below HB.out (by omega))
                  go_wp2_with (first
                    | (refine wpList_at sliceT intS rfl (.tmp _) (.tmp _) rfl _ rfl j rfl _ S HC.out.ints hjl ?_; intro ad2 hcell2 hblk2; rw [HX.out] at hcell2)
                    | (refine wpList_len2 sliceT2 rfl (.tmp 75) rfl u rfl w.heap.size L HLW.out ?_))
                  go_loopw [8, 77] (fun s i w4 => ∃ d : Nat, d ≤ L.length ∧ i = .int .i64 (d : Int) ∧ Hid (own 3 w4 (w.heap.size + 1) s (setsTo (scIn L k a M d) 128)) ∧ Hid (own 3 w4 (w.heap.size + 1) (.slice a3 S.length c3) S) ∧ Hid (Below (w.heap.size + 1) W w4)) (fun _ i _ => L.length - (intOf i).toNat)
                  case atStart => exact ⟨0, Nat.zero_le _, rfl, hide (by rw [H01.out]; exact HO.out), HC, HB⟩
                  case round =>
                    clear HO HC HB HLW hsz
                    obtain ⟨d, hd0, rfl, HO, HC, HB⟩ := hrel
                    have hsz := HB.out.size
                    rw [HZ0.out] at hsz
                    by_cases hd : d < L.length
                    · have HL4 := hide (HL0.out.below HB.out (by omega))
                      obtain ⟨i, s, hi, hs, him, hs128, hr⟩ := rowOk_atG hm7 HOK.out d hd
                      have HR := hide hr
                      have HY := hide (fun h => scIn_yes (L := L) (k := k) (a := a) (F := M) (d := d) h)
                      have HN2 := hide (fun h => scIn_no (L := L) (k := k) (a := a) (F := M) (d := d) h)
                      have HSC := hide (show scC L k a d = (decide (pc a = k) && (!a.testBit i && decide (andNot s a = 0))) by unfold scC; rw [hi, hs])
                      rw [hi] at HY
                      generalize scIn L k a M d = F at HO HY HN2
                      have HPC := hide (fun w' => by have := spCount_c (a : Int) w' (by omega) (by omega); rw [Int.toNat_natCast] at this; exact this)
                      have HCX := hide (fun w' => by have := spIn_c (a : Int) (i : Int) w' (by omega) (by omega) (by omega) (by omega); rw [Int.toNat_natCast, Int.toNat_natCast] at this; exact this)
                      have hpi := wrap_p2 i (by omega)
                      have hpi2 : IntKind.i64.wrap (2 ^ i) = (p2 i : Int) := by rw [IntWalk.i64_left]; exact hpi
                      have hpl := p2_lt128 i (by omega)
                      have hor := i64_or a (p2 i) (by omega) (by omega)
                      have hkk : (a ||| p2 i) < 128 := Nat.or_lt_two_pow (n := 7) ha128 hpl
                      generalize (a ||| p2 i) = kk at hor hkk HY
                      have han := i64_andNot s a (by omega)
                      generalize andNot s a = c at han HSC
                      clear hi hs hr hpl
                      by_cases hpk : pc a = k
                      · have hpb : (((pc a : Nat) : Int) == (k : Int)) = true := by rw [hpk]; simp
                        rw [decide_eq_true hpk] at HSC
                        generalize pc a = pa at hpb HPC hpk
                        clear hpk
                        cases htb : a.testBit i
                        · rw [htb] at HSC HCX
                          clear htb
                          by_cases hc0 : c = 0
                          · subst hc0
                            have HE := hide (HY.out (by rw [HSC.out]; rfl))
                            go_wp2_with (first
                              | (refine wpList_at2 sliceT2 rowS2 rfl (.tmp 75) (.tmp _) rfl u rfl _ rfl d rfl w.heap.size L HL4.out hd ?_; intro ad uu hcell hblk hu; rw [HR.out] at hu; have HU := hide hu; clear hu)
                              | (refine wpList_at sliceT intS rfl (.tmp 87) _ rfl uu rfl 0 rfl w.heap.size _ HU.out (by simp) ?_; intro ad0 hcell0 hblk0; simp only [List.getElem?_cons_zero, Option.getD_some] at hcell0)
                              | (refine wpList_at sliceT intS rfl (.tmp 94) _ rfl uu rfl 1 rfl w.heap.size _ HU.out (by simp) ?_; intro ad1 hcell1 hblk1; simp only [List.getElem?_cons_succ, List.getElem?_cons_zero, Option.getD_some] at hcell1)
                              | (refine wpList_at sliceT intS rfl (.tmp 103) _ rfl uu rfl 0 rfl w.heap.size _ HU.out (by simp) ?_; intro ad3 hcell3 hblk3; simp only [List.getElem?_cons_zero, Option.getD_some] at hcell3)
                              | (go_at_call 102; refine (HPC.out _).mono ?_; rintro e w5 ⟨rfl, rfl⟩)
                              | (go_at_call 100; refine (HCX.out _).mono ?_; rintro e w6 ⟨rfl, rfl⟩)
                              | (go_at_call 103; refine (spPut_c _ F kk _ (w.heap.size + 1) hkk HO.out (by omega)).mono ?_; rw [← HE.out]; rintro e w7 ⟨v7, rfl, ho7, hb7⟩; have HO7 := hide ho7; have HC7 := hide (HC.out.kept hb7); have HB7 := hide (HB.out.trans (hb7.mono (by omega))); clear ho7 hb7))
                            go_roundw
                            case rel => exact ⟨d + 1, by omega, by go_num, HO7, HC7, HB7⟩
                            case measure => (simp [intOf] <;> omega)
                          · have hcb : ((c : Int) == 0) = false := by simp; omega
                            have HE := hide (HN2.out (by rw [HSC.out, decide_eq_false hc0]; rfl))
                            clear hc0
                            go_wp2_with (first
                              | (refine wpList_at2 sliceT2 rowS2 rfl (.tmp 75) (.tmp _) rfl u rfl _ rfl d rfl w.heap.size L HL4.out hd ?_; intro ad uu hcell hblk hu; rw [HR.out] at hu; have HU := hide hu; clear hu)
                              | (refine wpList_at sliceT intS rfl (.tmp 87) _ rfl uu rfl 0 rfl w.heap.size _ HU.out (by simp) ?_; intro ad0 hcell0 hblk0; simp only [List.getElem?_cons_zero, Option.getD_some] at hcell0)
                              | (refine wpList_at sliceT intS rfl (.tmp 94) _ rfl uu rfl 1 rfl w.heap.size _ HU.out (by simp) ?_; intro ad1 hcell1 hblk1; simp only [List.getElem?_cons_succ, List.getElem?_cons_zero, Option.getD_some] at hcell1)
                              | (refine wpList_at sliceT intS rfl (.tmp 103) _ rfl uu rfl 0 rfl w.heap.size _ HU.out (by simp) ?_; intro ad3 hcell3 hblk3; simp only [List.getElem?_cons_zero, Option.getD_some] at hcell3)
                              | (go_at_call 102; refine (HPC.out _).mono ?_; rintro e w5 ⟨rfl, rfl⟩)
                              | (go_at_call 100; refine (HCX.out _).mono ?_; rintro e w6 ⟨rfl, rfl⟩)
                              | (go_at_call 103; refine (spPut_c _ F kk _ (w.heap.size + 1) hkk HO.out (by omega)).mono ?_; rw [← HE.out]; rintro e w7 ⟨v7, rfl, ho7, hb7⟩; have HO7 := hide ho7; have HC7 := hide (HC.out.kept hb7); have HB7 := hide (HB.out.trans (hb7.mono (by omega))); clear ho7 hb7))
                            go_roundw
                            case rel => exact ⟨d + 1, by omega, by go_num, by rw [HE.out]; exact HO, HC, HB⟩
                            case measure => (simp [intOf] <;> omega)
                        · rw [htb] at HSC HCX
                          clear htb
                          have HE := hide (HN2.out (by rw [HSC.out]; rfl))
                          go_wp2_with (first
                            | (refine wpList_at2 sliceT2 rowS2 rfl (.tmp 75) (.tmp _) rfl u rfl _ rfl d rfl w.heap.size L HL4.out hd ?_; intro ad uu hcell hblk hu; rw [HR.out] at hu; have HU := hide hu; clear hu)
                            | (refine wpList_at sliceT intS rfl (.tmp 87) _ rfl uu rfl 0 rfl w.heap.size _ HU.out (by simp) ?_; intro ad0 hcell0 hblk0; simp only [List.getElem?_cons_zero, Option.getD_some] at hcell0)
                            | (refine wpList_at sliceT intS rfl (.tmp 94) _ rfl uu rfl 1 rfl w.heap.size _ HU.out (by simp) ?_; intro ad1 hcell1 hblk1; simp only [List.getElem?_cons_succ, List.getElem?_cons_zero, Option.getD_some] at hcell1)
                            | (refine wpList_at sliceT intS rfl (.tmp 103) _ rfl uu rfl 0 rfl w.heap.size _ HU.out (by simp) ?_; intro ad3 hcell3 hblk3; simp only [List.getElem?_cons_zero, Option.getD_some] at hcell3)
                            | (go_at_call 102; refine (HPC.out _).mono ?_; rintro e w5 ⟨rfl, rfl⟩)
                            | (go_at_call 100; refine (HCX.out _).mono ?_; rintro e w6 ⟨rfl, rfl⟩)
                            | (go_at_call 103; refine (spPut_c _ F kk _ (w.heap.size + 1) hkk HO.out (by omega)).mono ?_; rw [← HE.out]; rintro e w7 ⟨v7, rfl, ho7, hb7⟩; have HO7 := hide ho7; have HC7 := hide (HC.out.kept hb7); have HB7 := hide (HB.out.trans (hb7.mono (by omega))); clear ho7 hb7))
                          go_roundw
                          case rel => exact ⟨d + 1, by omega, by go_num, by rw [HE.out]; exact HO, HC, HB⟩
                          case measure => (simp [intOf] <;> omega)
                      · have hpb : (((pc a : Nat) : Int) == (k : Int)) = false := by simp; omega
                        have HE := hide (HN2.out (by rw [HSC.out, decide_eq_false hpk]; rfl))
                        generalize pc a = pa at hpb HPC hpk
                        clear hpk
                        go_wp2_with (first
                          | (refine wpList_at2 sliceT2 rowS2 rfl (.tmp 75) (.tmp _) rfl u rfl _ rfl d rfl w.heap.size L HL4.out hd ?_; intro ad uu hcell hblk hu; rw [HR.out] at hu; have HU := hide hu; clear hu)
                          | (refine wpList_at sliceT intS rfl (.tmp 87) _ rfl uu rfl 0 rfl w.heap.size _ HU.out (by simp) ?_; intro ad0 hcell0 hblk0; simp only [List.getElem?_cons_zero, Option.getD_some] at hcell0)
                          | (refine wpList_at sliceT intS rfl (.tmp 94) _ rfl uu rfl 1 rfl w.heap.size _ HU.out (by simp) ?_; intro ad1 hcell1 hblk1; simp only [List.getElem?_cons_succ, List.getElem?_cons_zero, Option.getD_some] at hcell1)
                          | (refine wpList_at sliceT intS rfl (.tmp 103) _ rfl uu rfl 0 rfl w.heap.size _ HU.out (by simp) ?_; intro ad3 hcell3 hblk3; simp only [List.getElem?_cons_zero, Option.getD_some] at hcell3)
                          | (go_at_call 102; refine (HPC.out _).mono ?_; rintro e w5 ⟨rfl, rfl⟩)
                          | (go_at_call 100; refine (HCX.out _).mono ?_; rintro e w6 ⟨rfl, rfl⟩)
                          | (go_at_call 103; refine (spPut_c _ F kk _ (w.heap.size + 1) hkk HO.out (by omega)).mono ?_; rw [← HE.out]; rintro e w7 ⟨v7, rfl, ho7, hb7⟩; have HO7 := hide ho7; have HC7 := hide (HC.out.kept hb7); have HB7 := hide (HB.out.trans (hb7.mono (by omega))); clear ho7 hb7))
                        go_roundw
                        case rel => exact ⟨d + 1, by omega, by go_num, by rw [HE.out]; exact HO, HC, HB⟩
                        case measure => (simp [intOf] <;> omega)
                    · have hde : d = L.length := by omega
                      have hd2 : ¬ ((d : Int) < (L.length : Int)) := by omega
                      subst hde
                      rw [← HMS.out] at HO
                      go_wp2
                      go_roundw
                      case rel => exact ⟨j + 1, by omega, by go_num, HO, HC, HB⟩
                      case measure => (simp [intOf] <;> omega)
                · have hje : j = S.length := by omega
                  have hj2 : ¬ ((j : Int) < (S.length : Int)) := by omega
                  subst hje
                  rw [← HST.out] at HO
                  go_wp2
                  go_roundw
                  case rel => exact ⟨k + 1, by omega, by go_num, HO, HB⟩
                  case measure => (simp [intOf] <;> omega)
            · have hke : k = m := by omega
              subst hke
              have hkm2 : ¬ ((k : Int) < (k : Int)) := by omega
              have HSA := hide (sc_same (n := k) (L := L) hm7 (scI_lt hm7 HOK.out))
              have HGD0 := hide (sc_good (n := k) (L := L) hm1 hm7 (scI_lt hm7 HOK.out))
              rw [HSA.out] at HO
              have HSL := hide (setsTo_len (scF k L) 128)
              have HLF := hide (show scB (k : Int) L = true → scL (k : Int) L = setsTo (scF k L) 128 from fun h => by have := (sc_yes3 h).2.1; rw [Int.toNat_natCast] at this; exact this)
              generalize hS : setsTo (scF k L) 128 = S at HO HGD0 HSL HLF
              clear hS HSA
              obtain ⟨aa, cc, hsv⟩ := HO.out.shape
              subst hsv
              have HR3 := hide ((HB.out.block w.heap.size (by omega)).trans HR0.out)
              have HB3 := hide (HBZ.out.trans (HB.out.mono (by omega)))
              go_wp2_with fail
              cases hgb : goodB (k : Int) S
              · have HGD := hide hgb
                rw [hgb] at HGD0
                have HBX := hide (sc_no3 (n := (k : Int)) (L := L) (by rw [HB1.out, ← HGD0.out]; simp))
                clear hgb
                refine (spIf_no_c (k : Int) _ S wr HO.out.ints (by have := HSL.out; omega) HGD.out).mono ?_
                rintro e w7 ⟨rfl, hb7⟩
                have hr7 := (hb7.block w.heap.size (by omega)).trans HR3.out
                obtain ⟨q0, q1, q2, q3⟩ := zero_slotsQ hr7
                have HB7 := hide (HB3.out.trans (hb7.mono (by omega)))
                clear hb7 hr7
                go_wp2
                refine bodyPost_ret (v := .tuple #[.agg #[.int .i64 0, .slice none 0 0], .bool false]) (by simp [results, Tryd.results44, go_sem, q0, q1]) rfl ⟨_, by rw [HBX.out.1, HBX.out.2.2], by rw [HBX.out.2.1]; exact own_nil _ _ _, ?_⟩
                exact (HB7.out.setCell (Nat.le_refl _) _).setCell (Nat.le_refl _) _
              · have HGD := hide hgb
                rw [hgb] at HGD0
                have hbt : scB (k : Int) L = true := by rw [HB1.out, ← HGD0.out, HOK.out]; rfl
                have HBX := hide (sc_yes3 hbt)
                have HLL := hide (HLF.out hbt)
                clear hgb hbt
                refine (spIf_c (k : Int) _ S wr HO.out.ints (by have := HSL.out; omega) HGD.out).mono ?_
                rintro e w7 ⟨rfl, hb7⟩
                have hr7 := (hb7.block w.heap.size (by omega)).trans HR3.out
                obtain ⟨q0, q1, q2, q3⟩ := zero_slotsQ hr7
                have HB7 := hide (HB3.out.trans (hb7.mono (by omega)))
                have HO7 : Hid (own 3 w7 (w.heap.size + 1) (.slice aa S.length cc) S) := hide (HO.out.kept hb7)
                clear hb7 hr7
                go_wp2
                refine bodyPost_ret (v := .tuple #[.agg #[.int .i64 (k : Int), .slice aa S.length cc], .bool true]) (by simp [results, Tryd.results44, go_sem, q0, q1]) rfl ⟨_, by rw [HBX.out.1, HBX.out.2.2], ?_, ?_⟩
                · rw [HLL.out]
                  have hfin := ((HO7.out.setLow ⟨w.heap.size, 0, none⟩ (show w.heap.size < w.heap.size + 1 by omega) (.int .i64 (k : Int))).setLow ⟨w.heap.size, 1, none⟩ (show w.heap.size < w.heap.size + 1 by omega) (.slice aa S.length cc))
                  exact hfin.mono (by omega)
                · exact (HB7.out.setCell (Nat.le_refl _) _).setCell (Nat.le_refl _) _
  · have HN := hide hn
    have HBX := hide (scB_noG (n := n) (L := L) (by unfold scA; rw [decide_eq_false hn]; rfl))
    clear hn
    go_enter Tryd.func44, Tryd.ntmps44
    go_wp2_with (first
      | (go_at_call 72; refine (spItems_c _ _).mono ?_; rw [decide_eq_false HN.out]; rintro e w1 ⟨rfl, rfl⟩))
    refine bodyPost_ret (v := .tuple #[.agg #[.int .i64 0, .slice none 0 0], .bool false]) (by simp [results, Tryd.results44, go_sem, q0, q1]) rfl ⟨_, by rw [HBX.out.1, HBX.out.2.2], by rw [HBX.out.2.1]; exact own_nil _ _ _, ?_⟩
    first | exact HBZ.out | exact (HBZ.out.setCell (by show w.heap.size ≤ w.heap.size; omega) _).setCell (by show w.heap.size ≤ w.heap.size; omega) _
end Go.Proofs.YtonimjpfaalniaaDoor
