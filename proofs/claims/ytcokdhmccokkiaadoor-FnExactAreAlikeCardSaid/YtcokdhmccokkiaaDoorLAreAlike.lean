import Derived.Test.YtcokdhmccokkiaaDoorLib
import Derived.Test.YtcokdhmccokkiaaDoorNk
import Derived.Test.YtcokdhmccokkiaaDoorFl
import Derived.Test.YtcokdhmccokkiaaDoorRows
import Derived.Test.YtcokdhmccokkiaaDoorTie
import Derived.Test.YtcokdhmccokkiaaDoorCards
import Derived.LaidMore
import Derived.Stop.Joined
import Derived.Stop.LaidErr
import Derived.Lib.LaidTab
import Derived.SevenTiedAt
import Derived.Test.YtcokdhmccokkiaaDoorHar
import Derived.ProofKit
import Derived.OpenShut
import Derived.Lib.SmallJoins
/- Lists of numbers in their order; the first of many. -/
namespace Go.Proofs.YtcokdhmccokkiaaDoor
open Go.RowKit
set_option maxRecDepth 100000
/-- Whether one list comes ahead of another. -/
def lexB : List Int → List Int → Bool
  | [], ys => decide (0 < ys.length)
  | _ :: _, [] => false
  | x :: xs, y :: ys => if x = y then lexB xs ys else decide (x < y)
theorem lexB_irr : ∀ A, lexB A A = false
  | [] => rfl
  | x :: xs => by unfold lexB; rw [if_pos rfl]; exact lexB_irr xs
theorem lexB_eq : ∀ A B, lexB A B = false → lexB B A = false → A = B
  | [], [], _, _ => rfl
  | [], y :: ys, h, _ => by simp [lexB] at h
  | x :: xs, [], _, h => by simp [lexB] at h
  | x :: xs, y :: ys, h1, h2 => by
    unfold lexB at h1 h2
    by_cases e : x = y
    · subst e
      rw [if_pos rfl] at h1 h2
      rw [lexB_eq xs ys h1 h2]
    · rw [if_neg e, decide_eq_false_iff_not] at h1
      rw [if_neg (fun h => e h.symm), decide_eq_false_iff_not] at h2
      omega
/-- A ≤ B and B ≤ C. -/
theorem lexB_le : ∀ A B C, lexB B A = false → lexB C B = false → lexB C A = false
  | [], _, [], _, _ => rfl
  | [], _, _ :: _, _, _ => rfl
  | x :: xs, [], C, h, _ => by simp [lexB] at h
  | x :: xs, y :: ys, [], _, h => by simp [lexB] at h
  | x :: xs, y :: ys, z :: zs, h1, h2 => by
    unfold lexB at h1 h2 ⊢
    by_cases e1 : y = x
    · subst e1
      rw [if_pos rfl] at h1
      by_cases e2 : z = y
      · subst e2
        rw [if_pos rfl] at h2 ⊢
        exact lexB_le xs ys zs h1 h2
      · rw [if_neg e2] at h2 ⊢
        exact h2
    · rw [if_neg e1, decide_eq_false_iff_not] at h1
      by_cases e2 : z = y
      · subst e2
        rw [if_neg e1, decide_eq_false_iff_not]
        exact h1
      · rw [if_neg e2, decide_eq_false_iff_not] at h2
        rw [if_neg (by omega), decide_eq_false_iff_not]
        omega
theorem lexB_not {A B : List Int} (h : lexB A B = true) : lexB B A = false := by
  cases h2 : lexB B A
  · rfl
  · exfalso
    have key : ∀ A B, lexB A B = true → lexB B A = true → False := by
      intro A
      induction A with
      | nil => intro B _ h; cases B <;> simp [lexB] at h
      | cons x xs ih =>
        intro B h1 h2
        match B with
        | [] => simp [lexB] at h1
        | y :: ys =>
          unfold lexB at h1 h2
          by_cases e : x = y
          · subst e
            rw [if_pos rfl] at h1 h2
            exact ih ys h1 h2
          · rw [if_neg e, decide_eq_true_eq] at h1
            rw [if_neg (fun h => e h.symm), decide_eq_true_eq] at h2
            omega
    exact key A B h h2
/-- The first of b and of the first k. -/
def mnL (b : List Int) (f : Nat → List Int) : Nat → List Int
  | 0 => b
  | k + 1 => if lexB (f k) (mnL b f k) then f k else mnL b f k
theorem mnL_next (b : List Int) (f : Nat → List Int) (k : Nat) : mnL b f (k + 1) = if lexB (f k) (mnL b f k) then f k else mnL b f k := rfl
theorem mnL_le (b : List Int) (f : Nat → List Int) : ∀ k, lexB b (mnL b f k) = false ∧ ∀ j, j < k → lexB (f j) (mnL b f k) = false
  | 0 => ⟨lexB_irr b, fun j h => absurd h (Nat.not_lt_zero j)⟩
  | k + 1 => by
    have ih := mnL_le b f k
    rw [mnL_next]
    cases h : lexB (f k) (mnL b f k)
    · rw [if_neg (by simp)]
      refine ⟨ih.1, fun j hj => ?_⟩
      rcases Nat.lt_or_ge j k with h1 | h1
      · exact ih.2 j h1
      · rw [show j = k by omega]; exact h
    · rw [if_pos rfl]
      have h2 := lexB_not h
      refine ⟨lexB_le _ _ _ h2 ih.1, fun j hj => ?_⟩
      rcases Nat.lt_or_ge j k with h1 | h1
      · exact lexB_le _ _ _ h2 (ih.2 j h1)
      · rw [show j = k by omega]; exact lexB_irr _
theorem mnL_in (b : List Int) (f : Nat → List Int) : ∀ k, mnL b f k = b ∨ ∃ j, j < k ∧ mnL b f k = f j
  | 0 => .inl rfl
  | k + 1 => by
    rw [mnL_next]
    split
    · exact .inr ⟨k, by omega, rfl⟩
    · rcases mnL_in b f k with h | ⟨j, hj, h⟩
      · exact .inl h
      · exact .inr ⟨j, by omega, h⟩
/-- Two beginnings that are both among the others lead to the same. -/
theorem mnL_same {a b : List Int} {f : Nat → List Int} {n : Nat} (ha : ∃ j, j < n ∧ f j = a) (hb : ∃ j, j < n ∧ f j = b) : mnL a f n = mnL b f n := by
  have key : ∀ a b : List Int, (∃ j, j < n ∧ f j = a) → lexB (mnL a f n) (mnL b f n) = false := by
    intro a b ⟨j, hj, e⟩
    rcases mnL_in a f n with h | ⟨i, hi, h⟩
    · rw [h, ← e]; exact (mnL_le b f n).2 j hj
    · rw [h]; exact (mnL_le b f n).2 i hi
  exact lexB_eq _ _ (key a b ha) (key b a hb)
/-! ### Step by step -/
theorem lexB_drop {A B : List Int} {k : Nat} (hA : k < A.length) (hB : k < B.length) :
    lexB (A.drop k) (B.drop k) = if A[k]?.getD 0 = B[k]?.getD 0 then lexB (A.drop (k + 1)) (B.drop (k + 1)) else decide (A[k]?.getD 0 < B[k]?.getD 0) := by
  rw [List.drop_eq_getElem_cons hA, List.drop_eq_getElem_cons hB, List.getElem?_eq_getElem hA, List.getElem?_eq_getElem hB]
  rfl
theorem lexB_end {A B : List Int} {k : Nat} (hA : k ≤ A.length) (hB : k ≤ B.length) (h : ¬ (k < A.length ∧ k < B.length)) : lexB (A.drop k) (B.drop k) = decide (A.length < B.length) := by
  rcases Nat.lt_or_ge k A.length with h1 | h1
  · have h2 : B.length = k := by omega
    rw [List.drop_eq_getElem_cons h1, List.drop_of_length_le (show B.length ≤ k by omega), decide_eq_false (by omega)]
    rfl
  · rw [List.drop_of_length_le h1]
    unfold lexB
    rw [List.length_drop]
    exact decide_eq_decide.2 (by omega)
end Go.Proofs.YtcokdhmccokkiaaDoor
/- Contracts: the first list of all names, the specification's. -/
namespace Go.Proofs.YtcokdhmccokkiaaDoor
open Go.RowKit
set_option maxRecDepth 100000
set_option linter.unusedSimpArgs false
theorem q_valB {P : Program} {ops : Array Oper} {rest : List Oper} {o : Oper} {a : Act} {C : World → Prop} {Q : Act → Prop} (hw : Region.wanted o (yielded ops a.tmps) = true) (v : Value)
    (hrun : ∀ w', (execOp a.eval o).run P w' = .ok (.value v) w') (h : wpQuiet P ops C Q rest (a.put o.dst v)) : wpQuiet P ops C Q (o :: rest) a := by
  refine BigFrame.wpQuiet_want hw fun K hK => ⟨v, fun w' _ => ?_, hK _ h⟩
  unfold Oper.quietAt
  rw [hrun w']
  exact ⟨rfl, rfl⟩
attribute [local irreducible] p2 low memB risB famAt own
set_option maxHeartbeats 2000000 in
theorem alBefore_c (u v : Value) (A B : List Int) (w : World) (hA : ints w.heap.size w u A) (hB : ints w.heap.size w v B) (hAl : A.length < 1000000000) (_ : B.length < 1000000000) :
    Calls Tryd.prog 50 #[u, v] w fun e w' => e = .returned (.bool (lexB A B)) ∧ Below w.heap.size w w' := by
  have HA := hide hA
  have HB := hide hB
  have HL0 := hide (show lexB A B = lexB (A.drop 0) (B.drop 0) by rw [List.drop_zero, List.drop_zero])
  clear hA hB
  go_enter Tryd.func50, Tryd.ntmps50
  go_wp2_with fail
  go_loopw [5] (fun i wr => ∃ k : Nat, k ≤ A.length ∧ k ≤ B.length ∧ i = .int .i64 (k : Int) ∧ Hid (lexB A B = lexB (A.drop k) (B.drop k)) ∧ Hid (Below w.heap.size w wr)) (fun i _ => A.length - (intOf i).toNat)
  case atStart => exact ⟨0, Nat.zero_le _, Nat.zero_le _, rfl, HL0, Below.refl _ _⟩
  case round =>
    obtain ⟨k, hk, hkB, rfl, HE, HW⟩ := hrel
    have HAW := hide (HA.out.below HW.out (Nat.le_refl _))
    have HBW := hide (HB.out.below HW.out (Nat.le_refl _))
    have hsz := HW.out.size
    by_cases hlt : k < A.length
    · have hd1 : decide ((k : Int) < (A.length : Int)) = true := decide_eq_true (by omega)
      by_cases hlt2 : k < B.length
      · have hd2 : decide ((k : Int) < (B.length : Int)) = true := decide_eq_true (by omega)
        have HDR := hide (lexB_drop hlt hlt2)
        generalize hxx : A[k]?.getD 0 = x at *
        generalize hyy : B[k]?.getD 0 = y at *
        have HXX := hide hxx
        have HYY := hide hyy
        clear hxx hyy
        go_wp2_with (first
          | (refine wpList_len sliceT rfl (.tmp _) rfl u rfl w.heap.size A HAW.out ?_)
          | (refine wpList_len sliceT rfl (.tmp _) rfl v rfl w.heap.size B HBW.out ?_))
        refine wp_region_old (by kernel_rfl) (by kernel_rfl) ?_
        go_big_quiet_step ((first | exact fun _ => rfl | exact fun _ => ⟨rfl, rfl⟩))
        go_big_quiet_step ((first | exact fun _ => rfl | exact fun _ => ⟨rfl, rfl⟩))
        refine q_at sliceT intS rfl (.tmp _) (.tmp _) rfl _ rfl _ rfl k rfl w.heap.size A wr HAW.out hlt ?_
        intro ad1 hcell1 hblk1
        rw [HXX.out] at hcell1
        simp only [Act.put, List.setIfInBounds_toArray, List.set_cons_zero, List.set_cons_succ]
        refine q_load_cell rowI rfl (.tmp _) rfl ad1 rfl (.int .i64 x) (fun w' h => (h.cell (p := ad1) (by omega)).trans hcell1) ?_
        simp only [Act.put, List.setIfInBounds_toArray, List.set_cons_zero, List.set_cons_succ]
        go_big_quiet_step ((first | exact fun _ => rfl | exact fun _ => ⟨rfl, rfl⟩))
        go_big_quiet_step ((first | exact fun _ => rfl | exact fun _ => ⟨rfl, rfl⟩))
        refine q_at sliceT intS rfl (.tmp _) (.tmp _) rfl _ rfl _ rfl k rfl w.heap.size B wr HBW.out hlt2 ?_
        intro ad2 hcell2 hblk2
        rw [HYY.out] at hcell2
        simp only [Act.put, List.setIfInBounds_toArray, List.set_cons_zero, List.set_cons_succ]
        refine q_load_cell rowI rfl (.tmp _) rfl ad2 rfl (.int .i64 y) (fun w' h => (h.cell (p := ad2) (by omega)).trans hcell2) ?_
        simp only [Act.put, List.setIfInBounds_toArray, List.set_cons_zero, List.set_cons_succ]
        refine q_valB rfl (.bool (x != y)) (fun w' => by simp [execOp, go_sem, bne]) ?_
        simp only [Act.put, List.setIfInBounds_toArray, List.set_cons_zero, List.set_cons_succ]
        by_cases he : x = y
        · rw [show (x != y) = false by simp [he]]
          have HN := hide (show lexB A B = lexB (A.drop (k + 1)) (B.drop (k + 1)) by rw [HE.out, HDR.out, if_pos he])
          refine wpQuiet_nil ?_
          intro w3 hb3
          clear hcell1 hcell2 hblk1 hblk2 he
          have HW3 := hide (HW.out.trans (hb3.mono hsz))
          clear hb3
          go_wp2
          go_roundw
          case rel => exact ⟨k + 1, by omega, by omega, by go_num, HN, HW3⟩
          case measure => (simp [intOf] <;> omega)
        · rw [show (x != y) = true by simp [he]]
          have HN := hide (show lexB A B = decide (x < y) by rw [HE.out, HDR.out, if_neg he])
          refine wpQuiet_nil ?_
          intro w3 hb3
          clear hcell1 hcell2 hblk1 hblk2 he
          have HW3 := hide (HW.out.trans (hb3.mono hsz))
          have HA3 := hide (HA.out.below HW3.out (Nat.le_refl _))
          have HB3 := hide (HB.out.below HW3.out (Nat.le_refl _))
          have hz3 := HW3.out.size
          clear hb3
          go_wp2_with fail
          refine wp_region_old (by kernel_rfl) (by kernel_rfl) ?_
          go_big_quiet_step ((first | exact fun _ => rfl | exact fun _ => ⟨rfl, rfl⟩))
          go_big_quiet_step ((first | exact fun _ => rfl | exact fun _ => ⟨rfl, rfl⟩))
          refine q_at sliceT intS rfl (.tmp _) (.tmp _) rfl _ rfl _ rfl k rfl w.heap.size A w3 HA3.out hlt ?_
          intro ad1 hcell1 hblk1
          rw [HXX.out] at hcell1
          simp only [Act.put, List.setIfInBounds_toArray, List.set_cons_zero, List.set_cons_succ]
          refine q_load_cell rowI rfl (.tmp _) rfl ad1 rfl (.int .i64 x) (fun w' h => (h.cell (p := ad1) (by omega)).trans hcell1) ?_
          simp only [Act.put, List.setIfInBounds_toArray, List.set_cons_zero, List.set_cons_succ]
          go_big_quiet_step ((first | exact fun _ => rfl | exact fun _ => ⟨rfl, rfl⟩))
          go_big_quiet_step ((first | exact fun _ => rfl | exact fun _ => ⟨rfl, rfl⟩))
          refine q_at sliceT intS rfl (.tmp _) (.tmp _) rfl _ rfl _ rfl k rfl w.heap.size B w3 HB3.out hlt2 ?_
          intro ad2 hcell2 hblk2
          rw [HYY.out] at hcell2
          simp only [Act.put, List.setIfInBounds_toArray, List.set_cons_zero, List.set_cons_succ]
          refine q_load_cell rowI rfl (.tmp _) rfl ad2 rfl (.int .i64 y) (fun w' h => (h.cell (p := ad2) (by omega)).trans hcell2) ?_
          simp only [Act.put, List.setIfInBounds_toArray, List.set_cons_zero, List.set_cons_succ]
          refine q_valB rfl (.bool (decide (x < y))) (fun w' => by simp [execOp, go_sem]) ?_
          simp only [Act.put, List.setIfInBounds_toArray, List.set_cons_zero, List.set_cons_succ]
          go_big_quiet_step ((first | exact fun _ => rfl | exact fun _ => ⟨rfl, rfl⟩))
          refine wpQuiet_nil ?_
          intro w4 hb4
          clear hcell1 hcell2 hblk1 hblk2
          have HW4 := hide (HW3.out.trans (hb4.mono hz3))
          clear hb4
          go_wp2
          go_ret
          exact ⟨by rw [HN.out]; rfl, HW4.out⟩
      · have hd2 : decide ((k : Int) < (B.length : Int)) = false := by rw [decide_eq_false_iff_not]; omega
        have HN := hide (show lexB A B = decide (A.length < B.length) by rw [HE.out, lexB_end hk hkB (by omega)])
        go_wp2_with (first
          | (refine wpList_len sliceT rfl (.tmp _) rfl u rfl w.heap.size A HAW.out ?_)
          | (refine wpList_len sliceT rfl (.tmp _) rfl v rfl w.heap.size B HBW.out ?_))
        go_ret
        exact ⟨ret_b (by rw [HN.out]), HW.out⟩
    · have hd1 : decide ((k : Int) < (A.length : Int)) = false := by rw [decide_eq_false_iff_not]; omega
      have HN := hide (show lexB A B = decide (A.length < B.length) by rw [HE.out, lexB_end hk hkB (by omega)])
      go_wp2_with (first
        | (refine wpList_len sliceT rfl (.tmp _) rfl u rfl w.heap.size A HAW.out ?_)
        | (refine wpList_len sliceT rfl (.tmp _) rfl v rfl w.heap.size B HBW.out ?_))
      go_ret
      exact ⟨ret_b (by rw [HN.out]), HW.out⟩
/-- The lists that come of all orders, in their order. -/
def nkf (N : Nat) (l : List Int) (k : Nat) : List Int := setsTo (rmF (N : Int) l ((nkA N)[k]?.getD [])) 128
theorem mnL_len {b : List Int} {f : Nat → List Int} {c : Nat} (hb : b.length < c) (hf : ∀ j, (f j).length < c) (k : Nat) : (mnL b f k).length < c := by
  rcases mnL_in b f k with h | ⟨j, _, h⟩
  · rw [h]; exact hb
  · rw [h]; exact hf j
set_option maxHeartbeats 4000000 in
theorem alLeast_c (N : Nat) (v : Value) (l : List Int) (w : World) (hl : ints w.heap.size w v l) (hlen : l.length < 1000000000) (hsp : okSp (N : Int) l = true) (hN1 : 1 ≤ N) (hN5 : N ≤ 5) :
    Calls Tryd.prog 30 #[.agg #[.int .i64 (N : Int), v]] w fun e w' => ∃ v', e = .returned v' ∧ own 3 w' w.heap.size v' (mnL l (nkf N l) (nkA N).length) ∧ Below w.heap.size w w' := by
  have HL := hide ((hl.alloc (.cells #[.int .i64 (N : Int), v] 29)).mono (show w.heap.size ≤ (w.alloc (.cells #[.int .i64 (N : Int), v] 29)).heap.size by simp))
  have H0 := hide ((Below.refl w.heap.size w).alloc (Nat.le_refl _) (.cells #[.int .i64 (N : Int), v] 29))
  have HS0 := hide (hp_last w (.cells #[.int .i64 (N : Int), v] 29))
  have HZ := hide (show (w.alloc (.cells #[.int .i64 (N : Int), v] 29)).heap.size = w.heap.size + 1 by simp)
  have c0 := cells_at0 HS0.out
  have c1 := cells_at1 HS0.out
  have HOK := hide hsp
  have hal := nk_len N hN1 hN5
  have HROW := hide (nk_row N)
  have HAL := hide (fun w1 => alOrders_c N hN1 (by omega) N (.slice none 0 0) [] 0 w1 ((own_nil 3 w1 w1.heap.size).ints) (by simp) (fun x _ => memB_nilA x) (Nat.two_pow_pos N) (by rw [pc_zeroA]; omega))
  rw [show awL (FA N) N N 0 = nkA N from rfl, nk_mapA] at HAL
  have HML := hide (mnL_len (f := nkf N l) hlen (fun j => by have := setsTo_len (rmF (N : Int) l ((nkA N)[j]?.getD [])) 128; unfold nkf; omega))
  have HNX := hide (mnL_next l (nkf N l))
  have HNF := hide (fun k => show nkf N l k = setsTo (rmF (N : Int) l ((nkA N)[k]?.getD [])) 128 from rfl)
  have HM0 := hide (show mnL l (nkf N l) 0 = l from rfl)
  generalize nkf N l = f at HML HNX HNF HM0 ⊢
  generalize nkA N = A at hal HROW HAL HNF ⊢
  clear hl hsp
  go_enter Tryd.func30, Tryd.ntmps30
  go_wp2_with (first
    | (go_at_call 39; refine (HAL.out _).mono ?_; rintro e w2 ⟨v2, rfl, ho2, hb2⟩; obtain ⟨a2, c2, hv2⟩ := ho2.rows.shape; subst hv2; have hz2 := hb2.size; rw [HZ.out] at hz2; have HS2 := hide ((hb2.block w.heap.size (by rw [HZ.out]; omega)).trans HS0.out); have HR2 := hide ho2.rows; have HL2 := hide ((HL.out.below hb2 (Nat.le_refl _)).mono hb2.size); have HB2 := hide (H0.out.trans (hb2.mono (by rw [HZ.out]; omega))); clear ho2 hb2)
    | (refine wpList_len2 sliceT2 rfl (.tmp _) rfl _ rfl w2.heap.size A HR2.out ?_))
  clear c0 c1
  go_loopw [3, 13] (fun bv iv wr => ∃ k : Nat, k ≤ A.length ∧ iv = .int .i64 (k : Int) ∧ Hid (ints wr.heap.size wr bv (mnL l f k)) ∧ Hid (w2.heap.size ≤ wr.heap.size ∧ Below w2.heap.size w2 wr)) (fun _ iv _ => A.length - (intOf iv).toNat)
  case atStart => exact ⟨0, Nat.zero_le _, rfl, hide (by rw [HM0.out]; exact HL2.out), hide ⟨Nat.le_refl _, Below.refl _ _⟩⟩
  case round =>
    obtain ⟨k, hk, rfl, HI, HW⟩ := hrel
    have hsz := HW.out.1
    have hml := HML.out k
    by_cases hlt : k < A.length
    · have hlt' : (k : Int) < (A.length : Int) := by omega
      have HRW := hide (HR2.out.below HW.out.2 (Nat.le_refl _))
      have HLW := hide ((HL2.out.below HW.out.2 (Nat.le_refl _)).mono hsz)
      have hsr := (HW.out.2.block w.heap.size (by omega)).trans HS2.out
      have c0 := cells_at0 hsr
      have c1 := cells_at1 hsr
      have HNK := hide (HNX.out k)
      rw [HNF.out k] at HNK
      have HRR := hide (HROW.out k hlt)
      generalize hr : A[k]?.getD [] = r at HNK HRR
      have HR := hide hr
      have hrl := setsTo_len (rmF (N : Int) l r) 128
      have HAN := hide (fun uu (h : ints wr.heap.size wr uu r) => alNamed_c N v l uu r wr HLW.out hlen h HOK.out HRR.out.1 HRR.out.2)
      generalize setsTo (rmF (N : Int) l r) 128 = R at HNK HAN hrl
      generalize mnL l f k = M at HI HNK hml
      clear hr hsr
      cases hb : lexB R M
      all_goals
        have HBT := hide hb
        rw [hb] at HNK
        clear hb
        go_wp2_with (first
          | (refine wpList_at2 sliceT2 rowS2 rfl (.tmp _) (.tmp _) rfl _ rfl _ rfl k rfl w2.heap.size A HRW.out hlt ?_; intro ad uu hcell hblk hu; rw [HR.out] at hu; have HU := hide (hu.mono hsz); clear hu)
          | (go_at_call 40; refine (HAN.out uu HU.out).mono ?_; rintro e w5 ⟨v5, rfl, ho5, hb5⟩; obtain ⟨a5, c5, hv5⟩ := ho5.shape; subst hv5; have hz5 := hb5.size; have HI5 := hide ho5.ints; have HM5 := hide ((HI.out.below hb5 (Nat.le_refl _)).mono hz5); have HW5 := hide (show w2.heap.size ≤ w5.heap.size ∧ Below w2.heap.size w2 w5 from ⟨Nat.le_trans hsz hz5, HW.out.2.trans (hb5.mono hsz)⟩); clear ho5 hb5)
          | (go_at_call 50; refine (alBefore_c _ _ R M w5 HI5.out HM5.out (by omega) hml).mono ?_; rw [HBT.out]; rintro e w6 ⟨rfl, hb6⟩; have hz6 := hb6.size; have HI6 := hide ((HI5.out.below hb6 (Nat.le_refl _)).mono hz6); have HM6 := hide ((HM5.out.below hb6 (Nat.le_refl _)).mono hz6); have HW6 := hide (show w2.heap.size ≤ w6.heap.size ∧ Below w2.heap.size w2 w6 from ⟨Nat.le_trans HW5.out.1 hz6, HW5.out.2.trans (hb6.mono HW5.out.1)⟩); clear hb6))
        go_roundw
        case rel => exact ⟨k + 1, by omega, by go_num, hide (by rw [HNK.out]; first | exact HM6.out | exact HI6.out), HW6⟩
        case measure => (simp [intOf] <;> omega)
    · have hlt' : ¬ ((k : Int) < (A.length : Int)) := by omega
      have hke : k = A.length := by omega
      rw [hke] at HI hml
      go_wp2_with (go_at_call 51; refine (l1Own_c _ _ _ HI.out (by omega)).mono ?_; rintro e w7 ⟨v7, rfl, ho7, hb7⟩; have HO7 := hide (ho7.mono (show w.heap.size ≤ wr.heap.size by omega)); have HB7 := hide (HB2.out.trans (HW.out.2.mono (by omega)) |>.trans (hb7.mono (by omega))); clear ho7 hb7)
      go_ret
      exact ⟨_, rfl, HO7.out, HB7.out⟩
end Go.Proofs.YtcokdhmccokkiaaDoor
/- Contracts: lists of numbers compared, families compared. -/
namespace Go.Proofs.YtcokdhmccokkiaaDoor
open Go.RowKit
set_option maxRecDepth 100000
set_option linter.unusedSimpArgs false
def cmpI (x y : Int) : Int := if x < y then -1 else if y < x then 1 else 0
def lcI : List Int → List Int → Int
  | [], [] => 0
  | [], _ :: _ => -1
  | _ :: _, [] => 1
  | x :: xs, y :: ys => if x = y then lcI xs ys else cmpI x y
theorem lcI_neg : ∀ A B, decide (lcI A B < 0) = lexB A B
  | [], [] => rfl
  | [], y :: ys => by simp [lcI, lexB]
  | x :: xs, [] => rfl
  | x :: xs, y :: ys => by
    unfold lcI lexB
    by_cases e : x = y
    · rw [if_pos e, if_pos e]; exact lcI_neg xs ys
    · rw [if_neg e, if_neg e]
      unfold cmpI
      by_cases h : x < y
      · rw [if_pos h, decide_eq_true h]; rfl
      · rw [if_neg h, if_pos (by omega), decide_eq_false h]; rfl
theorem lcI_drop {A B : List Int} {k : Nat} (hA : k < A.length) (hB : k < B.length) :
    lcI (A.drop k) (B.drop k) = if A[k]?.getD 0 = B[k]?.getD 0 then lcI (A.drop (k + 1)) (B.drop (k + 1)) else cmpI (A[k]?.getD 0) (B[k]?.getD 0) := by
  rw [List.drop_eq_getElem_cons hA, List.drop_eq_getElem_cons hB, List.getElem?_eq_getElem hA, List.getElem?_eq_getElem hB]
  rfl
theorem lcI_endB {A B : List Int} {k : Nat} (hA : k < A.length) (hB : B.length ≤ k) : lcI (A.drop k) (B.drop k) = 1 := by
  rw [List.drop_eq_getElem_cons hA, List.drop_of_length_le hB]
  rfl
theorem lcI_endA {A B : List Int} {k : Nat} (hA : A.length ≤ k) (hB : k ≤ B.length) (hk : k = A.length) : lcI (A.drop k) (B.drop k) = if A.length < B.length then -1 else 0 := by
  rw [List.drop_of_length_le hA]
  by_cases h : A.length < B.length
  · rw [if_pos h, List.drop_eq_getElem_cons (show k < B.length by omega)]
    rfl
  · rw [if_neg h, List.drop_of_length_le (show B.length ≤ k by omega)]
    rfl
attribute [local irreducible] p2 low memB risB famAt own
theorem isNaN_c (x : Int) (w : World) : Calls Tryd.prog 109 #[.int .i64 x] w fun e w' => e = .returned (.bool false) ∧ w = w' := by
  go_enter Tryd.func109, Tryd.ntmps109
  go_wp2
  go_ret
  exact ⟨ret_b (by simp), rfl⟩
theorem cmp_c (x y : Int) (w : World) : Calls Tryd.prog 96 #[.int .i64 x, .int .i64 y] w fun e w' => e = .returned (.int .i64 (cmpI x y)) ∧ w = w' := by
  by_cases h1 : x < y
  · rw [show cmpI x y = -1 by unfold cmpI; rw [if_pos h1]]
    go_enter Tryd.func96, Tryd.ntmps96
    go_wp2_with (go_at_call 109; refine (isNaN_c _ _).mono ?_; rintro e w' ⟨rfl, rfl⟩)
    go_ret
    exact ⟨rfl, rfl⟩
  · by_cases h2 : y < x
    · rw [show cmpI x y = 1 by unfold cmpI; rw [if_neg h1, if_pos h2]]
      go_enter Tryd.func96, Tryd.ntmps96
      go_wp2_with (go_at_call 109; refine (isNaN_c _ _).mono ?_; rintro e w' ⟨rfl, rfl⟩)
      go_ret
      exact ⟨rfl, rfl⟩
    · rw [show cmpI x y = 0 by unfold cmpI; rw [if_neg h1, if_neg h2]]
      go_enter Tryd.func96, Tryd.ntmps96
      go_wp2_with (go_at_call 109; refine (isNaN_c _ _).mono ?_; rintro e w' ⟨rfl, rfl⟩)
      go_ret
      exact ⟨rfl, rfl⟩
set_option maxHeartbeats 2000000 in
theorem compareL_c (u v : Value) (A B : List Int) (w : World) (hA : ints w.heap.size w u A) (hB : ints w.heap.size w v B) (hAl : A.length < 1000000000) (_ : B.length < 1000000000) :
    Calls Tryd.prog 77 #[u, v] w fun e w' => e = .returned (.int .i64 (lcI A B)) ∧ Below w.heap.size w w' := by
  have HA := hide hA
  have HB := hide hB
  have HL0 := hide (show lcI A B = lcI (A.drop 0) (B.drop 0) by rw [List.drop_zero, List.drop_zero])
  clear hA hB
  go_enter Tryd.func77, Tryd.ntmps77
  go_wp2_with (refine wpList_len sliceT rfl (.tmp _) rfl u rfl w.heap.size A HA.out ?_)
  go_loopw [11] (fun i wr => ∃ k : Nat, k ≤ A.length ∧ k ≤ B.length ∧ i = .int .i64 (k : Int) ∧ Hid (lcI A B = lcI (A.drop k) (B.drop k)) ∧ Hid (Below w.heap.size w wr)) (fun i _ => A.length - (intOf i).toNat)
  case atStart => exact ⟨0, Nat.zero_le _, Nat.zero_le _, rfl, HL0, Below.refl _ _⟩
  case round =>
    obtain ⟨k, hk, hkB, rfl, HE, HW⟩ := hrel
    have HAW := hide (HA.out.below HW.out (Nat.le_refl _))
    have HBW := hide (HB.out.below HW.out (Nat.le_refl _))
    have hsz := HW.out.size
    by_cases hlt : k < A.length
    · have hlt' : (k : Int) < (A.length : Int) := by omega
      by_cases hlt2 : k < B.length
      · have hlt2' : ¬ ((B.length : Int) ≤ (k : Int)) := by omega
        have HDR := hide (lcI_drop hlt hlt2)
        generalize hxx : A[k]?.getD 0 = x at *
        generalize hyy : B[k]?.getD 0 = y at *
        have HXX := hide hxx
        have HYY := hide hyy
        clear hxx hyy
        by_cases he : x = y
        · have HN := hide (show lcI A B = lcI (A.drop (k + 1)) (B.drop (k + 1)) by rw [HE.out, HDR.out, if_pos he])
          have HC := hide (show cmpI x y = 0 by unfold cmpI; rw [if_neg (by omega), if_neg (by omega)])
          clear he
          go_wp2_with (first
            | (refine wpList_at sliceT intS rfl (.tmp 9) (.tmp _) rfl _ rfl k rfl w.heap.size A HAW.out hlt ?_; intro ad hcell hblk; rw [HXX.out] at hcell)
            | (refine wpList_len sliceT rfl (.tmp _) rfl v rfl w.heap.size B HBW.out ?_)
            | (refine wpList_at sliceT intS rfl (.tmp 20) (.tmp _) rfl _ rfl k rfl w.heap.size B HBW.out hlt2 ?_; intro ad2 hcell2 hblk2; rw [HYY.out] at hcell2)
            | (go_at_call 96; refine (cmp_c x y _).mono ?_; rw [HC.out]; rintro e w' ⟨rfl, rfl⟩))
          go_roundw
          case rel => exact ⟨k + 1, by omega, by omega, by go_num, HN, HW⟩
          case measure => (simp [intOf] <;> omega)
        · have HN := hide (show lcI A B = cmpI x y by rw [HE.out, HDR.out, if_neg he])
          have hne : ((cmpI x y) != 0) = true := by unfold cmpI; by_cases h : x < y; (rw [if_pos h]; rfl); (rw [if_neg h, if_pos (by omega)]; rfl)
          clear he HDR
          generalize hC : cmpI x y = c at HN hne
          have HC := hide hC
          clear hC
          go_wp2_with (first
            | (refine wpList_at sliceT intS rfl (.tmp 9) (.tmp _) rfl _ rfl k rfl w.heap.size A HAW.out hlt ?_; intro ad hcell hblk; rw [HXX.out] at hcell)
            | (refine wpList_len sliceT rfl (.tmp _) rfl v rfl w.heap.size B HBW.out ?_)
            | (refine wpList_at sliceT intS rfl (.tmp 20) (.tmp _) rfl _ rfl k rfl w.heap.size B HBW.out hlt2 ?_; intro ad2 hcell2 hblk2; rw [HYY.out] at hcell2)
            | (go_at_call 96; refine (cmp_c x y _).mono ?_; rw [HC.out]; rintro e w' ⟨rfl, rfl⟩))
          go_ret
          exact ⟨ret_i (by rw [HN.out]), HW.out⟩
      · have hlt2' : (B.length : Int) ≤ (k : Int) := by omega
        have HN := hide (show lcI A B = 1 by rw [HE.out, lcI_endB hlt (by omega)])
        go_wp2_with (first
          | (refine wpList_at sliceT intS rfl (.tmp 9) (.tmp _) rfl _ rfl k rfl w.heap.size A HAW.out hlt ?_; intro ad hcell hblk)
          | (refine wpList_len sliceT rfl (.tmp _) rfl v rfl w.heap.size B HBW.out ?_))
        go_ret
        exact ⟨ret_i (by rw [HN.out]), HW.out⟩
    · have hlt' : ¬ ((k : Int) < (A.length : Int)) := by omega
      have HN := hide (show lcI A B = if A.length < B.length then -1 else 0 by rw [HE.out, lcI_endA (by omega) hkB (by omega)])
      by_cases hl : A.length < B.length
      · have hl' : (A.length : Int) < (B.length : Int) := by omega
        have HN1 := hide (HN.out.trans (if_pos hl))
        go_wp2_with (first
          | (refine wpList_len sliceT rfl (.tmp 31) rfl u rfl w.heap.size A HAW.out ?_)
          | (refine wpList_len sliceT rfl (.tmp 33) rfl v rfl w.heap.size B HBW.out ?_))
        go_ret
        exact ⟨ret_i (by rw [HN1.out]), HW.out⟩
      · have hl' : ¬ ((A.length : Int) < (B.length : Int)) := by omega
        have HN1 := hide (HN.out.trans (if_neg hl))
        go_wp2_with (first
          | (refine wpList_len sliceT rfl (.tmp 31) rfl u rfl w.heap.size A HAW.out ?_)
          | (refine wpList_len sliceT rfl (.tmp 33) rfl v rfl w.heap.size B HBW.out ?_))
        go_ret
        exact ⟨ret_i (by rw [HN1.out]), HW.out⟩
theorem ent_setsH : enters Tryd.prog 55 := enters_of Tryd.func55 (by kernel_rfl) (by kernel_rfl)
theorem ent_compareH : enters Tryd.prog 77 := enters_of Tryd.func77 (by kernel_rfl) (by kernel_rfl)
theorem ent_compareFamilies : enters Tryd.prog 54 := enters_of Tryd.func54 (by kernel_rfl) (by kernel_rfl)
def cfI (F G : Nat → Bool) : Int := lcI (setsTo F 128) (setsTo G 128)
set_option maxHeartbeats 2000000 in
theorem compareFamilies_c (m : Int) (F G : Nat → Bool) (w : World) :
    Calls Tryd.prog 54 #[.agg (fam m F), .agg (fam m G)] w fun e w' => e = .returned (.int .i64 (cfI F G)) ∧ Below w.heap.size w w' := by
  have HF := hide ((famAt.new 53 w m F).alloc (.cells (fam m G) 53))
  have HG := hide (show famAt 53 ((w.alloc (.cells (fam m F) 53)).alloc (.cells (fam m G) 53)) (w.heap.size + 1) m G by have h := famAt.new 53 (w.alloc (.cells (fam m F) 53)) m G; simpa using h)
  have H0 := hide (((Below.refl w.heap.size w).alloc (Nat.le_refl _) (.cells (fam m F) 53)).alloc (by simp) (.cells (fam m G) 53))
  have HZ := hide (show ((w.alloc (.cells (fam m F) 53)).alloc (.cells (fam m G) 53)).heap.size = w.heap.size + 2 by simp)
  have HD := hide (show cfI F G = lcI (setsTo F 128) (setsTo G 128) from rfl)
  have hA := setsTo_len F 128
  have hB := setsTo_len G 128
  go_enter Tryd.func54, Tryd.ntmps54
  go_wp2_with fail
  generalize ((w.alloc (.cells (fam m F) 53)).alloc (.cells (fam m G) 53)) = W at HF HG H0 HZ ⊢
  have HSF := hide (fun w1 => sets_c m F w1)
  have HSG := hide (fun w1 => sets_c m G w1)
  generalize setsTo F 128 = A at HD hA HSF
  generalize setsTo G 128 = B at HD hB HSG
  refine wp_region_held (S := Below W.heap.size W) (by kernel_rfl) ?_
  have hS : Below W.heap.size W { W with drawn := W.drawn + 1 } := (Below.refl _ _).drew
  refine wpAnyH_take (i := 0) rfl (by kernel_rfl) (by kernel_rfl) (by kernel_rfl) (fun _ _ _ h => h) (yields_load_fam rowT sizeT rfl (.tmp _) rfl w.heap.size rfl m F (fun w' h => HF.out.below h (by rw [HZ.out]; omega))) hS ?_
  simp only [Act.put, List.getElem_toArray, List.getElem_cons_zero, List.getElem_cons_succ, List.setIfInBounds_toArray, List.set_cons_zero, List.set_cons_succ]
  refine wpAnyH_take (i := 2) rfl (by kernel_rfl) (by kernel_rfl) (by kernel_rfl) (fun _ _ _ h => h) (yields_load_fam rowT sizeT rfl (.tmp _) rfl (w.heap.size + 1) rfl m G (fun w' h => HG.out.below h (by rw [HZ.out]; omega))) hS ?_
  simp only [Act.put, List.getElem_toArray, List.getElem_cons_zero, List.getElem_cons_succ, List.setIfInBounds_toArray, List.set_cons_zero, List.set_cons_succ]
  refine anyH_call (i := 1) (by kernel_rfl) rfl rfl 55 ent_setsH _ _ rfl #[.agg (fam m F)] rfl (HSF.out _) ?_
  rintro e w5 ⟨v5, rfl, ho5, hb5⟩
  have hS5 : Below W.heap.size W w5 := hS.trans (hb5.mono hS.size)
  refine ⟨_, rfl, hS5, ?_⟩
  simp only [Act.put, List.getElem_toArray, List.getElem_cons_zero, List.getElem_cons_succ, List.setIfInBounds_toArray, List.set_cons_zero, List.set_cons_succ]
  refine anyH_call (i := 3) (by kernel_rfl) rfl rfl 55 ent_setsH _ _ rfl #[.agg (fam m G)] rfl (HSG.out _) ?_
  rintro e w6 ⟨v6, rfl, ho6, hb6⟩
  have hS6 : Below W.heap.size W w6 := hS5.trans (hb6.mono hS5.size)
  refine ⟨_, rfl, hS6, ?_⟩
  simp only [Act.put, List.getElem_toArray, List.getElem_cons_zero, List.getElem_cons_succ, List.setIfInBounds_toArray, List.set_cons_zero, List.set_cons_succ]
  refine anyH_call (i := 4) (by kernel_rfl) rfl rfl 77 ent_compareH _ _ rfl #[v5, v6] rfl (compareL_c v5 v6 A B w6 ((ho5.ints.below hb6 (Nat.le_refl _)).mono hb6.size) ho6.ints (by omega) (by omega)) ?_
  rintro e w7 ⟨rfl, hb7⟩
  have hS7 : Below W.heap.size W w7 := hS6.trans (hb7.mono hS6.size)
  refine ⟨_, rfl, hS7, ?_⟩
  simp only [Act.put, List.getElem_toArray, List.getElem_cons_zero, List.getElem_cons_succ, List.setIfInBounds_toArray, List.set_cons_zero, List.set_cons_succ]
  refine anyH_op (i := 5) (by kernel_rfl) rfl rfl (.int .i64 (lcI A B)) w7 (by simp [go_sem]) hS7 ?_
  refine wpAnyH_done (by kernel_rfl) ?_ _
  simp only [Act.put, List.getElem_toArray, List.getElem_cons_zero, List.getElem_cons_succ, List.setIfInBounds_toArray, List.set_cons_zero, List.set_cons_succ]
  have HB7 := hide (H0.out.trans (hS7.mono (by rw [HZ.out]; omega)))
  clear hS hS5 hS6 hS7 hb5 hb6 hb7 ho5 ho6
  go_wp2
  go_ret
  exact ⟨ret_i (by rw [HD.out]), HB7.out⟩
/-- The first of families. -/
def mnF (Fs : List (Nat → Bool)) : Nat → (Nat → Bool)
  | 0 => Fs[0]?.getD noSet
  | k + 1 => if cfI (Fs[k + 1]?.getD noSet) (mnF Fs k) < 0 then Fs[k + 1]?.getD noSet else mnF Fs k
theorem mnF_next (Fs : List (Nat → Bool)) (k : Nat) : mnF Fs (k + 1) = if cfI (Fs[k + 1]?.getD noSet) (mnF Fs k) < 0 then Fs[k + 1]?.getD noSet else mnF Fs k := rfl
theorem mnF_sets (Fs : List (Nat → Bool)) (f : Nat → List Int) (h : ∀ k, k < Fs.length → setsTo (Fs[k]?.getD noSet) 128 = f k) : ∀ k, k < Fs.length → setsTo (mnF Fs k) 128 = mnL (f 0) f (k + 1)
  | 0, hk => by
    rw [mnL_next, show mnL (f 0) f 0 = f 0 from rfl, lexB_irr, if_neg (by simp)]
    exact h 0 hk
  | k + 1, hk => by
    have ih := mnF_sets Fs f h k (by omega)
    have hn := lcI_neg (setsTo (Fs[k + 1]?.getD noSet) 128) (setsTo (mnF Fs k) 128)
    rw [mnF_next, mnL_next, ← ih, ← h (k + 1) hk, ← hn]
    by_cases hc : lcI (setsTo (Fs[k + 1]?.getD noSet) 128) (setsTo (mnF Fs k) 128) < 0
    · rw [if_pos (show cfI (Fs[k + 1]?.getD noSet) (mnF Fs k) < 0 from hc), if_pos (decide_eq_true hc)]
    · rw [if_neg (show ¬ cfI (Fs[k + 1]?.getD noSet) (mnF Fs k) < 0 from hc), if_neg (by rw [decide_eq_true_eq]; exact hc)]
end Go.Proofs.YtcokdhmccokkiaaDoor
/- Contracts: slices.MinFunc over families. -/
namespace Go.Proofs.YtcokdhmccokkiaaDoor
open Go.RowKit
set_option maxRecDepth 100000
set_option linter.unusedSimpArgs false
section
variable {P : Program} {md : Region.Mode} {ops : Array Oper} {Q : Exit → Act → World → Prop} {S : World → Prop} {fuel : Nat} {listed : Array Bool} {a : Act} {w : World}
theorem anyH_callN {i : Nat} {o : Oper} (hr : Region.ready md ops listed = [i]) (hi : ops[i]? = some o) (hw : Region.wanted o (yielded ops a.tmps) = true) (k : FuncId) (caps : Array Value) (hk : enters P k) (x : Operand) (xs : Array Operand) (ts : Array TypeId)
    (ho : o.op = .call { callee := .value x, args := xs, argTypes := ts }) (hx : a.eval x = .func (.func k) #[] caps) (args : Array Value) (hal : xs.toList.map a.eval = args.toList) {R : Ending → World → Prop} (hc : Calls P k (args ++ caps) w R)
    (h : ∀ e w', R e w' → ∃ v, e = .returned v ∧ S w' ∧ wpAnyH P md ops Q S fuel (listed.setIfInBounds i true) (a.put o.dst v) w') : wpAnyH P md ops Q S (fuel + 1) listed a w := by
  have ha : xs.map a.eval = args := Array.toList_inj.1 (by simpa using hal)
  refine wpAnyH_all hr (by simp) fun j hj => ?_
  have hj' : j = i := by simpa using hj
  subst hj'
  unfold wpOp
  simp only [hi, hw, if_true]
  refine .inl ?_
  have he : execOp a.eval o = callFunc k (args ++ caps) := by
    unfold execOp
    simp only [ho, resolve, hx, ha, Deferred.ofValue, pure_bind, invoke, Array.empty_append]
  unfold Oper.wp
  rw [he, hk]
  refine hc.mono fun e w' hR => ?_
  obtain ⟨v, rfl, h1, h2⟩ := h e w' hR
  exact ⟨h1, h2⟩
end
theorem exec_atF {o : Oper} {a : Act} (x y : Operand) (ho : o.op = .indexAddr 54 x y) (b of len c k : Nat) (hx : a.eval x = .slice (some ⟨b, of, none⟩) len c) (hy : a.eval y = .int .i64 (k : Int)) (hk : k < len) (w : World) :
    (execOp a.eval o).run Tryd.prog w = .ok (.value (.pointer (some ⟨b, of + k * 129, none⟩))) w := by
  have ht := fSl
  have he : Tryd.prog.underlying 54 = some (.slice (Tryd.prog.elem 54)) := by
    rw [ht]; simp [Program.elem, ht]
  have hE : Tryd.prog.elem 54 = 53 := by simp [Program.elem, ht]
  have hr : (Instr.indexAt 54 (.slice (some ⟨b, of, none⟩) len c) (.int .i64 (k : Int))).run Tryd.prog w = .ok (.pointer (some ⟨b, of + k * 129, none⟩)) w := by
    rw [run_indexAt_slice (h := he), if_pos (by omega), hE, run_sizeOf' sizeT]
    simp [Addr.add]
  unfold execOp
  simp only [ho, hx, hy, Sem.run_bind, Sem.run_pure, hr, Result.andThen_ok]
theorem fls_some {B : Nat} {w : World} {v : Value} {n : Int} {Fs : List (Nat → Bool)} (h : fls B w v n Fs) (h0 : 0 < Fs.length) :
    ∃ b o c, v = .slice (some ⟨b, o, none⟩) Fs.length c ∧ b < B ∧ b < w.heap.size ∧ ∀ k, k < Fs.length → w.rangeAt b (o + k * 129) (fam n (Fs[k]?.getD noSet)).toList := by
  rcases h with ⟨rfl, _⟩ | ⟨b, o, c, h1, h2, h3, h4⟩
  · simp at h0
  refine ⟨b, o, c, h1, h2, h3, fun k hk j y hj => ?_⟩
  have hj2 : j < 129 := by
    have := (List.getElem?_eq_some_iff.1 hj).1
    rw [Array.length_toList, fam_size] at this
    exact this
  have hq : k * 129 + j < Fs.length * 129 := by
    have : (k + 1) * 129 ≤ Fs.length * 129 := Nat.mul_le_mul_right _ hk
    omega
  rw [Nat.add_assoc, h4 _ hq, flC_get n Fs k j hk hj2, ← Array.getElem?_toList]
  exact hj
theorem yields_loadN {ops : Array Oper} {S : World → Prop} {o : Oper} {a : Act} (hw : Region.wanted o (yielded ops a.tmps) = true) (x : Operand) (ho : o.op = .load 53 x) (b f : Nat) (hx : a.eval x = .pointer (some ⟨b, f, none⟩)) (n : Int) (F : Nat → Bool)
    (hS : ∀ w, S w → w.rangeAt b f (fam n F).toList) : YieldsIf Tryd.prog ops S o (.agg (fam n F)) a := by
  obtain ⟨d, hu, hd⟩ := rowTy_of rowT
  have h := yieldsIf_load_mid hw 53 x ho b f hx (fam n F).toList d hS hu hd (by rw [Array.length_toList, fam_size]; exact sizeT)
  rwa [Array.toArray_toList] at h
theorem rangeAt_below {B : Nat} {w w' : World} {b o : Nat} {cs : List Value} (h : w.rangeAt b o cs) (hb : Below B w w') (hlt : b < B) : w'.rangeAt b o cs :=
  fun j y hj => (hb.cell (p := ⟨b, o + j, none⟩) hlt).trans (h j y hj)
attribute [local irreducible] p2 low memB risB famAt own fls
set_option maxHeartbeats 4000000 in
theorem minFuncF_c (u : Value) (n : Int) (Fs : List (Nat → Bool)) (w : World) (hch : fls w.heap.size w u n Fs) (hcl : Fs.length < 1000000000) (h0 : 0 < Fs.length) :
    Calls Tryd.prog 53 #[u, .func (.func 54) #[] #[]] w fun e w' => e = .returned (.agg (fam n (mnF Fs (Fs.length - 1)))) ∧ Below w.heap.size w w' := by
  obtain ⟨b, o, c, hu, hbB, hbw, hrg⟩ := fls_some hch h0
  subst hu
  have HCH := hide hch
  have HRG := hide hrg
  have HR0 := hide (famAt.new 53 w 0 noSet)
  have HB0 := hide ((Below.refl w.heap.size w).alloc (Nat.le_refl _) (.cells (fam 0 noSet) 53))
  have HZ0 := hide (show (w.alloc (.cells (fam 0 noSet) 53)).heap.size = w.heap.size + 1 by simp)
  have HG0 := hide (rangeAt_below (hrg 0 h0) HB0.out hbB)
  rw [Nat.zero_mul, Nat.add_zero] at HG0
  have hd0 : ¬ ((Fs.length : Int) < 1) := by omega
  have HM0 := hide (show mnF Fs 0 = Fs[0]?.getD noSet from rfl)
  generalize Fs[0]?.getD noSet = F0 at HG0 HM0
  have HMN := hide (mnF_next Fs)
  have HB1 := hide (fun F => bl_row (HB0.out.alloc (by rw [HZ0.out]; omega) (.cells (fam 0 noSet) 53)) (show w.heap.size ≤ w.heap.size + 1 by omega) (fam n F))
  have HR1 := hide (fun F => (HR0.out.alloc (.cells (fam 0 noSet) 53)).rowO (w.heap.size + 1) (by omega) (fam n F))
  have HN1 := hide (show famAt 53 ((w.alloc (.cells (fam 0 noSet) 53)).alloc (.cells (fam 0 noSet) 53)) (w.heap.size + 1) 0 noSet by have h := famAt.new 53 (w.alloc (.cells (fam 0 noSet) 53)) 0 noSet; simpa using h)
  have HX1 := hide (fun F => HN1.out.row n F)
  clear hch hrg
  go_enter Tryd.func53, Tryd.ntmps53
  go_wp2_with (first
    | (refine wpList_alloc_fam zeroT rfl rfl _ (by first | (simp only [World.size_alloc]; rfl) | rfl) ?_)
    | (refine wpList_lenF rfl (.tmp _) rfl _ rfl Fs.length ⟨_, _, rfl⟩ ?_)
    | (refine wpList_loadF rfl (.tmp 12) rfl b o rfl n F0 HG0.out ?_)
    | (refine wpList_store_fam sizeT rfl (.tmp 5) (.tmp _) rfl (w.heap.size + 1) _ _ rfl rfl _ _ HN1.out ?_))
  go_loopw [6] (fun iv wr => ∃ k j : Nat, Hid (j = k + 1) ∧ j ≤ Fs.length ∧ iv = .int .i64 (j : Int) ∧ Hid (famAt 53 wr (w.heap.size + 1) n (mnF Fs k)) ∧ Hid (famAt 53 wr w.heap.size 0 noSet) ∧ Hid (Below w.heap.size w wr)) (fun iv _ => Fs.length - (intOf iv).toNat)
  case atStart => exact ⟨0, 1, rfl, by omega, rfl, hide (by rw [HM0.out]; exact HX1.out _), HR1.out _, HB1.out _⟩
  case round =>
    obtain ⟨k, j, HJ, hj, rfl, HC, HRR, HB⟩ := hrel
    have hsz := HC.out.lt
    by_cases hlt : j < Fs.length
    · have hlt' : (j : Int) < (Fs.length : Int) := by omega
      have HG := hide (rangeAt_below (HRG.out j hlt) HB.out hbB)
      have HFL := hide (HCH.out.below HB.out (Nat.le_refl _))
      have HNX := hide (show mnF Fs (k + 1) = if cfI (Fs[j]?.getD noSet) (mnF Fs k) < 0 then Fs[j]?.getD noSet else mnF Fs k by rw [HJ.out]; exact HMN.out k)
      generalize hF : Fs[j]?.getD noSet = F at HG HNX
      have HF := hide hF
      clear hF
      generalize mnF Fs k = M at HC HNX
      go_wp2_with (refine wpList_lenF rfl (.tmp _) rfl _ rfl Fs.length ⟨_, _, rfl⟩ ?_)
      refine wp_region_held (S := Below wr.heap.size wr) (by kernel_rfl) ?_
      have hS : Below wr.heap.size wr { wr with drawn := wr.drawn + 1 } := (Below.refl _ _).drew
      refine wpAnyH_take (i := 0) (v := .func (.func 54) #[] #[]) rfl (by kernel_rfl) (by kernel_rfl) (by kernel_rfl) (fun _ _ _ h => h) (.inl ⟨rfl, fun w' _ => by go_simp⟩) hS ?_
      simp only [Act.put, List.getElem_toArray, List.getElem_cons_zero, List.getElem_cons_succ, List.setIfInBounds_toArray, List.set_cons_zero, List.set_cons_succ]
      refine wpAnyH_take (i := 1) (v := .slice (some ⟨b, o, none⟩) Fs.length c) rfl (by kernel_rfl) (by kernel_rfl) (by kernel_rfl) (fun _ _ _ h => h) (.inl ⟨rfl, fun w' _ => by go_simp⟩) hS ?_
      simp only [Act.put, List.getElem_toArray, List.getElem_cons_zero, List.getElem_cons_succ, List.setIfInBounds_toArray, List.set_cons_zero, List.set_cons_succ]
      refine wpAnyH_take (i := 2) (v := .int .i64 (j : Int)) rfl (by kernel_rfl) (by kernel_rfl) (by kernel_rfl) (fun _ _ _ h => h) (.inl ⟨rfl, fun w' _ => by go_simp⟩) hS ?_
      simp only [Act.put, List.getElem_toArray, List.getElem_cons_zero, List.getElem_cons_succ, List.setIfInBounds_toArray, List.set_cons_zero, List.set_cons_succ]
      refine wpAnyH_take (i := 3) (v := .pointer (some ⟨b, o + j * 129, none⟩)) rfl (by kernel_rfl) (by kernel_rfl) (by kernel_rfl) (fun _ _ _ h => h) (.inl ⟨rfl, fun w' _ => exec_atF _ _ rfl b o Fs.length c j rfl rfl hlt w'⟩) hS ?_
      simp only [Act.put, List.getElem_toArray, List.getElem_cons_zero, List.getElem_cons_succ, List.setIfInBounds_toArray, List.set_cons_zero, List.set_cons_succ]
      refine wpAnyH_take (i := 4) rfl (by kernel_rfl) (by kernel_rfl) (by kernel_rfl) (fun _ _ _ h => h) (yields_loadN rfl (.tmp _) rfl b (o + j * 129) rfl n F (fun w' h => rangeAt_below HG.out h (by omega))) hS ?_
      simp only [Act.put, List.getElem_toArray, List.getElem_cons_zero, List.getElem_cons_succ, List.setIfInBounds_toArray, List.set_cons_zero, List.set_cons_succ]
      refine wpAnyH_take (i := 5) rfl (by kernel_rfl) (by kernel_rfl) (by kernel_rfl) (fun _ _ _ h => h) (yields_load_fam rowT sizeT rfl (.tmp _) rfl (w.heap.size + 1) rfl n M (fun w' h => HC.out.below h (by omega))) hS ?_
      simp only [Act.put, List.getElem_toArray, List.getElem_cons_zero, List.getElem_cons_succ, List.setIfInBounds_toArray, List.set_cons_zero, List.set_cons_succ]
      refine anyH_callN (i := 6) (by kernel_rfl) rfl rfl 54 #[] ent_compareFamilies _ _ _ rfl rfl #[.agg (fam n F), .agg (fam n M)] rfl (compareFamilies_c n F M _) ?_
      rintro e w5 ⟨rfl, hb5⟩
      have hS5 : Below wr.heap.size wr w5 := hS.trans (hb5.mono hS.size)
      refine ⟨_, rfl, hS5, ?_⟩
      simp only [Act.put, List.getElem_toArray, List.getElem_cons_zero, List.getElem_cons_succ, List.setIfInBounds_toArray, List.set_cons_zero, List.set_cons_succ]
      refine anyH_op (i := 7) (by kernel_rfl) rfl rfl (.bool (decide (cfI F M < 0))) w5 (by simp [go_sem]) hS5 ?_
      refine wpAnyH_done (by kernel_rfl) ?_ _
      simp only [Act.put, List.getElem_toArray, List.getElem_cons_zero, List.getElem_cons_succ, List.setIfInBounds_toArray, List.set_cons_zero, List.set_cons_succ]
      have HC5 := hide (HC.out.below hS5 hsz)
      have HR5 := hide (HRR.out.below hS5 (by omega))
      have HB5 := hide (HB.out.trans (hS5.mono (by omega)))
      have HL5 := hide (HFL.out.below hS5 (by omega))
      clear hS hS5 hb5
      by_cases hc : cfI F M < 0
      · have HD := hide (decide_eq_true hc)
        have HN2 := hide (show mnF Fs (k + 1) = F by rw [HNX.out, if_pos hc])
        rw [HD.out]
        clear hc
        have HC6 := hide (HC5.out.row n F)
        have HR6 := hide (HR5.out.rowO (w.heap.size + 1) (by omega) (fam n F))
        have HB6 := hide (bl_row HB5.out (show w.heap.size ≤ w.heap.size + 1 by omega) (fam n F))
        go_wp2_with (first
          | (refine wpList_atF rfl (.tmp _) (.tmp _) rfl _ rfl j rfl w.heap.size n Fs HL5.out hlt ?_; intro b2 f2 hbx hby hrg2; rw [HF.out] at hrg2)
          | (refine wpList_loadF rfl (.tmp 30) rfl b2 f2 rfl n F hrg2 ?_)
          | (refine wpList_store_fam sizeT rfl (.tmp 5) (.tmp _) rfl (w.heap.size + 1) _ _ rfl rfl _ _ HC5.out ?_))
        go_roundw
        case rel => exact ⟨k + 1, j + 1, hide (by rw [HJ.out]), by omega, by go_num, hide (by rw [HN2.out]; exact HC6.out), HR6, HB6⟩
        case measure => (simp [intOf] <;> omega)
      · have HD := hide (decide_eq_false hc)
        have HN2 := hide (show mnF Fs (k + 1) = M by rw [HNX.out, if_neg hc])
        rw [HD.out]
        clear hc
        go_wp2
        go_roundw
        case rel => exact ⟨k + 1, j + 1, hide (by rw [HJ.out]), by omega, by go_num, hide (by rw [HN2.out]; exact HC5.out), HR5, HB5⟩
        case measure => (simp [intOf] <;> omega)
    · have hlt' : ¬ ((j : Int) < (Fs.length : Int)) := by omega
      have HKE := hide (show Fs.length - 1 = k by have := HJ.out; omega)
      generalize hM : mnF Fs k = M at HC
      have HM := hide hM
      clear hM
      go_wp2_with (first
        | (refine wpList_lenF rfl (.tmp _) rfl _ rfl Fs.length ⟨_, _, rfl⟩ ?_)
        | (refine wpList_load_fam rowT sizeT rfl (.tmp _) rfl (w.heap.size + 1) rfl n M HC.out ?_)
        | (refine wpList_store_fam sizeT rfl (.tmp 4) (.tmp _) rfl w.heap.size _ _ rfl rfl _ _ HRR.out ?_))
      refine bodyPost_ret (v := .agg (fam n M)) (results_fam rowT sizeT rfl _ _ w.heap.size rfl _ _ (HRR.out.row _ _)) rfl ⟨by rw [HKE.out, HM.out], bl_row HB.out (by omega) _⟩
end Go.Proofs.YtcokdhmccokkiaaDoor
/- Contracts: LeastNamed, both. -/
namespace Go.Proofs.YtcokdhmccokkiaaDoor
open Go.RowKit
set_option maxRecDepth 100000
set_option linter.unusedSimpArgs false
theorem nk_id (n : Nat) (h1 : 1 ≤ n) (h5 : n ≤ 5) : 0 < (nkA n).length ∧ (nkA n)[0]?.getD [] = upTo n := by
  rcases (show n = 1 ∨ n = 2 ∨ n = 3 ∨ n = 4 ∨ n = 5 by omega) with rfl | rfl | rfl | rfl | rfl <;> exact ⟨of_decide_eq_true (by kernel_rfl), by kernel_rfl⟩
theorem rnm_id (n : Nat) (h1 : 1 ≤ n) (h5 : n ≤ 5) : ∀ a, a < 2 ^ n → rnm (upTo n) n a = a := by
  rcases (show n = 1 ∨ n = 2 ∨ n = 3 ∨ n = 4 ∨ n = 5 by omega) with rfl | rfl | rfl | rfl | rfl <;> decide +kernel
theorem nkf_id {n : Nat} {l : List Int} (h : okSp (n : Int) l = true) (h1 : 1 ≤ n) (h5 : n ≤ 5) : nkf n l 0 = l := by
  unfold nkf
  rw [(nk_id n h1 h5).2, show rmF (n : Int) l (upTo n) = imgTo (marksTo l l.length) (rnm (upTo n) n) 128 by rw [img_lm h]; rfl]
  have hl := okSp_list h
  refine Eq.trans (setsTo_congr 128 fun x hx => ?_) hl.symm
  rw [Bool.eq_iff_iff, img_iff]
  have hlt := fun a ha => okSp_lt h a ha
  rw [Int.toNat_natCast] at hlt
  constructor
  · rintro ⟨a, _, ha, e⟩
    rw [rnm_id n h1 h5 a (hlt a ha)] at e
    rw [← e]; exact ha
  · intro hm
    exact ⟨x, hx, hm, rnm_id n h1 h5 x (hlt x hm)⟩
def lnN (n : Int) (l : List Int) : Int := if nkB n l then n else 0
def lnL (n : Int) (l : List Int) : List Int := if nkB n l then mnL l (nkf n.toNat l) (nkA n.toNat).length else []
theorem lnN_no {n : Int} {l : List Int} (h : nkB n l = false) : lnN n l = 0 := by unfold lnN; rw [h]; rfl
theorem lnN_yes {n : Int} {l : List Int} (h : nkB n l = true) : lnN n l = n := by unfold lnN; rw [h]; rfl
theorem lnL_no {n : Int} {l : List Int} (h : nkB n l = false) : lnL n l = [] := by unfold lnL; rw [h]; rfl
theorem lnL_yes {n : Int} {l : List Int} (h : nkB n l = true) : lnL n l = mnL l (nkf n.toNat l) (nkA n.toNat).length := by unfold lnL; rw [h]; rfl
theorem lnL_len (n : Int) (l : List Int) : (lnL n l).length < 1000000000 := by
  cases h : nkB n l
  · rw [lnL_no h]; simp
  · rw [lnL_yes h]
    unfold nkB at h
    rw [Bool.and_eq_true] at h
    have hl : l.length ≤ 128 := by rw [okSp_list h.1]; exact setsTo_len _ 128
    exact mnL_len (by omega) (fun j => by unfold nkf; have := setsTo_len (rmF (n.toNat : Int) l ((nkA n.toNat)[j]?.getD [])) 128; omega) _
/-- The program's families are the specification's lists. -/
theorem ln_sets {m : Nat} {l : List Int} (h : okSp (m : Int) l = true) (h1 : 1 ≤ m) (h5 : m ≤ 5) :
    setsTo (mnF ((nkA m).map fun nm => imgTo (marksTo l l.length) (rnm nm m) 128) (((nkA m).map fun nm => imgTo (marksTo l l.length) (rnm nm m) 128).length - 1)) 128 = mnL l (nkf m l) (nkA m).length := by
  have h0 := (nk_id m h1 h5).1
  have hid := nkf_id h h1 h5
  rw [mnF_sets _ (nkf m l) (fun k hk => by
    rw [List.length_map] at hk
    rw [List.getElem?_map, List.getElem?_eq_getElem hk]
    unfold nkf
    rw [List.getElem?_eq_getElem hk]
    show setsTo (imgTo (marksTo l l.length) (rnm (nkA m)[k] m) 128) 128 = setsTo (rmF (m : Int) l (nkA m)[k]) 128
    rw [img_lm h]
    rfl) _ (by rw [List.length_map]; omega), List.length_map, show (nkA m).length - 1 + 1 = (nkA m).length by omega, hid]
attribute [local irreducible] p2 low memB risB famAt own fls
set_option maxHeartbeats 2000000 in
theorem leastNamed_c (m : Nat) (F : Nat → Bool) (w : World) (h1 : 1 ≤ m) (h5 : m ≤ 5) (hT : tab w) :
    Calls Tryd.prog 37 #[.agg (fam (m : Int) F)] w fun e w' => e = .returned (.agg (fam (m : Int) (mnF ((nkA m).map fun nm => imgTo F (rnm nm m) 128) (((nkA m).map fun nm => imgTo F (rnm nm m) 128).length - 1)))) ∧ Below w.heap.size w w' := by
  have HF := hide ((famAt.new 53 w (m : Int) F).alloc (.cells (fam 0 noSet) 53))
  have HR := hide (show famAt 53 ((w.alloc (.cells (fam (m : Int) F) 53)).alloc (.cells (fam 0 noSet) 53)) (w.heap.size + 1) 0 noSet by have h := famAt.new 53 (w.alloc (.cells (fam (m : Int) F) 53)) 0 noSet; simpa using h)
  have H0 := hide (((Below.refl w.heap.size w).alloc (Nat.le_refl _) (.cells (fam (m : Int) F) 53)).alloc (by simp) (.cells (fam 0 noSet) 53))
  have HZ := hide (show ((w.alloc (.cells (fam (m : Int) F) 53)).alloc (.cells (fam 0 noSet) 53)).heap.size = w.heap.size + 2 by simp)
  have HT := hide (hT.below H0.out)
  have HA := hide (fun w1 (h : tab w1) => allRenamed_c m F w1 h1 h5 h)
  have hn := nk_len m h1 h5
  have h0 := (nk_id m h1 h5).1
  have hml : ((nkA m).map fun nm => imgTo F (rnm nm m) 128).length = (nkA m).length := List.length_map _
  rw [← hml] at hn h0
  clear hml
  generalize ((nkA m).map fun nm => imgTo F (rnm nm m) 128) = Fs at HA hn h0 ⊢
  clear hT
  go_enter Tryd.func37, Tryd.ntmps37
  go_wp2_with (first
    | (refine wpList_alloc_fam zeroT rfl rfl _ (by first | (simp only [World.size_alloc]; rfl) | rfl) ?_)
    | (refine wpList_load_fam rowT sizeT rfl (.tmp _) rfl w.heap.size rfl (m : Int) F HF.out ?_)
    | (go_at_call 41; refine (HA.out _ HT.out).mono ?_; rintro e w2 ⟨v2, rfl, ho2, hb2⟩; have hz2 := hb2.size; rw [HZ.out] at hz2; have HR2 := hide (HR.out.below hb2 (by rw [HZ.out]; omega)); have HL2 := hide ho2.fls; have HB2 := hide (H0.out.trans (hb2.mono (by rw [HZ.out]; omega))); clear ho2 hb2)
    | (go_at_call 53; refine (minFuncF_c _ (m : Int) Fs w2 HL2.out (by omega) h0).mono ?_; rintro e w3 ⟨rfl, hb3⟩; have HR3 := hide (HR2.out.below hb3 (by omega)); have HB3 := hide (HB2.out.trans (hb3.mono (by omega))); clear hb3)
    | (refine wpList_store_fam sizeT rfl (.tmp _) (.tmp _) rfl (w.heap.size + 1) _ _ rfl rfl _ _ HR3.out ?_))
  exact bodyPost_ret (v := .agg (fam (m : Int) (mnF Fs (Fs.length - 1)))) (results_fam rowT sizeT rfl _ _ (w.heap.size + 1) rfl _ _ (HR3.out.row _ _)) rfl ⟨rfl, bl_row HB3.out (by omega) _⟩
set_option maxHeartbeats 4000000 in
theorem implLeastNamed_c (n : Int) (v : Value) (l : List Int) (w : World) (hl : ints w.heap.size w v l) (hlen : l.length < 1000000000) (hT : tab w) :
    Calls Tryd.prog 13 #[.agg #[.int .i64 n, v]] w fun e w' => ∃ v', e = .returned (.tuple #[.agg #[.int .i64 (lnN n l), v'], .bool (nkB n l)]) ∧ own 3 w' w.heap.size v' (lnL n l) ∧ Below w.heap.size w w' := by
  have hr0 : ((w.alloc (.cells #[.int .i64 n, v] 29)).alloc (.cells #[.int .i64 0, .slice none 0 0] 29)).heap[w.heap.size + 1]? = some (.cells #[.int .i64 0, .slice none 0 0] 29) := by have := hp_last (w.alloc (.cells #[.int .i64 n, v] 29)) (.cells #[.int .i64 0, .slice none 0 0] 29); simpa using this
  have H0 := hide (((Below.refl w.heap.size w).alloc (Nat.le_refl _) (.cells #[.int .i64 n, v] 29)).alloc (by simp) (.cells #[.int .i64 0, .slice none 0 0] 29))
  have HZ0 := hide (show ((w.alloc (.cells #[.int .i64 n, v] 29)).alloc (.cells #[.int .i64 0, .slice none 0 0] 29)).heap.size = w.heap.size + 2 by simp)
  have HL0 := hide (((hl.alloc (.cells #[.int .i64 n, v] 29)).alloc (.cells #[.int .i64 0, .slice none 0 0] 29)).mono (show w.heap.size ≤ ((w.alloc (.cells #[.int .i64 n, v] 29)).alloc (.cells #[.int .i64 0, .slice none 0 0] 29)).heap.size by rw [HZ0.out]; omega))
  have HR0 := hide hr0
  have HT := hide hT
  have HSM := hide (smallFamily_c n v l _ HL0.out hlen)
  clear hl hr0 hT
  cases hB : nkB n l
  · rw [nkV_no hB] at HSM
    rw [lnN_no hB, lnL_no hB]
    clear hB
    go_enter Tryd.func13, Tryd.ntmps13
    go_wp2_with (first
      | (go_at_call 36; refine HSM.out.mono ?_; rintro e w1 ⟨rfl, hb1⟩; have hz1 : w.heap.size + 2 ≤ w1.heap.size := (by have := hb1.size; rw [HZ0.out] at this; exact this); have hr1 : ((w1.alloc (.cells (fam 0 noSet) 53)).setRow w1.heap.size (fam 0 noSet)).heap[w.heap.size + 1]? = some (.cells #[.int .i64 0, .slice none 0 0] 29) := (hp_rowO _ _ _ _ (by omega)).trans ((hp_old _ _ _ (by omega)).trans ((hb1.block (w.heap.size + 1) (by rw [HZ0.out]; omega)).trans HR0.out)); obtain ⟨q0, q1, q2, q3⟩ := zero_slots hr1; have HB2 := hide (bl_row ((H0.out.trans (hb1.mono (by rw [HZ0.out]; omega))).alloc (by omega) (.cells (fam 0 noSet) 53)) (show w.heap.size ≤ w1.heap.size by omega) (fam 0 noSet)); clear hb1 hr1)
      | (refine wpList_alloc_fam zeroT rfl rfl _ (by first | (simp only [World.size_alloc]; rfl) | rfl) ?_)
      | (refine wpList_store_fam sizeT rfl (.tmp _) (.tmp _) rfl _ _ _ rfl rfl _ _ (famAt.new _ _ _ _) ?_))
    refine bodyPost_ret (v := .tuple #[.agg #[.int .i64 0, .slice none 0 0], .bool false]) (by simp [results, Tryd.results13, go_sem, q0, q1]) rfl ⟨_, rfl, own_nil _ _ _, ?_⟩
    exact (HB2.out.setCell (by show w.heap.size ≤ w.heap.size + 1; omega) _).setCell (by show w.heap.size ≤ w.heap.size + 1; omega) _
  · rw [nkV_yes hB] at HSM
    rw [lnN_yes hB, lnL_yes hB]
    unfold nkB at hB
    rw [Bool.and_eq_true, decide_eq_true_eq] at hB
    have hn := okSp_n hB.1
    obtain ⟨m, rfl⟩ := Int.eq_ofNat_of_zero_le (show 0 ≤ n by omega)
    have hm1 : 1 ≤ m := by omega
    have hm5 : m ≤ 5 := by omega
    have HSE := hide (ln_sets hB.1 hm1 hm5)
    have HLN := hide (fun w1 (h : tab w1) => leastNamed_c m (marksTo l l.length) w1 hm1 hm5 h)
    rw [Int.toNat_natCast]
    rw [← HSE.out]
    generalize mnF ((nkA m).map fun nm => imgTo (marksTo l l.length) (rnm nm m) 128) (((nkA m).map fun nm => imgTo (marksTo l l.length) (rnm nm m) 128).length - 1) = RF at HLN ⊢
    generalize marksTo l l.length = M at HSM HLN
    clear hB hn HSE
    go_enter Tryd.func13, Tryd.ntmps13
    go_wp2_with (first
      | (go_at_call 36; refine HSM.out.mono ?_; rintro e w1 ⟨rfl, hb1⟩; have hz1 : w.heap.size + 2 ≤ w1.heap.size := (by have := hb1.size; rw [HZ0.out] at this; exact this); have hrx : ((w1.alloc (.cells (fam 0 noSet) 53)).setRow w1.heap.size (fam (m : Int) M)).heap[w.heap.size + 1]? = some (.cells #[.int .i64 0, .slice none 0 0] 29) := (hp_rowO _ _ _ _ (by omega)).trans ((hp_old _ _ _ (by omega)).trans ((hb1.block (w.heap.size + 1) (by rw [HZ0.out]; omega)).trans HR0.out)); have HRX := hide hrx; clear hrx; have HB2 := hide (bl_row ((H0.out.trans (hb1.mono (by rw [HZ0.out]; omega))).alloc (by omega) (.cells (fam 0 noSet) 53)) (show w.heap.size ≤ w1.heap.size by omega) (fam (m : Int) M)); have HH := hide ((famAt.new 53 w1 0 noSet).row (m : Int) M); have HZX := hide (show ((w1.alloc (.cells (fam 0 noSet) 53)).setRow w1.heap.size (fam (m : Int) M)).heap.size = w1.heap.size + 1 by simp [World.setRow]); have HT2 := hide (HT.out.below HB2.out); clear hb1)
      | (refine wpList_alloc_fam zeroT rfl rfl _ (by first | (simp only [World.size_alloc]; rfl) | rfl) ?_)
      | (refine wpList_store_fam sizeT rfl (.tmp _) (.tmp _) rfl _ _ _ rfl rfl _ _ (famAt.new _ _ _ _) ?_)
      | (refine wpList_load_fam rowT sizeT rfl (.tmp _) rfl w1.heap.size rfl (m : Int) M HH.out ?_)
      | (go_at_call 37; refine (HLN.out _ HT2.out).mono ?_; rintro e w2 ⟨rfl, hb2⟩; have hz2 : w1.heap.size + 1 ≤ w2.heap.size := (by have := hb2.size; rw [HZX.out] at this; exact this); have HR2 := hide ((hb2.block (w.heap.size + 1) (by rw [HZX.out]; omega)).trans HRX.out); have HB3 := hide (HB2.out.trans (hb2.mono (by rw [HZX.out]; omega))); clear hb2)
      | (go_at_call 38; refine (space_c (m : Int) RF _).mono ?_; rintro e w3 ⟨v3, rfl, ho3, hb3⟩; obtain ⟨aa, cc, hv⟩ := ho3.shape; subst hv; have HO3 := hide ho3; have hr3 := (hb3.block (w.heap.size + 1) (by omega)).trans HR2.out; obtain ⟨q0, q1, q2, q3⟩ := zero_slots hr3; have HB4 := hide (HB3.out.trans (hb3.mono (by omega))); clear hb3 hr3 ho3))
    refine bodyPost_ret (v := .tuple #[.agg #[.int .i64 (m : Int), .slice aa (setsTo RF 128).length cc], .bool true]) (by simp [results, Tryd.results13, go_sem, q0, q1]) rfl ⟨_, rfl, ?_, ?_⟩
    · have hfin := ((HO3.out.setLow ⟨w.heap.size + 1, 0, none⟩ (by show w.heap.size + 1 < _; omega) (.int .i64 (m : Int))).setLow ⟨w.heap.size + 1, 1, none⟩ (by show w.heap.size + 1 < _; omega) (.slice aa (setsTo RF 128).length cc))
      exact hfin.mono (by omega)
    · exact (HB4.out.setCell (by show w.heap.size ≤ w.heap.size + 1; omega) _).setCell (by show w.heap.size ≤ w.heap.size + 1; omega) _
end Go.Proofs.YtcokdhmccokkiaaDoor
/- Contracts: AreAlike, both. -/
namespace Go.Proofs.YtcokdhmccokkiaaDoor
open Go.RowKit
set_option maxRecDepth 100000
set_option linter.unusedSimpArgs false
/-- Two families as 128 marks are the same if their lists are. -/
theorem allEq_sets (F G : Nat → Bool) : allEq F G = decide (setsTo F 128 = setsTo G 128) := by
  unfold allEq
  rw [Bool.eq_iff_iff, List.all_eq_true, decide_eq_true_eq]
  constructor
  · intro ha
    refine setsTo_congr 128 fun i hi => ?_
    have := ha i (List.mem_range.2 hi)
    simpa using this
  · intro hs i hi
    have := sets_injK hs i (List.mem_range.1 hi)
    simp [this]
def aaB (n : Int) (l : List Int) (m : Int) (k : List Int) : Bool := nkB n l && nkB m k
def aaR (n : Int) (l : List Int) (m : Int) (k : List Int) : Bool := aaB n l m k && (decide (n = m) && decide (lnL n l = lnL m k))
theorem aaB_no1 {n m : Int} {l k : List Int} (h : nkB n l = false) : aaB n l m k = false := by unfold aaB; rw [h]; rfl
theorem aaB_no2 {n m : Int} {l k : List Int} (h : nkB m k = false) : aaB n l m k = false := by unfold aaB; rw [h]; simp
theorem aaB_yes {n m : Int} {l k : List Int} (h : nkB n l = true) (h2 : nkB m k = true) : aaB n l m k = true := by unfold aaB; rw [h, h2]; rfl
theorem aaR_no {n m : Int} {l k : List Int} (h : aaB n l m k = false) : aaR n l m k = false := by unfold aaR; rw [h]; rfl
theorem aaR_yes {n m : Int} {l k : List Int} (h : aaB n l m k = true) : aaR n l m k = (decide (n = m) && decide (lnL n l = lnL m k)) := by unfold aaR; rw [h]; rfl
attribute [local irreducible] p2 low memB risB famAt own fls
theorem ent_leastNamedA : enters Tryd.prog 37 := enters_of Tryd.func37 (by kernel_rfl) (by kernel_rfl)
set_option maxHeartbeats 4000000 in
theorem implAreAlike_c (n : Int) (v : Value) (la : List Int) (m : Int) (u : Value) (lb : List Int) (w : World) (hl : ints w.heap.size w v la) (hlen : la.length < 1000000000) (hm : ints w.heap.size w u lb) (hml : lb.length < 1000000000) (hT : tab w) :
    Calls Tryd.prog 18 #[.agg #[.int .i64 n, v], .agg #[.int .i64 m, u]] w fun e w' => e = .returned (.tuple #[.bool (aaR n la m lb), .bool (aaB n la m lb)]) ∧ Below w.heap.size w w' := by
  have H0 := hide (((Below.refl w.heap.size w).alloc (Nat.le_refl _) (.cells #[.int .i64 n, v] 29)).alloc (by simp) (.cells #[.int .i64 m, u] 29))
  have HZ0 := hide (show ((w.alloc (.cells #[.int .i64 n, v] 29)).alloc (.cells #[.int .i64 m, u] 29)).heap.size = w.heap.size + 2 by simp)
  have HL0 := hide (((hl.alloc (.cells #[.int .i64 n, v] 29)).alloc (.cells #[.int .i64 m, u] 29)).mono (show w.heap.size ≤ ((w.alloc (.cells #[.int .i64 n, v] 29)).alloc (.cells #[.int .i64 m, u] 29)).heap.size by rw [HZ0.out]; omega))
  have HM0 := hide (((hm.alloc (.cells #[.int .i64 n, v] 29)).alloc (.cells #[.int .i64 m, u] 29)).mono (show w.heap.size ≤ ((w.alloc (.cells #[.int .i64 n, v] 29)).alloc (.cells #[.int .i64 m, u] 29)).heap.size by rw [HZ0.out]; omega))
  have HD0 := hide (show ((w.alloc (.cells #[.int .i64 n, v] 29)).alloc (.cells #[.int .i64 m, u] 29)).heap[w.heap.size + 1]? = some (.cells #[.int .i64 m, u] 29) by have := hp_last (w.alloc (.cells #[.int .i64 n, v] 29)) (.cells #[.int .i64 m, u] 29); simpa using this)
  have HS1 := hide (smallFamily_c n v la _ HL0.out hlen)
  have HS2 := hide (fun w1 (h : ints w1.heap.size w1 u lb) => smallFamily_c m u lb w1 h hml)
  have HT := hide hT
  clear hl hm hT
  cases hA : nkB n la
  · rw [aaR_no (aaB_no1 hA), aaB_no1 hA]
    rw [nkV_no hA] at HS1
    unfold nkV at HS2
    generalize (if nkB m lb then m else 0) = N2 at HS2
    generalize (if nkB m lb then marksTo lb lb.length else noSet) = F2 at HS2
    generalize nkB m lb = B2 at HS2
    clear hA
    go_enter Tryd.func18, Tryd.ntmps18
    go_wp2_with (first
      | (go_at_call 36; refine (HS2.out _ HM1.out).mono ?_; rintro e w2 ⟨rfl, hb2⟩; have hz2 : w1.heap.size + 1 ≤ w2.heap.size := (by have := hb2.size; rw [HZ1.out] at this; exact this); have HB2 := hide (bl_row ((HB1.out.trans (hb2.mono (by rw [HZ1.out]; omega))).alloc (by omega) (.cells (fam 0 noSet) 53)) (show w.heap.size ≤ w2.heap.size by omega) (fam N2 F2)); have HH2 := hide (((HH1.out.below hb2 (by rw [HZ1.out]; omega)).alloc (.cells (fam 0 noSet) 53)).rowO w2.heap.size (by omega) (fam N2 F2)); have HG2 := hide ((famAt.new 53 w2 0 noSet).row N2 F2); clear hb2)
      | (go_at_call 36; refine HS1.out.mono ?_; rintro e w1 ⟨rfl, hb1⟩; have hz1 : w.heap.size + 2 ≤ w1.heap.size := (by have := hb1.size; rw [HZ0.out] at this; exact this); have hd1 : ((w1.alloc (.cells (fam 0 noSet) 53)).setRow w1.heap.size (fam 0 noSet)).heap[w.heap.size + 1]? = some (.cells #[.int .i64 m, u] 29) := (hp_rowO _ _ _ _ (by omega)).trans ((hp_old _ _ _ (by omega)).trans ((hb1.block (w.heap.size + 1) (by rw [HZ0.out]; omega)).trans HD0.out)); have b0 := cells_at0 hd1; have b1 := cells_at1 hd1; have HB1 := hide (bl_row ((H0.out.trans (hb1.mono (by rw [HZ0.out]; omega))).alloc (by omega) (.cells (fam 0 noSet) 53)) (show w.heap.size ≤ w1.heap.size by omega) (fam 0 noSet)); have HH1 := hide ((famAt.new 53 w1 0 noSet).row 0 noSet); have HZ1 := hide (show ((w1.alloc (.cells (fam 0 noSet) 53)).setRow w1.heap.size (fam 0 noSet)).heap.size = w1.heap.size + 1 by simp [World.setRow]); have HM1 := hide ((((HM0.out.below hb1 (Nat.le_refl _)).mono hb1.size).below (bl_row ((Below.refl w1.heap.size w1).alloc (Nat.le_refl _) (.cells (fam 0 noSet) 53)) (Nat.le_refl _) (fam 0 noSet)) (Nat.le_refl _)).mono (show w1.heap.size ≤ ((w1.alloc (.cells (fam 0 noSet) 53)).setRow w1.heap.size (fam 0 noSet)).heap.size by rw [HZ1.out]; omega)); clear hb1 hd1)
      | (refine wpList_alloc_fam zeroT rfl rfl _ (by first | (simp only [World.size_alloc]; rfl) | rfl) ?_)
      | (refine wpList_store_fam sizeT rfl (.tmp _) (.tmp _) rfl _ _ _ rfl rfl _ _ (famAt.new _ _ _ _) ?_)
      )
    go_ret2
    exact ⟨rfl, HB2.out⟩
  · cases hB : nkB m lb
    · rw [aaR_no (aaB_no2 hB), aaB_no2 hB]
      rw [nkV_yes hA] at HS1
      rw [nkV_no hB] at HS2
      generalize marksTo la la.length = F1 at HS1
      clear hA hB
      go_enter Tryd.func18, Tryd.ntmps18
      go_wp2_with (first
        | (go_at_call 36; refine (HS2.out _ HM1.out).mono ?_; rintro e w2 ⟨rfl, hb2⟩; have hz2 : w1.heap.size + 1 ≤ w2.heap.size := (by have := hb2.size; rw [HZ1.out] at this; exact this); have HB2 := hide (bl_row ((HB1.out.trans (hb2.mono (by rw [HZ1.out]; omega))).alloc (by omega) (.cells (fam 0 noSet) 53)) (show w.heap.size ≤ w2.heap.size by omega) (fam 0 noSet)); have HH2 := hide (((HH1.out.below hb2 (by rw [HZ1.out]; omega)).alloc (.cells (fam 0 noSet) 53)).rowO w2.heap.size (by omega) (fam 0 noSet)); have HG2 := hide ((famAt.new 53 w2 0 noSet).row 0 noSet); clear hb2)
        | (go_at_call 36; refine HS1.out.mono ?_; rintro e w1 ⟨rfl, hb1⟩; have hz1 : w.heap.size + 2 ≤ w1.heap.size := (by have := hb1.size; rw [HZ0.out] at this; exact this); have hd1 : ((w1.alloc (.cells (fam 0 noSet) 53)).setRow w1.heap.size (fam n F1)).heap[w.heap.size + 1]? = some (.cells #[.int .i64 m, u] 29) := (hp_rowO _ _ _ _ (by omega)).trans ((hp_old _ _ _ (by omega)).trans ((hb1.block (w.heap.size + 1) (by rw [HZ0.out]; omega)).trans HD0.out)); have b0 := cells_at0 hd1; have b1 := cells_at1 hd1; have HB1 := hide (bl_row ((H0.out.trans (hb1.mono (by rw [HZ0.out]; omega))).alloc (by omega) (.cells (fam 0 noSet) 53)) (show w.heap.size ≤ w1.heap.size by omega) (fam n F1)); have HH1 := hide ((famAt.new 53 w1 0 noSet).row n F1); have HZ1 := hide (show ((w1.alloc (.cells (fam 0 noSet) 53)).setRow w1.heap.size (fam n F1)).heap.size = w1.heap.size + 1 by simp [World.setRow]); have HM1 := hide ((((HM0.out.below hb1 (Nat.le_refl _)).mono hb1.size).below (bl_row ((Below.refl w1.heap.size w1).alloc (Nat.le_refl _) (.cells (fam 0 noSet) 53)) (Nat.le_refl _) (fam n F1)) (Nat.le_refl _)).mono (show w1.heap.size ≤ ((w1.alloc (.cells (fam 0 noSet) 53)).setRow w1.heap.size (fam n F1)).heap.size by rw [HZ1.out]; omega)); clear hb1 hd1)
        | (refine wpList_alloc_fam zeroT rfl rfl _ (by first | (simp only [World.size_alloc]; rfl) | rfl) ?_)
        | (refine wpList_store_fam sizeT rfl (.tmp _) (.tmp _) rfl _ _ _ rfl rfl _ _ (famAt.new _ _ _ _) ?_)
        )
      go_ret2
      exact ⟨rfl, HB2.out⟩
    · rw [aaR_yes (aaB_yes hA hB), aaB_yes hA hB, lnL_yes hA, lnL_yes hB]
      rw [nkV_yes hA] at HS1
      rw [nkV_yes hB] at HS2
      unfold nkB at hA hB
      rw [Bool.and_eq_true, decide_eq_true_eq] at hA hB
      have hn := okSp_n hA.1
      have hk := okSp_n hB.1
      obtain ⟨n, rfl⟩ := Int.eq_ofNat_of_zero_le (show 0 ≤ n by omega)
      obtain ⟨m, rfl⟩ := Int.eq_ofNat_of_zero_le (show 0 ≤ m by omega)
      have HE1 := hide (ln_sets hA.1 (by omega) (by omega))
      have HE2 := hide (ln_sets hB.1 (by omega) (by omega))
      have HN1 := hide (fun w1 (h : tab w1) => leastNamed_c n (marksTo la la.length) w1 (by omega) (by omega) h)
      have HN2 := hide (fun w1 (h : tab w1) => leastNamed_c m (marksTo lb lb.length) w1 (by omega) (by omega) h)
      rw [Int.toNat_natCast, Int.toNat_natCast]
      rw [← HE1.out, ← HE2.out]
      generalize mnF ((nkA n).map fun nm => imgTo (marksTo la la.length) (rnm nm n) 128) (((nkA n).map fun nm => imgTo (marksTo la la.length) (rnm nm n) 128).length - 1) = R1 at HN1 ⊢
      generalize mnF ((nkA m).map fun nm => imgTo (marksTo lb lb.length) (rnm nm m) 128) (((nkA m).map fun nm => imgTo (marksTo lb lb.length) (rnm nm m) 128).length - 1) = R2 at HN2 ⊢
      generalize marksTo la la.length = F1 at HS1 HN1
      generalize marksTo lb lb.length = F2 at HS2 HN2
      rw [← allEq_sets R1 R2]
      clear hA hB HE1 HE2
      go_enter Tryd.func18, Tryd.ntmps18
      go_wp2_with (first
        | (go_at_call 36; refine (HS2.out _ HM1.out).mono ?_; rintro e w2 ⟨rfl, hb2⟩; have hz2 : w1.heap.size + 1 ≤ w2.heap.size := (by have := hb2.size; rw [HZ1.out] at this; exact this); have HB2 := hide (bl_row ((HB1.out.trans (hb2.mono (by rw [HZ1.out]; omega))).alloc (by omega) (.cells (fam 0 noSet) 53)) (show w.heap.size ≤ w2.heap.size by omega) (fam (m : Int) F2)); have HH2 := hide (((HH1.out.below hb2 (by rw [HZ1.out]; omega)).alloc (.cells (fam 0 noSet) 53)).rowO w2.heap.size (by omega) (fam (m : Int) F2)); have HG2 := hide ((famAt.new 53 w2 0 noSet).row (m : Int) F2); clear hb2)
        | (go_at_call 36; refine HS1.out.mono ?_; rintro e w1 ⟨rfl, hb1⟩; have hz1 : w.heap.size + 2 ≤ w1.heap.size := (by have := hb1.size; rw [HZ0.out] at this; exact this); have hd1 : ((w1.alloc (.cells (fam 0 noSet) 53)).setRow w1.heap.size (fam (n : Int) F1)).heap[w.heap.size + 1]? = some (.cells #[.int .i64 (m : Int), u] 29) := (hp_rowO _ _ _ _ (by omega)).trans ((hp_old _ _ _ (by omega)).trans ((hb1.block (w.heap.size + 1) (by rw [HZ0.out]; omega)).trans HD0.out)); have b0 := cells_at0 hd1; have b1 := cells_at1 hd1; have HB1 := hide (bl_row ((H0.out.trans (hb1.mono (by rw [HZ0.out]; omega))).alloc (by omega) (.cells (fam 0 noSet) 53)) (show w.heap.size ≤ w1.heap.size by omega) (fam (n : Int) F1)); have HH1 := hide ((famAt.new 53 w1 0 noSet).row (n : Int) F1); have HZ1 := hide (show ((w1.alloc (.cells (fam 0 noSet) 53)).setRow w1.heap.size (fam (n : Int) F1)).heap.size = w1.heap.size + 1 by simp [World.setRow]); have HM1 := hide ((((HM0.out.below hb1 (Nat.le_refl _)).mono hb1.size).below (bl_row ((Below.refl w1.heap.size w1).alloc (Nat.le_refl _) (.cells (fam 0 noSet) 53)) (Nat.le_refl _) (fam (n : Int) F1)) (Nat.le_refl _)).mono (show w1.heap.size ≤ ((w1.alloc (.cells (fam 0 noSet) 53)).setRow w1.heap.size (fam (n : Int) F1)).heap.size by rw [HZ1.out]; omega)); clear hb1 hd1)
        | (refine wpList_alloc_fam zeroT rfl rfl _ (by first | (simp only [World.size_alloc]; rfl) | rfl) ?_)
        | (refine wpList_store_fam sizeT rfl (.tmp _) (.tmp _) rfl _ _ _ rfl rfl _ _ (famAt.new _ _ _ _) ?_)
        )
      have HT2 := hide (HT.out.below HB2.out)
      have hzX : w1.heap.size < ((w2.alloc (.cells (fam 0 noSet) 53)).setRow w2.heap.size (fam (m : Int) F2)).heap.size ∧ w2.heap.size < ((w2.alloc (.cells (fam 0 noSet) 53)).setRow w2.heap.size (fam (m : Int) F2)).heap.size := by simp [World.setRow]; omega
      generalize ((w2.alloc (.cells (fam 0 noSet) 53)).setRow w2.heap.size (fam (m : Int) F2)) = X at HB2 HH2 HG2 HT2 hzX ⊢
      refine wp_region_held (S := Below X.heap.size X) (by kernel_rfl) ?_
      have hS : Below X.heap.size X { X with drawn := X.drawn + 1 } := (Below.refl _ _).drew
      refine wpAnyH_take (i := 0) rfl (by kernel_rfl) (by kernel_rfl) (by kernel_rfl) (fun _ _ _ h => h) (yields_load_fam rowT sizeT rfl (.tmp _) rfl w1.heap.size rfl (n : Int) F1 (fun w' h => HH2.out.below h hzX.1)) hS ?_
      simp only [Act.put, List.getElem_toArray, List.getElem_cons_zero, List.getElem_cons_succ, List.setIfInBounds_toArray, List.set_cons_zero, List.set_cons_succ]
      refine wpAnyH_take (i := 2) rfl (by kernel_rfl) (by kernel_rfl) (by kernel_rfl) (fun _ _ _ h => h) (yields_load_fam rowT sizeT rfl (.tmp _) rfl w2.heap.size rfl (m : Int) F2 (fun w' h => HG2.out.below h hzX.2)) hS ?_
      simp only [Act.put, List.getElem_toArray, List.getElem_cons_zero, List.getElem_cons_succ, List.setIfInBounds_toArray, List.set_cons_zero, List.set_cons_succ]
      refine anyH_call (i := 1) (by kernel_rfl) rfl rfl 37 ent_leastNamedA _ _ rfl #[.agg (fam (n : Int) F1)] rfl (HN1.out _ (HT2.out.below hS)) ?_
      rintro e w5 ⟨rfl, hb5⟩
      have hS5 : Below X.heap.size X w5 := hS.trans (hb5.mono hS.size)
      refine ⟨_, rfl, hS5, ?_⟩
      simp only [Act.put, List.getElem_toArray, List.getElem_cons_zero, List.getElem_cons_succ, List.setIfInBounds_toArray, List.set_cons_zero, List.set_cons_succ]
      refine anyH_call (i := 3) (by kernel_rfl) rfl rfl 37 ent_leastNamedA _ _ rfl #[.agg (fam (m : Int) F2)] rfl (HN2.out _ (HT2.out.below hS5)) ?_
      rintro e w6 ⟨rfl, hb6⟩
      have hS6 : Below X.heap.size X w6 := hS5.trans (hb6.mono hS5.size)
      refine ⟨_, rfl, hS6, ?_⟩
      simp only [Act.put, List.getElem_toArray, List.getElem_cons_zero, List.getElem_cons_succ, List.setIfInBounds_toArray, List.set_cons_zero, List.set_cons_succ]
      refine anyH_op (i := 4) (by kernel_rfl) rfl rfl (.bool (decide ((n : Int) = (m : Int)) && allEq R1 R2)) w6 ?hq hS6 ?_
      case hq =>
        refine run_op_eql guardT (.tmp _) (.tmp _) rfl rfl rfl ((eqlT w6 (n : Int) (m : Int) R1 R2).trans ?_)
        rfl
      simp only [Act.put, List.getElem_toArray, List.getElem_cons_zero, List.getElem_cons_succ, List.setIfInBounds_toArray, List.set_cons_zero, List.set_cons_succ]
      generalize hq : (decide ((n : Int) = (m : Int)) && allEq R1 R2) = q
      have HQ := hide hq
      clear hq
      refine anyH_op (i := 5) (by kernel_rfl) rfl rfl (.bool q) w6 (by simp [go_sem]) hS6 ?_
      refine anyH_op (i := 6) (by kernel_rfl) rfl rfl (.bool true) w6 (by simp [go_sem]) hS6 ?_
      refine wpAnyH_done (by kernel_rfl) ?_ _
      simp only [Act.put, List.getElem_toArray, List.getElem_cons_zero, List.getElem_cons_succ, List.setIfInBounds_toArray, List.set_cons_zero, List.set_cons_succ]
      have HB6 := hide (HB2.out.trans (hS6.mono (by have := HB2.out.size; omega)))
      clear hS hS5 hS6 hb5 hb6
      go_wp2
      go_ret2
      exact ⟨by rw [HQ.out]; rfl, HB6.out⟩
end Go.Proofs.YtcokdhmccokkiaaDoor
/- Contracts: AreAlike, the specification's. -/
namespace Go.Proofs.YtcokdhmccokkiaaDoor
open Go.RowKit
set_option maxRecDepth 100000
set_option linter.unusedSimpArgs false
attribute [local irreducible] p2 low memB risB famAt own fls
theorem ent_alLeastA : enters Tryd.prog 30 := enters_of Tryd.func30 (by kernel_rfl) (by kernel_rfl)
theorem ent_l1SameL : enters Tryd.prog 29 := enters_of Tryd.func29 (by kernel_rfl) (by kernel_rfl)
set_option maxHeartbeats 4000000 in
theorem specAreAlike_c (n : Int) (v : Value) (la : List Int) (m : Int) (u : Value) (lb : List Int) (w : World) (hl : ints w.heap.size w v la) (hlen : la.length < 1000000000) (hm : ints w.heap.size w u lb) (hml : lb.length < 1000000000) (_ : tab w) :
    Calls Tryd.prog 17 #[.agg #[.int .i64 n, v], .agg #[.int .i64 m, u]] w fun e w' => e = .returned (.tuple #[.bool (aaR n la m lb), .bool (aaB n la m lb)]) ∧ Below w.heap.size w w' := by
  have H0 := hide (((Below.refl w.heap.size w).alloc (Nat.le_refl _) (.cells #[.int .i64 n, v] 29)).alloc (by simp) (.cells #[.int .i64 m, u] 29))
  have HZ0 := hide (show ((w.alloc (.cells #[.int .i64 n, v] 29)).alloc (.cells #[.int .i64 m, u] 29)).heap.size = w.heap.size + 2 by simp)
  have HL0 := hide (((hl.alloc (.cells #[.int .i64 n, v] 29)).alloc (.cells #[.int .i64 m, u] 29)).mono (show w.heap.size ≤ ((w.alloc (.cells #[.int .i64 n, v] 29)).alloc (.cells #[.int .i64 m, u] 29)).heap.size by rw [HZ0.out]; omega))
  have HM0 := hide (((hm.alloc (.cells #[.int .i64 n, v] 29)).alloc (.cells #[.int .i64 m, u] 29)).mono (show w.heap.size ≤ ((w.alloc (.cells #[.int .i64 n, v] 29)).alloc (.cells #[.int .i64 m, u] 29)).heap.size by rw [HZ0.out]; omega))
  have HD0 := hide (show ((w.alloc (.cells #[.int .i64 n, v] 29)).alloc (.cells #[.int .i64 m, u] 29)).heap[w.heap.size + 1]? = some (.cells #[.int .i64 m, u] 29) by have := hp_last (w.alloc (.cells #[.int .i64 n, v] 29)) (.cells #[.int .i64 m, u] 29); simpa using this)
  have HC0 := hide (show ((w.alloc (.cells #[.int .i64 n, v] 29)).alloc (.cells #[.int .i64 m, u] 29)).heap[w.heap.size]? = some (.cells #[.int .i64 n, v] 29) from (hp_old _ _ _ (by simp)).trans (hp_last w (.cells #[.int .i64 n, v] 29)))
  have HF1 := hide (alFew_c n v la _ HL0.out hlen)
  have HF2 := hide (fun w1 (h : ints w1.heap.size w1 u lb) => alFew_c m u lb w1 h hml)
  clear hl hm
  cases hA : nkB n la
  · rw [aaR_no (aaB_no1 hA), aaB_no1 hA]
    rw [hA] at HF1
    clear hA
    go_enter Tryd.func17, Tryd.ntmps17
    go_wp2_with (go_at_call 35; refine HF1.out.mono ?_; rintro e w1 ⟨rfl, hb1⟩; have HB1 := hide (H0.out.trans (hb1.mono (by rw [HZ0.out]; omega))); clear hb1)
    go_ret2
    exact ⟨rfl, HB1.out⟩
  · rw [hA] at HF1
    cases hB : nkB m lb
    · rw [aaR_no (aaB_no2 hB), aaB_no2 hB]
      rw [hB] at HF2
      clear hA hB
      go_enter Tryd.func17, Tryd.ntmps17
      go_wp2_with (first
        | (go_at_call 35; refine (HF2.out _ HM1.out).mono ?_; rintro e w2 ⟨rfl, hb2⟩; have hz2 := hb2.size; clear a0 a1 b0 b1; have hc2 := (hb2.block w.heap.size (by omega)).trans HC1.out; have hd2 := (hb2.block (w.heap.size + 1) (by omega)).trans HD1.out; have a0 := cells_at0 hc2; have a1 := cells_at1 hc2; have b0 := cells_at0 hd2; have b1 := cells_at1 hd2; have HL2 := hide ((HL1.out.below hb2 (Nat.le_refl _)).mono hb2.size); have HM2 := hide ((HM1.out.below hb2 (Nat.le_refl _)).mono hb2.size); have HB2 := hide (HB1.out.trans (hb2.mono (by omega))); clear hb2 hc2 hd2)
        | (go_at_call 35; refine HF1.out.mono ?_; rintro e w1 ⟨rfl, hb1⟩; have hz1 := hb1.size; rw [HZ0.out] at hz1; have hc1 := (hb1.block w.heap.size (by rw [HZ0.out]; omega)).trans HC0.out; have hd1 := (hb1.block (w.heap.size + 1) (by rw [HZ0.out]; omega)).trans HD0.out; have a0 := cells_at0 hc1; have a1 := cells_at1 hc1; have b0 := cells_at0 hd1; have b1 := cells_at1 hd1; have HC1 := hide hc1; have HD1 := hide hd1; have HL1 := hide ((HL0.out.below hb1 (Nat.le_refl _)).mono hb1.size); have HM1 := hide ((HM0.out.below hb1 (Nat.le_refl _)).mono hb1.size); have HB1 := hide (H0.out.trans (hb1.mono (by rw [HZ0.out]; omega))); clear hb1 hc1 hd1)
        )
      go_ret2
      exact ⟨rfl, HB2.out⟩
    · rw [aaR_yes (aaB_yes hA hB), aaB_yes hA hB, lnL_yes hA, lnL_yes hB]
      rw [hB] at HF2
      have h1l := lnL_len n la
      have h2l := lnL_len m lb
      rw [lnL_yes hA] at h1l
      rw [lnL_yes hB] at h2l
      unfold nkB at hA hB
      rw [Bool.and_eq_true, decide_eq_true_eq] at hA hB
      have hn := okSp_n hA.1
      have hk := okSp_n hB.1
      obtain ⟨n, rfl⟩ := Int.eq_ofNat_of_zero_le (show 0 ≤ n by omega)
      obtain ⟨m, rfl⟩ := Int.eq_ofNat_of_zero_le (show 0 ≤ m by omega)
      have HN1 := hide (fun w1 (h : ints w1.heap.size w1 v la) => alLeast_c n v la w1 h hlen hA.1 (by omega) (by omega))
      have HN2 := hide (fun w1 (h : ints w1.heap.size w1 u lb) => alLeast_c m u lb w1 h hml hB.1 (by omega) (by omega))
      rw [Int.toNat_natCast] at h1l h2l
      rw [Int.toNat_natCast, Int.toNat_natCast]
      generalize mnL la (nkf n la) (nkA n).length = R1 at HN1 h1l ⊢
      generalize mnL lb (nkf m lb) (nkA m).length = R2 at HN2 h2l ⊢
      clear hA hB
      go_enter Tryd.func17, Tryd.ntmps17
      go_wp2_with (first
        | (go_at_call 35; refine (HF2.out _ HM1.out).mono ?_; rintro e w2 ⟨rfl, hb2⟩; have hz2 := hb2.size; clear a0 a1 b0 b1; have hc2 := (hb2.block w.heap.size (by omega)).trans HC1.out; have hd2 := (hb2.block (w.heap.size + 1) (by omega)).trans HD1.out; have a0 := cells_at0 hc2; have a1 := cells_at1 hc2; have b0 := cells_at0 hd2; have b1 := cells_at1 hd2; have HL2 := hide ((HL1.out.below hb2 (Nat.le_refl _)).mono hb2.size); have HM2 := hide ((HM1.out.below hb2 (Nat.le_refl _)).mono hb2.size); have HB2 := hide (HB1.out.trans (hb2.mono (by omega))); clear hb2 hc2 hd2)
        | (go_at_call 35; refine HF1.out.mono ?_; rintro e w1 ⟨rfl, hb1⟩; have hz1 := hb1.size; rw [HZ0.out] at hz1; have hc1 := (hb1.block w.heap.size (by rw [HZ0.out]; omega)).trans HC0.out; have hd1 := (hb1.block (w.heap.size + 1) (by rw [HZ0.out]; omega)).trans HD0.out; have a0 := cells_at0 hc1; have a1 := cells_at1 hc1; have b0 := cells_at0 hd1; have b1 := cells_at1 hd1; have HC1 := hide hc1; have HD1 := hide hd1; have HL1 := hide ((HL0.out.below hb1 (Nat.le_refl _)).mono hb1.size); have HM1 := hide ((HM0.out.below hb1 (Nat.le_refl _)).mono hb1.size); have HB1 := hide (H0.out.trans (hb1.mono (by rw [HZ0.out]; omega))); clear hb1 hc1 hd1)
        )
      have hzz : w.heap.size + 1 < w2.heap.size := by omega
      refine wp_region_held (S := Below w2.heap.size w2) (by kernel_rfl) ?_
      have hS : Below w2.heap.size w2 { w2 with drawn := w2.drawn + 1 } := (Below.refl _ _).drew
      refine wpAnyH_take (i := 0) (v := .pointer (some ⟨w.heap.size, 0, none⟩)) rfl (by kernel_rfl) (by kernel_rfl) (by kernel_rfl) (fun _ _ _ h => h) (.inl ⟨rfl, fun w' _ => by go_simp⟩) hS ?_
      simp only [Act.put, List.getElem_toArray, List.getElem_cons_zero, List.getElem_cons_succ, List.setIfInBounds_toArray, List.set_cons_zero, List.set_cons_succ]
      refine wpAnyH_take (i := 1) rfl (by kernel_rfl) (by kernel_rfl) (by kernel_rfl) (fun _ _ _ h => h) (yields_load_cell rowI rfl (.tmp _) rfl ⟨w.heap.size, 0, none⟩ rfl (.int .i64 (n : Int)) (fun w' h => (h.cell (p := ⟨w.heap.size, 0, none⟩) (by show w.heap.size < w2.heap.size; omega)).trans a0)) hS ?_
      simp only [Act.put, List.getElem_toArray, List.getElem_cons_zero, List.getElem_cons_succ, List.setIfInBounds_toArray, List.set_cons_zero, List.set_cons_succ]
      refine wpAnyH_take (i := 2) (v := .pointer (some ⟨w.heap.size + 1, 0, none⟩)) rfl (by kernel_rfl) (by kernel_rfl) (by kernel_rfl) (fun _ _ _ h => h) (.inl ⟨rfl, fun w' _ => by go_simp⟩) hS ?_
      simp only [Act.put, List.getElem_toArray, List.getElem_cons_zero, List.getElem_cons_succ, List.setIfInBounds_toArray, List.set_cons_zero, List.set_cons_succ]
      refine wpAnyH_take (i := 3) rfl (by kernel_rfl) (by kernel_rfl) (by kernel_rfl) (fun _ _ _ h => h) (yields_load_cell rowI rfl (.tmp _) rfl ⟨w.heap.size + 1, 0, none⟩ rfl (.int .i64 (m : Int)) (fun w' h => (h.cell (p := ⟨w.heap.size + 1, 0, none⟩) hzz).trans b0)) hS ?_
      simp only [Act.put, List.getElem_toArray, List.getElem_cons_zero, List.getElem_cons_succ, List.setIfInBounds_toArray, List.set_cons_zero, List.set_cons_succ]
      by_cases he : (n : Int) = (m : Int)
      · have HQ := hide (show (decide ((n : Int) = (m : Int)) && decide (R1 = R2)) = decide (R1 = R2) by rw [decide_eq_true he, Bool.true_and])
        have hev : ((n : Int) == (m : Int)) = true := by simp [he]
        refine wpAnyH_take (i := 4) (v := .bool true) rfl (by kernel_rfl) (by kernel_rfl) (by kernel_rfl) (fun _ _ _ h => h) (.inl ⟨rfl, fun w' _ => by simp [execOp, go_sem, hev, he]⟩) hS ?_
        simp only [Act.put, List.getElem_toArray, List.getElem_cons_zero, List.getElem_cons_succ, List.setIfInBounds_toArray, List.set_cons_zero, List.set_cons_succ]
        refine wpAnyH_take (i := 5) (v := .bool true) rfl (by kernel_rfl) (by kernel_rfl) (by kernel_rfl) (fun _ _ _ h => h) (.inl ⟨rfl, fun w' _ => by go_simp⟩) hS ?_
        simp only [Act.put, List.getElem_toArray, List.getElem_cons_zero, List.getElem_cons_succ, List.setIfInBounds_toArray, List.set_cons_zero, List.set_cons_succ]
        refine wpAnyH_take (i := 6) rfl (by kernel_rfl) (by kernel_rfl) (by kernel_rfl) (fun _ _ _ h => h) (yields_load_two rowSp sizeSp rfl (.tmp _) rfl w.heap.size rfl (.int .i64 (n : Int)) v (fun w' h => (h.cell (p := ⟨w.heap.size, 0, none⟩) (by show w.heap.size < w2.heap.size; omega)).trans a0) (fun w' h => (h.cell (p := ⟨w.heap.size, 1, none⟩) (by show w.heap.size < w2.heap.size; omega)).trans a1)) hS ?_
        simp only [Act.put, List.getElem_toArray, List.getElem_cons_zero, List.getElem_cons_succ, List.setIfInBounds_toArray, List.set_cons_zero, List.set_cons_succ]
        refine wpAnyH_take (i := 8) rfl (by kernel_rfl) (by kernel_rfl) (by kernel_rfl) (fun _ _ _ h => h) (yields_load_two rowSp sizeSp rfl (.tmp _) rfl (w.heap.size + 1) rfl (.int .i64 (m : Int)) u (fun w' h => (h.cell (p := ⟨w.heap.size + 1, 0, none⟩) hzz).trans b0) (fun w' h => (h.cell (p := ⟨w.heap.size + 1, 1, none⟩) hzz).trans b1)) hS ?_
        simp only [Act.put, List.getElem_toArray, List.getElem_cons_zero, List.getElem_cons_succ, List.setIfInBounds_toArray, List.set_cons_zero, List.set_cons_succ]
        refine anyH_call (i := 7) (by kernel_rfl) rfl rfl 30 ent_alLeastA _ _ rfl #[.agg #[.int .i64 (n : Int), v]] rfl (HN1.out _ ((HL2.out.below hS (Nat.le_refl _)).mono hS.size)) ?_
        rintro e w5 ⟨v5, rfl, ho5, hb5⟩
        have hS5 : Below w2.heap.size w2 w5 := hS.trans (hb5.mono hS.size)
        refine ⟨_, rfl, hS5, ?_⟩
        simp only [Act.put, List.getElem_toArray, List.getElem_cons_zero, List.getElem_cons_succ, List.setIfInBounds_toArray, List.set_cons_zero, List.set_cons_succ]
        refine anyH_call (i := 9) (by kernel_rfl) rfl rfl 30 ent_alLeastA _ _ rfl #[.agg #[.int .i64 (m : Int), u]] rfl (HN2.out _ ((HM2.out.below hS5 (Nat.le_refl _)).mono hS5.size)) ?_
        rintro e w6 ⟨v6, rfl, ho6, hb6⟩
        have hS6 : Below w2.heap.size w2 w6 := hS5.trans (hb6.mono hS5.size)
        refine ⟨_, rfl, hS6, ?_⟩
        simp only [Act.put, List.getElem_toArray, List.getElem_cons_zero, List.getElem_cons_succ, List.setIfInBounds_toArray, List.set_cons_zero, List.set_cons_succ]
        refine anyH_call (i := 10) (by kernel_rfl) rfl rfl 29 ent_l1SameL _ _ rfl #[v5, v6] rfl (l1Same_c v5 v6 R1 R2 w6 ((ho5.ints.below hb6 (Nat.le_refl _)).mono hb6.size) ho6.ints h1l) ?_
        rintro e w7 ⟨rfl, hb7⟩
        have hS7 : Below w2.heap.size w2 w7 := hS6.trans (hb7.mono hS6.size)
        refine ⟨_, rfl, hS7, ?_⟩
        simp only [Act.put, List.getElem_toArray, List.getElem_cons_zero, List.getElem_cons_succ, List.setIfInBounds_toArray, List.set_cons_zero, List.set_cons_succ]
        refine anyH_op (i := 11) (by kernel_rfl) rfl rfl (.bool (decide (R1 = R2))) w7 (by simp [go_sem]) hS7 ?_
        refine anyH_op (i := 12) (by kernel_rfl) rfl rfl (.bool (decide (R1 = R2))) w7 (by simp [go_sem]) hS7 ?_
        refine anyH_op (i := 13) (by kernel_rfl) rfl rfl (.bool true) w7 (by simp [go_sem]) hS7 ?_
        refine wpAnyH_done (by kernel_rfl) ?_ _
        simp only [Act.put, List.getElem_toArray, List.getElem_cons_zero, List.getElem_cons_succ, List.setIfInBounds_toArray, List.set_cons_zero, List.set_cons_succ]
        have HB7 := hide (HB2.out.trans (hS7.mono (by omega)))
        clear hS hS5 hS6 hS7 hb5 hb6 hb7 ho5 ho6 he hev
        go_wp2
        go_ret2
        exact ⟨by rw [HQ.out]; rfl, HB7.out⟩
      · have HQ := hide (show (decide ((n : Int) = (m : Int)) && decide (R1 = R2)) = false by rw [decide_eq_false he, Bool.false_and])
        have hev : ((n : Int) == (m : Int)) = false := by simp [he]
        refine wpAnyH_take (i := 4) (v := .bool false) rfl (by kernel_rfl) (by kernel_rfl) (by kernel_rfl) (fun _ _ _ h => h) (.inl ⟨rfl, fun w' _ => by simp [execOp, go_sem, hev, he]⟩) hS ?_
        simp only [Act.put, List.getElem_toArray, List.getElem_cons_zero, List.getElem_cons_succ, List.setIfInBounds_toArray, List.set_cons_zero, List.set_cons_succ]
        refine wpAnyH_take (i := 5) (v := .bool false) rfl (by kernel_rfl) (by kernel_rfl) (by kernel_rfl) (fun _ _ _ h => h) (.inl ⟨rfl, fun w' _ => by go_simp⟩) hS ?_
        simp only [Act.put, List.getElem_toArray, List.getElem_cons_zero, List.getElem_cons_succ, List.setIfInBounds_toArray, List.set_cons_zero, List.set_cons_succ]
        refine wpAnyH_take (i := 6) (v := undef) rfl (by kernel_rfl) (by kernel_rfl) (by kernel_rfl) (fun _ _ _ h => h) (.inr ⟨rfl, rfl⟩) hS ?_
        simp only [Act.put, List.getElem_toArray, List.getElem_cons_zero, List.getElem_cons_succ, List.setIfInBounds_toArray, List.set_cons_zero, List.set_cons_succ]
        refine wpAnyH_take (i := 8) (v := undef) rfl (by kernel_rfl) (by kernel_rfl) (by kernel_rfl) (fun _ _ _ h => h) (.inr ⟨rfl, rfl⟩) hS ?_
        simp only [Act.put, List.getElem_toArray, List.getElem_cons_zero, List.getElem_cons_succ, List.setIfInBounds_toArray, List.set_cons_zero, List.set_cons_succ]
        refine wpAnyH_take (i := 7) (v := undef) rfl (by kernel_rfl) (by kernel_rfl) (by kernel_rfl) (fun _ _ _ h => h) (.inr ⟨rfl, rfl⟩) hS ?_
        simp only [Act.put, List.getElem_toArray, List.getElem_cons_zero, List.getElem_cons_succ, List.setIfInBounds_toArray, List.set_cons_zero, List.set_cons_succ]
        refine wpAnyH_take (i := 9) (v := undef) rfl (by kernel_rfl) (by kernel_rfl) (by kernel_rfl) (fun _ _ _ h => h) (.inr ⟨rfl, rfl⟩) hS ?_
        simp only [Act.put, List.getElem_toArray, List.getElem_cons_zero, List.getElem_cons_succ, List.setIfInBounds_toArray, List.set_cons_zero, List.set_cons_succ]
        refine wpAnyH_take (i := 10) (v := undef) rfl (by kernel_rfl) (by kernel_rfl) (by kernel_rfl) (fun _ _ _ h => h) (.inr ⟨rfl, rfl⟩) hS ?_
        simp only [Act.put, List.getElem_toArray, List.getElem_cons_zero, List.getElem_cons_succ, List.setIfInBounds_toArray, List.set_cons_zero, List.set_cons_succ]
        refine anyH_op (i := 11) (by kernel_rfl) rfl rfl (.bool false) _ (by simp [go_sem]) hS ?_
        refine anyH_op (i := 12) (by kernel_rfl) rfl rfl (.bool false) _ (by simp [go_sem]) hS ?_
        refine anyH_op (i := 13) (by kernel_rfl) rfl rfl (.bool true) _ (by simp [go_sem]) hS ?_
        refine wpAnyH_done (by kernel_rfl) ?_ _
        simp only [Act.put, List.getElem_toArray, List.getElem_cons_zero, List.getElem_cons_succ, List.setIfInBounds_toArray, List.set_cons_zero, List.set_cons_succ]
        have HB7 := hide (HB2.out.trans (hS.mono (by omega)))
        clear hS he hev
        go_wp2
        go_ret2
        exact ⟨by rw [HQ.out]; rfl, HB7.out⟩
end Go.Proofs.YtcokdhmccokkiaaDoor
/- The program's AreAlike answers as the specification's does, at every argument, leaves its arguments as they are, and its answer owns its memory: no condition. -/
namespace Go.Proofs.YtcokdhmccokkiaaDoor.FAreAlike
open Go.ChangeShapes Go.WideShapes Go.ChangeAt Go.RowKit Go.Joins
set_option linter.unusedVariables false
set_option linter.unusedSimpArgs false
set_option maxRecDepth 100000

set_option maxHeartbeats 4000000 in
theorem law_c (n0 : Int) (v0 : Value) (l0 : List Int) (n1 : Int) (v1 : Value) (l1 : List Int) (w : World) (h0 : ints w.heap.size w v0 l0) (hlen0 : l0.length ≤ 9223372036854775807) (h1 : ints w.heap.size w v1 l1) (hlen1 : l1.length ≤ 9223372036854775807) (hT : tab w) :
    Calls Tryd.prog 5 #[.agg #[.int .i64 n0, v0], .agg #[.int .i64 n1, v1]] w fun e w' => e = .returned (.bool true) ∧ Below w.heap.size w w' := by
  have HT := hide hT
  clear hT
  generalize hR : (aaR n0 l0 n1 l1) = R
  generalize hO : (aaB n0 l0 n1 l1) = ok
  have HR := hide hR
  have HO := hide hO
  clear hR hO
  have F1 := hide ((((Below.refl w.heap.size w).alloc (Nat.le_refl _) (.cells #[.int .i64 n0, v0] 27)).alloc (by simp) (.cells #[.int .i64 n1, v1] 27)))
  have F2 := hide (((h0.alloc (.cells #[.int .i64 n0, v0] 27)).alloc (.cells #[.int .i64 n1, v1] 27)))
  have F3 := hide (((h1.alloc (.cells #[.int .i64 n0, v0] 27)).alloc (.cells #[.int .i64 n1, v1] 27)))
  have F4 := hide (show ((w.alloc (.cells #[.int .i64 n0, v0] 27)).alloc (.cells #[.int .i64 n1, v1] 27)).heap[w.heap.size]? = some (.cells #[.int .i64 n0, v0] 27) from (by have := (hp_old (w.alloc (.cells #[.int .i64 n0, v0] 27)) (.cells #[.int .i64 n1, v1] 27) (w.heap.size) (by simp; try omega)).trans (hp_last w (.cells #[.int .i64 n0, v0] 27)); simpa using this))
  have F5 := hide (show ((w.alloc (.cells #[.int .i64 n0, v0] 27)).alloc (.cells #[.int .i64 n1, v1] 27)).heap[w.heap.size + 1]? = some (.cells #[.int .i64 n1, v1] 27) from (by have := hp_last (w.alloc (.cells #[.int .i64 n0, v0] 27)) (.cells #[.int .i64 n1, v1] 27); simpa using this))
  have HZ0 := hide (show ((w.alloc (.cells #[.int .i64 n0, v0] 27)).alloc (.cells #[.int .i64 n1, v1] 27)).heap.size = w.heap.size + 1 + 1 by simp)
  clear h0 h1
  have hsz0 : szOf 1048576 l0.length = -1 ∨ (0 ≤ szOf 1048576 l0.length ∧ szOf 1048576 l0.length ≤ 1048576 ∧ l0.length ≤ 1048576) := by unfold szOf; split <;> omega
  generalize hq0 : szOf 1048576 l0.length = q0 at hsz0
  have HQ0 := hide hq0
  clear hq0
  have hsz1 : szOf q0 l1.length = -1 ∨ (0 ≤ szOf q0 l1.length ∧ szOf q0 l1.length ≤ 1048576 ∧ l1.length ≤ 1048576) := by unfold szOf; split <;> omega
  generalize hq1 : szOf q0 l1.length = q1 at hsz1
  have HQ1 := hide hq1
  clear hq1
  rcases hsz0 with hbig0 | ⟨hq0a, hq0b, hq0c⟩
  · have HBIG := hide hbig0
    have hneg : q0 < 0 := by omega
    clear hbig0
    go_enter Tryd.func5, Tryd.ntmps5
    go_wp2_with fail
    generalize hX : ((w.alloc (.cells #[.int .i64 n0, v0] 27)).alloc (.cells #[.int .i64 n1, v1] 27)) = W0 at F1 F2 F3 F4 F5 HZ0 ⊢
    have hz0 := Nat.le_of_eq HZ0.out.symm
    clear hX HZ0
    refine (szSpace_c n0 v0 l0 (1048576) W0 (F2.out.mono (by omega)) hlen0 (by omega) (by omega)).mono ?_
    rw [HQ0.out]
    rintro e W1 ⟨rfl, hb6⟩
    have hz7 := hb6.size
    have F8 := hide (F1.out.trans (hb6.mono (by omega)))
    have F9 := hide (F2.out.below hb6 (by omega))
    have F10 := hide (F3.out.below hb6 (by omega))
    have F11 := hide ((hb6.block (w.heap.size) (by omega)).trans F4.out)
    have F12 := hide ((hb6.block (w.heap.size + 1) (by omega)).trans F5.out)
    clear hb6 F1 F2 F3 F4 F5
    go_wp2
    go_ret
    exact ⟨rfl, F8.out⟩
  have hneg0 : ¬ q0 < 0 := by omega
  rcases hsz1 with hbig1 | ⟨hq1a, hq1b, hq1c⟩
  · have HBIG := hide hbig1
    have hneg : q1 < 0 := by omega
    clear hbig1
    go_enter Tryd.func5, Tryd.ntmps5
    go_wp2_with fail
    generalize hX : ((w.alloc (.cells #[.int .i64 n0, v0] 27)).alloc (.cells #[.int .i64 n1, v1] 27)) = W0 at F1 F2 F3 F4 F5 HZ0 ⊢
    have hz0 := Nat.le_of_eq HZ0.out.symm
    clear hX HZ0
    refine (szSpace_c n0 v0 l0 (1048576) W0 (F2.out.mono (by omega)) hlen0 (by omega) (by omega)).mono ?_
    rw [HQ0.out]
    rintro e W1 ⟨rfl, hb6⟩
    have hz7 := hb6.size
    have F8 := hide (F1.out.trans (hb6.mono (by omega)))
    have F9 := hide (F2.out.below hb6 (by omega))
    have F10 := hide (F3.out.below hb6 (by omega))
    have F11 := hide ((hb6.block (w.heap.size) (by omega)).trans F4.out)
    have F12 := hide ((hb6.block (w.heap.size + 1) (by omega)).trans F5.out)
    clear hb6 F1 F2 F3 F4 F5
    have p13 := cells_at0 F11.out
    have p14 := cells_at1 F11.out
    have p15 := cells_at0 F12.out
    have p16 := cells_at1 F12.out
    go_wp2_with fail
    clear p13 p14 p15 p16
    refine (szSpace_c n1 v1 l1 (q0) W1 (F10.out.mono (by omega)) hlen1 (by omega) (by omega)).mono ?_
    rw [HQ1.out]
    rintro e W2 ⟨rfl, hb17⟩
    have hz18 := hb17.size
    have F19 := hide (F8.out.trans (hb17.mono (by omega)))
    have F20 := hide (F9.out.below hb17 (by omega))
    have F21 := hide (F10.out.below hb17 (by omega))
    have F22 := hide ((hb17.block (w.heap.size) (by omega)).trans F11.out)
    have F23 := hide ((hb17.block (w.heap.size + 1) (by omega)).trans F12.out)
    clear hb17 F8 F9 F10 F11 F12
    go_wp2
    go_ret
    exact ⟨rfl, F19.out⟩
  have hneg1 : ¬ q1 < 0 := by omega
  go_enter Tryd.func5, Tryd.ntmps5
  go_wp2_with fail
  generalize hX : ((w.alloc (.cells #[.int .i64 n0, v0] 27)).alloc (.cells #[.int .i64 n1, v1] 27)) = W0 at F1 F2 F3 F4 F5 HZ0 ⊢
  have hz0 := Nat.le_of_eq HZ0.out.symm
  clear hX HZ0
  refine (szSpace_c n0 v0 l0 (1048576) W0 (F2.out.mono (by omega)) hlen0 (by omega) (by omega)).mono ?_
  rw [HQ0.out]
  rintro e W1 ⟨rfl, hb6⟩
  have hz7 := hb6.size
  have F8 := hide (F1.out.trans (hb6.mono (by omega)))
  have F9 := hide (F2.out.below hb6 (by omega))
  have F10 := hide (F3.out.below hb6 (by omega))
  have F11 := hide ((hb6.block (w.heap.size) (by omega)).trans F4.out)
  have F12 := hide ((hb6.block (w.heap.size + 1) (by omega)).trans F5.out)
  clear hb6 F1 F2 F3 F4 F5
  have p13 := cells_at0 F11.out
  have p14 := cells_at1 F11.out
  have p15 := cells_at0 F12.out
  have p16 := cells_at1 F12.out
  go_wp2_with fail
  clear p13 p14 p15 p16
  refine (szSpace_c n1 v1 l1 (q0) W1 (F10.out.mono (by omega)) hlen1 (by omega) (by omega)).mono ?_
  rw [HQ1.out]
  rintro e W2 ⟨rfl, hb17⟩
  have hz18 := hb17.size
  have F19 := hide (F8.out.trans (hb17.mono (by omega)))
  have F20 := hide (F9.out.below hb17 (by omega))
  have F21 := hide (F10.out.below hb17 (by omega))
  have F22 := hide ((hb17.block (w.heap.size) (by omega)).trans F11.out)
  have F23 := hide ((hb17.block (w.heap.size + 1) (by omega)).trans F12.out)
  clear hb17 F8 F9 F10 F11 F12
  have p24 := cells_at0 F22.out
  have p25 := cells_at1 F22.out
  have p26 := cells_at0 F23.out
  have p27 := cells_at1 F23.out
  go_wp2_with fail
  clear p24 p25 p26 p27
  refine wp_region_held (S := Below W2.heap.size W2) (by kernel_rfl) ?_
  have hS0 : Below W2.heap.size W2 { W2 with drawn := W2.drawn + 1 } := (Below.refl _ _).drew
  generalize ({ W2 with drawn := W2.drawn + 1 } : World) = C0 at hS0 ⊢
  have hz0C : W2.heap.size ≤ C0.heap.size := hS0.size
  refine wpAnyH_take (i := 0) rfl (by kernel_rfl) (by kernel_rfl) (by kernel_rfl) (fun _ _ _ h => h) (yields_load_two rowSl sizeSl rfl (.tmp _) rfl _ rfl _ _ (fun w' h => (h.cell (p := ⟨w.heap.size, 0, none⟩) (by show w.heap.size < _; omega)).trans (cells_at0 F22.out)) (fun w' h => (h.cell (p := ⟨w.heap.size, 1, none⟩) (by show w.heap.size < _; omega)).trans (cells_at1 F22.out))) hS0 ?_
  simp only [Act.put, List.getElem_toArray, List.getElem_cons_zero, List.getElem_cons_succ, List.setIfInBounds_toArray, List.set_cons_zero, List.set_cons_succ]
  refine wpAnyH_take (i := 2) rfl (by kernel_rfl) (by kernel_rfl) (by kernel_rfl) (fun _ _ _ h => h) (yields_load_two rowSl sizeSl rfl (.tmp _) rfl _ rfl _ _ (fun w' h => (h.cell (p := ⟨w.heap.size + 1, 0, none⟩) (by show w.heap.size + 1 < _; omega)).trans (cells_at0 F23.out)) (fun w' h => (h.cell (p := ⟨w.heap.size + 1, 1, none⟩) (by show w.heap.size + 1 < _; omega)).trans (cells_at1 F23.out))) hS0 ?_
  simp only [Act.put, List.getElem_toArray, List.getElem_cons_zero, List.getElem_cons_succ, List.setIfInBounds_toArray, List.set_cons_zero, List.set_cons_succ]
  refine anyH_call (i := 1) (by kernel_rfl) rfl rfl 12 ent_toSpace _ _ rfl #[.agg #[.int .i64 n0, v0]] rfl (toSpace_c n0 v0 l0 C0 ((F20.out.below hS0 (by omega)).mono (by omega)) (by omega)) ?_
  rintro e W3 ⟨ggm28, rfl, hgm28, hkm28, hbm28⟩
  have hzm28 : C0.heap.size ≤ W3.heap.size := hbm28.size
  have hSm28 : Below W2.heap.size W2 W3 := hS0.trans (hbm28.mono (by omega))
  have hwm28 := hkm28.own hgm28 (by unfold maxLen; omega)
  refine ⟨_, rfl, hSm28, ?_⟩
  simp only [Act.put, List.getElem_toArray, List.getElem_cons_zero, List.getElem_cons_succ, List.setIfInBounds_toArray, List.set_cons_zero, List.set_cons_succ]
  refine anyH_call (i := 3) (by kernel_rfl) rfl rfl 12 ent_toSpace _ _ rfl #[.agg #[.int .i64 n1, v1]] rfl (toSpace_c n1 v1 l1 W3 ((F21.out.below hSm28 (by omega)).mono (by omega)) (by omega)) ?_
  rintro e W4 ⟨ggm29, rfl, hgm29, hkm29, hbm29⟩
  have hzm29 : W3.heap.size ≤ W4.heap.size := hbm29.size
  have hSm29 : Below W2.heap.size W2 W4 := hSm28.trans (hbm29.mono (by omega))
  have hwm28' := hwm28.kept hbm29
  have hwm29 := hkm29.own hgm29 (by unfold maxLen; omega)
  refine ⟨_, rfl, hSm29, ?_⟩
  simp only [Act.put, List.getElem_toArray, List.getElem_cons_zero, List.getElem_cons_succ, List.setIfInBounds_toArray, List.set_cons_zero, List.set_cons_succ]
  have hsp := specAreAlike_c n0 _ l0 n1 _ l1 W4 hwm28'.ints (by omega) hwm29.ints (by omega) (HT.out.below (F19.out.trans (hSm29.mono (by omega))))
  rw [HR.out, HO.out] at hsp
  refine anyH_call (i := 4) (by kernel_rfl) rfl rfl 17 (enters_of Tryd.func17 (by kernel_rfl) (by kernel_rfl)) _ _ rfl #[.agg #[.int .i64 n0, .slice (some ⟨ggm28, 0, none⟩) l0.length l0.length], .agg #[.int .i64 n1, .slice (some ⟨ggm29, 0, none⟩) l1.length l1.length]] rfl hsp ?_
  rintro e W5 ⟨rfl, hbS⟩
  have hzS : W4.heap.size ≤ W5.heap.size := hbS.size
  have hSS : Below W2.heap.size W2 W5 := hSm29.trans (hbS.mono (by omega))
  refine ⟨_, rfl, hSS, ?_⟩
  simp only [Act.put, List.getElem_toArray, List.getElem_cons_zero, List.getElem_cons_succ, List.setIfInBounds_toArray, List.set_cons_zero, List.set_cons_succ]
  refine wpAnyH_take (i := 5) (v := .tuple #[.bool R, .bool ok]) rfl (by kernel_rfl) (by kernel_rfl) (by kernel_rfl) (fun _ _ _ h => h) (.inl ⟨rfl, fun w' _ => by go_simp⟩) hSS ?_
  simp only [Act.put, List.getElem_toArray, List.getElem_cons_zero, List.getElem_cons_succ, List.setIfInBounds_toArray, List.set_cons_zero, List.set_cons_succ]
  refine wpAnyH_take (i := 6) (v := .bool R) rfl (by kernel_rfl) (by kernel_rfl) (by kernel_rfl) (fun _ _ _ h => h) (.inl ⟨rfl, fun w' _ => by go_simp⟩) hSS ?_
  simp only [Act.put, List.getElem_toArray, List.getElem_cons_zero, List.getElem_cons_succ, List.setIfInBounds_toArray, List.set_cons_zero, List.set_cons_succ]
  refine wpAnyH_take (i := 7) (v := .bool ok) rfl (by kernel_rfl) (by kernel_rfl) (by kernel_rfl) (fun _ _ _ h => h) (.inl ⟨rfl, fun w' _ => by go_simp⟩) hSS ?_
  simp only [Act.put, List.getElem_toArray, List.getElem_cons_zero, List.getElem_cons_succ, List.setIfInBounds_toArray, List.set_cons_zero, List.set_cons_succ]
  refine anyH_op (i := 8) (by kernel_rfl) rfl rfl (.bool R) _ ?hq8 hSS ?_
  case hq8 => simp [go_sem, Act.put]
  simp only [Act.put, List.getElem_toArray, List.getElem_cons_zero, List.getElem_cons_succ, List.setIfInBounds_toArray, List.set_cons_zero, List.set_cons_succ]
  refine anyH_op (i := 9) (by kernel_rfl) rfl rfl (.bool ok) _ ?hq9 hSS ?_
  case hq9 => simp [go_sem, Act.put]
  refine wpAnyH_done (by kernel_rfl) ?_ _
  simp only [Act.put, List.getElem_toArray, List.getElem_cons_zero, List.getElem_cons_succ, List.setIfInBounds_toArray, List.set_cons_zero, List.set_cons_succ]
  have hb30 := hSS
  have hz31 := hSS.size
  have F32 := hide (F19.out.trans (hb30.mono (by omega)))
  have F33 := hide (F20.out.below hb30 (by omega))
  have F34 := hide (F21.out.below hb30 (by omega))
  have F35 := hide ((hb30.block (w.heap.size) (by omega)).trans F22.out)
  have F36 := hide ((hb30.block (w.heap.size + 1) (by omega)).trans F23.out)
  clear hb30 F19 F20 F21 F22 F23
  have p37 := cells_at0 F35.out
  have p38 := cells_at1 F35.out
  have p39 := cells_at0 F36.out
  have p40 := cells_at1 F36.out
  go_wp2_with fail
  clear p37 p38 p39 p40
  refine (toSpace_c n0 v0 l0 W5 (F33.out.mono (by omega)) (by omega)).mono ?_
  rintro e W6 ⟨g41, rfl, hg42, hk43, hb44⟩
  have hz45 := hb44.size
  have F46 := hide (F32.out.trans (hb44.mono (by omega)))
  have F47 := hide (F33.out.below hb44 (by omega))
  have F48 := hide (F34.out.below hb44 (by omega))
  have F49 := hide ((hb44.block (w.heap.size) (by omega)).trans F35.out)
  have F50 := hide ((hb44.block (w.heap.size + 1) (by omega)).trans F36.out)
  have F51 := hide (hk43.own hg42 (by unfold maxLen; omega))
  have B52 := hide (F51.out.base)
  have L53 := hide (F51.out.blockLt)
  clear hb44 F32 F33 F34 F35 F36 hk43 hg42
  have F54 := hide (F46.out.alloc (by omega) (.cells #[.int .i64 n0, .slice (some ⟨g41, 0, none⟩) l0.length l0.length] 29))
  have F55 := hide (F47.out.alloc (.cells #[.int .i64 n0, .slice (some ⟨g41, 0, none⟩) l0.length l0.length] 29))
  have F56 := hide (F48.out.alloc (.cells #[.int .i64 n0, .slice (some ⟨g41, 0, none⟩) l0.length l0.length] 29))
  have F57 := hide ((hp_old W6 (.cells #[.int .i64 n0, .slice (some ⟨g41, 0, none⟩) l0.length l0.length] 29) (w.heap.size) (by omega)).trans F49.out)
  have F58 := hide ((hp_old W6 (.cells #[.int .i64 n0, .slice (some ⟨g41, 0, none⟩) l0.length l0.length] 29) (w.heap.size + 1) (by omega)).trans F50.out)
  have F59 := hide (F51.out.alloc (.cells #[.int .i64 n0, .slice (some ⟨g41, 0, none⟩) l0.length l0.length] 29))
  have F60 := hide (hp_last W6 (.cells #[.int .i64 n0, .slice (some ⟨g41, 0, none⟩) l0.length l0.length] 29))
  have HZ61 := hide (show (W6.alloc (.cells #[.int .i64 n0, .slice (some ⟨g41, 0, none⟩) l0.length l0.length] 29)).heap.size = W6.heap.size + 1 by simp)
  clear F46 F47 F48 F49 F50 F51
  have p62 := cells_at0 F57.out
  have p63 := cells_at1 F57.out
  have p64 := cells_at0 F58.out
  have p65 := cells_at1 F58.out
  have p66 := cells_at0 F60.out
  have p67 := cells_at1 F60.out
  go_wp2_with fail
  clear p62 p63 p64 p65 p66 p67
  generalize hX : W6.alloc (.cells #[.int .i64 n0, .slice (some ⟨g41, 0, none⟩) l0.length l0.length] 29) = W7 at F54 F55 F56 F57 F58 F59 F60 HZ61 ⊢
  have hz68 := Nat.le_of_eq HZ61.out.symm
  clear hX HZ61
  refine (toSpace_c n1 v1 l1 W7 (F56.out.mono (by omega)) (by omega)).mono ?_
  rintro e W8 ⟨g69, rfl, hg70, hk71, hb72⟩
  have hz73 := hb72.size
  have F74 := hide (F54.out.trans (hb72.mono (by omega)))
  have F75 := hide (F55.out.below hb72 (by omega))
  have F76 := hide (F56.out.below hb72 (by omega))
  have F77 := hide ((hb72.block (w.heap.size) (by omega)).trans F57.out)
  have F78 := hide ((hb72.block (w.heap.size + 1) (by omega)).trans F58.out)
  have F79 := hide (F59.out.kept hb72)
  have F80 := hide ((hb72.block (W6.heap.size) (by omega)).trans F60.out)
  have F81 := hide (hk71.own hg70 (by unfold maxLen; omega))
  have B82 := hide (F81.out.base)
  have L83 := hide (F81.out.blockLt)
  clear hb72 F54 F55 F56 F57 F58 F59 F60 hk71 hg70
  have F84 := hide (F74.out.alloc (by omega) (.cells #[.int .i64 n1, .slice (some ⟨g69, 0, none⟩) l1.length l1.length] 29))
  have F85 := hide (F75.out.alloc (.cells #[.int .i64 n1, .slice (some ⟨g69, 0, none⟩) l1.length l1.length] 29))
  have F86 := hide (F76.out.alloc (.cells #[.int .i64 n1, .slice (some ⟨g69, 0, none⟩) l1.length l1.length] 29))
  have F87 := hide ((hp_old W8 (.cells #[.int .i64 n1, .slice (some ⟨g69, 0, none⟩) l1.length l1.length] 29) (w.heap.size) (by omega)).trans F77.out)
  have F88 := hide ((hp_old W8 (.cells #[.int .i64 n1, .slice (some ⟨g69, 0, none⟩) l1.length l1.length] 29) (w.heap.size + 1) (by omega)).trans F78.out)
  have F89 := hide (F79.out.alloc (.cells #[.int .i64 n1, .slice (some ⟨g69, 0, none⟩) l1.length l1.length] 29))
  have F90 := hide ((hp_old W8 (.cells #[.int .i64 n1, .slice (some ⟨g69, 0, none⟩) l1.length l1.length] 29) (W6.heap.size) (by omega)).trans F80.out)
  have F91 := hide (F81.out.alloc (.cells #[.int .i64 n1, .slice (some ⟨g69, 0, none⟩) l1.length l1.length] 29))
  have F92 := hide (hp_last W8 (.cells #[.int .i64 n1, .slice (some ⟨g69, 0, none⟩) l1.length l1.length] 29))
  have HZ93 := hide (show (W8.alloc (.cells #[.int .i64 n1, .slice (some ⟨g69, 0, none⟩) l1.length l1.length] 29)).heap.size = W8.heap.size + 1 by simp)
  clear F74 F75 F76 F77 F78 F79 F80 F81
  have p94 := cells_at0 F87.out
  have p95 := cells_at1 F87.out
  have p96 := cells_at0 F88.out
  have p97 := cells_at1 F88.out
  have p98 := cells_at0 F90.out
  have p99 := cells_at1 F90.out
  have p100 := cells_at0 F92.out
  have p101 := cells_at1 F92.out
  go_wp2_with fail
  clear p94 p95 p96 p97 p98 p99 p100 p101
  generalize hX : W8.alloc (.cells #[.int .i64 n1, .slice (some ⟨g69, 0, none⟩) l1.length l1.length] 29) = W9 at F84 F85 F86 F87 F88 F89 F90 F91 F92 HZ93 ⊢
  have hz102 := Nat.le_of_eq HZ93.out.symm
  clear hX HZ93
  refine (implAreAlike_c n0 _ l0 n1 _ l1 W9 F89.out.ints (by omega) F91.out.ints (by omega) (HT.out.belowB HT.out F84.out (Nat.le_refl _))).mono ?_
  rw [HR.out, HO.out]
  rintro e W10 ⟨rfl, hb103⟩
  have hz104 := hb103.size
  have F105 := hide (F84.out.trans (hb103.mono (by omega)))
  have F106 := hide (F85.out.below hb103 (by omega))
  have F107 := hide (F86.out.below hb103 (by omega))
  have F108 := hide ((hb103.block (w.heap.size) (by omega)).trans F87.out)
  have F109 := hide ((hb103.block (w.heap.size + 1) (by omega)).trans F88.out)
  have F110 := hide (F89.out.kept hb103)
  have F111 := hide ((hb103.block (W6.heap.size) (by omega)).trans F90.out)
  have F112 := hide (F91.out.kept hb103)
  have F113 := hide ((hb103.block (W8.heap.size) (by omega)).trans F92.out)
  clear hb103 F84 F85 F86 F87 F88 F89 F90 F91 F92
  have p114 := cells_at0 F108.out
  have p115 := cells_at1 F108.out
  have p116 := cells_at0 F109.out
  have p117 := cells_at1 F109.out
  have p118 := cells_at0 F111.out
  have p119 := cells_at1 F111.out
  have p120 := cells_at0 F113.out
  have p121 := cells_at1 F113.out
  go_wp2
  clear p114 p115 p116 p117 p118 p119 p120 p121
  refine wp_region_held (S := Below W10.heap.size W10) (by kernel_rfl) ?_
  have hS : Below W10.heap.size W10 { W10 with drawn := W10.drawn + 1 } := (Below.refl _ _).drew
  refine wpAnyH_take (i := 0) rfl (by kernel_rfl) (by kernel_rfl) (by kernel_rfl) (fun _ _ _ h => h) (yields_load_two rowSp sizeSp rfl (.tmp _) rfl _ rfl _ _ (fun w' h => (h.cell (p := ⟨W6.heap.size, 0, none⟩) (by show W6.heap.size < _; omega)).trans (cells_at0 F111.out)) (fun w' h => (h.cell (p := ⟨W6.heap.size, 1, none⟩) (by show W6.heap.size < _; omega)).trans (cells_at1 F111.out))) hS ?_
  refine wpAnyH_take (i := 1) rfl (by kernel_rfl) (by kernel_rfl) (by kernel_rfl) (fun _ _ _ h => h) (yields_load_two rowSl sizeSl rfl (.tmp _) rfl _ rfl _ _ (fun w' h => (h.cell (p := ⟨w.heap.size, 0, none⟩) (by show w.heap.size < _; omega)).trans (cells_at0 F108.out)) (fun w' h => (h.cell (p := ⟨w.heap.size, 1, none⟩) (by show w.heap.size < _; omega)).trans (cells_at1 F108.out))) hS ?_
  refine anyH_call (i := 2) (by kernel_rfl) rfl rfl 12 ent_toSpace _ _ rfl #[.agg #[.int .i64 n0, v0]] rfl (toSpace_c n0 v0 l0 _ ((F106.out.below hS (by omega)).mono (show w.heap.size ≤ W10.heap.size by omega)) (by omega)) ?_
  rintro e W11 ⟨g122, rfl, hgr, hkr, hbr⟩
  have hzr : W10.heap.size ≤ W11.heap.size := hbr.size
  have hS6 : Below W10.heap.size W10 W11 := hS.trans hbr
  refine ⟨_, rfl, hS6, ?_⟩
  refine anyH_call (i := 3) (by kernel_rfl) rfl rfl 14 ent_eqSpace _ _ rfl #[.agg #[.int .i64 n0, .slice (some ⟨g41, 0, none⟩) l0.length l0.length], .agg #[.int .i64 n0, .slice (some ⟨g122, 0, none⟩) l0.length l0.length]] rfl (eqSpace_same_c n0 _ _ l0 W11 ((F110.out.kept hS6).ints) (hkr.ints _) (by omega)) ?_
  rintro e W12 ⟨rfl, hbs⟩
  have hS7 : Below W10.heap.size W10 W12 := hS6.trans (hbs.mono hzr)
  refine ⟨_, rfl, hS7, ?_⟩
  refine anyH_op (i := 4) (by kernel_rfl) rfl rfl (.bool false) W12 ?hq hS7 ?_
  case hq => simp [go_sem, Act.put]
  refine wpAnyH_done (by kernel_rfl) ?_ _
  simp only [Act.put, List.getElem_toArray, List.getElem_cons_zero, List.getElem_cons_succ, List.setIfInBounds_toArray, List.set_cons_zero, List.set_cons_succ]
  have hz123 : W10.heap.size ≤ W12.heap.size := hS7.size
  have F124 := hide (F105.out.trans (hS7.mono (by omega)))
  have F125 := hide (F106.out.below hS7 (by omega))
  have F126 := hide (F107.out.below hS7 (by omega))
  have F127 := hide ((hS7.block (w.heap.size) (by omega)).trans F108.out)
  have F128 := hide ((hS7.block (w.heap.size + 1) (by omega)).trans F109.out)
  have F129 := hide (F110.out.kept hS7)
  have F130 := hide ((hS7.block (W6.heap.size) (by omega)).trans F111.out)
  have F131 := hide (F112.out.kept hS7)
  have F132 := hide ((hS7.block (W8.heap.size) (by omega)).trans F113.out)
  clear hS hS6 hS7 hbr hbs hkr hgr hzr F105 F106 F107 F108 F109 F110 F111 F112 F113
  have p133 := cells_at0 F127.out
  have p134 := cells_at1 F127.out
  have p135 := cells_at0 F128.out
  have p136 := cells_at1 F128.out
  have p137 := cells_at0 F130.out
  have p138 := cells_at1 F130.out
  have p139 := cells_at0 F132.out
  have p140 := cells_at1 F132.out
  go_wp2
  clear p133 p134 p135 p136 p137 p138 p139 p140
  refine wp_region_held (S := Below W12.heap.size W12) (by kernel_rfl) ?_
  have hS : Below W12.heap.size W12 { W12 with drawn := W12.drawn + 1 } := (Below.refl _ _).drew
  refine wpAnyH_take (i := 0) rfl (by kernel_rfl) (by kernel_rfl) (by kernel_rfl) (fun _ _ _ h => h) (yields_load_two rowSp sizeSp rfl (.tmp _) rfl _ rfl _ _ (fun w' h => (h.cell (p := ⟨W8.heap.size, 0, none⟩) (by show W8.heap.size < _; omega)).trans (cells_at0 F132.out)) (fun w' h => (h.cell (p := ⟨W8.heap.size, 1, none⟩) (by show W8.heap.size < _; omega)).trans (cells_at1 F132.out))) hS ?_
  refine wpAnyH_take (i := 1) rfl (by kernel_rfl) (by kernel_rfl) (by kernel_rfl) (fun _ _ _ h => h) (yields_load_two rowSl sizeSl rfl (.tmp _) rfl _ rfl _ _ (fun w' h => (h.cell (p := ⟨w.heap.size + 1, 0, none⟩) (by show w.heap.size + 1 < _; omega)).trans (cells_at0 F128.out)) (fun w' h => (h.cell (p := ⟨w.heap.size + 1, 1, none⟩) (by show w.heap.size + 1 < _; omega)).trans (cells_at1 F128.out))) hS ?_
  refine anyH_call (i := 2) (by kernel_rfl) rfl rfl 12 ent_toSpace _ _ rfl #[.agg #[.int .i64 n1, v1]] rfl (toSpace_c n1 v1 l1 _ ((F126.out.below hS (by omega)).mono (show w.heap.size ≤ W12.heap.size by omega)) (by omega)) ?_
  rintro e W13 ⟨g141, rfl, hgr, hkr, hbr⟩
  have hzr : W12.heap.size ≤ W13.heap.size := hbr.size
  have hS6 : Below W12.heap.size W12 W13 := hS.trans hbr
  refine ⟨_, rfl, hS6, ?_⟩
  refine anyH_call (i := 3) (by kernel_rfl) rfl rfl 14 ent_eqSpace _ _ rfl #[.agg #[.int .i64 n1, .slice (some ⟨g69, 0, none⟩) l1.length l1.length], .agg #[.int .i64 n1, .slice (some ⟨g141, 0, none⟩) l1.length l1.length]] rfl (eqSpace_same_c n1 _ _ l1 W13 ((F131.out.kept hS6).ints) (hkr.ints _) (by omega)) ?_
  rintro e W14 ⟨rfl, hbs⟩
  have hS7 : Below W12.heap.size W12 W14 := hS6.trans (hbs.mono hzr)
  refine ⟨_, rfl, hS7, ?_⟩
  refine anyH_op (i := 4) (by kernel_rfl) rfl rfl (.bool false) W14 ?hq hS7 ?_
  case hq => simp [go_sem, Act.put]
  refine wpAnyH_done (by kernel_rfl) ?_ _
  simp only [Act.put, List.getElem_toArray, List.getElem_cons_zero, List.getElem_cons_succ, List.setIfInBounds_toArray, List.set_cons_zero, List.set_cons_succ]
  have hz142 : W12.heap.size ≤ W14.heap.size := hS7.size
  have F143 := hide (F124.out.trans (hS7.mono (by omega)))
  have F144 := hide (F125.out.below hS7 (by omega))
  have F145 := hide (F126.out.below hS7 (by omega))
  have F146 := hide ((hS7.block (w.heap.size) (by omega)).trans F127.out)
  have F147 := hide ((hS7.block (w.heap.size + 1) (by omega)).trans F128.out)
  have F148 := hide (F129.out.kept hS7)
  have F149 := hide ((hS7.block (W6.heap.size) (by omega)).trans F130.out)
  have F150 := hide (F131.out.kept hS7)
  have F151 := hide ((hS7.block (W8.heap.size) (by omega)).trans F132.out)
  clear hS hS6 hS7 hbr hbs hkr hgr hzr F124 F125 F126 F127 F128 F129 F130 F131 F132
  have p152 := cells_at0 F146.out
  have p153 := cells_at1 F146.out
  have p154 := cells_at0 F147.out
  have p155 := cells_at1 F147.out
  have p156 := cells_at0 F149.out
  have p157 := cells_at1 F149.out
  have p158 := cells_at0 F151.out
  have p159 := cells_at1 F151.out
  go_wp2
  go_ret
  exact ⟨rfl, F143.out⟩

theorem ownK : ownKnob Tryd.prog.godebug = none := by kernel_rfl
theorem laidOut : laidOutB Tryd.prog = true := by kernel_rfl

/-- What a slice of int is, as it comes in. -/
theorem list_open {W : World} {v : Value} {l : List Int} (h : (v = .slice none 0 0 ∧ l = []) ∨ ∃ (a : Addr) (len c : Nat) (zs : List Int), v = .slice (some a) len c ∧ len ≤ zs.length ∧ len ≤ maxLen ∧ (∀ i, i < zs.length → W.cell? (a.add i) = some (.int .i64 (zs.getD i 0))) ∧ l = zs.take len) : ints W.heap.size W v l ∧ l.length ≤ 9223372036854775807 := by
  rcases h with ⟨rfl, rfl⟩ | ⟨x, len, c, zs, rfl, hlt, hm, hcell, rfl⟩
  · exact ⟨.inl ⟨rfl, none, 0, rfl⟩, by simp⟩
  · have htk : (zs.take len).length = len := by simp; omega
    refine ⟨?_, by unfold maxLen at hm; omega⟩
    rcases Nat.eq_zero_or_pos len with h0 | h0
    · subst h0
      exact .inl ⟨by simp, some x, c, rfl⟩
    · obtain ⟨b, off, rfl, hc⟩ := ints_at hcell (by omega)
      have hbl := block_lt_of_cell (hc 0 (by omega))
      refine .inr ⟨b, off, c, by rw [htk], hbl, hbl, fun j hj => ?_⟩
      rw [htk] at hj
      rw [hc j (by omega), List.getElem?_take, if_pos hj]
      rfl

/-- What a struct of an int and a slice of int is, as it comes in. -/
theorem space_open {H : Type} {enc : TypeId × Value → H} {W : World} {b0 : Nat} {v : Value} {d : DataW H} {p : List MemPlace}
    (hv : Value.okWide Tryd.prog W .any b0 27 v) (h : DataW.Trod enc Tryd.prog W 0 (fun _ => true) true 27 v d p) :
    ∃ (n : Int) (u : Value) (l : List Int), v = .agg #[.int .i64 n, u] ∧ ints W.heap.size W u l ∧ l.length ≤ 9223372036854775807 := by
  obtain ⟨v0, v1, y0, y1, m, rfl, rfl, rfl, hy0, hy1⟩ := open_agg2 Tryd.underlying27 (by kernel_rfl) (by kernel_rfl) hv h
  obtain ⟨n, e0, _, _⟩ := DataW.trod_int Tryd.underlying3 hy0
  simp at e0
  subst e0
  rcases open_ints Tryd.underlying25 Tryd.underlying3 (by kernel_rfl) hy1 with ⟨hcs, _⟩ | ⟨x, len, c, zs, hcs, _, hl, hm, hz, _, hcell, hwz⟩
  · simp at hcs
    subst hcs
    exact ⟨n, _, [], rfl, list_open (.inl ⟨rfl, rfl⟩)⟩
  · simp at hcs
    subst hcs
    have hz' : zs.length = c := by simpa using hz
    exact ⟨n, _, zs.take len, rfl, list_open (.inr ⟨x, len, c, zs, rfl, by omega, by unfold maxLen at hm ⊢; omega, hcell, rfl⟩)⟩


/-- What the card's condition gives: the table's cells. -/
theorem tab_of {W : World} (h : laidMetH Tryd.prog Rows.fnExactAreAlikeRow.laid W) : tab W := by
  rw [MakeChecks.laidMetH_plain _ _ _ (by kernel_rfl)] at h
  have h2 := h.tail
  have e : (Rows.laid_math_bits_deBruijn64tab : DataW Unit) = Lib.tabData .u8 (Lib.deBruijn64tab.map fun n : Nat => (n : Int)) := by kernel_rfl
  rw [e] at h2
  have hT := Lib.tabIs_of_head (g := 1) (t := 115) (e := 5) (n := 64) (by kernel_rfl) (by kernel_rfl) (by kernel_rfl) (by kernel_rfl) (by kernel_rfl) (by kernel_rfl) h2
  have hc : ∀ j, j < 64 → W.cell? ⟨1, j, none⟩ = some (.int .u8 (Lib.deBruijn64tab.getD j 0)) := by
    intro j hj
    have h3 := hT.cell (g := 1) (by kernel_rfl) j (by rw [show (Lib.deBruijn64tab.map fun n : Nat => (n : Int)).length = 64 by decide +kernel]; exact hj)
    rw [h3]
    have h4 : ∀ j, j < 64 → (Lib.deBruijn64tab.map fun n : Nat => (n : Int)).getD j 0 = (Lib.deBruijn64tab.getD j 0 : Int) := by decide +kernel
    rw [h4 j hj]
  exact ⟨block_lt_of_cell (hc 0 (by omega)), hc⟩
theorem door_met (os : Os) (args : Array Value) : laidMetH Tryd.prog Rows.fnExactAreAlikeRow.laid ((World.doorLaid Tryd.prog 400 os).forCall (fun _ _ => 0) ⟨#[], args, []⟩).memory :=
  laidMetH_of_parts3 (fuel := 8) (laidMet_of_run' 8 (by kernel_rfl) (by kernel_rfl)) (by kernel_rfl) (by kernel_rfl)

theorem lifted (os : Os) (started : os.Started) (H : Type) (enc : TypeId × Value → H) :
    ReturnsInHanded {} Tryd.checked os 5 .any (fun w args => (Rows.fnExactAreAlikeSpec.pre enc Tryd.prog Tryd.f5 [] false w args ∧ laidMetH Tryd.prog Rows.fnExactAreAlikeRow.laid w) ∧ sizedMet enc Tryd.prog Tryd.f5 (OpenSpec.ofChange Rows.fnExactAreAlikeSpec) false w args)
      (Rows.fnExactAreAlikeSpec.post enc Tryd.prog Tryd.f5 false true false false) := by
  refine returnsInHanded_of_change_and (C := Tryd.checked) (X := fun w _ => laidMetH Tryd.prog Rows.fnExactAreAlikeRow.laid w) (fun _ _ _ hh h => h.of_heap hh) ownK started (by kernel_rfl) Tryd.func5
    (ChangeSpec.witness_shaped (enc := enc) (C := Tryd.checked) (os := os) (X := fun w _ => laidMetH Tryd.prog Rows.fnExactAreAlikeRow.laid w) false (World.doorLaid Tryd.prog 400 os) #[.agg #[.int .i64 0, .slice none 0 0], .agg #[.int .i64 0, .slice none 0 0]] 8 rfl (World.shaped_of_RefB (by kernel_rfl) (by kernel_rfl)) (by kernel_rfl) (by kernel_rfl) (by kernel_rfl) (door_met os _)) ?_
  intro W base args ds gs before hval0 hW _ _ hL _
  have hTab := tab_of hL
  have hval : ∀ (j : Nat) t v, Tryd.f5.params[j]? = some t → args[j]? = some v → Value.okWide Tryd.prog W .any base t v := hval0
  have hW' := hW
  obtain ⟨p, q, hA0, hV, rfl, hfz, hnd⟩ := hW
  have hA : DataW.TrodAll enc Tryd.prog W 0 (fun _ => true) true Tryd.f5.params.toList args.toList ds p := hA0
  rw [Tryd.params5] at hA hval
  obtain ⟨v0, vs0, d0, ds0, p0, q0, hargs, rfl, rfl, t0, r0⟩ := trodAll_cons hA
  obtain ⟨v1, vs1, d1, ds1, p1, q1, rfl, rfl, rfl, t1, r1⟩ := trodAll_cons r0
  obtain ⟨rfl, rfl, rfl⟩ := trodAll_nil r1
  obtain rfl : args = #[v0, v1] := by cases args; simp_all
  obtain ⟨rfl, rfl⟩ := trodVars_none hV
  have k0 := t0
  have lt0 : ∀ x ∈ p0, x.block < W.heap.size := by obtain ⟨m, hm⟩ := k0; exact DataW.trod_lt m _ _ _ hm
  obtain ⟨n0, u0, l0, rfl, i0, e0⟩ := space_open (hval 0 27 v0 rfl rfl) t0
  have k1 := t1
  have lt1 : ∀ x ∈ p1, x.block < W.heap.size := by obtain ⟨m, hm⟩ := k1; exact DataW.trod_lt m _ _ _ hm
  obtain ⟨n1, u1, l1, rfl, i1, e1⟩ := space_open (hval 1 27 v1 rfl rfl) t1
  clear hA0 hval0
  refine (law_c n0 u0 l0 n1 u1 l1 W i0 e0 i1 e1 hTab).mono fun e W' ⟨he, bel⟩ => ?_
  subst he
  exact ⟨_, rfl, _, _, _, [], _, [], hW', trodAll_mk1 (shut_bool Tryd.underlying4 _), (trodAll_cons_mk (Below.trod laidOut (by kernel_rfl) (of_decide_eq_true (by kernel_rfl)) k0 bel lt0) (trodAll_cons_mk (Below.trod laidOut (by kernel_rfl) (of_decide_eq_true (by kernel_rfl)) k1 bel lt1) trodAll_mk0)), rfl, bel.frame _, fun h => by cases h⟩

set_option maxHeartbeats 4000000 in
theorem over : Rows.fnExactAreAlikeRow.holds Tryd.pinned (OpenSpec.ofChange Rows.fnExactAreAlikeSpec) :=
  OpenClaim.holds_of_wide 5 Tryd.f5 rfl rfl rfl rfl rfl rfl rfl ⟨rfl, rfl, rfl, rfl, rfl⟩ rfl rfl rfl rfl rfl (by as_aux_lemma => kernel_rfl) Tryd.func5 (by as_aux_lemma => kernel_rfl)
    (of_decide_eq_true (by as_aux_lemma => kernel_rfl)) (by unfold Func.isWrapper; first | (rw [if_pos (by decide +kernel)]; kernel_rfl) | (rw [if_neg (by decide +kernel)]; exact ⟨rfl, rfl⟩))
    (fun os started H enc _ => lifted os started H enc)

set_option maxHeartbeats 8000000 in
theorem proved : Rows.FnExactAreAlikeCardSaid :=
  Claim7.holds_tied_plain_at .later [] [.data, .data] true _ false
    over (fun _ h => by cases h) (by as_aux_lemma => kernel_rfl) (fun _ h => by cases h) fnExactAreAlike_row_tie rfl ⟨rfl, rfl⟩ (by as_aux_lemma => kernel_rfl) rfl
    (fun f fn hf hfn => by
      obtain rfl : f = 5 := Option.some.inj ((show Tryd.prog.funcNamed "loop.example/g01137/laws.FnExactAreAlike" = some 5 by as_aux_lemma => kernel_rfl).symm.trans hf) |>.symm
      obtain rfl : fn = Tryd.f5 := (Option.some.inj (Tryd.func5.symm.trans hfn)).symm
      exact ⟨by as_aux_lemma => kernel_rfl, fun j t ht => by
        rw [Tryd.params5] at ht
        have hm : t ∈ [27, 27] := by simpa using Array.mem_of_getElem? ht
        have hall : ([27, 27].all fun u => !Tryd.prog.wantsStandIn u) = true := by as_aux_lemma => kernel_rfl
        exact (show Tryd.prog.wantsStandIn t = false by simpa using List.all_eq_true.1 hall t hm)⟩)
    (by as_aux_lemma => kernel_rfl)
#print axioms proved
end Go.Proofs.YtcokdhmccokkiaaDoor.FAreAlike
