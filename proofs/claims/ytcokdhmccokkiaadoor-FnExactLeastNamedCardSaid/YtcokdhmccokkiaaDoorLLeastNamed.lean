import Derived.Test.YtcokdhmccokkiaaDoorLib
import Derived.Test.YtcokdhmccokkiaaDoorNk
import Derived.Test.YtcokdhmccokkiaaDoorFl
import Derived.Test.YtcokdhmccokkiaaDoorRows
import Derived.Test.YtcokdhmccokkiaaDoorTie
import Derived.Test.YtcokdhmccokkiaaDoorCards
import Derived.LaidMore
import Derived.Stop.Joined
import Derived.Stop.LaidErr
import Derived.Lib.LaidTab
import Derived.SevenTiedAt
import Derived.Test.YtcokdhmccokkiaaDoorHar
import Derived.ProofKit
import Derived.OpenShut
import Derived.Lib.SmallJoins
/- Lists of numbers in their order; the first of many. -/
namespace Go.Proofs.YtcokdhmccokkiaaDoor
open Go.RowKit
set_option maxRecDepth 100000
/-- Whether one list comes ahead of another. -/
def lexB : List Int → List Int → Bool
  | [], ys => decide (0 < ys.length)
  | _ :: _, [] => false
  | x :: xs, y :: ys => if x = y then lexB xs ys else decide (x < y)
theorem lexB_irr : ∀ A, lexB A A = false
  | [] => rfl
  | x :: xs => by unfold lexB; rw [if_pos rfl]; exact lexB_irr xs
theorem lexB_eq : ∀ A B, lexB A B = false → lexB B A = false → A = B
  | [], [], _, _ => rfl
  | [], y :: ys, h, _ => by simp [lexB] at h
  | x :: xs, [], _, h => by simp [lexB] at h
  | x :: xs, y :: ys, h1, h2 => by
    unfold lexB at h1 h2
    by_cases e : x = y
    · subst e
      rw [if_pos rfl] at h1 h2
      rw [lexB_eq xs ys h1 h2]
    · rw [if_neg e, decide_eq_false_iff_not] at h1
      rw [if_neg (fun h => e h.symm), decide_eq_false_iff_not] at h2
      omega
/-- A ≤ B and B ≤ C. -/
theorem lexB_le : ∀ A B C, lexB B A = false → lexB C B = false → lexB C A = false
  | [], _, [], _, _ => rfl
  | [], _, _ :: _, _, _ => rfl
  | x :: xs, [], C, h, _ => by simp [lexB] at h
  | x :: xs, y :: ys, [], _, h => by simp [lexB] at h
  | x :: xs, y :: ys, z :: zs, h1, h2 => by
    unfold lexB at h1 h2 ⊢
    by_cases e1 : y = x
    · subst e1
      rw [if_pos rfl] at h1
      by_cases e2 : z = y
      · subst e2
        rw [if_pos rfl] at h2 ⊢
        exact lexB_le xs ys zs h1 h2
      · rw [if_neg e2] at h2 ⊢
        exact h2
    · rw [if_neg e1, decide_eq_false_iff_not] at h1
      by_cases e2 : z = y
      · subst e2
        rw [if_neg e1, decide_eq_false_iff_not]
        exact h1
      · rw [if_neg e2, decide_eq_false_iff_not] at h2
        rw [if_neg (by omega), decide_eq_false_iff_not]
        omega
theorem lexB_not {A B : List Int} (h : lexB A B = true) : lexB B A = false := by
  cases h2 : lexB B A
  · rfl
  · exfalso
    have key : ∀ A B, lexB A B = true → lexB B A = true → False := by
      intro A
      induction A with
      | nil => intro B _ h; cases B <;> simp [lexB] at h
      | cons x xs ih =>
        intro B h1 h2
        match B with
        | [] => simp [lexB] at h1
        | y :: ys =>
          unfold lexB at h1 h2
          by_cases e : x = y
          · subst e
            rw [if_pos rfl] at h1 h2
            exact ih ys h1 h2
          · rw [if_neg e, decide_eq_true_eq] at h1
            rw [if_neg (fun h => e h.symm), decide_eq_true_eq] at h2
            omega
    exact key A B h h2
/-- The first of b and of the first k. -/
def mnL (b : List Int) (f : Nat → List Int) : Nat → List Int
  | 0 => b
  | k + 1 => if lexB (f k) (mnL b f k) then f k else mnL b f k
theorem mnL_next (b : List Int) (f : Nat → List Int) (k : Nat) : mnL b f (k + 1) = if lexB (f k) (mnL b f k) then f k else mnL b f k := rfl
theorem mnL_le (b : List Int) (f : Nat → List Int) : ∀ k, lexB b (mnL b f k) = false ∧ ∀ j, j < k → lexB (f j) (mnL b f k) = false
  | 0 => ⟨lexB_irr b, fun j h => absurd h (Nat.not_lt_zero j)⟩
  | k + 1 => by
    have ih := mnL_le b f k
    rw [mnL_next]
    cases h : lexB (f k) (mnL b f k)
    · rw [if_neg (by simp)]
      refine ⟨ih.1, fun j hj => ?_⟩
      rcases Nat.lt_or_ge j k with h1 | h1
      · exact ih.2 j h1
      · rw [show j = k by omega]; exact h
    · rw [if_pos rfl]
      have h2 := lexB_not h
      refine ⟨lexB_le _ _ _ h2 ih.1, fun j hj => ?_⟩
      rcases Nat.lt_or_ge j k with h1 | h1
      · exact lexB_le _ _ _ h2 (ih.2 j h1)
      · rw [show j = k by omega]; exact lexB_irr _
theorem mnL_in (b : List Int) (f : Nat → List Int) : ∀ k, mnL b f k = b ∨ ∃ j, j < k ∧ mnL b f k = f j
  | 0 => .inl rfl
  | k + 1 => by
    rw [mnL_next]
    split
    · exact .inr ⟨k, by omega, rfl⟩
    · rcases mnL_in b f k with h | ⟨j, hj, h⟩
      · exact .inl h
      · exact .inr ⟨j, by omega, h⟩
/-- Two beginnings that are both among the others lead to the same. -/
theorem mnL_same {a b : List Int} {f : Nat → List Int} {n : Nat} (ha : ∃ j, j < n ∧ f j = a) (hb : ∃ j, j < n ∧ f j = b) : mnL a f n = mnL b f n := by
  have key : ∀ a b : List Int, (∃ j, j < n ∧ f j = a) → lexB (mnL a f n) (mnL b f n) = false := by
    intro a b ⟨j, hj, e⟩
    rcases mnL_in a f n with h | ⟨i, hi, h⟩
    · rw [h, ← e]; exact (mnL_le b f n).2 j hj
    · rw [h]; exact (mnL_le b f n).2 i hi
  exact lexB_eq _ _ (key a b ha) (key b a hb)
/-! ### Step by step -/
theorem lexB_drop {A B : List Int} {k : Nat} (hA : k < A.length) (hB : k < B.length) :
    lexB (A.drop k) (B.drop k) = if A[k]?.getD 0 = B[k]?.getD 0 then lexB (A.drop (k + 1)) (B.drop (k + 1)) else decide (A[k]?.getD 0 < B[k]?.getD 0) := by
  rw [List.drop_eq_getElem_cons hA, List.drop_eq_getElem_cons hB, List.getElem?_eq_getElem hA, List.getElem?_eq_getElem hB]
  rfl
theorem lexB_end {A B : List Int} {k : Nat} (hA : k ≤ A.length) (hB : k ≤ B.length) (h : ¬ (k < A.length ∧ k < B.length)) : lexB (A.drop k) (B.drop k) = decide (A.length < B.length) := by
  rcases Nat.lt_or_ge k A.length with h1 | h1
  · have h2 : B.length = k := by omega
    rw [List.drop_eq_getElem_cons h1, List.drop_of_length_le (show B.length ≤ k by omega), decide_eq_false (by omega)]
    rfl
  · rw [List.drop_of_length_le h1]
    unfold lexB
    rw [List.length_drop]
    exact decide_eq_decide.2 (by omega)
end Go.Proofs.YtcokdhmccokkiaaDoor
/- Contracts: the first list of all names, the specification's. -/
namespace Go.Proofs.YtcokdhmccokkiaaDoor
open Go.RowKit
set_option maxRecDepth 100000
set_option linter.unusedSimpArgs false
theorem q_valB {P : Program} {ops : Array Oper} {rest : List Oper} {o : Oper} {a : Act} {C : World → Prop} {Q : Act → Prop} (hw : Region.wanted o (yielded ops a.tmps) = true) (v : Value)
    (hrun : ∀ w', (execOp a.eval o).run P w' = .ok (.value v) w') (h : wpQuiet P ops C Q rest (a.put o.dst v)) : wpQuiet P ops C Q (o :: rest) a := by
  refine BigFrame.wpQuiet_want hw fun K hK => ⟨v, fun w' _ => ?_, hK _ h⟩
  unfold Oper.quietAt
  rw [hrun w']
  exact ⟨rfl, rfl⟩
attribute [local irreducible] p2 low memB risB famAt own
set_option maxHeartbeats 2000000 in
theorem alBefore_c (u v : Value) (A B : List Int) (w : World) (hA : ints w.heap.size w u A) (hB : ints w.heap.size w v B) (hAl : A.length < 1000000000) (_ : B.length < 1000000000) :
    Calls Tryd.prog 50 #[u, v] w fun e w' => e = .returned (.bool (lexB A B)) ∧ Below w.heap.size w w' := by
  have HA := hide hA
  have HB := hide hB
  have HL0 := hide (show lexB A B = lexB (A.drop 0) (B.drop 0) by rw [List.drop_zero, List.drop_zero])
  clear hA hB
  go_enter Tryd.func50, Tryd.ntmps50
  go_wp2_with fail
  go_loopw [5] (fun i wr => ∃ k : Nat, k ≤ A.length ∧ k ≤ B.length ∧ i = .int .i64 (k : Int) ∧ Hid (lexB A B = lexB (A.drop k) (B.drop k)) ∧ Hid (Below w.heap.size w wr)) (fun i _ => A.length - (intOf i).toNat)
  case atStart => exact ⟨0, Nat.zero_le _, Nat.zero_le _, rfl, HL0, Below.refl _ _⟩
  case round =>
    obtain ⟨k, hk, hkB, rfl, HE, HW⟩ := hrel
    have HAW := hide (HA.out.below HW.out (Nat.le_refl _))
    have HBW := hide (HB.out.below HW.out (Nat.le_refl _))
    have hsz := HW.out.size
    by_cases hlt : k < A.length
    · have hd1 : decide ((k : Int) < (A.length : Int)) = true := decide_eq_true (by omega)
      by_cases hlt2 : k < B.length
      · have hd2 : decide ((k : Int) < (B.length : Int)) = true := decide_eq_true (by omega)
        have HDR := hide (lexB_drop hlt hlt2)
        generalize hxx : A[k]?.getD 0 = x at *
        generalize hyy : B[k]?.getD 0 = y at *
        have HXX := hide hxx
        have HYY := hide hyy
        clear hxx hyy
        go_wp2_with (first
          | (refine wpList_len sliceT rfl (.tmp _) rfl u rfl w.heap.size A HAW.out ?_)
          | (refine wpList_len sliceT rfl (.tmp _) rfl v rfl w.heap.size B HBW.out ?_))
        refine wp_region_old (by kernel_rfl) (by kernel_rfl) ?_
        go_big_quiet_step ((first | exact fun _ => rfl | exact fun _ => ⟨rfl, rfl⟩))
        go_big_quiet_step ((first | exact fun _ => rfl | exact fun _ => ⟨rfl, rfl⟩))
        refine q_at sliceT intS rfl (.tmp _) (.tmp _) rfl _ rfl _ rfl k rfl w.heap.size A wr HAW.out hlt ?_
        intro ad1 hcell1 hblk1
        rw [HXX.out] at hcell1
        simp only [Act.put, List.setIfInBounds_toArray, List.set_cons_zero, List.set_cons_succ]
        refine q_load_cell rowI rfl (.tmp _) rfl ad1 rfl (.int .i64 x) (fun w' h => (h.cell (p := ad1) (by omega)).trans hcell1) ?_
        simp only [Act.put, List.setIfInBounds_toArray, List.set_cons_zero, List.set_cons_succ]
        go_big_quiet_step ((first | exact fun _ => rfl | exact fun _ => ⟨rfl, rfl⟩))
        go_big_quiet_step ((first | exact fun _ => rfl | exact fun _ => ⟨rfl, rfl⟩))
        refine q_at sliceT intS rfl (.tmp _) (.tmp _) rfl _ rfl _ rfl k rfl w.heap.size B wr HBW.out hlt2 ?_
        intro ad2 hcell2 hblk2
        rw [HYY.out] at hcell2
        simp only [Act.put, List.setIfInBounds_toArray, List.set_cons_zero, List.set_cons_succ]
        refine q_load_cell rowI rfl (.tmp _) rfl ad2 rfl (.int .i64 y) (fun w' h => (h.cell (p := ad2) (by omega)).trans hcell2) ?_
        simp only [Act.put, List.setIfInBounds_toArray, List.set_cons_zero, List.set_cons_succ]
        refine q_valB rfl (.bool (x != y)) (fun w' => by simp [execOp, go_sem, bne]) ?_
        simp only [Act.put, List.setIfInBounds_toArray, List.set_cons_zero, List.set_cons_succ]
        by_cases he : x = y
        · rw [show (x != y) = false by simp [he]]
          have HN := hide (show lexB A B = lexB (A.drop (k + 1)) (B.drop (k + 1)) by rw [HE.out, HDR.out, if_pos he])
          refine wpQuiet_nil ?_
          intro w3 hb3
          clear hcell1 hcell2 hblk1 hblk2 he
          have HW3 := hide (HW.out.trans (hb3.mono hsz))
          clear hb3
          go_wp2
          go_roundw
          case rel => exact ⟨k + 1, by omega, by omega, by go_num, HN, HW3⟩
          case measure => (simp [intOf] <;> omega)
        · rw [show (x != y) = true by simp [he]]
          have HN := hide (show lexB A B = decide (x < y) by rw [HE.out, HDR.out, if_neg he])
          refine wpQuiet_nil ?_
          intro w3 hb3
          clear hcell1 hcell2 hblk1 hblk2 he
          have HW3 := hide (HW.out.trans (hb3.mono hsz))
          have HA3 := hide (HA.out.below HW3.out (Nat.le_refl _))
          have HB3 := hide (HB.out.below HW3.out (Nat.le_refl _))
          have hz3 := HW3.out.size
          clear hb3
          go_wp2_with fail
          refine wp_region_old (by kernel_rfl) (by kernel_rfl) ?_
          go_big_quiet_step ((first | exact fun _ => rfl | exact fun _ => ⟨rfl, rfl⟩))
          go_big_quiet_step ((first | exact fun _ => rfl | exact fun _ => ⟨rfl, rfl⟩))
          refine q_at sliceT intS rfl (.tmp _) (.tmp _) rfl _ rfl _ rfl k rfl w.heap.size A w3 HA3.out hlt ?_
          intro ad1 hcell1 hblk1
          rw [HXX.out] at hcell1
          simp only [Act.put, List.setIfInBounds_toArray, List.set_cons_zero, List.set_cons_succ]
          refine q_load_cell rowI rfl (.tmp _) rfl ad1 rfl (.int .i64 x) (fun w' h => (h.cell (p := ad1) (by omega)).trans hcell1) ?_
          simp only [Act.put, List.setIfInBounds_toArray, List.set_cons_zero, List.set_cons_succ]
          go_big_quiet_step ((first | exact fun _ => rfl | exact fun _ => ⟨rfl, rfl⟩))
          go_big_quiet_step ((first | exact fun _ => rfl | exact fun _ => ⟨rfl, rfl⟩))
          refine q_at sliceT intS rfl (.tmp _) (.tmp _) rfl _ rfl _ rfl k rfl w.heap.size B w3 HB3.out hlt2 ?_
          intro ad2 hcell2 hblk2
          rw [HYY.out] at hcell2
          simp only [Act.put, List.setIfInBounds_toArray, List.set_cons_zero, List.set_cons_succ]
          refine q_load_cell rowI rfl (.tmp _) rfl ad2 rfl (.int .i64 y) (fun w' h => (h.cell (p := ad2) (by omega)).trans hcell2) ?_
          simp only [Act.put, List.setIfInBounds_toArray, List.set_cons_zero, List.set_cons_succ]
          refine q_valB rfl (.bool (decide (x < y))) (fun w' => by simp [execOp, go_sem]) ?_
          simp only [Act.put, List.setIfInBounds_toArray, List.set_cons_zero, List.set_cons_succ]
          go_big_quiet_step ((first | exact fun _ => rfl | exact fun _ => ⟨rfl, rfl⟩))
          refine wpQuiet_nil ?_
          intro w4 hb4
          clear hcell1 hcell2 hblk1 hblk2
          have HW4 := hide (HW3.out.trans (hb4.mono hz3))
          clear hb4
          go_wp2
          go_ret
          exact ⟨by rw [HN.out]; rfl, HW4.out⟩
      · have hd2 : decide ((k : Int) < (B.length : Int)) = false := by rw [decide_eq_false_iff_not]; omega
        have HN := hide (show lexB A B = decide (A.length < B.length) by rw [HE.out, lexB_end hk hkB (by omega)])
        go_wp2_with (first
          | (refine wpList_len sliceT rfl (.tmp _) rfl u rfl w.heap.size A HAW.out ?_)
          | (refine wpList_len sliceT rfl (.tmp _) rfl v rfl w.heap.size B HBW.out ?_))
        go_ret
        exact ⟨ret_b (by rw [HN.out]), HW.out⟩
    · have hd1 : decide ((k : Int) < (A.length : Int)) = false := by rw [decide_eq_false_iff_not]; omega
      have HN := hide (show lexB A B = decide (A.length < B.length) by rw [HE.out, lexB_end hk hkB (by omega)])
      go_wp2_with (first
        | (refine wpList_len sliceT rfl (.tmp _) rfl u rfl w.heap.size A HAW.out ?_)
        | (refine wpList_len sliceT rfl (.tmp _) rfl v rfl w.heap.size B HBW.out ?_))
      go_ret
      exact ⟨ret_b (by rw [HN.out]), HW.out⟩
/-- The lists that come of all orders, in their order. -/
def nkf (N : Nat) (l : List Int) (k : Nat) : List Int := setsTo (rmF (N : Int) l ((nkA N)[k]?.getD [])) 128
theorem mnL_len {b : List Int} {f : Nat → List Int} {c : Nat} (hb : b.length < c) (hf : ∀ j, (f j).length < c) (k : Nat) : (mnL b f k).length < c := by
  rcases mnL_in b f k with h | ⟨j, _, h⟩
  · rw [h]; exact hb
  · rw [h]; exact hf j
set_option maxHeartbeats 4000000 in
theorem alLeast_c (N : Nat) (v : Value) (l : List Int) (w : World) (hl : ints w.heap.size w v l) (hlen : l.length < 1000000000) (hsp : okSp (N : Int) l = true) (hN1 : 1 ≤ N) (hN5 : N ≤ 5) :
    Calls Tryd.prog 30 #[.agg #[.int .i64 (N : Int), v]] w fun e w' => ∃ v', e = .returned v' ∧ own 3 w' w.heap.size v' (mnL l (nkf N l) (nkA N).length) ∧ Below w.heap.size w w' := by
  have HL := hide ((hl.alloc (.cells #[.int .i64 (N : Int), v] 29)).mono (show w.heap.size ≤ (w.alloc (.cells #[.int .i64 (N : Int), v] 29)).heap.size by simp))
  have H0 := hide ((Below.refl w.heap.size w).alloc (Nat.le_refl _) (.cells #[.int .i64 (N : Int), v] 29))
  have HS0 := hide (hp_last w (.cells #[.int .i64 (N : Int), v] 29))
  have HZ := hide (show (w.alloc (.cells #[.int .i64 (N : Int), v] 29)).heap.size = w.heap.size + 1 by simp)
  have c0 := cells_at0 HS0.out
  have c1 := cells_at1 HS0.out
  have HOK := hide hsp
  have hal := nk_len N hN1 hN5
  have HROW := hide (nk_row N)
  have HAL := hide (fun w1 => alOrders_c N hN1 (by omega) N (.slice none 0 0) [] 0 w1 ((own_nil 3 w1 w1.heap.size).ints) (by simp) (fun x _ => memB_nilA x) (Nat.two_pow_pos N) (by rw [pc_zeroA]; omega))
  rw [show awL (FA N) N N 0 = nkA N from rfl, nk_mapA] at HAL
  have HML := hide (mnL_len (f := nkf N l) hlen (fun j => by have := setsTo_len (rmF (N : Int) l ((nkA N)[j]?.getD [])) 128; unfold nkf; omega))
  have HNX := hide (mnL_next l (nkf N l))
  have HNF := hide (fun k => show nkf N l k = setsTo (rmF (N : Int) l ((nkA N)[k]?.getD [])) 128 from rfl)
  have HM0 := hide (show mnL l (nkf N l) 0 = l from rfl)
  generalize nkf N l = f at HML HNX HNF HM0 ⊢
  generalize nkA N = A at hal HROW HAL HNF ⊢
  clear hl hsp
  go_enter Tryd.func30, Tryd.ntmps30
  go_wp2_with (first
    | (go_at_call 39; refine (HAL.out _).mono ?_; rintro e w2 ⟨v2, rfl, ho2, hb2⟩; obtain ⟨a2, c2, hv2⟩ := ho2.rows.shape; subst hv2; have hz2 := hb2.size; rw [HZ.out] at hz2; have HS2 := hide ((hb2.block w.heap.size (by rw [HZ.out]; omega)).trans HS0.out); have HR2 := hide ho2.rows; have HL2 := hide ((HL.out.below hb2 (Nat.le_refl _)).mono hb2.size); have HB2 := hide (H0.out.trans (hb2.mono (by rw [HZ.out]; omega))); clear ho2 hb2)
    | (refine wpList_len2 sliceT2 rfl (.tmp _) rfl _ rfl w2.heap.size A HR2.out ?_))
  clear c0 c1
  go_loopw [3, 13] (fun bv iv wr => ∃ k : Nat, k ≤ A.length ∧ iv = .int .i64 (k : Int) ∧ Hid (ints wr.heap.size wr bv (mnL l f k)) ∧ Hid (w2.heap.size ≤ wr.heap.size ∧ Below w2.heap.size w2 wr)) (fun _ iv _ => A.length - (intOf iv).toNat)
  case atStart => exact ⟨0, Nat.zero_le _, rfl, hide (by rw [HM0.out]; exact HL2.out), hide ⟨Nat.le_refl _, Below.refl _ _⟩⟩
  case round =>
    obtain ⟨k, hk, rfl, HI, HW⟩ := hrel
    have hsz := HW.out.1
    have hml := HML.out k
    by_cases hlt : k < A.length
    · have hlt' : (k : Int) < (A.length : Int) := by omega
      have HRW := hide (HR2.out.below HW.out.2 (Nat.le_refl _))
      have HLW := hide ((HL2.out.below HW.out.2 (Nat.le_refl _)).mono hsz)
      have hsr := (HW.out.2.block w.heap.size (by omega)).trans HS2.out
      have c0 := cells_at0 hsr
      have c1 := cells_at1 hsr
      have HNK := hide (HNX.out k)
      rw [HNF.out k] at HNK
      have HRR := hide (HROW.out k hlt)
      generalize hr : A[k]?.getD [] = r at HNK HRR
      have HR := hide hr
      have hrl := setsTo_len (rmF (N : Int) l r) 128
      have HAN := hide (fun uu (h : ints wr.heap.size wr uu r) => alNamed_c N v l uu r wr HLW.out hlen h HOK.out HRR.out.1 HRR.out.2)
      generalize setsTo (rmF (N : Int) l r) 128 = R at HNK HAN hrl
      generalize mnL l f k = M at HI HNK hml
      clear hr hsr
      cases hb : lexB R M
      all_goals
        have HBT := hide hb
        rw [hb] at HNK
        clear hb
        go_wp2_with (first
          | (refine wpList_at2 sliceT2 rowS2 rfl (.tmp _) (.tmp _) rfl _ rfl _ rfl k rfl w2.heap.size A HRW.out hlt ?_; intro ad uu hcell hblk hu; rw [HR.out] at hu; have HU := hide (hu.mono hsz); clear hu)
          | (go_at_call 40; refine (HAN.out uu HU.out).mono ?_; rintro e w5 ⟨v5, rfl, ho5, hb5⟩; obtain ⟨a5, c5, hv5⟩ := ho5.shape; subst hv5; have hz5 := hb5.size; have HI5 := hide ho5.ints; have HM5 := hide ((HI.out.below hb5 (Nat.le_refl _)).mono hz5); have HW5 := hide (show w2.heap.size ≤ w5.heap.size ∧ Below w2.heap.size w2 w5 from ⟨Nat.le_trans hsz hz5, HW.out.2.trans (hb5.mono hsz)⟩); clear ho5 hb5)
          | (go_at_call 50; refine (alBefore_c _ _ R M w5 HI5.out HM5.out (by omega) hml).mono ?_; rw [HBT.out]; rintro e w6 ⟨rfl, hb6⟩; have hz6 := hb6.size; have HI6 := hide ((HI5.out.below hb6 (Nat.le_refl _)).mono hz6); have HM6 := hide ((HM5.out.below hb6 (Nat.le_refl _)).mono hz6); have HW6 := hide (show w2.heap.size ≤ w6.heap.size ∧ Below w2.heap.size w2 w6 from ⟨Nat.le_trans HW5.out.1 hz6, HW5.out.2.trans (hb6.mono HW5.out.1)⟩); clear hb6))
        go_roundw
        case rel => exact ⟨k + 1, by omega, by go_num, hide (by rw [HNK.out]; first | exact HM6.out | exact HI6.out), HW6⟩
        case measure => (simp [intOf] <;> omega)
    · have hlt' : ¬ ((k : Int) < (A.length : Int)) := by omega
      have hke : k = A.length := by omega
      rw [hke] at HI hml
      go_wp2_with (go_at_call 51; refine (l1Own_c _ _ _ HI.out (by omega)).mono ?_; rintro e w7 ⟨v7, rfl, ho7, hb7⟩; have HO7 := hide (ho7.mono (show w.heap.size ≤ wr.heap.size by omega)); have HB7 := hide (HB2.out.trans (HW.out.2.mono (by omega)) |>.trans (hb7.mono (by omega))); clear ho7 hb7)
      go_ret
      exact ⟨_, rfl, HO7.out, HB7.out⟩
end Go.Proofs.YtcokdhmccokkiaaDoor
/- Contracts: lists of numbers compared, families compared. -/
namespace Go.Proofs.YtcokdhmccokkiaaDoor
open Go.RowKit
set_option maxRecDepth 100000
set_option linter.unusedSimpArgs false
def cmpI (x y : Int) : Int := if x < y then -1 else if y < x then 1 else 0
def lcI : List Int → List Int → Int
  | [], [] => 0
  | [], _ :: _ => -1
  | _ :: _, [] => 1
  | x :: xs, y :: ys => if x = y then lcI xs ys else cmpI x y
theorem lcI_neg : ∀ A B, decide (lcI A B < 0) = lexB A B
  | [], [] => rfl
  | [], y :: ys => by simp [lcI, lexB]
  | x :: xs, [] => rfl
  | x :: xs, y :: ys => by
    unfold lcI lexB
    by_cases e : x = y
    · rw [if_pos e, if_pos e]; exact lcI_neg xs ys
    · rw [if_neg e, if_neg e]
      unfold cmpI
      by_cases h : x < y
      · rw [if_pos h, decide_eq_true h]; rfl
      · rw [if_neg h, if_pos (by omega), decide_eq_false h]; rfl
theorem lcI_drop {A B : List Int} {k : Nat} (hA : k < A.length) (hB : k < B.length) :
    lcI (A.drop k) (B.drop k) = if A[k]?.getD 0 = B[k]?.getD 0 then lcI (A.drop (k + 1)) (B.drop (k + 1)) else cmpI (A[k]?.getD 0) (B[k]?.getD 0) := by
  rw [List.drop_eq_getElem_cons hA, List.drop_eq_getElem_cons hB, List.getElem?_eq_getElem hA, List.getElem?_eq_getElem hB]
  rfl
theorem lcI_endB {A B : List Int} {k : Nat} (hA : k < A.length) (hB : B.length ≤ k) : lcI (A.drop k) (B.drop k) = 1 := by
  rw [List.drop_eq_getElem_cons hA, List.drop_of_length_le hB]
  rfl
theorem lcI_endA {A B : List Int} {k : Nat} (hA : A.length ≤ k) (hB : k ≤ B.length) (hk : k = A.length) : lcI (A.drop k) (B.drop k) = if A.length < B.length then -1 else 0 := by
  rw [List.drop_of_length_le hA]
  by_cases h : A.length < B.length
  · rw [if_pos h, List.drop_eq_getElem_cons (show k < B.length by omega)]
    rfl
  · rw [if_neg h, List.drop_of_length_le (show B.length ≤ k by omega)]
    rfl
attribute [local irreducible] p2 low memB risB famAt own
theorem isNaN_c (x : Int) (w : World) : Calls Tryd.prog 109 #[.int .i64 x] w fun e w' => e = .returned (.bool false) ∧ w = w' := by
  go_enter Tryd.func109, Tryd.ntmps109
  go_wp2
  go_ret
  exact ⟨ret_b (by simp), rfl⟩
theorem cmp_c (x y : Int) (w : World) : Calls Tryd.prog 96 #[.int .i64 x, .int .i64 y] w fun e w' => e = .returned (.int .i64 (cmpI x y)) ∧ w = w' := by
  by_cases h1 : x < y
  · rw [show cmpI x y = -1 by unfold cmpI; rw [if_pos h1]]
    go_enter Tryd.func96, Tryd.ntmps96
    go_wp2_with (go_at_call 109; refine (isNaN_c _ _).mono ?_; rintro e w' ⟨rfl, rfl⟩)
    go_ret
    exact ⟨rfl, rfl⟩
  · by_cases h2 : y < x
    · rw [show cmpI x y = 1 by unfold cmpI; rw [if_neg h1, if_pos h2]]
      go_enter Tryd.func96, Tryd.ntmps96
      go_wp2_with (go_at_call 109; refine (isNaN_c _ _).mono ?_; rintro e w' ⟨rfl, rfl⟩)
      go_ret
      exact ⟨rfl, rfl⟩
    · rw [show cmpI x y = 0 by unfold cmpI; rw [if_neg h1, if_neg h2]]
      go_enter Tryd.func96, Tryd.ntmps96
      go_wp2_with (go_at_call 109; refine (isNaN_c _ _).mono ?_; rintro e w' ⟨rfl, rfl⟩)
      go_ret
      exact ⟨rfl, rfl⟩
set_option maxHeartbeats 2000000 in
theorem compareL_c (u v : Value) (A B : List Int) (w : World) (hA : ints w.heap.size w u A) (hB : ints w.heap.size w v B) (hAl : A.length < 1000000000) (_ : B.length < 1000000000) :
    Calls Tryd.prog 77 #[u, v] w fun e w' => e = .returned (.int .i64 (lcI A B)) ∧ Below w.heap.size w w' := by
  have HA := hide hA
  have HB := hide hB
  have HL0 := hide (show lcI A B = lcI (A.drop 0) (B.drop 0) by rw [List.drop_zero, List.drop_zero])
  clear hA hB
  go_enter Tryd.func77, Tryd.ntmps77
  go_wp2_with (refine wpList_len sliceT rfl (.tmp _) rfl u rfl w.heap.size A HA.out ?_)
  go_loopw [11] (fun i wr => ∃ k : Nat, k ≤ A.length ∧ k ≤ B.length ∧ i = .int .i64 (k : Int) ∧ Hid (lcI A B = lcI (A.drop k) (B.drop k)) ∧ Hid (Below w.heap.size w wr)) (fun i _ => A.length - (intOf i).toNat)
  case atStart => exact ⟨0, Nat.zero_le _, Nat.zero_le _, rfl, HL0, Below.refl _ _⟩
  case round =>
    obtain ⟨k, hk, hkB, rfl, HE, HW⟩ := hrel
    have HAW := hide (HA.out.below HW.out (Nat.le_refl _))
    have HBW := hide (HB.out.below HW.out (Nat.le_refl _))
    have hsz := HW.out.size
    by_cases hlt : k < A.length
    · have hlt' : (k : Int) < (A.length : Int) := by omega
      by_cases hlt2 : k < B.length
      · have hlt2' : ¬ ((B.length : Int) ≤ (k : Int)) := by omega
        have HDR := hide (lcI_drop hlt hlt2)
        generalize hxx : A[k]?.getD 0 = x at *
        generalize hyy : B[k]?.getD 0 = y at *
        have HXX := hide hxx
        have HYY := hide hyy
        clear hxx hyy
        by_cases he : x = y
        · have HN := hide (show lcI A B = lcI (A.drop (k + 1)) (B.drop (k + 1)) by rw [HE.out, HDR.out, if_pos he])
          have HC := hide (show cmpI x y = 0 by unfold cmpI; rw [if_neg (by omega), if_neg (by omega)])
          clear he
          go_wp2_with (first
            | (refine wpList_at sliceT intS rfl (.tmp 9) (.tmp _) rfl _ rfl k rfl w.heap.size A HAW.out hlt ?_; intro ad hcell hblk; rw [HXX.out] at hcell)
            | (refine wpList_len sliceT rfl (.tmp _) rfl v rfl w.heap.size B HBW.out ?_)
            | (refine wpList_at sliceT intS rfl (.tmp 20) (.tmp _) rfl _ rfl k rfl w.heap.size B HBW.out hlt2 ?_; intro ad2 hcell2 hblk2; rw [HYY.out] at hcell2)
            | (go_at_call 96; refine (cmp_c x y _).mono ?_; rw [HC.out]; rintro e w' ⟨rfl, rfl⟩))
          go_roundw
          case rel => exact ⟨k + 1, by omega, by omega, by go_num, HN, HW⟩
          case measure => (simp [intOf] <;> omega)
        · have HN := hide (show lcI A B = cmpI x y by rw [HE.out, HDR.out, if_neg he])
          have hne : ((cmpI x y) != 0) = true := by unfold cmpI; by_cases h : x < y; (rw [if_pos h]; rfl); (rw [if_neg h, if_pos (by omega)]; rfl)
          clear he HDR
          generalize hC : cmpI x y = c at HN hne
          have HC := hide hC
          clear hC
          go_wp2_with (first
            | (refine wpList_at sliceT intS rfl (.tmp 9) (.tmp _) rfl _ rfl k rfl w.heap.size A HAW.out hlt ?_; intro ad hcell hblk; rw [HXX.out] at hcell)
            | (refine wpList_len sliceT rfl (.tmp _) rfl v rfl w.heap.size B HBW.out ?_)
            | (refine wpList_at sliceT intS rfl (.tmp 20) (.tmp _) rfl _ rfl k rfl w.heap.size B HBW.out hlt2 ?_; intro ad2 hcell2 hblk2; rw [HYY.out] at hcell2)
            | (go_at_call 96; refine (cmp_c x y _).mono ?_; rw [HC.out]; rintro e w' ⟨rfl, rfl⟩))
          go_ret
          exact ⟨ret_i (by rw [HN.out]), HW.out⟩
      · have hlt2' : (B.length : Int) ≤ (k : Int) := by omega
        have HN := hide (show lcI A B = 1 by rw [HE.out, lcI_endB hlt (by omega)])
        go_wp2_with (first
          | (refine wpList_at sliceT intS rfl (.tmp 9) (.tmp _) rfl _ rfl k rfl w.heap.size A HAW.out hlt ?_; intro ad hcell hblk)
          | (refine wpList_len sliceT rfl (.tmp _) rfl v rfl w.heap.size B HBW.out ?_))
        go_ret
        exact ⟨ret_i (by rw [HN.out]), HW.out⟩
    · have hlt' : ¬ ((k : Int) < (A.length : Int)) := by omega
      have HN := hide (show lcI A B = if A.length < B.length then -1 else 0 by rw [HE.out, lcI_endA (by omega) hkB (by omega)])
      by_cases hl : A.length < B.length
      · have hl' : (A.length : Int) < (B.length : Int) := by omega
        have HN1 := hide (HN.out.trans (if_pos hl))
        go_wp2_with (first
          | (refine wpList_len sliceT rfl (.tmp 31) rfl u rfl w.heap.size A HAW.out ?_)
          | (refine wpList_len sliceT rfl (.tmp 33) rfl v rfl w.heap.size B HBW.out ?_))
        go_ret
        exact ⟨ret_i (by rw [HN1.out]), HW.out⟩
      · have hl' : ¬ ((A.length : Int) < (B.length : Int)) := by omega
        have HN1 := hide (HN.out.trans (if_neg hl))
        go_wp2_with (first
          | (refine wpList_len sliceT rfl (.tmp 31) rfl u rfl w.heap.size A HAW.out ?_)
          | (refine wpList_len sliceT rfl (.tmp 33) rfl v rfl w.heap.size B HBW.out ?_))
        go_ret
        exact ⟨ret_i (by rw [HN1.out]), HW.out⟩
theorem ent_setsH : enters Tryd.prog 55 := enters_of Tryd.func55 (by kernel_rfl) (by kernel_rfl)
theorem ent_compareH : enters Tryd.prog 77 := enters_of Tryd.func77 (by kernel_rfl) (by kernel_rfl)
theorem ent_compareFamilies : enters Tryd.prog 54 := enters_of Tryd.func54 (by kernel_rfl) (by kernel_rfl)
def cfI (F G : Nat → Bool) : Int := lcI (setsTo F 128) (setsTo G 128)
set_option maxHeartbeats 2000000 in
theorem compareFamilies_c (m : Int) (F G : Nat → Bool) (w : World) :
    Calls Tryd.prog 54 #[.agg (fam m F), .agg (fam m G)] w fun e w' => e = .returned (.int .i64 (cfI F G)) ∧ Below w.heap.size w w' := by
  have HF := hide ((famAt.new 53 w m F).alloc (.cells (fam m G) 53))
  have HG := hide (show famAt 53 ((w.alloc (.cells (fam m F) 53)).alloc (.cells (fam m G) 53)) (w.heap.size + 1) m G by have h := famAt.new 53 (w.alloc (.cells (fam m F) 53)) m G; simpa using h)
  have H0 := hide (((Below.refl w.heap.size w).alloc (Nat.le_refl _) (.cells (fam m F) 53)).alloc (by simp) (.cells (fam m G) 53))
  have HZ := hide (show ((w.alloc (.cells (fam m F) 53)).alloc (.cells (fam m G) 53)).heap.size = w.heap.size + 2 by simp)
  have HD := hide (show cfI F G = lcI (setsTo F 128) (setsTo G 128) from rfl)
  have hA := setsTo_len F 128
  have hB := setsTo_len G 128
  go_enter Tryd.func54, Tryd.ntmps54
  go_wp2_with fail
  generalize ((w.alloc (.cells (fam m F) 53)).alloc (.cells (fam m G) 53)) = W at HF HG H0 HZ ⊢
  have HSF := hide (fun w1 => sets_c m F w1)
  have HSG := hide (fun w1 => sets_c m G w1)
  generalize setsTo F 128 = A at HD hA HSF
  generalize setsTo G 128 = B at HD hB HSG
  refine wp_region_held (S := Below W.heap.size W) (by kernel_rfl) ?_
  have hS : Below W.heap.size W { W with drawn := W.drawn + 1 } := (Below.refl _ _).drew
  refine wpAnyH_take (i := 0) rfl (by kernel_rfl) (by kernel_rfl) (by kernel_rfl) (fun _ _ _ h => h) (yields_load_fam rowT sizeT rfl (.tmp _) rfl w.heap.size rfl m F (fun w' h => HF.out.below h (by rw [HZ.out]; omega))) hS ?_
  simp only [Act.put, List.getElem_toArray, List.getElem_cons_zero, List.getElem_cons_succ, List.setIfInBounds_toArray, List.set_cons_zero, List.set_cons_succ]
  refine wpAnyH_take (i := 2) rfl (by kernel_rfl) (by kernel_rfl) (by kernel_rfl) (fun _ _ _ h => h) (yields_load_fam rowT sizeT rfl (.tmp _) rfl (w.heap.size + 1) rfl m G (fun w' h => HG.out.below h (by rw [HZ.out]; omega))) hS ?_
  simp only [Act.put, List.getElem_toArray, List.getElem_cons_zero, List.getElem_cons_succ, List.setIfInBounds_toArray, List.set_cons_zero, List.set_cons_succ]
  refine anyH_call (i := 1) (by kernel_rfl) rfl rfl 55 ent_setsH _ _ rfl #[.agg (fam m F)] rfl (HSF.out _) ?_
  rintro e w5 ⟨v5, rfl, ho5, hb5⟩
  have hS5 : Below W.heap.size W w5 := hS.trans (hb5.mono hS.size)
  refine ⟨_, rfl, hS5, ?_⟩
  simp only [Act.put, List.getElem_toArray, List.getElem_cons_zero, List.getElem_cons_succ, List.setIfInBounds_toArray, List.set_cons_zero, List.set_cons_succ]
  refine anyH_call (i := 3) (by kernel_rfl) rfl rfl 55 ent_setsH _ _ rfl #[.agg (fam m G)] rfl (HSG.out _) ?_
  rintro e w6 ⟨v6, rfl, ho6, hb6⟩
  have hS6 : Below W.heap.size W w6 := hS5.trans (hb6.mono hS5.size)
  refine ⟨_, rfl, hS6, ?_⟩
  simp only [Act.put, List.getElem_toArray, List.getElem_cons_zero, List.getElem_cons_succ, List.setIfInBounds_toArray, List.set_cons_zero, List.set_cons_succ]
  refine anyH_call (i := 4) (by kernel_rfl) rfl rfl 77 ent_compareH _ _ rfl #[v5, v6] rfl (compareL_c v5 v6 A B w6 ((ho5.ints.below hb6 (Nat.le_refl _)).mono hb6.size) ho6.ints (by omega) (by omega)) ?_
  rintro e w7 ⟨rfl, hb7⟩
  have hS7 : Below W.heap.size W w7 := hS6.trans (hb7.mono hS6.size)
  refine ⟨_, rfl, hS7, ?_⟩
  simp only [Act.put, List.getElem_toArray, List.getElem_cons_zero, List.getElem_cons_succ, List.setIfInBounds_toArray, List.set_cons_zero, List.set_cons_succ]
  refine anyH_op (i := 5) (by kernel_rfl) rfl rfl (.int .i64 (lcI A B)) w7 (by simp [go_sem]) hS7 ?_
  refine wpAnyH_done (by kernel_rfl) ?_ _
  simp only [Act.put, List.getElem_toArray, List.getElem_cons_zero, List.getElem_cons_succ, List.setIfInBounds_toArray, List.set_cons_zero, List.set_cons_succ]
  have HB7 := hide (H0.out.trans (hS7.mono (by rw [HZ.out]; omega)))
  clear hS hS5 hS6 hS7 hb5 hb6 hb7 ho5 ho6
  go_wp2
  go_ret
  exact ⟨ret_i (by rw [HD.out]), HB7.out⟩
/-- The first of families. -/
def mnF (Fs : List (Nat → Bool)) : Nat → (Nat → Bool)
  | 0 => Fs[0]?.getD noSet
  | k + 1 => if cfI (Fs[k + 1]?.getD noSet) (mnF Fs k) < 0 then Fs[k + 1]?.getD noSet else mnF Fs k
theorem mnF_next (Fs : List (Nat → Bool)) (k : Nat) : mnF Fs (k + 1) = if cfI (Fs[k + 1]?.getD noSet) (mnF Fs k) < 0 then Fs[k + 1]?.getD noSet else mnF Fs k := rfl
theorem mnF_sets (Fs : List (Nat → Bool)) (f : Nat → List Int) (h : ∀ k, k < Fs.length → setsTo (Fs[k]?.getD noSet) 128 = f k) : ∀ k, k < Fs.length → setsTo (mnF Fs k) 128 = mnL (f 0) f (k + 1)
  | 0, hk => by
    rw [mnL_next, show mnL (f 0) f 0 = f 0 from rfl, lexB_irr, if_neg (by simp)]
    exact h 0 hk
  | k + 1, hk => by
    have ih := mnF_sets Fs f h k (by omega)
    have hn := lcI_neg (setsTo (Fs[k + 1]?.getD noSet) 128) (setsTo (mnF Fs k) 128)
    rw [mnF_next, mnL_next, ← ih, ← h (k + 1) hk, ← hn]
    by_cases hc : lcI (setsTo (Fs[k + 1]?.getD noSet) 128) (setsTo (mnF Fs k) 128) < 0
    · rw [if_pos (show cfI (Fs[k + 1]?.getD noSet) (mnF Fs k) < 0 from hc), if_pos (decide_eq_true hc)]
    · rw [if_neg (show ¬ cfI (Fs[k + 1]?.getD noSet) (mnF Fs k) < 0 from hc), if_neg (by rw [decide_eq_true_eq]; exact hc)]
end Go.Proofs.YtcokdhmccokkiaaDoor
/- Contracts: slices.MinFunc over families. -/
namespace Go.Proofs.YtcokdhmccokkiaaDoor
open Go.RowKit
set_option maxRecDepth 100000
set_option linter.unusedSimpArgs false
section
variable {P : Program} {md : Region.Mode} {ops : Array Oper} {Q : Exit → Act → World → Prop} {S : World → Prop} {fuel : Nat} {listed : Array Bool} {a : Act} {w : World}
theorem anyH_callN {i : Nat} {o : Oper} (hr : Region.ready md ops listed = [i]) (hi : ops[i]? = some o) (hw : Region.wanted o (yielded ops a.tmps) = true) (k : FuncId) (caps : Array Value) (hk : enters P k) (x : Operand) (xs : Array Operand) (ts : Array TypeId)
    (ho : o.op = .call { callee := .value x, args := xs, argTypes := ts }) (hx : a.eval x = .func (.func k) #[] caps) (args : Array Value) (hal : xs.toList.map a.eval = args.toList) {R : Ending → World → Prop} (hc : Calls P k (args ++ caps) w R)
    (h : ∀ e w', R e w' → ∃ v, e = .returned v ∧ S w' ∧ wpAnyH P md ops Q S fuel (listed.setIfInBounds i true) (a.put o.dst v) w') : wpAnyH P md ops Q S (fuel + 1) listed a w := by
  have ha : xs.map a.eval = args := Array.toList_inj.1 (by simpa using hal)
  refine wpAnyH_all hr (by simp) fun j hj => ?_
  have hj' : j = i := by simpa using hj
  subst hj'
  unfold wpOp
  simp only [hi, hw, if_true]
  refine .inl ?_
  have he : execOp a.eval o = callFunc k (args ++ caps) := by
    unfold execOp
    simp only [ho, resolve, hx, ha, Deferred.ofValue, pure_bind, invoke, Array.empty_append]
  unfold Oper.wp
  rw [he, hk]
  refine hc.mono fun e w' hR => ?_
  obtain ⟨v, rfl, h1, h2⟩ := h e w' hR
  exact ⟨h1, h2⟩
end
theorem exec_atF {o : Oper} {a : Act} (x y : Operand) (ho : o.op = .indexAddr 54 x y) (b of len c k : Nat) (hx : a.eval x = .slice (some ⟨b, of, none⟩) len c) (hy : a.eval y = .int .i64 (k : Int)) (hk : k < len) (w : World) :
    (execOp a.eval o).run Tryd.prog w = .ok (.value (.pointer (some ⟨b, of + k * 129, none⟩))) w := by
  have ht := fSl
  have he : Tryd.prog.underlying 54 = some (.slice (Tryd.prog.elem 54)) := by
    rw [ht]; simp [Program.elem, ht]
  have hE : Tryd.prog.elem 54 = 53 := by simp [Program.elem, ht]
  have hr : (Instr.indexAt 54 (.slice (some ⟨b, of, none⟩) len c) (.int .i64 (k : Int))).run Tryd.prog w = .ok (.pointer (some ⟨b, of + k * 129, none⟩)) w := by
    rw [run_indexAt_slice (h := he), if_pos (by omega), hE, run_sizeOf' sizeT]
    simp [Addr.add]
  unfold execOp
  simp only [ho, hx, hy, Sem.run_bind, Sem.run_pure, hr, Result.andThen_ok]
theorem fls_some {B : Nat} {w : World} {v : Value} {n : Int} {Fs : List (Nat → Bool)} (h : fls B w v n Fs) (h0 : 0 < Fs.length) :
    ∃ b o c, v = .slice (some ⟨b, o, none⟩) Fs.length c ∧ b < B ∧ b < w.heap.size ∧ ∀ k, k < Fs.length → w.rangeAt b (o + k * 129) (fam n (Fs[k]?.getD noSet)).toList := by
  rcases h with ⟨rfl, _⟩ | ⟨b, o, c, h1, h2, h3, h4⟩
  · simp at h0
  refine ⟨b, o, c, h1, h2, h3, fun k hk j y hj => ?_⟩
  have hj2 : j < 129 := by
    have := (List.getElem?_eq_some_iff.1 hj).1
    rw [Array.length_toList, fam_size] at this
    exact this
  have hq : k * 129 + j < Fs.length * 129 := by
    have : (k + 1) * 129 ≤ Fs.length * 129 := Nat.mul_le_mul_right _ hk
    omega
  rw [Nat.add_assoc, h4 _ hq, flC_get n Fs k j hk hj2, ← Array.getElem?_toList]
  exact hj
theorem yields_loadN {ops : Array Oper} {S : World → Prop} {o : Oper} {a : Act} (hw : Region.wanted o (yielded ops a.tmps) = true) (x : Operand) (ho : o.op = .load 53 x) (b f : Nat) (hx : a.eval x = .pointer (some ⟨b, f, none⟩)) (n : Int) (F : Nat → Bool)
    (hS : ∀ w, S w → w.rangeAt b f (fam n F).toList) : YieldsIf Tryd.prog ops S o (.agg (fam n F)) a := by
  obtain ⟨d, hu, hd⟩ := rowTy_of rowT
  have h := yieldsIf_load_mid hw 53 x ho b f hx (fam n F).toList d hS hu hd (by rw [Array.length_toList, fam_size]; exact sizeT)
  rwa [Array.toArray_toList] at h
theorem rangeAt_below {B : Nat} {w w' : World} {b o : Nat} {cs : List Value} (h : w.rangeAt b o cs) (hb : Below B w w') (hlt : b < B) : w'.rangeAt b o cs :=
  fun j y hj => (hb.cell (p := ⟨b, o + j, none⟩) hlt).trans (h j y hj)
attribute [local irreducible] p2 low memB risB famAt own fls
set_option maxHeartbeats 4000000 in
theorem minFuncF_c (u : Value) (n : Int) (Fs : List (Nat → Bool)) (w : World) (hch : fls w.heap.size w u n Fs) (hcl : Fs.length < 1000000000) (h0 : 0 < Fs.length) :
    Calls Tryd.prog 53 #[u, .func (.func 54) #[] #[]] w fun e w' => e = .returned (.agg (fam n (mnF Fs (Fs.length - 1)))) ∧ Below w.heap.size w w' := by
  obtain ⟨b, o, c, hu, hbB, hbw, hrg⟩ := fls_some hch h0
  subst hu
  have HCH := hide hch
  have HRG := hide hrg
  have HR0 := hide (famAt.new 53 w 0 noSet)
  have HB0 := hide ((Below.refl w.heap.size w).alloc (Nat.le_refl _) (.cells (fam 0 noSet) 53))
  have HZ0 := hide (show (w.alloc (.cells (fam 0 noSet) 53)).heap.size = w.heap.size + 1 by simp)
  have HG0 := hide (rangeAt_below (hrg 0 h0) HB0.out hbB)
  rw [Nat.zero_mul, Nat.add_zero] at HG0
  have hd0 : ¬ ((Fs.length : Int) < 1) := by omega
  have HM0 := hide (show mnF Fs 0 = Fs[0]?.getD noSet from rfl)
  generalize Fs[0]?.getD noSet = F0 at HG0 HM0
  have HMN := hide (mnF_next Fs)
  have HB1 := hide (fun F => bl_row (HB0.out.alloc (by rw [HZ0.out]; omega) (.cells (fam 0 noSet) 53)) (show w.heap.size ≤ w.heap.size + 1 by omega) (fam n F))
  have HR1 := hide (fun F => (HR0.out.alloc (.cells (fam 0 noSet) 53)).rowO (w.heap.size + 1) (by omega) (fam n F))
  have HN1 := hide (show famAt 53 ((w.alloc (.cells (fam 0 noSet) 53)).alloc (.cells (fam 0 noSet) 53)) (w.heap.size + 1) 0 noSet by have h := famAt.new 53 (w.alloc (.cells (fam 0 noSet) 53)) 0 noSet; simpa using h)
  have HX1 := hide (fun F => HN1.out.row n F)
  clear hch hrg
  go_enter Tryd.func53, Tryd.ntmps53
  go_wp2_with (first
    | (refine wpList_alloc_fam zeroT rfl rfl _ (by first | (simp only [World.size_alloc]; rfl) | rfl) ?_)
    | (refine wpList_lenF rfl (.tmp _) rfl _ rfl Fs.length ⟨_, _, rfl⟩ ?_)
    | (refine wpList_loadF rfl (.tmp 12) rfl b o rfl n F0 HG0.out ?_)
    | (refine wpList_store_fam sizeT rfl (.tmp 5) (.tmp _) rfl (w.heap.size + 1) _ _ rfl rfl _ _ HN1.out ?_))
  go_loopw [6] (fun iv wr => ∃ k j : Nat, Hid (j = k + 1) ∧ j ≤ Fs.length ∧ iv = .int .i64 (j : Int) ∧ Hid (famAt 53 wr (w.heap.size + 1) n (mnF Fs k)) ∧ Hid (famAt 53 wr w.heap.size 0 noSet) ∧ Hid (Below w.heap.size w wr)) (fun iv _ => Fs.length - (intOf iv).toNat)
  case atStart => exact ⟨0, 1, rfl, by omega, rfl, hide (by rw [HM0.out]; exact HX1.out _), HR1.out _, HB1.out _⟩
  case round =>
    obtain ⟨k, j, HJ, hj, rfl, HC, HRR, HB⟩ := hrel
    have hsz := HC.out.lt
    by_cases hlt : j < Fs.length
    · have hlt' : (j : Int) < (Fs.length : Int) := by omega
      have HG := hide (rangeAt_below (HRG.out j hlt) HB.out hbB)
      have HFL := hide (HCH.out.below HB.out (Nat.le_refl _))
      have HNX := hide (show mnF Fs (k + 1) = if cfI (Fs[j]?.getD noSet) (mnF Fs k) < 0 then Fs[j]?.getD noSet else mnF Fs k by rw [HJ.out]; exact HMN.out k)
      generalize hF : Fs[j]?.getD noSet = F at HG HNX
      have HF := hide hF
      clear hF
      generalize mnF Fs k = M at HC HNX
      go_wp2_with (refine wpList_lenF rfl (.tmp _) rfl _ rfl Fs.length ⟨_, _, rfl⟩ ?_)
      refine wp_region_held (S := Below wr.heap.size wr) (by kernel_rfl) ?_
      have hS : Below wr.heap.size wr { wr with drawn := wr.drawn + 1 } := (Below.refl _ _).drew
      refine wpAnyH_take (i := 0) (v := .func (.func 54) #[] #[]) rfl (by kernel_rfl) (by kernel_rfl) (by kernel_rfl) (fun _ _ _ h => h) (.inl ⟨rfl, fun w' _ => by go_simp⟩) hS ?_
      simp only [Act.put, List.getElem_toArray, List.getElem_cons_zero, List.getElem_cons_succ, List.setIfInBounds_toArray, List.set_cons_zero, List.set_cons_succ]
      refine wpAnyH_take (i := 1) (v := .slice (some ⟨b, o, none⟩) Fs.length c) rfl (by kernel_rfl) (by kernel_rfl) (by kernel_rfl) (fun _ _ _ h => h) (.inl ⟨rfl, fun w' _ => by go_simp⟩) hS ?_
      simp only [Act.put, List.getElem_toArray, List.getElem_cons_zero, List.getElem_cons_succ, List.setIfInBounds_toArray, List.set_cons_zero, List.set_cons_succ]
      refine wpAnyH_take (i := 2) (v := .int .i64 (j : Int)) rfl (by kernel_rfl) (by kernel_rfl) (by kernel_rfl) (fun _ _ _ h => h) (.inl ⟨rfl, fun w' _ => by go_simp⟩) hS ?_
      simp only [Act.put, List.getElem_toArray, List.getElem_cons_zero, List.getElem_cons_succ, List.setIfInBounds_toArray, List.set_cons_zero, List.set_cons_succ]
      refine wpAnyH_take (i := 3) (v := .pointer (some ⟨b, o + j * 129, none⟩)) rfl (by kernel_rfl) (by kernel_rfl) (by kernel_rfl) (fun _ _ _ h => h) (.inl ⟨rfl, fun w' _ => exec_atF _ _ rfl b o Fs.length c j rfl rfl hlt w'⟩) hS ?_
      simp only [Act.put, List.getElem_toArray, List.getElem_cons_zero, List.getElem_cons_succ, List.setIfInBounds_toArray, List.set_cons_zero, List.set_cons_succ]
      refine wpAnyH_take (i := 4) rfl (by kernel_rfl) (by kernel_rfl) (by kernel_rfl) (fun _ _ _ h => h) (yields_loadN rfl (.tmp _) rfl b (o + j * 129) rfl n F (fun w' h => rangeAt_below HG.out h (by omega))) hS ?_
      simp only [Act.put, List.getElem_toArray, List.getElem_cons_zero, List.getElem_cons_succ, List.setIfInBounds_toArray, List.set_cons_zero, List.set_cons_succ]
      refine wpAnyH_take (i := 5) rfl (by kernel_rfl) (by kernel_rfl) (by kernel_rfl) (fun _ _ _ h => h) (yields_load_fam rowT sizeT rfl (.tmp _) rfl (w.heap.size + 1) rfl n M (fun w' h => HC.out.below h (by omega))) hS ?_
      simp only [Act.put, List.getElem_toArray, List.getElem_cons_zero, List.getElem_cons_succ, List.setIfInBounds_toArray, List.set_cons_zero, List.set_cons_succ]
      refine anyH_callN (i := 6) (by kernel_rfl) rfl rfl 54 #[] ent_compareFamilies _ _ _ rfl rfl #[.agg (fam n F), .agg (fam n M)] rfl (compareFamilies_c n F M _) ?_
      rintro e w5 ⟨rfl, hb5⟩
      have hS5 : Below wr.heap.size wr w5 := hS.trans (hb5.mono hS.size)
      refine ⟨_, rfl, hS5, ?_⟩
      simp only [Act.put, List.getElem_toArray, List.getElem_cons_zero, List.getElem_cons_succ, List.setIfInBounds_toArray, List.set_cons_zero, List.set_cons_succ]
      refine anyH_op (i := 7) (by kernel_rfl) rfl rfl (.bool (decide (cfI F M < 0))) w5 (by simp [go_sem]) hS5 ?_
      refine wpAnyH_done (by kernel_rfl) ?_ _
      simp only [Act.put, List.getElem_toArray, List.getElem_cons_zero, List.getElem_cons_succ, List.setIfInBounds_toArray, List.set_cons_zero, List.set_cons_succ]
      have HC5 := hide (HC.out.below hS5 hsz)
      have HR5 := hide (HRR.out.below hS5 (by omega))
      have HB5 := hide (HB.out.trans (hS5.mono (by omega)))
      have HL5 := hide (HFL.out.below hS5 (by omega))
      clear hS hS5 hb5
      by_cases hc : cfI F M < 0
      · have HD := hide (decide_eq_true hc)
        have HN2 := hide (show mnF Fs (k + 1) = F by rw [HNX.out, if_pos hc])
        rw [HD.out]
        clear hc
        have HC6 := hide (HC5.out.row n F)
        have HR6 := hide (HR5.out.rowO (w.heap.size + 1) (by omega) (fam n F))
        have HB6 := hide (bl_row HB5.out (show w.heap.size ≤ w.heap.size + 1 by omega) (fam n F))
        go_wp2_with (first
          | (refine wpList_atF rfl (.tmp _) (.tmp _) rfl _ rfl j rfl w.heap.size n Fs HL5.out hlt ?_; intro b2 f2 hbx hby hrg2; rw [HF.out] at hrg2)
          | (refine wpList_loadF rfl (.tmp 30) rfl b2 f2 rfl n F hrg2 ?_)
          | (refine wpList_store_fam sizeT rfl (.tmp 5) (.tmp _) rfl (w.heap.size + 1) _ _ rfl rfl _ _ HC5.out ?_))
        go_roundw
        case rel => exact ⟨k + 1, j + 1, hide (by rw [HJ.out]), by omega, by go_num, hide (by rw [HN2.out]; exact HC6.out), HR6, HB6⟩
        case measure => (simp [intOf] <;> omega)
      · have HD := hide (decide_eq_false hc)
        have HN2 := hide (show mnF Fs (k + 1) = M by rw [HNX.out, if_neg hc])
        rw [HD.out]
        clear hc
        go_wp2
        go_roundw
        case rel => exact ⟨k + 1, j + 1, hide (by rw [HJ.out]), by omega, by go_num, hide (by rw [HN2.out]; exact HC5.out), HR5, HB5⟩
        case measure => (simp [intOf] <;> omega)
    · have hlt' : ¬ ((j : Int) < (Fs.length : Int)) := by omega
      have HKE := hide (show Fs.length - 1 = k by have := HJ.out; omega)
      generalize hM : mnF Fs k = M at HC
      have HM := hide hM
      clear hM
      go_wp2_with (first
        | (refine wpList_lenF rfl (.tmp _) rfl _ rfl Fs.length ⟨_, _, rfl⟩ ?_)
        | (refine wpList_load_fam rowT sizeT rfl (.tmp _) rfl (w.heap.size + 1) rfl n M HC.out ?_)
        | (refine wpList_store_fam sizeT rfl (.tmp 4) (.tmp _) rfl w.heap.size _ _ rfl rfl _ _ HRR.out ?_))
      refine bodyPost_ret (v := .agg (fam n M)) (results_fam rowT sizeT rfl _ _ w.heap.size rfl _ _ (HRR.out.row _ _)) rfl ⟨by rw [HKE.out, HM.out], bl_row HB.out (by omega) _⟩
end Go.Proofs.YtcokdhmccokkiaaDoor
/- Contracts: LeastNamed, both. -/
namespace Go.Proofs.YtcokdhmccokkiaaDoor
open Go.RowKit
set_option maxRecDepth 100000
set_option linter.unusedSimpArgs false
theorem nk_id (n : Nat) (h1 : 1 ≤ n) (h5 : n ≤ 5) : 0 < (nkA n).length ∧ (nkA n)[0]?.getD [] = upTo n := by
  rcases (show n = 1 ∨ n = 2 ∨ n = 3 ∨ n = 4 ∨ n = 5 by omega) with rfl | rfl | rfl | rfl | rfl <;> exact ⟨of_decide_eq_true (by kernel_rfl), by kernel_rfl⟩
theorem rnm_id (n : Nat) (h1 : 1 ≤ n) (h5 : n ≤ 5) : ∀ a, a < 2 ^ n → rnm (upTo n) n a = a := by
  rcases (show n = 1 ∨ n = 2 ∨ n = 3 ∨ n = 4 ∨ n = 5 by omega) with rfl | rfl | rfl | rfl | rfl <;> decide +kernel
theorem nkf_id {n : Nat} {l : List Int} (h : okSp (n : Int) l = true) (h1 : 1 ≤ n) (h5 : n ≤ 5) : nkf n l 0 = l := by
  unfold nkf
  rw [(nk_id n h1 h5).2, show rmF (n : Int) l (upTo n) = imgTo (marksTo l l.length) (rnm (upTo n) n) 128 by rw [img_lm h]; rfl]
  have hl := okSp_list h
  refine Eq.trans (setsTo_congr 128 fun x hx => ?_) hl.symm
  rw [Bool.eq_iff_iff, img_iff]
  have hlt := fun a ha => okSp_lt h a ha
  rw [Int.toNat_natCast] at hlt
  constructor
  · rintro ⟨a, _, ha, e⟩
    rw [rnm_id n h1 h5 a (hlt a ha)] at e
    rw [← e]; exact ha
  · intro hm
    exact ⟨x, hx, hm, rnm_id n h1 h5 x (hlt x hm)⟩
def lnN (n : Int) (l : List Int) : Int := if nkB n l then n else 0
def lnL (n : Int) (l : List Int) : List Int := if nkB n l then mnL l (nkf n.toNat l) (nkA n.toNat).length else []
theorem lnN_no {n : Int} {l : List Int} (h : nkB n l = false) : lnN n l = 0 := by unfold lnN; rw [h]; rfl
theorem lnN_yes {n : Int} {l : List Int} (h : nkB n l = true) : lnN n l = n := by unfold lnN; rw [h]; rfl
theorem lnL_no {n : Int} {l : List Int} (h : nkB n l = false) : lnL n l = [] := by unfold lnL; rw [h]; rfl
theorem lnL_yes {n : Int} {l : List Int} (h : nkB n l = true) : lnL n l = mnL l (nkf n.toNat l) (nkA n.toNat).length := by unfold lnL; rw [h]; rfl
theorem lnL_len (n : Int) (l : List Int) : (lnL n l).length < 1000000000 := by
  cases h : nkB n l
  · rw [lnL_no h]; simp
  · rw [lnL_yes h]
    unfold nkB at h
    rw [Bool.and_eq_true] at h
    have hl : l.length ≤ 128 := by rw [okSp_list h.1]; exact setsTo_len _ 128
    exact mnL_len (by omega) (fun j => by unfold nkf; have := setsTo_len (rmF (n.toNat : Int) l ((nkA n.toNat)[j]?.getD [])) 128; omega) _
/-- The program's families are the specification's lists. -/
theorem ln_sets {m : Nat} {l : List Int} (h : okSp (m : Int) l = true) (h1 : 1 ≤ m) (h5 : m ≤ 5) :
    setsTo (mnF ((nkA m).map fun nm => imgTo (marksTo l l.length) (rnm nm m) 128) (((nkA m).map fun nm => imgTo (marksTo l l.length) (rnm nm m) 128).length - 1)) 128 = mnL l (nkf m l) (nkA m).length := by
  have h0 := (nk_id m h1 h5).1
  have hid := nkf_id h h1 h5
  rw [mnF_sets _ (nkf m l) (fun k hk => by
    rw [List.length_map] at hk
    rw [List.getElem?_map, List.getElem?_eq_getElem hk]
    unfold nkf
    rw [List.getElem?_eq_getElem hk]
    show setsTo (imgTo (marksTo l l.length) (rnm (nkA m)[k] m) 128) 128 = setsTo (rmF (m : Int) l (nkA m)[k]) 128
    rw [img_lm h]
    rfl) _ (by rw [List.length_map]; omega), List.length_map, show (nkA m).length - 1 + 1 = (nkA m).length by omega, hid]
attribute [local irreducible] p2 low memB risB famAt own fls
set_option maxHeartbeats 2000000 in
theorem leastNamed_c (m : Nat) (F : Nat → Bool) (w : World) (h1 : 1 ≤ m) (h5 : m ≤ 5) (hT : tab w) :
    Calls Tryd.prog 37 #[.agg (fam (m : Int) F)] w fun e w' => e = .returned (.agg (fam (m : Int) (mnF ((nkA m).map fun nm => imgTo F (rnm nm m) 128) (((nkA m).map fun nm => imgTo F (rnm nm m) 128).length - 1)))) ∧ Below w.heap.size w w' := by
  have HF := hide ((famAt.new 53 w (m : Int) F).alloc (.cells (fam 0 noSet) 53))
  have HR := hide (show famAt 53 ((w.alloc (.cells (fam (m : Int) F) 53)).alloc (.cells (fam 0 noSet) 53)) (w.heap.size + 1) 0 noSet by have h := famAt.new 53 (w.alloc (.cells (fam (m : Int) F) 53)) 0 noSet; simpa using h)
  have H0 := hide (((Below.refl w.heap.size w).alloc (Nat.le_refl _) (.cells (fam (m : Int) F) 53)).alloc (by simp) (.cells (fam 0 noSet) 53))
  have HZ := hide (show ((w.alloc (.cells (fam (m : Int) F) 53)).alloc (.cells (fam 0 noSet) 53)).heap.size = w.heap.size + 2 by simp)
  have HT := hide (hT.below H0.out)
  have HA := hide (fun w1 (h : tab w1) => allRenamed_c m F w1 h1 h5 h)
  have hn := nk_len m h1 h5
  have h0 := (nk_id m h1 h5).1
  have hml : ((nkA m).map fun nm => imgTo F (rnm nm m) 128).length = (nkA m).length := List.length_map _
  rw [← hml] at hn h0
  clear hml
  generalize ((nkA m).map fun nm => imgTo F (rnm nm m) 128) = Fs at HA hn h0 ⊢
  clear hT
  go_enter Tryd.func37, Tryd.ntmps37
  go_wp2_with (first
    | (refine wpList_alloc_fam zeroT rfl rfl _ (by first | (simp only [World.size_alloc]; rfl) | rfl) ?_)
    | (refine wpList_load_fam rowT sizeT rfl (.tmp _) rfl w.heap.size rfl (m : Int) F HF.out ?_)
    | (go_at_call 41; refine (HA.out _ HT.out).mono ?_; rintro e w2 ⟨v2, rfl, ho2, hb2⟩; have hz2 := hb2.size; rw [HZ.out] at hz2; have HR2 := hide (HR.out.below hb2 (by rw [HZ.out]; omega)); have HL2 := hide ho2.fls; have HB2 := hide (H0.out.trans (hb2.mono (by rw [HZ.out]; omega))); clear ho2 hb2)
    | (go_at_call 53; refine (minFuncF_c _ (m : Int) Fs w2 HL2.out (by omega) h0).mono ?_; rintro e w3 ⟨rfl, hb3⟩; have HR3 := hide (HR2.out.below hb3 (by omega)); have HB3 := hide (HB2.out.trans (hb3.mono (by omega))); clear hb3)
    | (refine wpList_store_fam sizeT rfl (.tmp _) (.tmp _) rfl (w.heap.size + 1) _ _ rfl rfl _ _ HR3.out ?_))
  exact bodyPost_ret (v := .agg (fam (m : Int) (mnF Fs (Fs.length - 1)))) (results_fam rowT sizeT rfl _ _ (w.heap.size + 1) rfl _ _ (HR3.out.row _ _)) rfl ⟨rfl, bl_row HB3.out (by omega) _⟩
set_option maxHeartbeats 4000000 in
theorem implLeastNamed_c (n : Int) (v : Value) (l : List Int) (w : World) (hl : ints w.heap.size w v l) (hlen : l.length < 1000000000) (hT : tab w) :
    Calls Tryd.prog 13 #[.agg #[.int .i64 n, v]] w fun e w' => ∃ v', e = .returned (.tuple #[.agg #[.int .i64 (lnN n l), v'], .bool (nkB n l)]) ∧ own 3 w' w.heap.size v' (lnL n l) ∧ Below w.heap.size w w' := by
  have hr0 : ((w.alloc (.cells #[.int .i64 n, v] 29)).alloc (.cells #[.int .i64 0, .slice none 0 0] 29)).heap[w.heap.size + 1]? = some (.cells #[.int .i64 0, .slice none 0 0] 29) := by have := hp_last (w.alloc (.cells #[.int .i64 n, v] 29)) (.cells #[.int .i64 0, .slice none 0 0] 29); simpa using this
  have H0 := hide (((Below.refl w.heap.size w).alloc (Nat.le_refl _) (.cells #[.int .i64 n, v] 29)).alloc (by simp) (.cells #[.int .i64 0, .slice none 0 0] 29))
  have HZ0 := hide (show ((w.alloc (.cells #[.int .i64 n, v] 29)).alloc (.cells #[.int .i64 0, .slice none 0 0] 29)).heap.size = w.heap.size + 2 by simp)
  have HL0 := hide (((hl.alloc (.cells #[.int .i64 n, v] 29)).alloc (.cells #[.int .i64 0, .slice none 0 0] 29)).mono (show w.heap.size ≤ ((w.alloc (.cells #[.int .i64 n, v] 29)).alloc (.cells #[.int .i64 0, .slice none 0 0] 29)).heap.size by rw [HZ0.out]; omega))
  have HR0 := hide hr0
  have HT := hide hT
  have HSM := hide (smallFamily_c n v l _ HL0.out hlen)
  clear hl hr0 hT
  cases hB : nkB n l
  · rw [nkV_no hB] at HSM
    rw [lnN_no hB, lnL_no hB]
    clear hB
    go_enter Tryd.func13, Tryd.ntmps13
    go_wp2_with (first
      | (go_at_call 36; refine HSM.out.mono ?_; rintro e w1 ⟨rfl, hb1⟩; have hz1 : w.heap.size + 2 ≤ w1.heap.size := (by have := hb1.size; rw [HZ0.out] at this; exact this); have hr1 : ((w1.alloc (.cells (fam 0 noSet) 53)).setRow w1.heap.size (fam 0 noSet)).heap[w.heap.size + 1]? = some (.cells #[.int .i64 0, .slice none 0 0] 29) := (hp_rowO _ _ _ _ (by omega)).trans ((hp_old _ _ _ (by omega)).trans ((hb1.block (w.heap.size + 1) (by rw [HZ0.out]; omega)).trans HR0.out)); obtain ⟨q0, q1, q2, q3⟩ := zero_slots hr1; have HB2 := hide (bl_row ((H0.out.trans (hb1.mono (by rw [HZ0.out]; omega))).alloc (by omega) (.cells (fam 0 noSet) 53)) (show w.heap.size ≤ w1.heap.size by omega) (fam 0 noSet)); clear hb1 hr1)
      | (refine wpList_alloc_fam zeroT rfl rfl _ (by first | (simp only [World.size_alloc]; rfl) | rfl) ?_)
      | (refine wpList_store_fam sizeT rfl (.tmp _) (.tmp _) rfl _ _ _ rfl rfl _ _ (famAt.new _ _ _ _) ?_))
    refine bodyPost_ret (v := .tuple #[.agg #[.int .i64 0, .slice none 0 0], .bool false]) (by simp [results, Tryd.results13, go_sem, q0, q1]) rfl ⟨_, rfl, own_nil _ _ _, ?_⟩
    exact (HB2.out.setCell (by show w.heap.size ≤ w.heap.size + 1; omega) _).setCell (by show w.heap.size ≤ w.heap.size + 1; omega) _
  · rw [nkV_yes hB] at HSM
    rw [lnN_yes hB, lnL_yes hB]
    unfold nkB at hB
    rw [Bool.and_eq_true, decide_eq_true_eq] at hB
    have hn := okSp_n hB.1
    obtain ⟨m, rfl⟩ := Int.eq_ofNat_of_zero_le (show 0 ≤ n by omega)
    have hm1 : 1 ≤ m := by omega
    have hm5 : m ≤ 5 := by omega
    have HSE := hide (ln_sets hB.1 hm1 hm5)
    have HLN := hide (fun w1 (h : tab w1) => leastNamed_c m (marksTo l l.length) w1 hm1 hm5 h)
    rw [Int.toNat_natCast]
    rw [← HSE.out]
    generalize mnF ((nkA m).map fun nm => imgTo (marksTo l l.length) (rnm nm m) 128) (((nkA m).map fun nm => imgTo (marksTo l l.length) (rnm nm m) 128).length - 1) = RF at HLN ⊢
    generalize marksTo l l.length = M at HSM HLN
    clear hB hn HSE
    go_enter Tryd.func13, Tryd.ntmps13
    go_wp2_with (first
      | (go_at_call 36; refine HSM.out.mono ?_; rintro e w1 ⟨rfl, hb1⟩; have hz1 : w.heap.size + 2 ≤ w1.heap.size := (by have := hb1.size; rw [HZ0.out] at this; exact this); have hrx : ((w1.alloc (.cells (fam 0 noSet) 53)).setRow w1.heap.size (fam (m : Int) M)).heap[w.heap.size + 1]? = some (.cells #[.int .i64 0, .slice none 0 0] 29) := (hp_rowO _ _ _ _ (by omega)).trans ((hp_old _ _ _ (by omega)).trans ((hb1.block (w.heap.size + 1) (by rw [HZ0.out]; omega)).trans HR0.out)); have HRX := hide hrx; clear hrx; have HB2 := hide (bl_row ((H0.out.trans (hb1.mono (by rw [HZ0.out]; omega))).alloc (by omega) (.cells (fam 0 noSet) 53)) (show w.heap.size ≤ w1.heap.size by omega) (fam (m : Int) M)); have HH := hide ((famAt.new 53 w1 0 noSet).row (m : Int) M); have HZX := hide (show ((w1.alloc (.cells (fam 0 noSet) 53)).setRow w1.heap.size (fam (m : Int) M)).heap.size = w1.heap.size + 1 by simp [World.setRow]); have HT2 := hide (HT.out.below HB2.out); clear hb1)
      | (refine wpList_alloc_fam zeroT rfl rfl _ (by first | (simp only [World.size_alloc]; rfl) | rfl) ?_)
      | (refine wpList_store_fam sizeT rfl (.tmp _) (.tmp _) rfl _ _ _ rfl rfl _ _ (famAt.new _ _ _ _) ?_)
      | (refine wpList_load_fam rowT sizeT rfl (.tmp _) rfl w1.heap.size rfl (m : Int) M HH.out ?_)
      | (go_at_call 37; refine (HLN.out _ HT2.out).mono ?_; rintro e w2 ⟨rfl, hb2⟩; have hz2 : w1.heap.size + 1 ≤ w2.heap.size := (by have := hb2.size; rw [HZX.out] at this; exact this); have HR2 := hide ((hb2.block (w.heap.size + 1) (by rw [HZX.out]; omega)).trans HRX.out); have HB3 := hide (HB2.out.trans (hb2.mono (by rw [HZX.out]; omega))); clear hb2)
      | (go_at_call 38; refine (space_c (m : Int) RF _).mono ?_; rintro e w3 ⟨v3, rfl, ho3, hb3⟩; obtain ⟨aa, cc, hv⟩ := ho3.shape; subst hv; have HO3 := hide ho3; have hr3 := (hb3.block (w.heap.size + 1) (by omega)).trans HR2.out; obtain ⟨q0, q1, q2, q3⟩ := zero_slots hr3; have HB4 := hide (HB3.out.trans (hb3.mono (by omega))); clear hb3 hr3 ho3))
    refine bodyPost_ret (v := .tuple #[.agg #[.int .i64 (m : Int), .slice aa (setsTo RF 128).length cc], .bool true]) (by simp [results, Tryd.results13, go_sem, q0, q1]) rfl ⟨_, rfl, ?_, ?_⟩
    · have hfin := ((HO3.out.setLow ⟨w.heap.size + 1, 0, none⟩ (by show w.heap.size + 1 < _; omega) (.int .i64 (m : Int))).setLow ⟨w.heap.size + 1, 1, none⟩ (by show w.heap.size + 1 < _; omega) (.slice aa (setsTo RF 128).length cc))
      exact hfin.mono (by omega)
    · exact (HB4.out.setCell (by show w.heap.size ≤ w.heap.size + 1; omega) _).setCell (by show w.heap.size ≤ w.heap.size + 1; omega) _
end Go.Proofs.YtcokdhmccokkiaaDoor
/- Contracts: LeastNamed, the specification's. -/
namespace Go.Proofs.YtcokdhmccokkiaaDoor
open Go.RowKit
set_option maxRecDepth 100000
set_option linter.unusedSimpArgs false
theorem ent_alLeastN : enters Tryd.prog 30 := enters_of Tryd.func30 (by kernel_rfl) (by kernel_rfl)
attribute [local irreducible] p2 low memB risB famAt own fls
set_option maxHeartbeats 4000000 in
theorem specLeastNamed_c (n : Int) (v : Value) (l : List Int) (w : World) (hl : ints w.heap.size w v l) (hlen : l.length < 1000000000) (_ : tab w) :
    Calls Tryd.prog 11 #[.agg #[.int .i64 n, v]] w fun e w' => ∃ v', e = .returned (.tuple #[.agg #[.int .i64 (lnN n l), v'], .bool (nkB n l)]) ∧ own 3 w' w.heap.size v' (lnL n l) ∧ Below w.heap.size w w' := by
  have hr0 : ((w.alloc (.cells #[.int .i64 n, v] 29)).alloc (.cells #[.int .i64 0, .slice none 0 0] 29)).heap[w.heap.size + 1]? = some (.cells #[.int .i64 0, .slice none 0 0] 29) := by have := hp_last (w.alloc (.cells #[.int .i64 n, v] 29)) (.cells #[.int .i64 0, .slice none 0 0] 29); simpa using this
  have hs0 : ((w.alloc (.cells #[.int .i64 n, v] 29)).alloc (.cells #[.int .i64 0, .slice none 0 0] 29)).heap[w.heap.size]? = some (.cells #[.int .i64 n, v] 29) := (hp_old _ _ _ (by simp)).trans (hp_last w (.cells #[.int .i64 n, v] 29))
  have H0 := hide (((Below.refl w.heap.size w).alloc (Nat.le_refl _) (.cells #[.int .i64 n, v] 29)).alloc (by simp) (.cells #[.int .i64 0, .slice none 0 0] 29))
  have HZ0 := hide (show ((w.alloc (.cells #[.int .i64 n, v] 29)).alloc (.cells #[.int .i64 0, .slice none 0 0] 29)).heap.size = w.heap.size + 2 by simp)
  have HL0 := hide (((hl.alloc (.cells #[.int .i64 n, v] 29)).alloc (.cells #[.int .i64 0, .slice none 0 0] 29)).mono (show w.heap.size ≤ ((w.alloc (.cells #[.int .i64 n, v] 29)).alloc (.cells #[.int .i64 0, .slice none 0 0] 29)).heap.size by rw [HZ0.out]; omega))
  have HR0 := hide hr0
  have HS0 := hide hs0
  have HFW := hide (alFew_c n v l _ HL0.out hlen)
  clear hl hr0 hs0
  cases hB : nkB n l
  · rw [hB] at HFW
    rw [lnN_no hB, lnL_no hB]
    clear hB
    go_enter Tryd.func11, Tryd.ntmps11
    go_wp2_with (go_at_call 35; refine HFW.out.mono ?_; rintro e w1 ⟨rfl, hb1⟩; have hr1 := (hb1.block (w.heap.size + 1) (by rw [HZ0.out]; omega)).trans HR0.out; obtain ⟨q0, q1, q2, q3⟩ := zero_slots hr1; have HB1 := hide (H0.out.trans (hb1.mono (by rw [HZ0.out]; omega))); clear hb1 hr1)
    refine bodyPost_ret (v := .tuple #[.agg #[.int .i64 0, .slice none 0 0], .bool false]) (by simp [results, Tryd.results11, go_sem, q0, q1]) rfl ⟨_, rfl, own_nil _ _ _, ?_⟩
    exact (HB1.out.setCell (by show w.heap.size ≤ w.heap.size + 1; omega) _).setCell (by show w.heap.size ≤ w.heap.size + 1; omega) _
  · rw [hB] at HFW
    rw [lnN_yes hB, lnL_yes hB]
    unfold nkB at hB
    rw [Bool.and_eq_true, decide_eq_true_eq] at hB
    have hn := okSp_n hB.1
    obtain ⟨m, rfl⟩ := Int.eq_ofNat_of_zero_le (show 0 ≤ n by omega)
    have hm1 : 1 ≤ m := by omega
    have hm5 : m ≤ 5 := by omega
    have HAL := hide (fun w1 (h : ints w1.heap.size w1 v l) => alLeast_c m v l w1 h hlen hB.1 hm1 hm5)
    rw [Int.toNat_natCast]
    generalize mnL l (nkf m l) (nkA m).length = R at HAL ⊢
    clear hB hn
    go_enter Tryd.func11, Tryd.ntmps11
    go_wp2_with (go_at_call 35; refine HFW.out.mono ?_; rintro e w1 ⟨rfl, hb1⟩; have hz1 := hb1.size; rw [HZ0.out] at hz1; have hr1 := (hb1.block (w.heap.size + 1) (by rw [HZ0.out]; omega)).trans HR0.out; have hs1 := (hb1.block w.heap.size (by rw [HZ0.out]; omega)).trans HS0.out; have c0 := cells_at0 hs1; have c1 := cells_at1 hs1; have HR1 := hide hr1; have HL1 := hide ((HL0.out.below hb1 (Nat.le_refl _)).mono hb1.size); have HB1 := hide (H0.out.trans (hb1.mono (by rw [HZ0.out]; omega))); clear hb1 hr1 hs1)
    refine wp_region_held (S := fun w' => w'.cell? ⟨w.heap.size, 0, none⟩ = some (.int .i64 (m : Int)) ∧ w'.cell? ⟨w.heap.size, 1, none⟩ = some v) (by kernel_rfl) ?_
    have hS : (w1.drew).cell? ⟨w.heap.size, 0, none⟩ = some (.int .i64 (m : Int)) ∧ (w1.drew).cell? ⟨w.heap.size, 1, none⟩ = some v := ⟨c0, c1⟩
    refine wpAnyH_take (i := 0) (v := .pointer (some ⟨w.heap.size, 0, none⟩)) rfl (by kernel_rfl) (by kernel_rfl) (by kernel_rfl) (fun _ _ _ h => h) (.inl ⟨rfl, fun w' _ => by go_simp⟩) hS ?_
    simp only [Act.put, List.getElem_toArray, List.getElem_cons_zero, List.getElem_cons_succ, List.setIfInBounds_toArray, List.set_cons_zero, List.set_cons_succ]
    refine wpAnyH_take (i := 1) rfl (by kernel_rfl) (by kernel_rfl) (by kernel_rfl) (fun _ _ _ h => h) (yields_load_cell rowI rfl (.tmp _) rfl ⟨w.heap.size, 0, none⟩ rfl (.int .i64 (m : Int)) (fun w' h => h.1)) hS ?_
    simp only [Act.put, List.getElem_toArray, List.getElem_cons_zero, List.getElem_cons_succ, List.setIfInBounds_toArray, List.set_cons_zero, List.set_cons_succ]
    refine wpAnyH_take (i := 2) rfl (by kernel_rfl) (by kernel_rfl) (by kernel_rfl) (fun _ _ _ h => h) (yields_load_two rowSp sizeSp rfl (.tmp _) rfl w.heap.size rfl (.int .i64 (m : Int)) v (fun w' h => h.1) (fun w' h => h.2)) hS ?_
    simp only [Act.put, List.getElem_toArray, List.getElem_cons_zero, List.getElem_cons_succ, List.setIfInBounds_toArray, List.set_cons_zero, List.set_cons_succ]
    refine anyH_call (i := 3) (by kernel_rfl) rfl rfl 30 ent_alLeastN _ _ rfl #[.agg #[.int .i64 (m : Int), v]] rfl (HAL.out w1.drew ((HL1.out.below (Below.refl w1.heap.size w1).drew (Nat.le_refl _)).mono (Nat.le_refl _))) ?_
    rintro e w5 ⟨v5, rfl, ho5, hb5⟩
    have hz5 : w1.heap.size ≤ w5.heap.size := hb5.size
    have hS5 : w5.cell? ⟨w.heap.size, 0, none⟩ = some (.int .i64 (m : Int)) ∧ w5.cell? ⟨w.heap.size, 1, none⟩ = some v := ⟨(hb5.cell (p := ⟨w.heap.size, 0, none⟩) (by show w.heap.size < w1.heap.size; omega)).trans hS.1, (hb5.cell (p := ⟨w.heap.size, 1, none⟩) (by show w.heap.size < w1.heap.size; omega)).trans hS.2⟩
    have hr5 := (hb5.block (w.heap.size + 1) (by show w.heap.size + 1 < w1.heap.size; omega)).trans HR1.out
    obtain ⟨q0, q1, q2, q3⟩ := zero_slots hr5
    obtain ⟨aa, cc, hv⟩ := ho5.shape
    subst hv
    have HO5 := hide ho5
    have HB5 := hide (HB1.out.trans ((Below.refl _ _).drew.trans (hb5.mono (by show w.heap.size ≤ w1.heap.size; omega))))
    refine ⟨_, rfl, hS5, ?_⟩
    simp only [Act.put, List.getElem_toArray, List.getElem_cons_zero, List.getElem_cons_succ, List.setIfInBounds_toArray, List.set_cons_zero, List.set_cons_succ]
    refine wpAnyH_take (i := 4) (v := .agg #[.int .i64 (m : Int), .slice aa R.length cc]) rfl (by kernel_rfl) (by kernel_rfl) (by kernel_rfl) (fun _ _ _ h => h) (.inl ⟨rfl, fun w' _ => by go_simp⟩) hS5 ?_
    simp only [Act.put, List.getElem_toArray, List.getElem_cons_zero, List.getElem_cons_succ, List.setIfInBounds_toArray, List.set_cons_zero, List.set_cons_succ]
    have hb6 := ((Below.refl (w.heap.size + 1) w5).setCell (p := ⟨w.heap.size + 1, 0, none⟩) (Nat.le_refl _) (.int .i64 (m : Int))).setCell (p := ⟨w.heap.size + 1, 1, none⟩) (Nat.le_refl _) (.slice aa R.length cc)
    have hSF : ((w5.setCell ⟨w.heap.size + 1, 0, none⟩ (.int .i64 (m : Int))).setCell ⟨w.heap.size + 1, 1, none⟩ (.slice aa R.length cc)).cell? ⟨w.heap.size, 0, none⟩ = some (.int .i64 (m : Int)) ∧ ((w5.setCell ⟨w.heap.size + 1, 0, none⟩ (.int .i64 (m : Int))).setCell ⟨w.heap.size + 1, 1, none⟩ (.slice aa R.length cc)).cell? ⟨w.heap.size, 1, none⟩ = some v :=
      ⟨(hb6.cell (p := ⟨w.heap.size, 0, none⟩) (by show w.heap.size < w.heap.size + 1; omega)).trans hS5.1, (hb6.cell (p := ⟨w.heap.size, 1, none⟩) (by show w.heap.size < w.heap.size + 1; omega)).trans hS5.2⟩
    refine anyH_skip (i := 5) (by kernel_rfl) rfl rfl ((w5.setCell ⟨w.heap.size + 1, 0, none⟩ (.int .i64 (m : Int))).setCell ⟨w.heap.size + 1, 1, none⟩ (.slice aa R.length cc)) ?hq2 hSF ?_
    case hq2 => simp [go_sem, q0, q1, q2, q3]
    refine anyH_op (i := 6) (by kernel_rfl) rfl rfl (.bool true) _ ?hq3 hSF ?_
    case hq3 => simp [go_sem]
    refine wpAnyH_done (by kernel_rfl) ?_ _
    simp only [Act.put, List.getElem_toArray, List.getElem_cons_zero, List.getElem_cons_succ, List.setIfInBounds_toArray, List.set_cons_zero, List.set_cons_succ]
    clear hS hS5 hSF hb5 hr5 ho5 c0 c1 hb6
    go_wp2
    refine bodyPost_ret (v := .tuple #[.agg #[.int .i64 (m : Int), .slice aa R.length cc], .bool true]) (by simp [results, Tryd.results11, go_sem, q0, q1]) rfl ⟨_, rfl, ?_, ?_⟩
    · have hfin := ((HO5.out.setLow ⟨w.heap.size + 1, 0, none⟩ (show w.heap.size + 1 < w1.heap.size by omega) (.int .i64 (m : Int))).setLow ⟨w.heap.size + 1, 1, none⟩ (show w.heap.size + 1 < w1.heap.size by omega) (.slice aa R.length cc))
      exact hfin.mono (show w.heap.size ≤ w1.heap.size by omega)
    · exact (HB5.out.setCell (by show w.heap.size ≤ w.heap.size + 1; omega) _).setCell (by show w.heap.size ≤ w.heap.size + 1; omega) _
end Go.Proofs.YtcokdhmccokkiaaDoor
/- The program's LeastNamed answers as the specification's does, at every argument, leaves its arguments as they are, and its answer owns its memory: no condition. -/
namespace Go.Proofs.YtcokdhmccokkiaaDoor.FLeastNamed
open Go.ChangeShapes Go.WideShapes Go.ChangeAt Go.RowKit Go.Joins
set_option linter.unusedVariables false
set_option linter.unusedSimpArgs false
set_option maxRecDepth 100000

set_option maxHeartbeats 4000000 in
theorem law_c (n0 : Int) (v0 : Value) (l0 : List Int) (w : World) (h0 : ints w.heap.size w v0 l0) (hlen0 : l0.length ≤ 9223372036854775807) (hT : tab w) :
    Calls Tryd.prog 4 #[.agg #[.int .i64 n0, v0]] w fun e w' => e = .returned (.bool true) ∧ Below w.heap.size w w' := by
  have HT := hide hT
  clear hT
  have hRL := (lnL_len n0 l0)
  generalize hN : (lnN n0 l0) = N
  generalize hR : (lnL n0 l0) = R at hRL
  generalize hO : (nkB n0 l0) = ok
  have HN := hide hN
  have HR := hide hR
  have HO := hide hO
  clear hN hR hO
  have F1 := hide (((Below.refl w.heap.size w).alloc (Nat.le_refl _) (.cells #[.int .i64 n0, v0] 27)))
  have F2 := hide ((h0.alloc (.cells #[.int .i64 n0, v0] 27)))
  have F3 := hide (show (w.alloc (.cells #[.int .i64 n0, v0] 27)).heap[w.heap.size]? = some (.cells #[.int .i64 n0, v0] 27) from (by have := hp_last w (.cells #[.int .i64 n0, v0] 27); simpa using this))
  have HZ0 := hide (show (w.alloc (.cells #[.int .i64 n0, v0] 27)).heap.size = w.heap.size + 1 by simp)
  clear h0
  have hsz0 : szOf 1048576 l0.length = -1 ∨ (0 ≤ szOf 1048576 l0.length ∧ szOf 1048576 l0.length ≤ 1048576 ∧ l0.length ≤ 1048576) := by unfold szOf; split <;> omega
  generalize hq0 : szOf 1048576 l0.length = q0 at hsz0
  have HQ0 := hide hq0
  clear hq0
  rcases hsz0 with hbig0 | ⟨hq0a, hq0b, hq0c⟩
  · have HBIG := hide hbig0
    have hneg : q0 < 0 := by omega
    clear hbig0
    go_enter Tryd.func4, Tryd.ntmps4
    go_wp2_with fail
    generalize hX : (w.alloc (.cells #[.int .i64 n0, v0] 27)) = W0 at F1 F2 F3 HZ0 ⊢
    have hz0 := Nat.le_of_eq HZ0.out.symm
    clear hX HZ0
    refine (szSpace_c n0 v0 l0 (1048576) W0 (F2.out.mono (by omega)) hlen0 (by omega) (by omega)).mono ?_
    rw [HQ0.out]
    rintro e W1 ⟨rfl, hb4⟩
    have hz5 := hb4.size
    have F6 := hide (F1.out.trans (hb4.mono (by omega)))
    have F7 := hide (F2.out.below hb4 (by omega))
    have F8 := hide ((hb4.block (w.heap.size) (by omega)).trans F3.out)
    clear hb4 F1 F2 F3
    go_wp2
    go_ret
    exact ⟨rfl, F6.out⟩
  have hneg0 : ¬ q0 < 0 := by omega
  go_enter Tryd.func4, Tryd.ntmps4
  go_wp2_with fail
  generalize hX : (w.alloc (.cells #[.int .i64 n0, v0] 27)) = W0 at F1 F2 F3 HZ0 ⊢
  have hz0 := Nat.le_of_eq HZ0.out.symm
  clear hX HZ0
  refine (szSpace_c n0 v0 l0 (1048576) W0 (F2.out.mono (by omega)) hlen0 (by omega) (by omega)).mono ?_
  rw [HQ0.out]
  rintro e W1 ⟨rfl, hb4⟩
  have hz5 := hb4.size
  have F6 := hide (F1.out.trans (hb4.mono (by omega)))
  have F7 := hide (F2.out.below hb4 (by omega))
  have F8 := hide ((hb4.block (w.heap.size) (by omega)).trans F3.out)
  clear hb4 F1 F2 F3
  have hneg2 : ¬ (1 + (R.length : Int) < 0) := by omega
  have p9 := cells_at0 F8.out
  have p10 := cells_at1 F8.out
  go_wp2_with fail
  clear p9 p10
  refine (toSpace_c n0 v0 l0 W1 (F7.out.mono (by omega)) (by omega)).mono ?_
  rintro e W2 ⟨g11, rfl, hg12, hk13, hb14⟩
  have hz15 := hb14.size
  have F16 := hide (F6.out.trans (hb14.mono (by omega)))
  have F17 := hide (F7.out.below hb14 (by omega))
  have F18 := hide ((hb14.block (w.heap.size) (by omega)).trans F8.out)
  have F19 := hide (hk13.own hg12 (by unfold maxLen; omega))
  have B20 := hide (F19.out.base)
  have L21 := hide (F19.out.blockLt)
  clear hb14 F6 F7 F8 hk13 hg12
  have p22 := cells_at0 F18.out
  have p23 := cells_at1 F18.out
  go_wp2_with fail
  clear p22 p23
  refine (specLeastNamed_c n0 _ l0 W2 F19.out.ints (by omega) (HT.out.belowB HT.out F16.out (Nat.le_refl _))).mono ?_
  rw [HN.out, HR.out, HO.out]
  rintro e W3 ⟨v24, rfl, ho25, hb26⟩
  have hz27 := hb26.size
  have F28 := hide (F16.out.trans (hb26.mono (by omega)))
  have F29 := hide (F17.out.below hb26 (by omega))
  have F30 := hide ((hb26.block (w.heap.size) (by omega)).trans F18.out)
  have F31 := hide (F19.out.kept hb26)
  obtain ⟨aa32, cc33, hv34⟩ := ho25.shape
  have F35 := hide (ho25)
  have B36 := hide (F35.out.base)
  have L37 := hide (F35.out.blockLt)
  clear hb26 F16 F17 F18 F19 ho25
  subst hv34
  clear F31
  clear B20 L21
  have F38 := hide (F28.out.alloc (by omega) (.cells #[.int .i64 N, .slice aa32 R.length cc33] 29))
  have F39 := hide (F29.out.alloc (.cells #[.int .i64 N, .slice aa32 R.length cc33] 29))
  have F40 := hide ((hp_old W3 (.cells #[.int .i64 N, .slice aa32 R.length cc33] 29) (w.heap.size) (by omega)).trans F30.out)
  have F41 := hide (F35.out.alloc (.cells #[.int .i64 N, .slice aa32 R.length cc33] 29))
  have F42 := hide (hp_last W3 (.cells #[.int .i64 N, .slice aa32 R.length cc33] 29))
  have HZ43 := hide (show (W3.alloc (.cells #[.int .i64 N, .slice aa32 R.length cc33] 29)).heap.size = W3.heap.size + 1 by simp)
  clear F28 F29 F30 F35
  have p44 := cells_at0 F40.out
  have p45 := cells_at1 F40.out
  have p46 := cells_at0 F42.out
  have p47 := cells_at1 F42.out
  go_wp2_with fail
  clear p44 p45 p46 p47
  generalize hX : W3.alloc (.cells #[.int .i64 N, .slice aa32 R.length cc33] 29) = W4 at F38 F39 F40 F41 F42 HZ43 ⊢
  have hz48 := Nat.le_of_eq HZ43.out.symm
  clear hX HZ43
  refine (toSpace_c n0 v0 l0 W4 (F39.out.mono (by omega)) (by omega)).mono ?_
  rintro e W5 ⟨g49, rfl, hg50, hk51, hb52⟩
  have hz53 := hb52.size
  have F54 := hide (F38.out.trans (hb52.mono (by omega)))
  have F55 := hide (F39.out.below hb52 (by omega))
  have F56 := hide ((hb52.block (w.heap.size) (by omega)).trans F40.out)
  have F57 := hide (F41.out.kept hb52)
  have F58 := hide ((hb52.block (W3.heap.size) (by omega)).trans F42.out)
  have F59 := hide (hk51.own hg50 (by unfold maxLen; omega))
  have B60 := hide (F59.out.base)
  have L61 := hide (F59.out.blockLt)
  clear hb52 F38 F39 F40 F41 F42 hk51 hg50
  have F62 := hide (F54.out.alloc (by omega) (.cells #[.int .i64 n0, .slice (some ⟨g49, 0, none⟩) l0.length l0.length] 29))
  have F63 := hide (F55.out.alloc (.cells #[.int .i64 n0, .slice (some ⟨g49, 0, none⟩) l0.length l0.length] 29))
  have F64 := hide ((hp_old W5 (.cells #[.int .i64 n0, .slice (some ⟨g49, 0, none⟩) l0.length l0.length] 29) (w.heap.size) (by omega)).trans F56.out)
  have F65 := hide (F57.out.alloc (.cells #[.int .i64 n0, .slice (some ⟨g49, 0, none⟩) l0.length l0.length] 29))
  have F66 := hide ((hp_old W5 (.cells #[.int .i64 n0, .slice (some ⟨g49, 0, none⟩) l0.length l0.length] 29) (W3.heap.size) (by omega)).trans F58.out)
  have F67 := hide (F59.out.alloc (.cells #[.int .i64 n0, .slice (some ⟨g49, 0, none⟩) l0.length l0.length] 29))
  have F68 := hide (hp_last W5 (.cells #[.int .i64 n0, .slice (some ⟨g49, 0, none⟩) l0.length l0.length] 29))
  have HZ69 := hide (show (W5.alloc (.cells #[.int .i64 n0, .slice (some ⟨g49, 0, none⟩) l0.length l0.length] 29)).heap.size = W5.heap.size + 1 by simp)
  clear F54 F55 F56 F57 F58 F59
  have p70 := cells_at0 F64.out
  have p71 := cells_at1 F64.out
  have p72 := cells_at0 F66.out
  have p73 := cells_at1 F66.out
  have p74 := cells_at0 F68.out
  have p75 := cells_at1 F68.out
  go_wp2_with fail
  clear p70 p71 p72 p73 p74 p75
  generalize hX : W5.alloc (.cells #[.int .i64 n0, .slice (some ⟨g49, 0, none⟩) l0.length l0.length] 29) = W6 at F62 F63 F64 F65 F66 F67 F68 HZ69 ⊢
  have hz76 := Nat.le_of_eq HZ69.out.symm
  clear hX HZ69
  refine (implLeastNamed_c n0 _ l0 W6 F67.out.ints (by omega) (HT.out.belowB HT.out F62.out (Nat.le_refl _))).mono ?_
  rw [HN.out, HR.out, HO.out]
  rintro e W7 ⟨v77, rfl, ho78, hb79⟩
  have hz80 := hb79.size
  have F81 := hide (F62.out.trans (hb79.mono (by omega)))
  have F82 := hide (F63.out.below hb79 (by omega))
  have F83 := hide ((hb79.block (w.heap.size) (by omega)).trans F64.out)
  have F84 := hide (F65.out.kept hb79)
  have F85 := hide ((hb79.block (W3.heap.size) (by omega)).trans F66.out)
  have F86 := hide (F67.out.kept hb79)
  have F87 := hide ((hb79.block (W5.heap.size) (by omega)).trans F68.out)
  obtain ⟨aa88, cc89, hv90⟩ := ho78.shape
  have F91 := hide (ho78)
  have B92 := hide (F91.out.base)
  have L93 := hide (F91.out.blockLt)
  clear hb79 F62 F63 F64 F65 F66 F67 F68 ho78
  subst hv90
  have F94 := hide (F81.out.alloc (by omega) (.cells #[.int .i64 N, .slice aa88 R.length cc89] 29))
  have F95 := hide (F82.out.alloc (.cells #[.int .i64 N, .slice aa88 R.length cc89] 29))
  have F96 := hide ((hp_old W7 (.cells #[.int .i64 N, .slice aa88 R.length cc89] 29) (w.heap.size) (by omega)).trans F83.out)
  have F97 := hide (F84.out.alloc (.cells #[.int .i64 N, .slice aa88 R.length cc89] 29))
  have F98 := hide ((hp_old W7 (.cells #[.int .i64 N, .slice aa88 R.length cc89] 29) (W3.heap.size) (by omega)).trans F85.out)
  have F99 := hide (F86.out.alloc (.cells #[.int .i64 N, .slice aa88 R.length cc89] 29))
  have F100 := hide ((hp_old W7 (.cells #[.int .i64 N, .slice aa88 R.length cc89] 29) (W5.heap.size) (by omega)).trans F87.out)
  have F101 := hide (F91.out.alloc (.cells #[.int .i64 N, .slice aa88 R.length cc89] 29))
  have F102 := hide (hp_last W7 (.cells #[.int .i64 N, .slice aa88 R.length cc89] 29))
  have HZ103 := hide (show (W7.alloc (.cells #[.int .i64 N, .slice aa88 R.length cc89] 29)).heap.size = W7.heap.size + 1 by simp)
  clear F81 F82 F83 F84 F85 F86 F87 F91
  have p104 := cells_at0 F96.out
  have p105 := cells_at1 F96.out
  have p106 := cells_at0 F98.out
  have p107 := cells_at1 F98.out
  have p108 := cells_at0 F100.out
  have p109 := cells_at1 F100.out
  have p110 := cells_at0 F102.out
  have p111 := cells_at1 F102.out
  go_wp2_with fail
  clear p104 p105 p106 p107 p108 p109 p110 p111
  generalize hX : W7.alloc (.cells #[.int .i64 N, .slice aa88 R.length cc89] 29) = W8 at F94 F95 F96 F97 F98 F99 F100 F101 F102 HZ103 ⊢
  have hz112 := Nat.le_of_eq HZ103.out.symm
  clear hX HZ103
  refine (eqSpace_same_c N _ _ R W8 (F101.out.ints) (F97.out.ints) hRL).mono ?_
  rintro e W9 ⟨rfl, hb113⟩
  have hz114 := hb113.size
  have F115 := hide (F94.out.trans (hb113.mono (by omega)))
  have F116 := hide (F95.out.below hb113 (by omega))
  have F117 := hide ((hb113.block (w.heap.size) (by omega)).trans F96.out)
  have F118 := hide (F97.out.kept hb113)
  have F119 := hide ((hb113.block (W3.heap.size) (by omega)).trans F98.out)
  have F120 := hide (F99.out.kept hb113)
  have F121 := hide ((hb113.block (W5.heap.size) (by omega)).trans F100.out)
  have F122 := hide (F101.out.kept hb113)
  have F123 := hide ((hb113.block (W7.heap.size) (by omega)).trans F102.out)
  clear hb113 F94 F95 F96 F97 F98 F99 F100 F101 F102
  have p124 := cells_at0 F117.out
  have p125 := cells_at1 F117.out
  have p126 := cells_at0 F119.out
  have p127 := cells_at1 F119.out
  have p128 := cells_at0 F121.out
  have p129 := cells_at1 F121.out
  have p130 := cells_at0 F123.out
  have p131 := cells_at1 F123.out
  go_wp2
  clear p124 p125 p126 p127 p128 p129 p130 p131
  refine wp_region_held (S := Below W9.heap.size W9) (by kernel_rfl) ?_
  have hS : Below W9.heap.size W9 { W9 with drawn := W9.drawn + 1 } := (Below.refl _ _).drew
  refine wpAnyH_take (i := 0) rfl (by kernel_rfl) (by kernel_rfl) (by kernel_rfl) (fun _ _ _ h => h) (yields_load_two rowSp sizeSp rfl (.tmp _) rfl _ rfl _ _ (fun w' h => (h.cell (p := ⟨W5.heap.size, 0, none⟩) (by show W5.heap.size < _; omega)).trans (cells_at0 F121.out)) (fun w' h => (h.cell (p := ⟨W5.heap.size, 1, none⟩) (by show W5.heap.size < _; omega)).trans (cells_at1 F121.out))) hS ?_
  refine wpAnyH_take (i := 1) rfl (by kernel_rfl) (by kernel_rfl) (by kernel_rfl) (fun _ _ _ h => h) (yields_load_two rowSl sizeSl rfl (.tmp _) rfl _ rfl _ _ (fun w' h => (h.cell (p := ⟨w.heap.size, 0, none⟩) (by show w.heap.size < _; omega)).trans (cells_at0 F117.out)) (fun w' h => (h.cell (p := ⟨w.heap.size, 1, none⟩) (by show w.heap.size < _; omega)).trans (cells_at1 F117.out))) hS ?_
  refine anyH_call (i := 2) (by kernel_rfl) rfl rfl 12 ent_toSpace _ _ rfl #[.agg #[.int .i64 n0, v0]] rfl (toSpace_c n0 v0 l0 _ ((F116.out.below hS (by omega)).mono (show w.heap.size ≤ W9.heap.size by omega)) (by omega)) ?_
  rintro e W10 ⟨g132, rfl, hgr, hkr, hbr⟩
  have hzr : W9.heap.size ≤ W10.heap.size := hbr.size
  have hS6 : Below W9.heap.size W9 W10 := hS.trans hbr
  refine ⟨_, rfl, hS6, ?_⟩
  refine anyH_call (i := 3) (by kernel_rfl) rfl rfl 14 ent_eqSpace _ _ rfl #[.agg #[.int .i64 n0, .slice (some ⟨g49, 0, none⟩) l0.length l0.length], .agg #[.int .i64 n0, .slice (some ⟨g132, 0, none⟩) l0.length l0.length]] rfl (eqSpace_same_c n0 _ _ l0 W10 ((F120.out.kept hS6).ints) (hkr.ints _) (by omega)) ?_
  rintro e W11 ⟨rfl, hbs⟩
  have hS7 : Below W9.heap.size W9 W11 := hS6.trans (hbs.mono hzr)
  refine ⟨_, rfl, hS7, ?_⟩
  refine anyH_op (i := 4) (by kernel_rfl) rfl rfl (.bool false) W11 ?hq hS7 ?_
  case hq => simp [go_sem, Act.put]
  refine wpAnyH_done (by kernel_rfl) ?_ _
  simp only [Act.put, List.getElem_toArray, List.getElem_cons_zero, List.getElem_cons_succ, List.setIfInBounds_toArray, List.set_cons_zero, List.set_cons_succ]
  have hz133 : W9.heap.size ≤ W11.heap.size := hS7.size
  have F134 := hide (F115.out.trans (hS7.mono (by omega)))
  have F135 := hide (F116.out.below hS7 (by omega))
  have F136 := hide ((hS7.block (w.heap.size) (by omega)).trans F117.out)
  have F137 := hide (F118.out.kept hS7)
  have F138 := hide ((hS7.block (W3.heap.size) (by omega)).trans F119.out)
  have F139 := hide (F120.out.kept hS7)
  have F140 := hide ((hS7.block (W5.heap.size) (by omega)).trans F121.out)
  have F141 := hide (F122.out.kept hS7)
  have F142 := hide ((hS7.block (W7.heap.size) (by omega)).trans F123.out)
  clear hS hS6 hS7 hbr hbs hkr hgr hzr F115 F116 F117 F118 F119 F120 F121 F122 F123
  have p143 := cells_at0 F136.out
  have p144 := cells_at1 F136.out
  have p145 := cells_at0 F138.out
  have p146 := cells_at1 F138.out
  have p147 := cells_at0 F140.out
  have p148 := cells_at1 F140.out
  have p149 := cells_at0 F142.out
  have p150 := cells_at1 F142.out
  go_wp2_with fail
  clear p143 p144 p145 p146 p147 p148 p149 p150
  refine (markSpace_c n0 _ l0 (1) W11 _ F139.out (by omega) (by omega) (by omega)).mono ?_
  rintro e W12 ⟨rfl, hn152, ho151⟩
  have hz153 := ho151.size
  have F154 := hide (F134.out.trans (ho151.below w.heap.size (fun g hg => by have := B60.out g hg; omega) (by omega)))
  have F155 := hide (F135.out.below (ho151.below w.heap.size (fun g hg => by have := B60.out g hg; omega) (by omega)) (Nat.le_refl _))
  have F156 := hide ((ho151.block (w.heap.size) (by omega) (fun e => by have h1 := B60.out _ e; have h2 := L61.out _ e; omega)).trans F136.out)
  have F157 := hide (F137.out.other ho151 (fun g hg e => by have h1 := B60.out _ e; have h2 := L61.out _ e; have h3 := B36.out _ hg; have h4 := L37.out _ hg; omega))
  have F158 := hide ((ho151.block (W3.heap.size) (by omega) (fun e => by have h1 := B60.out _ e; have h2 := L61.out _ e; omega)).trans F138.out)
  have F160 := hide ((ho151.block (W5.heap.size) (by omega) (fun e => by have h1 := B60.out _ e; have h2 := L61.out _ e; omega)).trans F140.out)
  have F161 := hide (F141.out.other ho151 (fun g hg e => by have h1 := B60.out _ e; have h2 := L61.out _ e; have h3 := B92.out _ hg; have h4 := L93.out _ hg; omega))
  have F162 := hide ((ho151.block (W7.heap.size) (by omega) (fun e => by have h1 := B60.out _ e; have h2 := L61.out _ e; omega)).trans F142.out)
  have F163 := hide hn152
  clear F134 F135 F136 F137 F138 F139 F140 F141 F142 hn152 ho151
  have hneg3 : ¬ (1 + (l0.length : Int) < 0) := by omega
  have p164 := cells_at0 F156.out
  have p165 := cells_at1 F156.out
  have p166 := cells_at0 F158.out
  have p167 := cells_at1 F158.out
  have p168 := cells_at0 F160.out
  have p169 := cells_at1 F160.out
  have p170 := cells_at0 F162.out
  have p171 := cells_at1 F162.out
  go_wp2_with fail
  clear p164 p165 p166 p167 p168 p169 p170 p171
  refine (eqSpace_same_c N _ _ R W12 (F161.out.ints) (F157.out.ints) hRL).mono ?_
  rintro e W13 ⟨rfl, hb172⟩
  have hz173 := hb172.size
  have F174 := hide (F154.out.trans (hb172.mono (by omega)))
  have F175 := hide (F155.out.below hb172 (by omega))
  have F176 := hide ((hb172.block (w.heap.size) (by omega)).trans F156.out)
  have F177 := hide (F157.out.kept hb172)
  have F178 := hide ((hb172.block (W3.heap.size) (by omega)).trans F158.out)
  have F179 := hide (F163.out.kept hb172)
  have F180 := hide ((hb172.block (W5.heap.size) (by omega)).trans F160.out)
  have F181 := hide (F161.out.kept hb172)
  have F182 := hide ((hb172.block (W7.heap.size) (by omega)).trans F162.out)
  clear hb172 F154 F155 F156 F157 F158 F163 F160 F161 F162
  have p183 := cells_at0 F176.out
  have p184 := cells_at1 F176.out
  have p185 := cells_at0 F178.out
  have p186 := cells_at1 F178.out
  have p187 := cells_at0 F180.out
  have p188 := cells_at1 F180.out
  have p189 := cells_at0 F182.out
  have p190 := cells_at1 F182.out
  go_wp2_with fail
  clear p183 p184 p185 p186 p187 p188 p189 p190
  refine (markSpace_c N _ R (1) W13 _ F181.out (by omega) (by omega) (by omega)).mono ?_
  rintro e W14 ⟨rfl, hn192, ho191⟩
  have hz193 := ho191.size
  have F194 := hide (F174.out.trans (ho191.below w.heap.size (fun g hg => by have := B92.out g hg; omega) (by omega)))
  have F195 := hide (F175.out.below (ho191.below w.heap.size (fun g hg => by have := B92.out g hg; omega) (by omega)) (Nat.le_refl _))
  have F196 := hide ((ho191.block (w.heap.size) (by omega) (fun e => by have h1 := B92.out _ e; have h2 := L93.out _ e; omega)).trans F176.out)
  have F197 := hide (F177.out.other ho191 (fun g hg e => by have h1 := B92.out _ e; have h2 := L93.out _ e; have h3 := B36.out _ hg; have h4 := L37.out _ hg; omega))
  have F198 := hide ((ho191.block (W3.heap.size) (by omega) (fun e => by have h1 := B92.out _ e; have h2 := L93.out _ e; omega)).trans F178.out)
  have F199 := hide (F179.out.other ho191 (fun g hg e => by have h1 := B92.out _ e; have h2 := L93.out _ e; have h3 := B60.out _ hg; have h4 := L61.out _ hg; omega))
  have F200 := hide ((ho191.block (W5.heap.size) (by omega) (fun e => by have h1 := B92.out _ e; have h2 := L93.out _ e; omega)).trans F180.out)
  have F202 := hide ((ho191.block (W7.heap.size) (by omega) (fun e => by have h1 := B92.out _ e; have h2 := L93.out _ e; omega)).trans F182.out)
  have F203 := hide hn192
  clear F174 F175 F176 F177 F178 F179 F180 F181 F182 hn192 ho191
  have p204 := cells_at0 F196.out
  have p205 := cells_at1 F196.out
  have p206 := cells_at0 F198.out
  have p207 := cells_at1 F198.out
  have p208 := cells_at0 F200.out
  have p209 := cells_at1 F200.out
  have p210 := cells_at0 F202.out
  have p211 := cells_at1 F202.out
  go_wp2_with fail
  clear p204 p205 p206 p207 p208 p209 p210 p211
  refine (heldSpace_c N _ R.length 1 W14 (F203.out.ints) hRL (by omega) (by omega)).mono ?_
  rintro e W15 ⟨rfl, hb212⟩
  have hz213 := hb212.size
  have F214 := hide (F194.out.trans (hb212.mono (by omega)))
  have F215 := hide (F195.out.below hb212 (by omega))
  have F216 := hide ((hb212.block (w.heap.size) (by omega)).trans F196.out)
  have F217 := hide (F197.out.kept hb212)
  have F218 := hide ((hb212.block (W3.heap.size) (by omega)).trans F198.out)
  have F219 := hide (F199.out.kept hb212)
  have F220 := hide ((hb212.block (W5.heap.size) (by omega)).trans F200.out)
  have F221 := hide (F203.out.kept hb212)
  have F222 := hide ((hb212.block (W7.heap.size) (by omega)).trans F202.out)
  clear hb212 F194 F195 F196 F197 F198 F199 F200 F203 F202
  clear F219
  clear B60 L61
  have p223 := cells_at0 F216.out
  have p224 := cells_at1 F216.out
  have p225 := cells_at0 F218.out
  have p226 := cells_at1 F218.out
  have p227 := cells_at0 F220.out
  have p228 := cells_at1 F220.out
  have p229 := cells_at0 F222.out
  have p230 := cells_at1 F222.out
  go_wp2_with fail
  clear p223 p224 p225 p226 p227 p228 p229 p230
  refine (toSpace_c n0 v0 l0 W15 (F215.out.mono (by omega)) (by omega)).mono ?_
  rintro e W16 ⟨g231, rfl, hg232, hk233, hb234⟩
  have hz235 := hb234.size
  have F236 := hide (F214.out.trans (hb234.mono (by omega)))
  have F237 := hide (F215.out.below hb234 (by omega))
  have F238 := hide ((hb234.block (w.heap.size) (by omega)).trans F216.out)
  have F239 := hide (F217.out.kept hb234)
  have F240 := hide ((hb234.block (W3.heap.size) (by omega)).trans F218.out)
  have F241 := hide ((hb234.block (W5.heap.size) (by omega)).trans F220.out)
  have F242 := hide (F221.out.kept hb234)
  have F243 := hide ((hb234.block (W7.heap.size) (by omega)).trans F222.out)
  have F244 := hide (hk233.own hg232 (by unfold maxLen; omega))
  have B245 := hide (F244.out.base)
  have L246 := hide (F244.out.blockLt)
  clear hb234 F214 F215 F216 F217 F218 F220 F221 F222 hk233 hg232
  have p247 := cells_at0 F238.out
  have p248 := cells_at1 F238.out
  have p249 := cells_at0 F240.out
  have p250 := cells_at1 F240.out
  have p251 := cells_at0 F241.out
  have p252 := cells_at1 F241.out
  have p253 := cells_at0 F243.out
  have p254 := cells_at1 F243.out
  go_wp2_with fail
  clear p247 p248 p249 p250 p251 p252 p253 p254
  refine (implLeastNamed_c n0 _ l0 W16 F244.out.ints (by omega) (HT.out.belowB HT.out F236.out (Nat.le_refl _))).mono ?_
  rw [HN.out, HR.out, HO.out]
  rintro e W17 ⟨v255, rfl, ho256, hb257⟩
  have hz258 := hb257.size
  have F259 := hide (F236.out.trans (hb257.mono (by omega)))
  have F260 := hide (F237.out.below hb257 (by omega))
  have F261 := hide ((hb257.block (w.heap.size) (by omega)).trans F238.out)
  have F262 := hide (F239.out.kept hb257)
  have F263 := hide ((hb257.block (W3.heap.size) (by omega)).trans F240.out)
  have F264 := hide ((hb257.block (W5.heap.size) (by omega)).trans F241.out)
  have F265 := hide (F242.out.kept hb257)
  have F266 := hide ((hb257.block (W7.heap.size) (by omega)).trans F243.out)
  have F267 := hide (F244.out.kept hb257)
  obtain ⟨aa268, cc269, hv270⟩ := ho256.shape
  have F271 := hide (ho256)
  have B272 := hide (F271.out.base)
  have L273 := hide (F271.out.blockLt)
  clear hb257 F236 F237 F238 F239 F240 F241 F242 F243 F244 ho256
  subst hv270
  have F274 := hide (F259.out.alloc (by omega) (.cells #[.int .i64 N, .slice aa268 R.length cc269] 29))
  have F275 := hide (F260.out.alloc (.cells #[.int .i64 N, .slice aa268 R.length cc269] 29))
  have F276 := hide ((hp_old W17 (.cells #[.int .i64 N, .slice aa268 R.length cc269] 29) (w.heap.size) (by omega)).trans F261.out)
  have F277 := hide (F262.out.alloc (.cells #[.int .i64 N, .slice aa268 R.length cc269] 29))
  have F278 := hide ((hp_old W17 (.cells #[.int .i64 N, .slice aa268 R.length cc269] 29) (W3.heap.size) (by omega)).trans F263.out)
  have F279 := hide ((hp_old W17 (.cells #[.int .i64 N, .slice aa268 R.length cc269] 29) (W5.heap.size) (by omega)).trans F264.out)
  have F280 := hide (F265.out.alloc (.cells #[.int .i64 N, .slice aa268 R.length cc269] 29))
  have F281 := hide ((hp_old W17 (.cells #[.int .i64 N, .slice aa268 R.length cc269] 29) (W7.heap.size) (by omega)).trans F266.out)
  have F282 := hide (F267.out.alloc (.cells #[.int .i64 N, .slice aa268 R.length cc269] 29))
  have F283 := hide (F271.out.alloc (.cells #[.int .i64 N, .slice aa268 R.length cc269] 29))
  have F284 := hide (hp_last W17 (.cells #[.int .i64 N, .slice aa268 R.length cc269] 29))
  have HZ285 := hide (show (W17.alloc (.cells #[.int .i64 N, .slice aa268 R.length cc269] 29)).heap.size = W17.heap.size + 1 by simp)
  clear F259 F260 F261 F262 F263 F264 F265 F266 F267 F271
  have p286 := cells_at0 F276.out
  have p287 := cells_at1 F276.out
  have p288 := cells_at0 F278.out
  have p289 := cells_at1 F278.out
  have p290 := cells_at0 F279.out
  have p291 := cells_at1 F279.out
  have p292 := cells_at0 F281.out
  have p293 := cells_at1 F281.out
  have p294 := cells_at0 F284.out
  have p295 := cells_at1 F284.out
  go_wp2_with fail
  clear p286 p287 p288 p289 p290 p291 p292 p293 p294 p295
  generalize hX : W17.alloc (.cells #[.int .i64 N, .slice aa268 R.length cc269] 29) = W18 at F274 F275 F276 F277 F278 F279 F280 F281 F282 F283 F284 HZ285 ⊢
  have hz296 := Nat.le_of_eq HZ285.out.symm
  clear hX HZ285
  refine (eqSpace_same_c N _ _ R W18 (F283.out.ints) (F277.out.ints) hRL).mono ?_
  rintro e W19 ⟨rfl, hb297⟩
  have hz298 := hb297.size
  have F299 := hide (F274.out.trans (hb297.mono (by omega)))
  have F300 := hide (F275.out.below hb297 (by omega))
  have F301 := hide ((hb297.block (w.heap.size) (by omega)).trans F276.out)
  have F302 := hide (F277.out.kept hb297)
  have F303 := hide ((hb297.block (W3.heap.size) (by omega)).trans F278.out)
  have F304 := hide ((hb297.block (W5.heap.size) (by omega)).trans F279.out)
  have F305 := hide (F280.out.kept hb297)
  have F306 := hide ((hb297.block (W7.heap.size) (by omega)).trans F281.out)
  have F307 := hide (F282.out.kept hb297)
  have F308 := hide (F283.out.kept hb297)
  have F309 := hide ((hb297.block (W17.heap.size) (by omega)).trans F284.out)
  clear hb297 F274 F275 F276 F277 F278 F279 F280 F281 F282 F283 F284
  have p310 := cells_at0 F301.out
  have p311 := cells_at1 F301.out
  have p312 := cells_at0 F303.out
  have p313 := cells_at1 F303.out
  have p314 := cells_at0 F304.out
  have p315 := cells_at1 F304.out
  have p316 := cells_at0 F306.out
  have p317 := cells_at1 F306.out
  have p318 := cells_at0 F309.out
  have p319 := cells_at1 F309.out
  go_wp2_with fail
  clear p310 p311 p312 p313 p314 p315 p316 p317 p318 p319
  refine (heldSpace_c N _ R.length 1 W19 (F305.out.ints) hRL (by omega) (by omega)).mono ?_
  rintro e W20 ⟨rfl, hb320⟩
  have hz321 := hb320.size
  have F322 := hide (F299.out.trans (hb320.mono (by omega)))
  have F323 := hide (F300.out.below hb320 (by omega))
  have F324 := hide ((hb320.block (w.heap.size) (by omega)).trans F301.out)
  have F325 := hide (F302.out.kept hb320)
  have F326 := hide ((hb320.block (W3.heap.size) (by omega)).trans F303.out)
  have F327 := hide ((hb320.block (W5.heap.size) (by omega)).trans F304.out)
  have F328 := hide (F305.out.kept hb320)
  have F329 := hide ((hb320.block (W7.heap.size) (by omega)).trans F306.out)
  have F330 := hide (F307.out.kept hb320)
  have F331 := hide (F308.out.kept hb320)
  have F332 := hide ((hb320.block (W17.heap.size) (by omega)).trans F309.out)
  clear hb320 F299 F300 F301 F302 F303 F304 F305 F306 F307 F308 F309
  have p333 := cells_at0 F324.out
  have p334 := cells_at1 F324.out
  have p335 := cells_at0 F326.out
  have p336 := cells_at1 F326.out
  have p337 := cells_at0 F327.out
  have p338 := cells_at1 F327.out
  have p339 := cells_at0 F329.out
  have p340 := cells_at1 F329.out
  have p341 := cells_at0 F332.out
  have p342 := cells_at1 F332.out
  go_wp2
  go_ret
  exact ⟨rfl, F322.out⟩

theorem ownK : ownKnob Tryd.prog.godebug = none := by kernel_rfl
theorem laidOut : laidOutB Tryd.prog = true := by kernel_rfl

/-- What a slice of int is, as it comes in. -/
theorem list_open {W : World} {v : Value} {l : List Int} (h : (v = .slice none 0 0 ∧ l = []) ∨ ∃ (a : Addr) (len c : Nat) (zs : List Int), v = .slice (some a) len c ∧ len ≤ zs.length ∧ len ≤ maxLen ∧ (∀ i, i < zs.length → W.cell? (a.add i) = some (.int .i64 (zs.getD i 0))) ∧ l = zs.take len) : ints W.heap.size W v l ∧ l.length ≤ 9223372036854775807 := by
  rcases h with ⟨rfl, rfl⟩ | ⟨x, len, c, zs, rfl, hlt, hm, hcell, rfl⟩
  · exact ⟨.inl ⟨rfl, none, 0, rfl⟩, by simp⟩
  · have htk : (zs.take len).length = len := by simp; omega
    refine ⟨?_, by unfold maxLen at hm; omega⟩
    rcases Nat.eq_zero_or_pos len with h0 | h0
    · subst h0
      exact .inl ⟨by simp, some x, c, rfl⟩
    · obtain ⟨b, off, rfl, hc⟩ := ints_at hcell (by omega)
      have hbl := block_lt_of_cell (hc 0 (by omega))
      refine .inr ⟨b, off, c, by rw [htk], hbl, hbl, fun j hj => ?_⟩
      rw [htk] at hj
      rw [hc j (by omega), List.getElem?_take, if_pos hj]
      rfl

/-- What a struct of an int and a slice of int is, as it comes in. -/
theorem space_open {H : Type} {enc : TypeId × Value → H} {W : World} {b0 : Nat} {v : Value} {d : DataW H} {p : List MemPlace}
    (hv : Value.okWide Tryd.prog W .any b0 27 v) (h : DataW.Trod enc Tryd.prog W 0 (fun _ => true) true 27 v d p) :
    ∃ (n : Int) (u : Value) (l : List Int), v = .agg #[.int .i64 n, u] ∧ ints W.heap.size W u l ∧ l.length ≤ 9223372036854775807 := by
  obtain ⟨v0, v1, y0, y1, m, rfl, rfl, rfl, hy0, hy1⟩ := open_agg2 Tryd.underlying27 (by kernel_rfl) (by kernel_rfl) hv h
  obtain ⟨n, e0, _, _⟩ := DataW.trod_int Tryd.underlying3 hy0
  simp at e0
  subst e0
  rcases open_ints Tryd.underlying25 Tryd.underlying3 (by kernel_rfl) hy1 with ⟨hcs, _⟩ | ⟨x, len, c, zs, hcs, _, hl, hm, hz, _, hcell, hwz⟩
  · simp at hcs
    subst hcs
    exact ⟨n, _, [], rfl, list_open (.inl ⟨rfl, rfl⟩)⟩
  · simp at hcs
    subst hcs
    have hz' : zs.length = c := by simpa using hz
    exact ⟨n, _, zs.take len, rfl, list_open (.inr ⟨x, len, c, zs, rfl, by omega, by unfold maxLen at hm ⊢; omega, hcell, rfl⟩)⟩


/-- What the card's condition gives: the table's cells. -/
theorem tab_of {W : World} (h : laidMetH Tryd.prog Rows.fnExactLeastNamedRow.laid W) : tab W := by
  rw [MakeChecks.laidMetH_plain _ _ _ (by kernel_rfl)] at h
  have h2 := h.tail
  have e : (Rows.laid_math_bits_deBruijn64tab : DataW Unit) = Lib.tabData .u8 (Lib.deBruijn64tab.map fun n : Nat => (n : Int)) := by kernel_rfl
  rw [e] at h2
  have hT := Lib.tabIs_of_head (g := 1) (t := 115) (e := 5) (n := 64) (by kernel_rfl) (by kernel_rfl) (by kernel_rfl) (by kernel_rfl) (by kernel_rfl) (by kernel_rfl) h2
  have hc : ∀ j, j < 64 → W.cell? ⟨1, j, none⟩ = some (.int .u8 (Lib.deBruijn64tab.getD j 0)) := by
    intro j hj
    have h3 := hT.cell (g := 1) (by kernel_rfl) j (by rw [show (Lib.deBruijn64tab.map fun n : Nat => (n : Int)).length = 64 by decide +kernel]; exact hj)
    rw [h3]
    have h4 : ∀ j, j < 64 → (Lib.deBruijn64tab.map fun n : Nat => (n : Int)).getD j 0 = (Lib.deBruijn64tab.getD j 0 : Int) := by decide +kernel
    rw [h4 j hj]
  exact ⟨block_lt_of_cell (hc 0 (by omega)), hc⟩
theorem door_met (os : Os) (args : Array Value) : laidMetH Tryd.prog Rows.fnExactLeastNamedRow.laid ((World.doorLaid Tryd.prog 400 os).forCall (fun _ _ => 0) ⟨#[], args, []⟩).memory :=
  laidMetH_of_parts3 (fuel := 8) (laidMet_of_run' 8 (by kernel_rfl) (by kernel_rfl)) (by kernel_rfl) (by kernel_rfl)

theorem lifted (os : Os) (started : os.Started) (H : Type) (enc : TypeId × Value → H) :
    ReturnsInHanded {} Tryd.checked os 4 .any (fun w args => (Rows.fnExactLeastNamedSpec.pre enc Tryd.prog Tryd.f4 [] false w args ∧ laidMetH Tryd.prog Rows.fnExactLeastNamedRow.laid w) ∧ sizedMet enc Tryd.prog Tryd.f4 (OpenSpec.ofChange Rows.fnExactLeastNamedSpec) false w args)
      (Rows.fnExactLeastNamedSpec.post enc Tryd.prog Tryd.f4 false true false false) := by
  refine returnsInHanded_of_change_and (C := Tryd.checked) (X := fun w _ => laidMetH Tryd.prog Rows.fnExactLeastNamedRow.laid w) (fun _ _ _ hh h => h.of_heap hh) ownK started (by kernel_rfl) Tryd.func4
    (ChangeSpec.witness_shaped (enc := enc) (C := Tryd.checked) (os := os) (X := fun w _ => laidMetH Tryd.prog Rows.fnExactLeastNamedRow.laid w) false (World.doorLaid Tryd.prog 400 os) #[.agg #[.int .i64 0, .slice none 0 0]] 8 rfl (World.shaped_of_RefB (by kernel_rfl) (by kernel_rfl)) (by kernel_rfl) (by kernel_rfl) (by kernel_rfl) (door_met os _)) ?_
  intro W base args ds gs before hval0 hW _ _ hL _
  have hTab := tab_of hL
  have hval : ∀ (j : Nat) t v, Tryd.f4.params[j]? = some t → args[j]? = some v → Value.okWide Tryd.prog W .any base t v := hval0
  have hW' := hW
  obtain ⟨p, q, hA0, hV, rfl, hfz, hnd⟩ := hW
  have hA : DataW.TrodAll enc Tryd.prog W 0 (fun _ => true) true Tryd.f4.params.toList args.toList ds p := hA0
  rw [Tryd.params4] at hA hval
  obtain ⟨v0, vs0, d0, ds0, p0, q0, hargs, rfl, rfl, t0, r0⟩ := trodAll_cons hA
  obtain ⟨rfl, rfl, rfl⟩ := trodAll_nil r0
  obtain rfl : args = #[v0] := by cases args; simp_all
  obtain ⟨rfl, rfl⟩ := trodVars_none hV
  have k0 := t0
  have lt0 : ∀ x ∈ p0, x.block < W.heap.size := by obtain ⟨m, hm⟩ := k0; exact DataW.trod_lt m _ _ _ hm
  obtain ⟨n0, u0, l0, rfl, i0, e0⟩ := space_open (hval 0 27 v0 rfl rfl) t0
  clear hA0 hval0
  refine (law_c n0 u0 l0 W i0 e0 hTab).mono fun e W' ⟨he, bel⟩ => ?_
  subst he
  exact ⟨_, rfl, _, _, _, [], _, [], hW', trodAll_mk1 (shut_bool Tryd.underlying4 _), (trodAll_cons_mk (Below.trod laidOut (by kernel_rfl) (of_decide_eq_true (by kernel_rfl)) k0 bel lt0) trodAll_mk0), rfl, bel.frame _, fun h => by cases h⟩

set_option maxHeartbeats 4000000 in
theorem over : Rows.fnExactLeastNamedRow.holds Tryd.pinned (OpenSpec.ofChange Rows.fnExactLeastNamedSpec) :=
  OpenClaim.holds_of_wide 4 Tryd.f4 rfl rfl rfl rfl rfl rfl rfl ⟨rfl, rfl, rfl, rfl, rfl⟩ rfl rfl rfl rfl rfl (by as_aux_lemma => kernel_rfl) Tryd.func4 (by as_aux_lemma => kernel_rfl)
    (of_decide_eq_true (by as_aux_lemma => kernel_rfl)) (by unfold Func.isWrapper; first | (rw [if_pos (by decide +kernel)]; kernel_rfl) | (rw [if_neg (by decide +kernel)]; exact ⟨rfl, rfl⟩))
    (fun os started H enc _ => lifted os started H enc)

set_option maxHeartbeats 8000000 in
theorem proved : Rows.FnExactLeastNamedCardSaid :=
  Claim7.holds_tied_plain_at .later [] [.data, .data] true _ false
    over (fun _ h => by cases h) (by as_aux_lemma => kernel_rfl) (fun _ h => by cases h) fnExactLeastNamed_row_tie rfl ⟨rfl, rfl⟩ (by as_aux_lemma => kernel_rfl) rfl
    (fun f fn hf hfn => by
      obtain rfl : f = 4 := Option.some.inj ((show Tryd.prog.funcNamed "loop.example/g01137/laws.FnExactLeastNamed" = some 4 by as_aux_lemma => kernel_rfl).symm.trans hf) |>.symm
      obtain rfl : fn = Tryd.f4 := (Option.some.inj (Tryd.func4.symm.trans hfn)).symm
      exact ⟨by as_aux_lemma => kernel_rfl, fun j t ht => by
        rw [Tryd.params4] at ht
        have hm : t ∈ [27] := by simpa using Array.mem_of_getElem? ht
        have hall : ([27].all fun u => !Tryd.prog.wantsStandIn u) = true := by as_aux_lemma => kernel_rfl
        exact (show Tryd.prog.wantsStandIn t = false by simpa using List.all_eq_true.1 hall t hm)⟩)
    (by as_aux_lemma => kernel_rfl)
#print axioms proved
end Go.Proofs.YtcokdhmccokkiaaDoor.FLeastNamed
