/- Contracts: LongestPath, CanLearn: the specification's and the program's. -/
import Derived.Test.YtagahoaogfogkaaPj
namespace Go.Proofs.Ytagahoaogfogkaa
open Go.RowKit
set_option maxRecDepth 100000
theorem clB_no1 {n : Int} {l : List Int} {x i : Int} (h : okOne n l x = false) : clB n l x i = false := by simp [clB, h]
theorem clR_no {n : Int} {l : List Int} {x i : Int} (h : clB n l x i = false) : clR n l x i = false := by simp [clR, h]
theorem lpR_no {n : Int} {l : List Int} (h : okSp n l = false) : lpR n l = 0 := by simp [lpR, poL_no h, mostTo]
theorem or_bitP (s i : Nat) (h : s.testBit i = false) : (s ||| p2 i) ≠ s := by
  intro e
  have := congrArg (fun z => z.testBit i) e
  simp [p2_bit, h] at this
theorem outer_has (F : Nat → Bool) (n s i : Nat) (hi : i < n) (h : s.testBit i = false) : (outerOf F n s).testBit i = F (s ||| p2 i) := by
  unfold outerOf
  rw [itemsOf_bit]
  have := or_bitP s i h
  simp [hi, this]
/-- A slice's length, at an operation. -/
theorem run_op_len3 {P : Program} {t I : TypeId} (ht : P.underlying t = some (.slice I)) {o : Oper} (x : Operand) (ho : o.op = .call { callee := .builtin .len, args := #[x], argTypes := #[t] }) {a : Act} (b : Option Addr) (n c : Nat) (hx : a.eval x = .slice b n c) {w : World} :
    (execOp a.eval o).run P w = .ok (.value (.int .i64 (n : Int))) w := by
  have he : P.underlying t = some (.slice (P.elem t)) := by
    rw [ht]; simp [Program.elem, ht]
  have hr : (Builtin.len_ #[t] o.type #[.slice b n c]).run P w = .ok (.int .i64 (n : Int)) w := by
    rw [run_len_slice (h := he)]
    simp [goInt]
  unfold execOp
  simp only [ho, resolve, invoke, Sem.run_bind, Sem.run_pure, Result.andThen_ok, List.map_toArray, List.map_cons, List.map_nil, hx, BigFrame.builtin_len, hr]
attribute [local irreducible] p2 low memB risB
set_option maxHeartbeats 1000000 in
theorem l1Most_c (a b : Nat) (w : World) : Calls Try.prog 89 #[.int .i64 (a : Int), .int .i64 (b : Int)] w fun e w' => e = .returned (.int .i64 ((max a b : Nat) : Int)) ∧ w = w' := by
  by_cases h : (a : Int) < (b : Int)
  · by_cases h2 : (b : Int) < (a : Int)
    · omega
    · go_enter Try.func89, Try.ntmps89
      go_wp2
      go_ret
      exact ⟨ret_i (by omega), rfl⟩
  · by_cases h2 : (b : Int) < (a : Int)
    · go_enter Try.func89, Try.ntmps89
      go_wp2
      go_ret
      exact ⟨ret_i (by omega), rfl⟩
    · have : a = b := by omega
      subst this
      go_enter Try.func89, Try.ntmps89
      go_wp2
      go_ret
      exact ⟨ret_i (by omega), rfl⟩

set_option maxHeartbeats 1000000 in
theorem specLongestPath_c (n : Int) (v : Value) (l : List Int) (w : World) (hl : ints w.heap.size w v l) (hlen : l.length < 1000000000) :
    Calls Try.prog 44 #[.agg #[.int .i64 n, v]] w fun e w' => e = .returned (.tuple #[.int .i64 (lpR n l), .bool (okSp n l)]) ∧ Below w.heap.size w w' := by
  have HL := hide ((hl.alloc (.cells #[.int .i64 n, v] 26)).mono (show w.heap.size ≤ (w.alloc (.cells #[.int .i64 n, v] 26)).heap.size by simp))
  have H0 := hide ((Below.refl w.heap.size w).alloc (Nat.le_refl _) (.cells #[.int .i64 n, v] 26))
  have HS0 := hide (hp_last w (.cells #[.int .i64 n, v] 26))
  have HZ := hide (show (w.alloc (.cells #[.int .i64 n, v] 26)).heap.size = w.heap.size + 1 by simp)
  have hc0 := cells_at0 HS0.out
  have hc1 := cells_at1 HS0.out
  clear hl
  cases hok : okSp n l
  · have HG := hide (show goodB n l = false by rw [← ok_good]; exact hok)
    rw [lpR_no hok]
    clear hok
    go_enter Try.func44, Try.ntmps44
    go_wp2_with (go_at_call 74; refine (spGood_c n v l _ HL.out hlen).mono ?_; rw [HG.out]; rintro e w1 ⟨rfl, hb1⟩; have HB1 := hide (H0.out.trans (hb1.mono (by rw [HZ.out]; omega))); clear hb1)
    go_ret2
    exact ⟨rfl, HB1.out⟩
  · have HG := hide (show goodB n l = true by rw [← ok_good]; exact hok)
    have HI := hide (okSp_inc hok)
    have HR := hide (okSp_r128 hok)
    have hl128 := okSp_len hok
    have HAT := hide (poL_at n l)
    have hpl : (poL n l).length ≤ l.length := by rw [poL_yes hok]; exact paTo_len (pathSp l) l l.length
    have HP := hide (poL_yes hok).symm
    have HLP := hide (show lpR n l = (mostTo (poL n l) (poL n l).length : Int) from rfl)
    clear hok
    generalize poL n l = P at HAT hpl HP HLP
    rw [HLP.out]
    go_enter Try.func44, Try.ntmps44
    go_wp2_with (first
      | (go_at_call 74; refine (spGood_c n v l _ HL.out hlen).mono ?_; rw [HG.out]; rintro e w1 ⟨rfl, hb1⟩; have HS1 := hide ((hb1.block w.heap.size (by rw [HZ.out]; omega)).trans HS0.out); have c0 := cells_at0 HS1.out; have c1 := cells_at1 HS1.out; have HL1 := hide ((HL.out.below hb1 (Nat.le_refl _)).mono hb1.size); have hz1 := hb1.size; rw [HZ.out] at hz1; have HB1 := hide (H0.out.trans (hb1.mono (by rw [HZ.out]; omega))); clear hb1)
      | (go_at_call 75; refine (paAll_c n v l _ HL1.out HI.out (by omega) HR.out).mono ?_; rw [HP.out]; rintro e w2 ⟨v2, rfl, ho2, hb2⟩; have HI2 := hide ho2.ints; have HB2 := hide (HB1.out.trans (hb2.mono (by omega))); clear ho2 hb2)
      | (refine wpList_len sliceT rfl (.tmp _) rfl _ rfl w2.heap.size P HI2.out ?_))
    go_loop [4, 13] (fun o i => ∃ k : Nat, k ≤ P.length ∧ i = .int .i64 (k : Int) ∧ o = .int .i64 (mostTo P k : Int)) (fun _ i => P.length - (intOf i).toNat)
    case atStart => exact ⟨0, by omega, rfl, rfl⟩
    case round =>
      obtain ⟨j, hj, rfl, rfl⟩ := hrel
      by_cases hlt : j < P.length
      · have hx := HAT.out j hlt
        have HN := hide (show mostTo P (j + 1) = max (mostTo P j) (pc (nth P j)) from rfl)
        have HC : Hid (∀ (w1 : World), Calls Try.prog 82 #[.int .i64 (nth P j : Int)] w1 fun e w' => e = .returned (.int .i64 (pc (nth P j) : Int)) ∧ w1 = w') := hide fun w1 => by
          have := spCount_c (nth P j : Int) w1 (by omega) (by omega)
          rw [Int.toNat_natCast] at this
          exact this
        generalize mostTo P j = M at HN
        generalize pc (nth P j) = c at HN HC
        generalize nth P j = y at hx HC
        have HXX := hide hx.1
        clear hx
        go_wp2_with (first
          | (refine wpList_at sliceT intS rfl (.tmp _) (.tmp _) rfl _ rfl j rfl w2.heap.size P HI2.out hlt ?_; intro ad hcell hblk; rw [HXX.out] at hcell)
          | (go_at_call 82; refine (HC.out _).mono ?_; rintro e w3 ⟨rfl, rfl⟩)
          | (go_at_call 89; refine (l1Most_c M c _).mono ?_; rintro e w3 ⟨rfl, rfl⟩))
        go_round
        case rel => exact ⟨j + 1, by omega, by go_num, by rw [HN.out]⟩
        case measure => simp [intOf]; omega
      · have HJ := hide (show j = P.length by omega)
        have hlt' : ¬ ((j : Int) < (P.length : Int)) := by omega
        go_wp2
        go_ret2
        exact ⟨by rw [HJ.out]; rfl, HB2.out⟩
set_option maxHeartbeats 2000000 in
theorem implLongestPath_c (n : Int) (v : Value) (l : List Int) (w : World) (hl : ints w.heap.size w v l) (hlen : l.length < 1000000000) :
    Calls Try.prog 45 #[.agg #[.int .i64 n, v]] w fun e w' => e = .returned (.tuple #[.int .i64 (lpR n l), .bool (okSp n l)]) ∧ Below w.heap.size w w' := by
  have HL := hide ((hl.alloc (.cells #[.int .i64 n, v] 26)).mono (show w.heap.size ≤ (w.alloc (.cells #[.int .i64 n, v] 26)).heap.size by simp))
  have H0 := hide ((Below.refl w.heap.size w).alloc (Nat.le_refl _) (.cells #[.int .i64 n, v] 26))
  have HZ := hide (show (w.alloc (.cells #[.int .i64 n, v] 26)).heap.size = w.heap.size + 1 by simp)
  have key : ∀ (N : Int) (F : Nat → Bool) (b : Bool), famVal n l = .tuple #[.agg (fam N F), .bool b] → 0 ≤ N → N ≤ 7 → poL n l = setsTo (fun x => pathF F N.toNat x && (andNot x (low N.toNat) == 0)) (2 ^ N.toNat) → okSp n l = b →
      Calls Try.prog 45 #[.agg #[.int .i64 n, v]] w fun e w' => e = .returned (.tuple #[.int .i64 (lpR n l), .bool (okSp n l)]) ∧ Below w.heap.size w w' := by
    intro N F b hv hN0 hN7 hr hb0
    have HV := hide hv
    have HAT := hide (poL_at n l)
    have hpl : (poL n l).length ≤ 128 := by
      rw [hr]
      have h1 := setsTo_len (fun x => pathF F N.toNat x && (andNot x (low N.toNat) == 0)) (2 ^ N.toNat)
      have h2 := p2_le N.toNat 7 (by omega)
      omega
    have HR := hide hr
    have HLP := hide (show lpR n l = (mostTo (poL n l) (poL n l).length : Int) from rfl)
    rw [hb0]
    clear hv hr hb0
    generalize poL n l = P at HAT hpl HR HLP
    rw [HLP.out]
    go_enter Try.func45, Try.ntmps45
    go_wp2_with (first
      | (go_at_call 60; refine (familyOf_c n v l _ HL.out hlen).mono ?_; rw [HV.out]; rintro e w1 ⟨rfl, hb⟩; have hz1 := hb.size; rw [HZ.out] at hz1; have HH := hide ((famAt.new 64 w1 0 noSet).row N F); have HB := hide (bl_row ((H0.out.trans (hb.mono (by rw [HZ.out]; omega))).alloc (by omega) (.cells (fam 0 noSet) 64)) (show w.heap.size ≤ w1.heap.size by omega) (fam N F)); clear hb)
      | (refine wpList_alloc_fam zeroT rfl rfl _ (by first | (simp only [World.size_alloc]; rfl) | rfl) ?_)
      | (refine wpList_store_fam sizeT rfl (.tmp _) (.tmp _) rfl _ _ _ rfl rfl _ _ (famAt.new _ _ _ _) ?_))
    have hzX : ((w1.alloc (.cells (fam 0 noSet) 64)).setRow w1.heap.size (fam N F)).heap.size = w1.heap.size + 1 := by simp [World.setRow]
    generalize (w1.alloc (.cells (fam 0 noSet) 64)).setRow w1.heap.size (fam N F) = W at HH HB hzX ⊢
    refine wp_region_held (S := Below W.heap.size W) (by kernel_rfl) ?_
    have hS : Below W.heap.size W { W with drawn := W.drawn + 1 } := (Below.refl _ _).drew
    refine wpAnyH_take (i := 0) rfl (by kernel_rfl) (by kernel_rfl) (by kernel_rfl) (fun _ _ _ h => h) (yields_load_fam rowT sizeT rfl (.tmp _) rfl _ rfl N F (fun w' h => HH.out.below h HH.out.lt)) hS ?_
    refine wpAnyH_take (i := 1) rfl (by kernel_rfl) (by kernel_rfl) (by kernel_rfl) (fun _ _ _ h => h) (yields_load_fam rowT sizeT rfl (.tmp _) rfl _ rfl N F (fun w' h => HH.out.below h HH.out.lt)) hS ?_
    refine wpAnyH_take (i := 5) (v := .int .i64 0) rfl (by kernel_rfl) (by kernel_rfl) (by kernel_rfl) (fun _ _ _ h => h) (.inl ⟨rfl, fun w' _ => by go_simp⟩) hS ?_
    simp only [Act.put, List.getElem_toArray, List.getElem_cons_zero, List.getElem_cons_succ, List.setIfInBounds_toArray, List.set_cons_zero, List.set_cons_succ]
    refine anyH_call (i := 2) (by kernel_rfl) rfl rfl 53 ent_fullP _ _ rfl #[.agg (fam N F)] rfl (full_c N F _ hN0 hN7) ?_
    rintro e w2 ⟨rfl, hb2⟩
    have hS2 : Below W.heap.size W w2 := hS.trans hb2
    have hz2 := hS2.size
    refine ⟨_, rfl, hS2, ?_⟩
    simp only [Act.put, List.getElem_toArray, List.getElem_cons_zero, List.getElem_cons_succ, List.setIfInBounds_toArray, List.set_cons_zero, List.set_cons_succ]
    have hcp := pathsWithin_c N F (low N.toNat) w2 hN0 hN7
    rw [← HR.out] at hcp
    refine anyH_call (i := 3) (by kernel_rfl) rfl rfl 76 ent_pathsWithin _ _ rfl #[.agg (fam N F), .int .i64 (low N.toNat : Int)] rfl hcp ?_
    rintro e w3 ⟨v3, rfl, ho3, hb3⟩
    have hS3 : Below W.heap.size W w3 := hS2.trans (hb3.mono hz2)
    have HI3 := hide ho3.ints
    obtain ⟨a3, c3, hv3⟩ := ho3.shape
    subst hv3
    refine ⟨_, rfl, hS3, ?_⟩
    simp only [Act.put, List.getElem_toArray, List.getElem_cons_zero, List.getElem_cons_succ, List.setIfInBounds_toArray, List.set_cons_zero, List.set_cons_succ]
    refine anyH_op (i := 4) (by kernel_rfl) rfl rfl (.int .i64 (P.length : Int)) w3 (run_op_len3 sliceT (.tmp _) rfl a3 P.length c3 rfl) hS3 ?_
    refine wpAnyH_done (by kernel_rfl) ?_ _
    simp only [Act.put, List.getElem_toArray, List.getElem_cons_zero, List.getElem_cons_succ, List.setIfInBounds_toArray, List.set_cons_zero, List.set_cons_succ]
    have HB3 := hide (HB.out.trans (hS3.mono (by omega)))
    clear hS hS3 hb3 ho3 hS2 hb2 hcp
    go_wp2
    go_loop [6, 19] (fun o i => ∃ k : Nat, k ≤ P.length ∧ i = .int .i64 (k : Int) ∧ o = .int .i64 (mostTo P k : Int)) (fun _ i => P.length - (intOf i).toNat)
    case atStart => exact ⟨0, by omega, rfl, rfl⟩
    case round =>
      obtain ⟨j, hj, rfl, rfl⟩ := hrel
      by_cases hlt : j < P.length
      · have hx := HAT.out j hlt
        have HN := hide (show mostTo P (j + 1) = max (mostTo P j) (pc (nth P j)) from rfl)
        have HC : Hid (∀ (w1 : World), Calls Try.prog 90 #[.int .i64 (nth P j : Int)] w1 fun e w' => e = .returned (.int .i64 (pc (nth P j) : Int)) ∧ w1 = w') := hide fun w1 => by
          have := size_c (nth P j : Int) w1 (by omega) (by omega)
          rw [Int.toNat_natCast] at this
          exact this
        generalize mostTo P j = M at HN
        generalize pc (nth P j) = c at HN HC
        generalize nth P j = y at hx HC
        have HXX := hide hx.1
        clear hx
        by_cases hM : (M : Int) < (c : Int)
        all_goals
          go_wp2_with (first
            | (refine wpList_at sliceT intS rfl (.tmp _) (.tmp _) rfl _ rfl j rfl w3.heap.size P HI3.out hlt ?_; intro ad hcell hblk; rw [HXX.out] at hcell)
            | (go_at_call 90; refine (HC.out _).mono ?_; rintro e w4 ⟨rfl, rfl⟩))
          go_round
          case rel => exact ⟨j + 1, by omega, by go_num, by rw [HN.out]; go_num⟩
          case measure => simp [intOf]; omega
      · have HJ := hide (show j = P.length by omega)
        have hlt' : ¬ ((j : Int) < (P.length : Int)) := by omega
        go_wp2
        go_ret2
        exact ⟨by rw [HJ.out]; rfl, HB3.out⟩
  cases hok : okSp n l
  · rw [← hok]
    exact key 0 noSet false (famVal_no n l hok) (by omega) (by omega) (poL_no2 hok) hok
  · have hn := okSp_n hok
    rw [← hok]
    exact key n _ true (famVal_yes n l hok) (by omega) (by omega) (poL_yes2 hok) hok
end Go.Proofs.Ytagahoaogfogkaa
