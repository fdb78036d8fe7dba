/- Contracts: SetsLeft, CountLeft, KnownOf, the program's and the specification's. -/
import Derived.Test.YtijgngnjhmkhaaaHd
namespace Go.Proofs.Ytijgngnjhmkhaaa
open Go.RowKit
set_option maxRecDepth 100000
set_option linter.unusedSimpArgs false
attribute [local irreducible] p2 low memB risB
set_option maxHeartbeats 2000000 in
theorem implSetsLeft_c (n : Int) (v : Value) (l : List Int) (y z : Int) (w : World) (hl : ints w.heap.size w v l) (hlen : l.length < 1000000000) :
    Calls Try.prog 16 #[.agg #[.int .i64 n, v], .int .i64 y, .int .i64 z] w fun e w' => ∃ v', e = .returned (.tuple #[v', .bool (asB n l y z)]) ∧ own 3 w' w.heap.size v' (asL n l y z) ∧ Below w.heap.size w w' := by
  have HL := hide ((hl.alloc (.cells #[.int .i64 n, v] 28)).mono (show w.heap.size ≤ (w.alloc (.cells #[.int .i64 n, v] 28)).heap.size by simp))
  have H0 := hide ((Below.refl w.heap.size w).alloc (Nat.le_refl _) (.cells #[.int .i64 n, v] 28))
  have HZ := hide (show (w.alloc (.cells #[.int .i64 n, v] 28)).heap.size = w.heap.size + 1 by simp)
  have HFL := hide (fun w1 h => familyLeft_c n v l y z w1 h hlen)
  obtain ⟨hN0, hN7⟩ := lfN_in n l y z
  have HLL := hide (lf_list n l y z)
  have HKO := hide (ko_prog n l y z)
  have HFD := hide (show famL n l y z = .tuple #[.agg (fam (lfN n l y z) (lfM n l y z)), .bool (asB n l y z)] from rfl)
  rw [HFD.out] at HFL
  clear hl HFD
  generalize lfN n l y z = N at *
  generalize lfM n l y z = F at *
  generalize asB n l y z = b at *
  obtain ⟨m, rfl⟩ := Int.eq_ofNat_of_zero_le hN0
  rw [Int.toNat_natCast] at HKO
  have HSE := hide (fun w1 => sets_c (m : Int) F w1)
  rw [HLL.out] at HSE
  go_enter Try.func16, Try.ntmps16
  go_wp2_with (first
    | (go_at_call 47; refine (HFL.out _ HL.out).mono ?_; rintro e w1 ⟨rfl, hb⟩; have hz1 := hb.size; rw [HZ.out] at hz1; have HH := hide ((famAt.new 56 w1 0 noSet).row (m : Int) F); have HZ2 := hide (show ((w1.alloc (.cells (fam 0 noSet) 56)).setRow w1.heap.size (fam (m : Int) F)).heap.size = w1.heap.size + 1 by simp [World.setRow]); have HB := hide (bl_row ((H0.out.trans (hb.mono (by rw [HZ.out]; omega))).alloc (by omega) (.cells (fam 0 noSet) 56)) (show w.heap.size ≤ w1.heap.size by omega) (fam (m : Int) F)); clear hb)
    | (refine wpList_alloc_fam zeroT rfl rfl _ (by first | (simp only [World.size_alloc]; rfl) | rfl) ?_)
    | (refine wpList_store_fam sizeT rfl (.tmp _) (.tmp _) rfl w1.heap.size _ _ rfl rfl _ _ (famAt.new _ _ _ _) ?_)
    | (refine wpList_load_fam rowT sizeT rfl (.tmp _) rfl w1.heap.size rfl (m : Int) F HH.out ?_)
    | (go_at_call 48; refine (HSE.out _).mono ?_; rintro e w3 ⟨v3, rfl, ho3, hb3⟩; rw [HZ2.out] at ho3 hb3; have HB3 := hide (HB.out.trans (hb3.mono (by omega))); have HO3 := hide (show own 3 w3 w.heap.size v3 _ from ho3.mono (by omega)); clear ho3 hb3))
  go_ret2
  exact ⟨_, rfl, HO3.out, HB3.out⟩
set_option maxHeartbeats 2000000 in
theorem implCountLeft_c (n : Int) (v : Value) (l : List Int) (y z : Int) (w : World) (hl : ints w.heap.size w v l) (hlen : l.length < 1000000000) :
    Calls Try.prog 23 #[.agg #[.int .i64 n, v], .int .i64 y, .int .i64 z] w fun e w' => e = .returned (.tuple #[.int .i64 ((asL n l y z).length : Int), .bool (asB n l y z)]) ∧ Below w.heap.size w w' := by
  have HL := hide ((hl.alloc (.cells #[.int .i64 n, v] 28)).mono (show w.heap.size ≤ (w.alloc (.cells #[.int .i64 n, v] 28)).heap.size by simp))
  have H0 := hide ((Below.refl w.heap.size w).alloc (Nat.le_refl _) (.cells #[.int .i64 n, v] 28))
  have HZ := hide (show (w.alloc (.cells #[.int .i64 n, v] 28)).heap.size = w.heap.size + 1 by simp)
  have HFL := hide (fun w1 h => familyLeft_c n v l y z w1 h hlen)
  obtain ⟨hN0, hN7⟩ := lfN_in n l y z
  have HLL := hide (lf_list n l y z)
  have HKO := hide (ko_prog n l y z)
  have HFD := hide (show famL n l y z = .tuple #[.agg (fam (lfN n l y z) (lfM n l y z)), .bool (asB n l y z)] from rfl)
  rw [HFD.out] at HFL
  clear hl HFD
  generalize lfN n l y z = N at *
  generalize lfM n l y z = F at *
  generalize asB n l y z = b at *
  obtain ⟨m, rfl⟩ := Int.eq_ofNat_of_zero_le hN0
  rw [Int.toNat_natCast] at HKO
  have HSE := hide (fun w1 => count_c (m : Int) F w1)
  have hcn : cntS F = (asL n l y z).length := by rw [← HLL.out]; rfl
  rw [hcn] at HSE
  clear hcn
  go_enter Try.func23, Try.ntmps23
  go_wp2_with (first
    | (go_at_call 47; refine (HFL.out _ HL.out).mono ?_; rintro e w1 ⟨rfl, hb⟩; have hz1 := hb.size; rw [HZ.out] at hz1; have HH := hide ((famAt.new 56 w1 0 noSet).row (m : Int) F); have HZ2 := hide (show ((w1.alloc (.cells (fam 0 noSet) 56)).setRow w1.heap.size (fam (m : Int) F)).heap.size = w1.heap.size + 1 by simp [World.setRow]); have HB := hide (bl_row ((H0.out.trans (hb.mono (by rw [HZ.out]; omega))).alloc (by omega) (.cells (fam 0 noSet) 56)) (show w.heap.size ≤ w1.heap.size by omega) (fam (m : Int) F)); clear hb)
    | (refine wpList_alloc_fam zeroT rfl rfl _ (by first | (simp only [World.size_alloc]; rfl) | rfl) ?_)
    | (refine wpList_store_fam sizeT rfl (.tmp _) (.tmp _) rfl w1.heap.size _ _ rfl rfl _ _ (famAt.new _ _ _ _) ?_)
    | (refine wpList_load_fam rowT sizeT rfl (.tmp _) rfl w1.heap.size rfl (m : Int) F HH.out ?_)
    | (go_at_call 49; refine (HSE.out _).mono ?_; rintro e w3 ⟨rfl, hb3⟩; rw [HZ2.out] at hb3; have HB3 := hide (HB.out.trans (hb3.mono (by omega))); clear hb3))
  go_ret2
  exact ⟨rfl, HB3.out⟩
set_option maxHeartbeats 2000000 in
theorem implKnownOf_c (n : Int) (v : Value) (l : List Int) (y z : Int) (w : World) (hl : ints w.heap.size w v l) (hlen : l.length < 1000000000) :
    Calls Try.prog 25 #[.agg #[.int .i64 n, v], .int .i64 y, .int .i64 z] w fun e w' => e = .returned (.tuple #[.int .i64 (koR n l y z), .int .i64 (koS n l y z), .bool (asB n l y z)]) ∧ Below w.heap.size w w' := by
  have HL := hide ((hl.alloc (.cells #[.int .i64 n, v] 28)).mono (show w.heap.size ≤ (w.alloc (.cells #[.int .i64 n, v] 28)).heap.size by simp))
  have H0 := hide ((Below.refl w.heap.size w).alloc (Nat.le_refl _) (.cells #[.int .i64 n, v] 28))
  have HZ := hide (show (w.alloc (.cells #[.int .i64 n, v] 28)).heap.size = w.heap.size + 1 by simp)
  have HFL := hide (fun w1 h => familyLeft_c n v l y z w1 h hlen)
  obtain ⟨hN0, hN7⟩ := lfN_in n l y z
  have HLL := hide (lf_list n l y z)
  have HKO := hide (ko_prog n l y z)
  have HFD := hide (show famL n l y z = .tuple #[.agg (fam (lfN n l y z) (lfM n l y z)), .bool (asB n l y z)] from rfl)
  rw [HFD.out] at HFL
  clear hl HFD
  generalize lfN n l y z = N at *
  generalize lfM n l y z = F at *
  generalize asB n l y z = b at *
  obtain ⟨m, rfl⟩ := Int.eq_ofNat_of_zero_le hN0
  rw [Int.toNat_natCast] at HKO
  have HSE := hide (fun w1 => known_c m F w1 (by omega))
  rw [← HKO.out.1, ← HKO.out.2] at HSE
  go_enter Try.func25, Try.ntmps25
  go_wp2_with (first
    | (go_at_call 47; refine (HFL.out _ HL.out).mono ?_; rintro e w1 ⟨rfl, hb⟩; have hz1 := hb.size; rw [HZ.out] at hz1; have HH := hide ((famAt.new 56 w1 0 noSet).row (m : Int) F); have HZ2 := hide (show ((w1.alloc (.cells (fam 0 noSet) 56)).setRow w1.heap.size (fam (m : Int) F)).heap.size = w1.heap.size + 1 by simp [World.setRow]); have HB := hide (bl_row ((H0.out.trans (hb.mono (by rw [HZ.out]; omega))).alloc (by omega) (.cells (fam 0 noSet) 56)) (show w.heap.size ≤ w1.heap.size by omega) (fam (m : Int) F)); clear hb)
    | (refine wpList_alloc_fam zeroT rfl rfl _ (by first | (simp only [World.size_alloc]; rfl) | rfl) ?_)
    | (refine wpList_store_fam sizeT rfl (.tmp _) (.tmp _) rfl w1.heap.size _ _ rfl rfl _ _ (famAt.new _ _ _ _) ?_)
    | (refine wpList_load_fam rowT sizeT rfl (.tmp _) rfl w1.heap.size rfl (m : Int) F HH.out ?_)
    | (go_at_call 51; refine (HSE.out _).mono ?_; rintro e w3 ⟨rfl, hb3⟩; rw [HZ2.out] at hb3; have HB3 := hide (HB.out.trans (hb3.mono (by omega))); clear hb3))
  go_ret3
  exact ⟨rfl, HB3.out⟩
/-! The specification's. -/
set_option maxHeartbeats 2000000 in
theorem specSetsLeft_c (n : Int) (v : Value) (l : List Int) (y z : Int) (w : World) (hl : ints w.heap.size w v l) (hlen : l.length < 1000000000) :
    Calls Try.prog 14 #[.agg #[.int .i64 n, v], .int .i64 y, .int .i64 z] w fun e w' => ∃ v', e = .returned (.tuple #[v', .bool (asB n l y z)]) ∧ own 3 w' w.heap.size v' (asL n l y z) ∧ Below w.heap.size w w' := by
  have HL := hide ((hl.alloc (.cells #[.int .i64 n, v] 28)).mono (show w.heap.size ≤ (w.alloc (.cells #[.int .i64 n, v] 28)).heap.size by simp))
  have H0 := hide ((Below.refl w.heap.size w).alloc (Nat.le_refl _) (.cells #[.int .i64 n, v] 28))
  have HS0 := hide (hp_last w (.cells #[.int .i64 n, v] 28))
  have HZ := hide (show (w.alloc (.cells #[.int .i64 n, v] 28)).heap.size = w.heap.size + 1 by simp)
  have c0 := cells_at0 HS0.out
  have c1 := cells_at1 HS0.out
  have HAG := hide (fun w1 h => asGood_c n v l y z w1 h hlen)
  clear hl
  cases hg : asB n l y z
  · rw [hg] at HAG
    rw [asL_no hg]
    clear hg
    go_enter Try.func14, Try.ntmps14
    go_wp2_with (first
      | (go_at_call 44; refine (HAG.out _ HL.out).mono ?_; rintro e w1 ⟨rfl, hb1⟩; have HS1 := hide ((hb1.block w.heap.size (by rw [HZ.out]; omega)).trans HS0.out); have d0 := cells_at0 HS1.out; have d1 := cells_at1 HS1.out; have HL1 := hide ((HL.out.below hb1 (Nat.le_refl _)).mono hb1.size); have hz1 := hb1.size; rw [HZ.out] at hz1; have HB1 := hide (H0.out.trans (hb1.mono (by rw [HZ.out]; omega))); clear hb1 c0 c1)
      | (go_at_call 45; refine (HAS.out _ HL1.out).mono ?_; rintro e w2 ⟨v2, rfl, ho2, hb2⟩; have HI2 := hide ho2.ints; have HO2 := hide (show own 3 w2 w.heap.size v2 _ from ho2.mono (by omega)); have HB2 := hide (HB1.out.trans (hb2.mono (by omega))); clear ho2 hb2)
      )
    go_ret2
    exact ⟨_, rfl, own_nil _ _ _, HB1.out⟩
  · skip
    obtain ⟨hsp, hy, hz, _⟩ := asOk_in (asB_ok hg)
    have HR := hide (sp_r128 hsp)
    have hn := okSp_n hsp
    have hlo := low_lt n.toNat (by omega)
    have HAL := hide (asL_yes hg)
    obtain ⟨y, rfl⟩ := Int.eq_ofNat_of_zero_le hy.1
    obtain ⟨z, rfl⟩ := Int.eq_ofNat_of_zero_le hz.1
    have hy8 : y < 128 := by omega
    have hz8 : z < 128 := by omega
    rw [Int.toNat_natCast, Int.toNat_natCast] at HAL
    have HAS := hide (fun w1 h => asLeft_c n v l y z w1 h hlen HR.out hy8 hz8)
    rw [hg] at HAG
    clear hy hz hlo
    rw [HAL.out]
    clear hg
    go_enter Try.func14, Try.ntmps14
    go_wp2_with (first
      | (go_at_call 44; refine (HAG.out _ HL.out).mono ?_; rintro e w1 ⟨rfl, hb1⟩; have HS1 := hide ((hb1.block w.heap.size (by rw [HZ.out]; omega)).trans HS0.out); have d0 := cells_at0 HS1.out; have d1 := cells_at1 HS1.out; have HL1 := hide ((HL.out.below hb1 (Nat.le_refl _)).mono hb1.size); have hz1 := hb1.size; rw [HZ.out] at hz1; have HB1 := hide (H0.out.trans (hb1.mono (by rw [HZ.out]; omega))); clear hb1 c0 c1)
      | (go_at_call 45; refine (HAS.out _ HL1.out).mono ?_; rintro e w2 ⟨v2, rfl, ho2, hb2⟩; have HI2 := hide ho2.ints; have HO2 := hide (show own 3 w2 w.heap.size v2 _ from ho2.mono (by omega)); have HB2 := hide (HB1.out.trans (hb2.mono (by omega))); clear ho2 hb2)
      )
    go_ret2
    exact ⟨_, rfl, HO2.out, HB2.out⟩
set_option maxHeartbeats 2000000 in
theorem specCountLeft_c (n : Int) (v : Value) (l : List Int) (y z : Int) (w : World) (hl : ints w.heap.size w v l) (hlen : l.length < 1000000000) :
    Calls Try.prog 22 #[.agg #[.int .i64 n, v], .int .i64 y, .int .i64 z] w fun e w' => e = .returned (.tuple #[.int .i64 ((asL n l y z).length : Int), .bool (asB n l y z)]) ∧ Below w.heap.size w w' := by
  have HL := hide ((hl.alloc (.cells #[.int .i64 n, v] 28)).mono (show w.heap.size ≤ (w.alloc (.cells #[.int .i64 n, v] 28)).heap.size by simp))
  have H0 := hide ((Below.refl w.heap.size w).alloc (Nat.le_refl _) (.cells #[.int .i64 n, v] 28))
  have HS0 := hide (hp_last w (.cells #[.int .i64 n, v] 28))
  have HZ := hide (show (w.alloc (.cells #[.int .i64 n, v] 28)).heap.size = w.heap.size + 1 by simp)
  have c0 := cells_at0 HS0.out
  have c1 := cells_at1 HS0.out
  have HAG := hide (fun w1 h => asGood_c n v l y z w1 h hlen)
  clear hl
  cases hg : asB n l y z
  · rw [hg] at HAG
    rw [asL_no hg]
    clear hg
    go_enter Try.func22, Try.ntmps22
    go_wp2_with (first
      | (go_at_call 44; refine (HAG.out _ HL.out).mono ?_; rintro e w1 ⟨rfl, hb1⟩; have HS1 := hide ((hb1.block w.heap.size (by rw [HZ.out]; omega)).trans HS0.out); have d0 := cells_at0 HS1.out; have d1 := cells_at1 HS1.out; have HL1 := hide ((HL.out.below hb1 (Nat.le_refl _)).mono hb1.size); have hz1 := hb1.size; rw [HZ.out] at hz1; have HB1 := hide (H0.out.trans (hb1.mono (by rw [HZ.out]; omega))); clear hb1 c0 c1)
      | (go_at_call 45; refine (HAS.out _ HL1.out).mono ?_; rintro e w2 ⟨v2, rfl, ho2, hb2⟩; have HI2 := hide ho2.ints; have HO2 := hide (show own 3 w2 w.heap.size v2 _ from ho2.mono (by omega)); have HB2 := hide (HB1.out.trans (hb2.mono (by omega))); clear ho2 hb2)
      )
    go_ret2
    exact ⟨rfl, HB1.out⟩
  · skip
    obtain ⟨hsp, hy, hz, _⟩ := asOk_in (asB_ok hg)
    have HR := hide (sp_r128 hsp)
    have hn := okSp_n hsp
    have hlo := low_lt n.toNat (by omega)
    have HAL := hide (asL_yes hg)
    obtain ⟨y, rfl⟩ := Int.eq_ofNat_of_zero_le hy.1
    obtain ⟨z, rfl⟩ := Int.eq_ofNat_of_zero_le hz.1
    have hy8 : y < 128 := by omega
    have hz8 : z < 128 := by omega
    rw [Int.toNat_natCast, Int.toNat_natCast] at HAL
    have HAS := hide (fun w1 h => asLeft_c n v l y z w1 h hlen HR.out hy8 hz8)
    rw [hg] at HAG
    clear hy hz hlo
    rw [HAL.out]
    clear hg
    generalize lfL l y z = L at *
    go_enter Try.func22, Try.ntmps22
    go_wp2_with (first
      | (go_at_call 44; refine (HAG.out _ HL.out).mono ?_; rintro e w1 ⟨rfl, hb1⟩; have HS1 := hide ((hb1.block w.heap.size (by rw [HZ.out]; omega)).trans HS0.out); have d0 := cells_at0 HS1.out; have d1 := cells_at1 HS1.out; have HL1 := hide ((HL.out.below hb1 (Nat.le_refl _)).mono hb1.size); have hz1 := hb1.size; rw [HZ.out] at hz1; have HB1 := hide (H0.out.trans (hb1.mono (by rw [HZ.out]; omega))); clear hb1 c0 c1)
      | (go_at_call 45; refine (HAS.out _ HL1.out).mono ?_; rintro e w2 ⟨v2, rfl, ho2, hb2⟩; have HI2 := hide ho2.ints; have HO2 := hide (show own 3 w2 w.heap.size v2 _ from ho2.mono (by omega)); have HB2 := hide (HB1.out.trans (hb2.mono (by omega))); clear ho2 hb2)
      | (refine wpList_len sliceT rfl (.tmp _) rfl _ rfl w2.heap.size L HI2.out ?_))
    go_ret2
    exact ⟨rfl, HB2.out⟩
section
variable {P : Program}
theorem q_callT {ops : Array Oper} {rest : List Oper} {o : Oper} {a : Act} {w : World} {Q : Act → Prop} (hw : Region.wanted o (yielded ops a.tmps) = true) (k : FuncId) (hk : enters P k) (xs : Array Operand) (ts : Array TypeId)
    (ho : o.op = .call { callee := .value (.func k), args := xs, argTypes := ts }) (args : Array Value) (hal : xs.toList.map a.eval = args.toList) (v : Value)
    (hc : ∀ w', Below w.heap.size w w' → Calls P k args w' fun e w'' => e = .returned v ∧ Below w'.heap.size w' w'')
    (h : wpQuiet P ops (fun w' => Below w.heap.size w w') Q rest (a.put o.dst v)) : wpQuiet P ops (fun w' => Below w.heap.size w w') Q (o :: rest) a :=
  q_call hw k hk xs ts ho args (Array.toList_inj.1 (by simpa using hal)) v hc h
end
theorem ent_asLeft : enters Try.prog 45 := enters_of Try.func45 (by kernel_rfl) (by kernel_rfl)
theorem ent_asKnown : enters Try.prog 50 := enters_of Try.func50 (by kernel_rfl) (by kernel_rfl)
theorem nm3 {a b c d e f g : Nat} : a + b + c + d + e + f + g = a + b + c + d + e + f + g := rfl
set_option maxHeartbeats 2000000 in
theorem specKnownOf_c (n : Int) (v : Value) (l : List Int) (y z : Int) (w : World) (hl : ints w.heap.size w v l) (hlen : l.length < 1000000000) :
    Calls Try.prog 24 #[.agg #[.int .i64 n, v], .int .i64 y, .int .i64 z] w fun e w' => e = .returned (.tuple #[.int .i64 (koR n l y z), .int .i64 (koS n l y z), .bool (asB n l y z)]) ∧ Below w.heap.size w w' := by
  have HL := hide ((hl.alloc (.cells #[.int .i64 n, v] 28)).mono (show w.heap.size ≤ (w.alloc (.cells #[.int .i64 n, v] 28)).heap.size by simp))
  have H0 := hide ((Below.refl w.heap.size w).alloc (Nat.le_refl _) (.cells #[.int .i64 n, v] 28))
  have HS0 := hide (hp_last w (.cells #[.int .i64 n, v] 28))
  have HZ := hide (show (w.alloc (.cells #[.int .i64 n, v] 28)).heap.size = w.heap.size + 1 by simp)
  have c0 := cells_at0 HS0.out
  have c1 := cells_at1 HS0.out
  have HAG := hide (fun w1 h => asGood_c n v l y z w1 h hlen)
  clear hl
  cases hg : asB n l y z
  · rw [hg] at HAG
    have hk1 : koR n l y z = 0 := by unfold koR; rw [hg]; rfl
    have hk2 : koS n l y z = 0 := by unfold koS; rw [hg]; rfl
    rw [hk1, hk2]
    clear hg hk1 hk2
    go_enter Try.func24, Try.ntmps24
    go_wp2_with (first
      | (go_at_call 44; refine (HAG.out _ HL.out).mono ?_; rintro e w1 ⟨rfl, hb1⟩; have HS1 := hide ((hb1.block w.heap.size (by rw [HZ.out]; omega)).trans HS0.out); have d0 := cells_at0 HS1.out; have d1 := cells_at1 HS1.out; have HL1 := hide ((HL.out.below hb1 (Nat.le_refl _)).mono hb1.size); have hz1 := hb1.size; rw [HZ.out] at hz1; have HB1 := hide (H0.out.trans (hb1.mono (by rw [HZ.out]; omega))); clear hb1 c0 c1)
      | (go_at_call 45; refine (HAS.out _ HL1.out).mono ?_; rintro e w2 ⟨v2, rfl, ho2, hb2⟩; have HI2 := hide ho2.ints; have HO2 := hide (show own 3 w2 w.heap.size v2 _ from ho2.mono (by omega)); have HB2 := hide (HB1.out.trans (hb2.mono (by omega))); clear ho2 hb2)
      )
    go_ret3
    exact ⟨rfl, HB1.out⟩
  · have hk1 : koR n l y z = (kaL (asL n l y z) (low n.toNat) : Int) := by unfold koR; rw [if_pos hg]
    have hk2 : koS n l y z = (knL (asL n l y z) (low n.toNat) : Int) := by unfold koS; rw [if_pos hg]
    have hal := asL_len n l y z
    obtain ⟨hsp, hy, hz, _⟩ := asOk_in (asB_ok hg)
    have HR := hide (sp_r128 hsp)
    have hn := okSp_n hsp
    have hlo := low_lt n.toNat (by omega)
    have HAL := hide (asL_yes hg)
    obtain ⟨y, rfl⟩ := Int.eq_ofNat_of_zero_le hy.1
    obtain ⟨z, rfl⟩ := Int.eq_ofNat_of_zero_le hz.1
    have hy8 : y < 128 := by omega
    have hz8 : z < 128 := by omega
    rw [Int.toNat_natCast, Int.toNat_natCast] at HAL
    have HAS := hide (fun w1 h => asLeft_c n v l y z w1 h hlen HR.out hy8 hz8)
    rw [hg] at HAG
    clear hy hz hlo
    rw [HAL.out] at hk1 hk2 hal
    rw [hk1, hk2]
    have HLR := hide (show ∀ j, j < (lfL l y z).length → (0 : Int) ≤ (lfL l y z)[j]?.getD 0 ∧ (lfL l y z)[j]?.getD 0 < 128 from fun j hj => by rw [lf_sets hsp] at hj ⊢; exact setsTo_range _ _ j hj)
    obtain ⟨m, rfl⟩ := Int.eq_ofNat_of_zero_le (show 0 ≤ n by omega)
    rw [Int.toNat_natCast]
    clear hg hk1 hk2 hsp
    generalize lfL l y z = L at *
    have HKN := hide (fun u w1 (h : ints w1.heap.size w1 u L) => asKnown_c m v u L w1 h hal (by omega) HLR.out)
    go_enter Try.func24, Try.ntmps24
    go_wp2_with (first
      | (go_at_call 44; refine (HAG.out _ HL.out).mono ?_; rintro e w1 ⟨rfl, hb1⟩; have HS1 := hide ((hb1.block w.heap.size (by rw [HZ.out]; omega)).trans HS0.out); have d0 := cells_at0 HS1.out; have d1 := cells_at1 HS1.out; have HL1 := hide ((HL.out.below hb1 (Nat.le_refl _)).mono hb1.size); have hz1 := hb1.size; rw [HZ.out] at hz1; have HB1 := hide (H0.out.trans (hb1.mono (by rw [HZ.out]; omega))); clear hb1 c0 c1)
      | (go_at_call 45; refine (HAS.out _ HL1.out).mono ?_; rintro e w2 ⟨v2, rfl, ho2, hb2⟩; have HI2 := hide ho2.ints; have HO2 := hide (show own 3 w2 w.heap.size v2 _ from ho2.mono (by omega)); have HB2 := hide (HB1.out.trans (hb2.mono (by omega))); clear ho2 hb2)
      )
    refine wp_region_held (S := Below w1.heap.size w1) (by kernel_rfl) ?_
    have hS : Below w1.heap.size w1 { w1 with drawn := w1.drawn + 1 } := (Below.refl _ _).drew
    refine wpAnyH_take (i := 0) rfl (by kernel_rfl) (by kernel_rfl) (by kernel_rfl) (fun _ _ _ h => h) (yields_load_two rowSp sizeSp rfl (.tmp _) rfl _ rfl _ _ (fun w' h => (h.cell (p := ⟨w.heap.size, 0, none⟩) (by show w.heap.size < _; omega)).trans (cells_at0 HS1.out)) (fun w' h => (h.cell (p := ⟨w.heap.size, 1, none⟩) (by show w.heap.size < _; omega)).trans (cells_at1 HS1.out))) hS ?_
    refine wpAnyH_take (i := 1) rfl (by kernel_rfl) (by kernel_rfl) (by kernel_rfl) (fun _ _ _ h => h) (yields_load_two rowSp sizeSp rfl (.tmp _) rfl _ rfl _ _ (fun w' h => (h.cell (p := ⟨w.heap.size, 0, none⟩) (by show w.heap.size < _; omega)).trans (cells_at0 HS1.out)) (fun w' h => (h.cell (p := ⟨w.heap.size, 1, none⟩) (by show w.heap.size < _; omega)).trans (cells_at1 HS1.out))) hS ?_
    refine wpAnyH_take (i := 2) (v := .int .i64 (y : Int)) rfl (by kernel_rfl) (by kernel_rfl) (by kernel_rfl) (fun _ _ _ h => h) (.inl ⟨rfl, fun w' _ => by go_simp⟩) hS ?_
    refine wpAnyH_take (i := 3) (v := .int .i64 (z : Int)) rfl (by kernel_rfl) (by kernel_rfl) (by kernel_rfl) (fun _ _ _ h => h) (.inl ⟨rfl, fun w' _ => by go_simp⟩) hS ?_
    simp only [Act.put, List.getElem_toArray, List.getElem_cons_zero, List.getElem_cons_succ, List.setIfInBounds_toArray, List.set_cons_zero, List.set_cons_succ]
    refine anyH_call (i := 4) (by kernel_rfl) rfl rfl 45 ent_asLeft _ _ rfl #[.agg #[.int .i64 (m : Int), v], .int .i64 (y : Int), .int .i64 (z : Int)] rfl (HAS.out _ ((HL1.out.below hS (Nat.le_refl _)).mono hS.size)) ?_
    rintro e w2 ⟨v2, rfl, ho2, hb2⟩
    have hS2 : Below w1.heap.size w1 w2 := hS.trans (hb2.mono hS.size)
    refine ⟨_, rfl, hS2, ?_⟩
    simp only [Act.put, List.getElem_toArray, List.getElem_cons_zero, List.getElem_cons_succ, List.setIfInBounds_toArray, List.set_cons_zero, List.set_cons_succ]
    refine anyH_call (i := 5) (by kernel_rfl) rfl rfl 50 ent_asKnown _ _ rfl #[.agg #[.int .i64 (m : Int), v], v2] rfl (HKN.out _ _ ho2.ints) ?_
    rintro e w3 ⟨rfl, hb3⟩
    have hS3 : Below w1.heap.size w1 w3 := hS2.trans (hb3.mono hS2.size)
    refine ⟨_, rfl, hS3, ?_⟩
    simp only [Act.put, List.getElem_toArray, List.getElem_cons_zero, List.getElem_cons_succ, List.setIfInBounds_toArray, List.set_cons_zero, List.set_cons_succ]
    refine anyH_op (i := 6) (by kernel_rfl) rfl rfl (.tuple #[.int .i64 (kaL L (low m) : Int), .int .i64 (knL L (low m) : Int)]) w3 (by simp [go_sem]) hS3 ?_
    refine wpAnyH_take (i := 7) (v := .int .i64 (kaL L (low m) : Int)) rfl (by kernel_rfl) (by kernel_rfl) (by kernel_rfl) (fun _ _ _ h => h) (.inl ⟨rfl, fun w' _ => by go_simp⟩) hS3 ?_
    refine wpAnyH_take (i := 8) (v := .int .i64 (knL L (low m) : Int)) rfl (by kernel_rfl) (by kernel_rfl) (by kernel_rfl) (fun _ _ _ h => h) (.inl ⟨rfl, fun w' _ => by go_simp⟩) hS3 ?_
    simp only [Act.put, List.getElem_toArray, List.getElem_cons_zero, List.getElem_cons_succ, List.setIfInBounds_toArray, List.set_cons_zero, List.set_cons_succ]
    refine anyH_op (i := 9) (by kernel_rfl) rfl rfl (.int .i64 (kaL L (low m) : Int)) w3 (by simp [go_sem]) hS3 ?_
    refine anyH_op (i := 10) (by kernel_rfl) rfl rfl (.int .i64 (knL L (low m) : Int)) w3 (by simp [go_sem]) hS3 ?_
    refine wpAnyH_done (by kernel_rfl) ?_ _
    simp only [Act.put, List.getElem_toArray, List.getElem_cons_zero, List.getElem_cons_succ, List.setIfInBounds_toArray, List.set_cons_zero, List.set_cons_succ]
    have HB3 := hide (HB1.out.trans (hS3.mono (by omega)))
    clear hS hS3 hb3 ho2 hS2 hb2
    go_wp2
    go_ret3
    exact ⟨rfl, HB3.out⟩
end Go.Proofs.Ytijgngnjhmkhaaa
