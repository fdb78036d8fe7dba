/- Contracts: WidthOf, FewestWords and ChainsThrough, both. -/
import Derived.Test.YtblglkgmnaklbaaWdh
namespace Go.Proofs.Ytblglkgmnaklbaa
open Go.RowKit
set_option maxRecDepth 100000
set_option linter.unusedSimpArgs false
theorem phF_low {m : Nat} {F : Nat → Bool} {x : Nat} (h : phF m F x = true) : x < low m + 1 := by
  unfold phF cutAt at h
  rw [Bool.and_eq_true, decide_eq_true_eq] at h
  exact h.1
theorem maTo_low {m : Nat} (hm : m ≤ 7) {P : Nat → Bool} (hP : ∀ x, P x = true → x < low m + 1) : maTo P (low m + 1) = maTo P 128 := by
  have hlo := low_lt m hm
  have h := maTo_gap (P := P) (x := low m + 1) (128 - (low m + 1)) (fun k a b => by
    cases e : P k
    · rfl
    · have := hP k e; omega)
  rw [show low m + 1 + (128 - (low m + 1)) = 128 by omega] at h
  exact h.symm
/-- The chains of the paths. -/
def chP (P : Nat → Bool) : List (List Int) := chR (rmTo P (maTo P 128).nx 128) (maTo P 128).nx
def chV (n : Int) (l : List Int) : List (List Int) := if okSp n l then chP (phF n.toNat (marksTo l l.length)) else []
theorem chP_len (P : Nat → Bool) : (chP P).length ≤ 128 := by unfold chP; rw [chR_len]; exact setsTo_len _ 128
theorem chV_len (n : Int) (l : List Int) : (chV n l).length ≤ 128 := by
  unfold chV
  split
  · exact chP_len _
  · simp
theorem wiN_chV (n : Int) (l : List Int) : wiN n l = ((chV n l).length : Int) := by
  unfold wiN chV
  by_cases h : okSp n l = true
  · rw [if_pos h, if_pos h]
    have hn := okSp_n h
    unfold wdN wdF chP
    rw [chR_len, maTo_low (by omega) (fun x hx => phF_low hx)]
  · rw [if_neg h, if_neg h]; rfl
theorem chP_none : chP (phF 0 noSet) = [] := by
  have h : phF 0 noSet = noSet := by funext x; unfold phF cutAt pathF noSet; simp
  rw [h]
  unfold chP chR
  have h2 : rmTo noSet (maTo noSet 128).nx 128 = noSet := by
    funext x
    cases e : rmTo noSet (maTo noSet 128).nx 128 x
    · rfl
    · exact absurd ((rmTo_iff _ _ x 128).1 e).1 (by simp [noSet])
  rw [h2, ← (by decide +kernel : ([] : List Int) = setsTo noSet 128)]
  rfl
attribute [local irreducible] p2 low memB risB own own2 famAt chg
set_option maxHeartbeats 4000000 in
theorem pathChains_c (m : Nat) (F : Nat → Bool) (w : World) (hm7 : m ≤ 7) :
    Calls Try.prog 33 #[.agg (fam (m : Int) F)] w fun e w' => ∃ v, e = .returned v ∧ own2 22 3 w' w.heap.size v (chP (phF m F)) ∧ Below w.heap.size w w' := by
  have HF := hide (famAt.new 48 w (m : Int) F)
  have HB0 := hide ((Below.refl w.heap.size w).alloc (Nat.le_refl _) (.cells (fam (m : Int) F) 48))
  have hz0 : (w.alloc (.cells (fam (m : Int) F) 48)).heap.size = w.heap.size + 1 := by simp
  have h0 : phF m F 0 = false := phF_zero
  have hP : ∀ x, phF m F x = true → x < 128 := fun x h => phF_lt hm7 h
  have hml := maTo_low hm7 (fun x (h : phF m F x = true) => phF_low h)
  have HPA := hide (fun w1 => paths_c m F w1 hm7)
  have hat := maTo_at h0 hP (low m + 1)
  have HCO := hide (fun w1 => chainingOf_c m (phF m F) w1 hm7 h0 hP)
  have HCH := hide (fun g w1 h => chains_c m (phF m F) (maTo (phF m F) (low m + 1)).nx g w1 h hat.lt (fun j hj => (hat.ok.w j hj).2.2.1))
  have HCP := hide (show chP (phF m F) = chR (rmTo (phF m F) (maTo (phF m F) (low m + 1)).nx 128) (maTo (phF m F) (low m + 1)).nx by rw [hml]; rfl)
  clear hat hml h0 hP
  generalize (maTo (phF m F) (low m + 1)).nx = nx at *
  generalize phF m F = G at *
  generalize chR (rmTo G nx 128) nx = R at *
  go_enter Try.func33, Try.ntmps33
  go_wp2_with (first
    | (refine wpList_load_fam rowT sizeT rfl (.tmp 1) rfl w.heap.size rfl (m : Int) F HF.out ?_)
    | (go_at_call 31; refine (HPA.out _).mono ?_; rintro e w0 ⟨rfl, hb0⟩; have hzz := hb0.size; rw [hz0] at hzz; have HBA := hide (HB0.out.trans (hb0.mono (by rw [hz0]; omega))); clear hb0)
    | (go_at_call 47; refine (HCO.out _).mono ?_; rintro e w1 ⟨rfl, hb1⟩; have hz1 := hb1.size; have HB1 := hide (HBA.out.trans (hb1.mono (by omega))); have hc1 := hp_last w1 (.cells (chg 0 noSet nxZ) 66); have HC1 := hide (chgAt_iff.2 (hp_row _ w1.heap.size _ (chg (m : Int) G nx) _ hc1)); have HC0 := hide hc1; have HB2 := hide (bl_row (HB1.out.alloc (by omega) (.cells (chg 0 noSet nxZ) 66)) (show w.heap.size ≤ w1.heap.size by omega) (chg (m : Int) G nx)); clear hb1 hc1)
    | (refine wpList_alloc_cs zeroCh rfl rfl _ (by first | (simp only [World.size_alloc]; rfl) | rfl) ?_)
    | (refine wpList_store_cs (sizeCh (m : Int) G nx) rfl (.tmp 3) (.tmp _) rfl w1.heap.size rfl rfl (chg 0 noSet nxZ) HC0.out (by rw [chg_size, chg_size]) (chg_one _ _ _) ?_)
    | (go_at_call 49; refine (HCH.out w1.heap.size _ HC1.out).mono ?_; rintro e w2 ⟨v2, rfl, ho2, hb2⟩; have HO2 := hide (ho2.mono HB2.out.size); have HB3 := hide (HB2.out.trans (hb2.mono HB2.out.size)); clear ho2 hb2))
  go_ret
  exact ⟨_, rfl, by rw [HCP.out]; exact HO2.out, HB3.out⟩
set_option maxHeartbeats 4000000 in
theorem implChainsThrough_c (n : Int) (v : Value) (l : List Int) (w : World) (hl : ints w.heap.size w v l) (hlen : l.length < 1000000000) :
    Calls Try.prog 13 #[.agg #[.int .i64 n, v]] w fun e w' => ∃ v', e = .returned (.tuple #[v', .bool (okSp n l)]) ∧ own2 22 3 w' w.heap.size v' (chV n l) ∧ Below w.heap.size w w' := by
  have HL := hide ((hl.alloc (.cells #[.int .i64 n, v] 28)).mono (show w.heap.size ≤ (w.alloc (.cells #[.int .i64 n, v] 28)).heap.size by simp))
  have H0 := hide ((Below.refl w.heap.size w).alloc (Nat.le_refl _) (.cells #[.int .i64 n, v] 28))
  have HZ := hide (show (w.alloc (.cells #[.int .i64 n, v] 28)).heap.size = w.heap.size + 1 by simp)
  clear hl
  obtain ⟨N, F, b, hv, hN, hb, hr⟩ : ∃ (N : Nat) (F : Nat → Bool) (b : Bool), famVal n l = .tuple #[.agg (fam (N : Int) F), .bool b] ∧ N ≤ 7 ∧ okSp n l = b ∧ chV n l = chP (phF N F) := by
    cases hok : okSp n l
    · exact ⟨0, noSet, false, famVal_no n l hok, by omega, rfl, by unfold chV; rw [hok, chP_none]; rfl⟩
    · have hn := okSp_n hok
      obtain ⟨N, rfl⟩ := Int.eq_ofNat_of_zero_le (show 0 ≤ n by omega)
      exact ⟨N, marksTo l l.length, true, famVal_yes _ l hok, by omega, rfl, by unfold chV; rw [hok, Int.toNat_natCast]; rfl⟩
  have HV := hide hv
  have HPC := hide (fun w1 => pathChains_c N F w1 hN)
  rw [hb, hr]
  clear hv hb hr
  generalize chP (phF N F) = R at *
  go_enter Try.func13, Try.ntmps13
  go_wp2_with (first
    | (go_at_call 30; refine (familyOf_c n v l _ HL.out hlen).mono ?_; rw [HV.out]; rintro e w1 ⟨rfl, hb⟩; have hz1 := hb.size; rw [HZ.out] at hz1; have HH := hide ((famAt.new 48 w1 0 noSet).row (N : Int) F); have HB := hide (bl_row ((H0.out.trans (hb.mono (by rw [HZ.out]; omega))).alloc (by omega) (.cells (fam 0 noSet) 48)) (show w.heap.size ≤ w1.heap.size by omega) (fam (N : Int) F)); clear hb)
    | (refine wpList_alloc_fam zeroT rfl rfl _ (by first | (simp only [World.size_alloc]; rfl) | rfl) ?_)
    | (refine wpList_store_fam sizeT rfl (.tmp _) (.tmp _) rfl w1.heap.size _ _ rfl rfl _ _ (famAt.new _ _ _ _) ?_)
    | (refine wpList_load_fam rowT sizeT rfl (.tmp 4) rfl w1.heap.size rfl (N : Int) F HH.out ?_)
    | (go_at_call 33; refine (HPC.out _).mono ?_; rintro e w2 ⟨v2, rfl, ho2, hb2⟩; have HO2 := hide (ho2.mono HB.out.size); have HB2 := hide (HB.out.trans (hb2.mono HB.out.size)); clear ho2 hb2))
  go_ret2
  exact ⟨_, rfl, HO2.out, HB2.out⟩
theorem implFewestWords_c (n : Int) (v : Value) (l : List Int) (w : World) (hl : ints w.heap.size w v l) (hlen : l.length < 1000000000) :
    Calls Try.prog 19 #[.agg #[.int .i64 n, v]] w fun e w' => e = .returned (.tuple #[.int .i64 (wiN n l), .bool (okSp n l)]) ∧ Below w.heap.size w w' := by
  have HL := hide ((hl.alloc (.cells #[.int .i64 n, v] 28)).mono (show w.heap.size ≤ (w.alloc (.cells #[.int .i64 n, v] 28)).heap.size by simp))
  have H0 := hide ((Below.refl w.heap.size w).alloc (Nat.le_refl _) (.cells #[.int .i64 n, v] 28))
  clear hl
  go_enter Try.func19, Try.ntmps19
  go_wp2_with (go_at_call 10; refine (implWidthOf_c n v l _ HL.out hlen).mono ?_; rintro e w1 ⟨rfl, hb⟩; have HB := hide (H0.out.trans (hb.mono (by simp))); clear hb)
  go_ret2
  exact ⟨rfl, HB.out⟩
theorem okSp_len128W {n : Int} {l : List Int} (h : okSp n l = true) : l.length ≤ 128 := by
  rw [okSp_list h]
  exact setsTo_len _ 128
theorem okSp_r128W {n : Int} {l : List Int} (h : okSp n l = true) : ∀ j, j < l.length → 0 ≤ l[j]?.getD 0 ∧ l[j]?.getD 0 < 128 := fun j hj => by
  have h1 := okSp_pos h j hj
  have h2 := okSp_n h
  have := low_lt n.toNat (by omega)
  omega
set_option maxHeartbeats 4000000 in
theorem specChainsThrough_c (n : Int) (v : Value) (l : List Int) (w : World) (hl : ints w.heap.size w v l) (hlen : l.length < 1000000000) :
    Calls Try.prog 12 #[.agg #[.int .i64 n, v]] w fun e w' => ∃ v', e = .returned (.tuple #[v', .bool (okSp n l)]) ∧ own2 22 3 w' w.heap.size v' (chV n l) ∧ Below w.heap.size w w' := by
  have HL := hide ((hl.alloc (.cells #[.int .i64 n, v] 28)).mono (show w.heap.size ≤ (w.alloc (.cells #[.int .i64 n, v] 28)).heap.size by simp))
  have H0 := hide ((Below.refl w.heap.size w).alloc (Nat.le_refl _) (.cells #[.int .i64 n, v] 28))
  have HS0 := hide (hp_last w (.cells #[.int .i64 n, v] 28))
  have HZ := hide (show (w.alloc (.cells #[.int .i64 n, v] 28)).heap.size = w.heap.size + 1 by simp)
  have c0 := cells_at0 HS0.out
  have c1 := cells_at1 HS0.out
  clear hl
  have hg := ok_good n l
  cases hok : okSp n l
  · rw [hok] at hg
    have HG := hide hg.symm
    have hr : chV n l = [] := by unfold chV; rw [hok]; rfl
    rw [hr]
    clear hok hg hr
    go_enter Try.func12, Try.ntmps12
    go_wp2_with (first
      | (go_at_call 26; refine (spGood_c _ v l _ HL.out hlen).mono ?_; rw [HG.out]; rintro e w1 ⟨rfl, hb1⟩; have HS1 := hide ((hb1.block w.heap.size (by rw [HZ.out]; omega)).trans HS0.out); have d0 := cells_at0 HS1.out; have d1 := cells_at1 HS1.out; have HL1 := hide ((HL.out.below hb1 (Nat.le_refl _)).mono hb1.size); have hz1 := hb1.size; rw [HZ.out] at hz1; have HB1 := hide (H0.out.trans (hb1.mono (by rw [HZ.out]; omega))); clear hb1)
      | (go_at_call 28; refine (HIR.out _ HL1.out).mono ?_; rintro e w2 ⟨v2, rfl, ho2, hb2⟩; have HI2 := hide ho2.ints; have hz2 := hb2.size; have HB2 := hide (HB1.out.trans (hb2.mono (by omega))); clear ho2 hb2 d0 d1)
      | (go_at_call 27; refine (HCN.out v2 w2 HI2.out).mono ?_; rintro e w3 ⟨v3, rfl, ho3, hb3⟩; have HO3 := hide ho3; have HB3 := hide (HB2.out.trans (hb3.mono (by omega))); clear ho3 hb3)
      )
    go_ret2
    exact ⟨_, rfl, own2_nil _ _ _ _, HB1.out⟩
  · rw [hok] at hg
    have HG := hide hg.symm
    have HR := hide (okSp_r128W hok)
    have hl128 := okSp_len128W hok
    have HII := hide (okSp_inc hok)
    have hn := okSp_n hok
    obtain ⟨m, rfl⟩ := Int.eq_ofNat_of_zero_le (show 0 ≤ n by omega)
    have HIR : Hid (∀ w1, ints w1.heap.size w1 v l → Calls Try.prog 28 #[.agg #[.int .i64 (m : Int), v]] w1 fun e w' => ∃ v', e = .returned v' ∧ own 3 w' w1.heap.size v' (setsTo (phF m (marksTo l l.length)) 128) ∧ Below w1.heap.size w1 w') := hide (fun w1 h => by
      have h2 := cnIrreducible_c (m : Int) v l w1 h HII.out (by omega) HR.out
      rw [irS_sets hok] at h2
      exact h2)
    have HCN := hide (fun v' w1 h => cnChains_c (phF m (marksTo l l.length)) phF_zero (fun x hx => phF_lt (by omega) hx) v' w1 h)
    rw [show chR (rmTo (phF m (marksTo l l.length)) (maTo (phF m (marksTo l l.length)) 128).nx 128) (maTo (phF m (marksTo l l.length)) 128).nx = chP (phF m (marksTo l l.length)) from rfl] at HCN
    have hr : chV (m : Int) l = chP (phF m (marksTo l l.length)) := by unfold chV; rw [hok, Int.toNat_natCast]; rfl
    rw [hr]
    clear hok hg hr
    generalize chP (phF m (marksTo l l.length)) = R at *
    go_enter Try.func12, Try.ntmps12
    go_wp2_with (first
      | (go_at_call 26; refine (spGood_c _ v l _ HL.out hlen).mono ?_; rw [HG.out]; rintro e w1 ⟨rfl, hb1⟩; have HS1 := hide ((hb1.block w.heap.size (by rw [HZ.out]; omega)).trans HS0.out); have d0 := cells_at0 HS1.out; have d1 := cells_at1 HS1.out; have HL1 := hide ((HL.out.below hb1 (Nat.le_refl _)).mono hb1.size); have hz1 := hb1.size; rw [HZ.out] at hz1; have HB1 := hide (H0.out.trans (hb1.mono (by rw [HZ.out]; omega))); clear hb1)
      | (go_at_call 28; refine (HIR.out _ HL1.out).mono ?_; rintro e w2 ⟨v2, rfl, ho2, hb2⟩; have HI2 := hide ho2.ints; have hz2 := hb2.size; have HB2 := hide (HB1.out.trans (hb2.mono (by omega))); clear ho2 hb2 d0 d1)
      | (go_at_call 27; refine (HCN.out v2 w2 HI2.out).mono ?_; rintro e w3 ⟨v3, rfl, ho3, hb3⟩; have HO3 := hide ho3; have HB3 := hide (HB2.out.trans (hb3.mono (by omega))); clear ho3 hb3)
      )
    go_ret2
    exact ⟨_, rfl, HO3.out.mono (by omega), HB3.out⟩
set_option maxHeartbeats 4000000 in
theorem specWidthOf_c (n : Int) (v : Value) (l : List Int) (w : World) (hl : ints w.heap.size w v l) (hlen : l.length < 1000000000) :
    Calls Try.prog 8 #[.agg #[.int .i64 n, v]] w fun e w' => e = .returned (.tuple #[.int .i64 (wiN n l), .bool (okSp n l)]) ∧ Below w.heap.size w w' := by
  have HL := hide ((hl.alloc (.cells #[.int .i64 n, v] 28)).mono (show w.heap.size ≤ (w.alloc (.cells #[.int .i64 n, v] 28)).heap.size by simp))
  have H0 := hide ((Below.refl w.heap.size w).alloc (Nat.le_refl _) (.cells #[.int .i64 n, v] 28))
  have HS0 := hide (hp_last w (.cells #[.int .i64 n, v] 28))
  have HZ := hide (show (w.alloc (.cells #[.int .i64 n, v] 28)).heap.size = w.heap.size + 1 by simp)
  have c0 := cells_at0 HS0.out
  have c1 := cells_at1 HS0.out
  clear hl
  have hg := ok_good n l
  have hw := wiN_chV n l
  cases hok : okSp n l
  · rw [hok] at hg
    have HG := hide hg.symm
    have hr : wiN n l = 0 := by unfold wiN; rw [hok]; rfl
    rw [hr]
    clear hok hg hr hw
    go_enter Try.func8, Try.ntmps8
    go_wp2_with (first
      | (go_at_call 26; refine (spGood_c _ v l _ HL.out hlen).mono ?_; rw [HG.out]; rintro e w1 ⟨rfl, hb1⟩; have HS1 := hide ((hb1.block w.heap.size (by rw [HZ.out]; omega)).trans HS0.out); have d0 := cells_at0 HS1.out; have d1 := cells_at1 HS1.out; have HL1 := hide ((HL.out.below hb1 (Nat.le_refl _)).mono hb1.size); have hz1 := hb1.size; rw [HZ.out] at hz1; have HB1 := hide (H0.out.trans (hb1.mono (by rw [HZ.out]; omega))); clear hb1)
      | (go_at_call 28; refine (HIR.out _ HL1.out).mono ?_; rintro e w2 ⟨v2, rfl, ho2, hb2⟩; have HI2 := hide ho2.ints; have hz2 := hb2.size; have HB2 := hide (HB1.out.trans (hb2.mono (by omega))); clear ho2 hb2 d0 d1)
      | (go_at_call 27; refine (HCN.out v2 w2 HI2.out).mono ?_; rintro e w3 ⟨v3, rfl, ho3, hb3⟩; have HO3 := hide ho3; have HB3 := hide (HB2.out.trans (hb3.mono (by omega))); clear ho3 hb3)
      )
    go_ret2
    exact ⟨rfl, HB1.out⟩
  · rw [hok] at hg
    have HG := hide hg.symm
    have HR := hide (okSp_r128W hok)
    have hl128 := okSp_len128W hok
    have HII := hide (okSp_inc hok)
    have hn := okSp_n hok
    obtain ⟨m, rfl⟩ := Int.eq_ofNat_of_zero_le (show 0 ≤ n by omega)
    have HIR : Hid (∀ w1, ints w1.heap.size w1 v l → Calls Try.prog 28 #[.agg #[.int .i64 (m : Int), v]] w1 fun e w' => ∃ v', e = .returned v' ∧ own 3 w' w1.heap.size v' (setsTo (phF m (marksTo l l.length)) 128) ∧ Below w1.heap.size w1 w') := hide (fun w1 h => by
      have h2 := cnIrreducible_c (m : Int) v l w1 h HII.out (by omega) HR.out
      rw [irS_sets hok] at h2
      exact h2)
    have HCN := hide (fun v' w1 h => cnChains_c (phF m (marksTo l l.length)) phF_zero (fun x hx => phF_lt (by omega) hx) v' w1 h)
    rw [show chR (rmTo (phF m (marksTo l l.length)) (maTo (phF m (marksTo l l.length)) 128).nx 128) (maTo (phF m (marksTo l l.length)) 128).nx = chP (phF m (marksTo l l.length)) from rfl] at HCN
    have hr : chV (m : Int) l = chP (phF m (marksTo l l.length)) := by unfold chV; rw [hok, Int.toNat_natCast]; rfl
    rw [hr] at hw
    rw [hw]
    have hRl := chP_len (phF m (marksTo l l.length))
    clear hok hg hr hw
    generalize chP (phF m (marksTo l l.length)) = R at *
    go_enter Try.func8, Try.ntmps8
    go_wp2_with (first
      | (go_at_call 26; refine (spGood_c _ v l _ HL.out hlen).mono ?_; rw [HG.out]; rintro e w1 ⟨rfl, hb1⟩; have HS1 := hide ((hb1.block w.heap.size (by rw [HZ.out]; omega)).trans HS0.out); have d0 := cells_at0 HS1.out; have d1 := cells_at1 HS1.out; have HL1 := hide ((HL.out.below hb1 (Nat.le_refl _)).mono hb1.size); have hz1 := hb1.size; rw [HZ.out] at hz1; have HB1 := hide (H0.out.trans (hb1.mono (by rw [HZ.out]; omega))); clear hb1)
      | (go_at_call 28; refine (HIR.out _ HL1.out).mono ?_; rintro e w2 ⟨v2, rfl, ho2, hb2⟩; have HI2 := hide ho2.ints; have hz2 := hb2.size; have HB2 := hide (HB1.out.trans (hb2.mono (by omega))); clear ho2 hb2 d0 d1)
      | (go_at_call 27; refine (HCN.out v2 w2 HI2.out).mono ?_; rintro e w3 ⟨v3, rfl, ho3, hb3⟩; have HO3 := hide ho3; have HB3 := hide (HB2.out.trans (hb3.mono (by omega))); clear ho3 hb3)
      | (refine wpList_len2 sliceT2 rfl (.tmp _) rfl _ rfl w3.heap.size R HO3.out.rows ?_))
    go_ret2
    exact ⟨rfl, HB3.out⟩
theorem specFewestWords_c (n : Int) (v : Value) (l : List Int) (w : World) (hl : ints w.heap.size w v l) (hlen : l.length < 1000000000) :
    Calls Try.prog 18 #[.agg #[.int .i64 n, v]] w fun e w' => e = .returned (.tuple #[.int .i64 (wiN n l), .bool (okSp n l)]) ∧ Below w.heap.size w w' := by
  have HL := hide ((hl.alloc (.cells #[.int .i64 n, v] 28)).mono (show w.heap.size ≤ (w.alloc (.cells #[.int .i64 n, v] 28)).heap.size by simp))
  have H0 := hide ((Below.refl w.heap.size w).alloc (Nat.le_refl _) (.cells #[.int .i64 n, v] 28))
  clear hl
  go_enter Try.func18, Try.ntmps18
  go_wp2_with (go_at_call 8; refine (specWidthOf_c n v l _ HL.out hlen).mono ?_; rintro e w1 ⟨rfl, hb⟩; have HB := hide (H0.out.trans (hb.mono (by simp))); clear hb)
  go_ret2
  exact ⟨rfl, HB.out⟩
end Go.Proofs.Ytblglkgmnaklbaa
