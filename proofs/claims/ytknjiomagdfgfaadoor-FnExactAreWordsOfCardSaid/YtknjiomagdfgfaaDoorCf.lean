/- Contracts: CountFrom, CountWords. -/
import Derived.Test.YtknjiomagdfgfaaDoorWw
import Derived.Test.YtknjiomagdfgfaaDoorFr
namespace Go.Proofs.YtknjiomagdfgfaaDoor
open Go.RowKit
set_option maxRecDepth 100000

def cfR (n : Int) (l : List Int) (x : Int) : Int := if okOne n l x then (cnt (marksTo l l.length) n.toNat x.toNat : Int) else 0
theorem cfR_no {n : Int} {l : List Int} {x : Int} (h : okOne n l x = false) : cfR n l x = 0 := by simp [cfR, h]
theorem cfR_yes {n : Int} {l : List Int} {x : Int} (h : okOne n l x = true) : cfR n l x = (cnt (marksTo l l.length) n.toNat x.toNat : Int) := by simp [cfR, h]
theorem okOne_zero {n : Int} {l : List Int} (h : okSp n l = true) : okOne n l 0 = true := by
  have h1 := (okSp_spc h).zero
  rw [okSp_marks h] at h1
  simp only [okOne, h, Bool.true_and]
  exact h1
theorem okOne_no0 {n : Int} {l : List Int} {x : Int} (h : okSp n l = false) : okOne n l x = false := by simp [okOne, h]
theorem cnt_none {n : Int} {l : List Int} (h : okSp n l = true) (x : Nat) (hx : x < 128) (hn : ∀ j, j < l.length → nth l j ≠ x) : cnt (marksTo l l.length) n.toNat x = 0 := by
  have hm : marksTo l l.length x = false := by
    cases hb : marksTo l l.length x
    · rfl
    · obtain ⟨j, hj, e⟩ := (okSp_has h x).1 hb
      exact absurd e (hn j hj)
  rw [cnt_eq _ _ (by have := okSp_n h; omega) x hx, if_neg, hm]
  · rfl
  · intro e
    have h2 := (okSp_spc h).full
    rw [← e, hm] at h2
    cases h2
theorem okOne_ltC {n : Int} {l : List Int} {x : Int} (h : okOne n l x = true) : 0 ≤ x ∧ x < 128 := by
  have h1 := okSet_in (okOne_set h)
  have h2 := low_lt n.toNat (by have := okSp_n (okOne_sp h); omega)
  omega
theorem ent_woWays : enters Tryd.prog 49 := enters_of Tryd.func49 (by kernel_rfl) (by kernel_rfl)
theorem ent_woFrom : enters Tryd.prog 51 := enters_of Tryd.func51 (by kernel_rfl) (by kernel_rfl)
attribute [local irreducible] p2 low memB risB cnt

set_option maxHeartbeats 1000000 in
theorem woFrom_c (n : Int) (v : Value) (l : List Int) (u : Value) (x : Nat) (w : World) (hl : ints w.heap.size w v l) (hlen : l.length < 1000000000) (hok : okSp n l = true) (hu : ints w.heap.size w u (wRow l (cnt (marksTo l l.length) n.toNat) 0)) (hx : x < 128) :
    Calls Tryd.prog 51 #[.agg #[.int .i64 n, v], u, .int .i64 (x : Int)] w fun e w' => e = .returned (.int .i64 (cnt (marksTo l l.length) n.toNat x : Int)) ∧ Below w.heap.size w w' := by
  obtain ⟨va, vc, hv⟩ := hl.shape
  subst hv
  have HN := hide (cnt_none hok x hx)
  have HIN := hide (fun k hk => nth_castW hok k hk)
  have HWG := hide (fun k hk => wRow_get l (cnt (marksTo l l.length) n.toNat) 0 k hk)
  have HWL := hide (wRow_len l (cnt (marksTo l l.length) n.toNat) 0)
  generalize cnt (marksTo l l.length) n.toNat = A at HN HWG HWL hu ⊢
  generalize wRow l A 0 = M at HWG HWL hu
  have H0 := hide ((Below.refl w.heap.size w).alloc (Nat.le_refl _) (.cells #[.int .i64 n, .slice va l.length vc] 28))
  have HL0 := hide (hl.alloc (.cells #[.int .i64 n, .slice va l.length vc] 28))
  have HU0 := hide (hu.alloc (.cells #[.int .i64 n, .slice va l.length vc] 28))
  have hc1 := cells_at1 (hp_last w (.cells #[.int .i64 n, .slice va l.length vc] 28))
  clear hl hu hok
  go_enter Tryd.func51, Tryd.ntmps51
  go_wp2_with (refine wpList_len sliceT rfl (.tmp _) rfl _ rfl w.heap.size l HL0.out ?_)
  generalize w.alloc (.cells #[.int .i64 n, .slice va l.length vc] 28) = W at H0 HL0 HU0 hc1 ⊢
  go_loop [12] (fun iv => ∃ k : Nat, k ≤ l.length ∧ iv = .int .i64 k ∧ Hid (∀ j, j < k → nth l j ≠ x)) (fun iv => l.length - (intOf iv).toNat)
  case atStart => exact ⟨0, Nat.zero_le _, rfl, fun j hj => by omega⟩
  case round =>
    obtain ⟨k, hk, rfl, HJ⟩ := hrel
    by_cases hlt : k < l.length
    · have HX := hide (HIN.out k hlt)
      have HG := hide (HWG.out k hlt)
      generalize hy : nth l k = y at HX HG
      have HY := hide hy
      clear hy
      by_cases hxy : y = x
      · subst hxy
        have hb : ((y : Int) == (y : Int)) = true := by simp
        have hml : k < M.length := by rw [HWL.out]; exact hlt
        have HG2 := hide (show M[k]?.getD 0 = (A y : Int) by rw [HG.out, if_pos (Nat.zero_le _)])
        go_wp2_with (first
          | (refine wpList_at sliceT intS rfl (.tmp 10) (.tmp _) rfl _ rfl k rfl w.heap.size l HL0.out hlt ?_; intro ad hcell hblk; rw [HX.out] at hcell)
          | (refine wpList_at sliceT intS rfl (.tmp 20) (.tmp _) rfl u rfl k rfl w.heap.size M HU0.out hml ?_; intro ad2 hcell2 hblk2; rw [HG2.out] at hcell2))
        go_ret
        exact ⟨rfl, H0.out⟩
      · have hb : ((y : Int) == (x : Int)) = false := by simp; omega
        have HXY := hide hxy
        clear hxy
        go_wp2_with (first
          | (refine wpList_at sliceT intS rfl (.tmp 10) (.tmp _) rfl _ rfl k rfl w.heap.size l HL0.out hlt ?_; intro ad hcell hblk; rw [HX.out] at hcell))
        go_round
        case rel =>
          refine ⟨k + 1, by omega, by go_num, fun j hj => ?_⟩
          rcases Nat.lt_or_ge j k with h | h
          · exact HJ.out j h
          · rw [show j = k by omega, HY.out]; exact HXY.out
        case measure => simp [intOf]; omega
    · have hlt' : ¬ ((k : Int) < (l.length : Int)) := by omega
      have HK := hide (show k = l.length by omega)
      have HZ := hide (HN.out fun j hj => HJ.out j (by rw [HK.out]; exact hj))
      go_wp2
      go_ret
      exact ⟨ret_i (by rw [HZ.out]; rfl), H0.out⟩

set_option maxHeartbeats 2000000 in
theorem specCountFrom_c (n : Int) (v : Value) (l : List Int) (x : Int) (w : World) (hl : ints w.heap.size w v l) (hlen : l.length < 1000000000) (_ : tab w) :
    Calls Tryd.prog 18 #[.agg #[.int .i64 n, v], .int .i64 x] w fun e w' => e = .returned (.tuple #[.int .i64 (cfR n l x), .bool (okOne n l x)]) ∧ Below w.heap.size w w' := by
  have H0 := hide ((Below.refl w.heap.size w).alloc (Nat.le_refl _) (.cells #[.int .i64 n, v] 28))
  have HL0 := hide ((hl.alloc (.cells #[.int .i64 n, v] 28)).mono (show w.heap.size ≤ (w.alloc (.cells #[.int .i64 n, v] 28)).heap.size by simp))
  have HS0 := hide (hp_last w (.cells #[.int .i64 n, v] 28))
  have HZ0 := hide (show (w.alloc (.cells #[.int .i64 n, v] 28)).heap.size = w.heap.size + 1 by simp)
  clear hl
  cases hok : okOne n l x
  · have HK := hide hok
    rw [cfR_no hok]
    clear hok
    go_enter Tryd.func18, Tryd.ntmps18
    go_wp2_with (go_at_call 50; refine (spOne_c n v l x _ HL0.out hlen).mono ?_; rw [HK.out]; rintro e w1 ⟨rfl, hb1⟩; have HB1 := hide (H0.out.trans (hb1.mono (by rw [HZ0.out]; omega))); clear hb1)
    go_ret2
    exact ⟨rfl, HB1.out⟩
  · have HK := hide hok
    have hx := okOne_ltC hok
    obtain ⟨s, rfl⟩ := Int.eq_ofNat_of_zero_le hx.1
    have hs128 : s < 128 := by omega
    have HSP := hide (okOne_sp hok)
    rw [cfR_yes hok, Int.toNat_natCast]
    clear hok hx
    go_enter Tryd.func18, Tryd.ntmps18
    go_wp2_with (go_at_call 50; refine (spOne_c n v l (s : Int) _ HL0.out hlen).mono ?_; rw [HK.out]; rintro e w1 ⟨rfl, hb1⟩; have hs1 := (hb1.block w.heap.size (by rw [HZ0.out]; omega)).trans HS0.out; have HS1 := hide hs1; have HL1 := hide ((HL0.out.below hb1 (Nat.le_refl _)).mono hb1.size); have HB1 := hide (H0.out.trans (hb1.mono (by rw [HZ0.out]; omega))); have HZ1 := hide (show w.heap.size + 1 ≤ w1.heap.size by rw [← HZ0.out]; exact hb1.size); clear hb1 hs1)
    have hz1 := HZ1.out
    refine wp_region_held (S := Below w1.heap.size w1) (by kernel_rfl) ?_
    have hS : Below w1.heap.size w1 { w1 with drawn := w1.drawn + 1 } := (Below.refl _ _).drew
    refine wpAnyH_take (i := 0) rfl (by kernel_rfl) (by kernel_rfl) (by kernel_rfl) (fun _ _ _ h => h) (yields_load_two rowSp sizeSp rfl (.tmp _) rfl _ rfl _ _ (fun w' h => (h.cell (p := ⟨w.heap.size, 0, none⟩) (by show w.heap.size < w1.heap.size; omega)).trans (cells_at0 HS1.out)) (fun w' h => (h.cell (p := ⟨w.heap.size, 1, none⟩) (by show w.heap.size < w1.heap.size; omega)).trans (cells_at1 HS1.out))) hS ?_
    refine wpAnyH_take (i := 1) rfl (by kernel_rfl) (by kernel_rfl) (by kernel_rfl) (fun _ _ _ h => h) (yields_load_two rowSp sizeSp rfl (.tmp _) rfl _ rfl _ _ (fun w' h => (h.cell (p := ⟨w.heap.size, 0, none⟩) (by show w.heap.size < w1.heap.size; omega)).trans (cells_at0 HS1.out)) (fun w' h => (h.cell (p := ⟨w.heap.size, 1, none⟩) (by show w.heap.size < w1.heap.size; omega)).trans (cells_at1 HS1.out))) hS ?_
    refine wpAnyH_take (i := 3) (v := .int .i64 (s : Int)) rfl (by kernel_rfl) (by kernel_rfl) (by kernel_rfl) (fun _ _ _ h => h) (.inl ⟨rfl, fun w' _ => by go_simp⟩) hS ?_
    simp only [Act.put, List.getElem_toArray, List.getElem_cons_zero, List.getElem_cons_succ, List.setIfInBounds_toArray, List.set_cons_zero, List.set_cons_succ]
    refine anyH_call (i := 2) (by kernel_rfl) rfl rfl 49 ent_woWays _ _ rfl #[.agg #[.int .i64 n, v]] rfl (woWays_c n v l _ (show ints w1.heap.size w1.drew v l from HL1.out) hlen HSP.out) ?_
    rintro e w2 ⟨v2, rfl, ho2, hb2⟩
    have hS2 : Below w1.heap.size w1 w2 := hS.trans hb2
    refine ⟨_, rfl, hS2, ?_⟩
    simp only [Act.put, List.getElem_toArray, List.getElem_cons_zero, List.getElem_cons_succ, List.setIfInBounds_toArray, List.set_cons_zero, List.set_cons_succ]
    have hl2 := (HL1.out.below hS2 (Nat.le_refl _)).mono hS2.size
    refine anyH_call (i := 4) (by kernel_rfl) rfl rfl 51 ent_woFrom _ _ rfl #[.agg #[.int .i64 n, v], v2, .int .i64 (s : Int)] rfl (woFrom_c n v l v2 s w2 hl2 hlen HSP.out ho2.ints hs128) ?_
    rintro e w3 ⟨rfl, hb3⟩
    have hS3 : Below w1.heap.size w1 w3 := hS2.trans (hb3.mono hS2.size)
    refine ⟨_, rfl, hS3, ?_⟩
    simp only [Act.put, List.getElem_toArray, List.getElem_cons_zero, List.getElem_cons_succ, List.setIfInBounds_toArray, List.set_cons_zero, List.set_cons_succ]
    generalize hcc : (cnt (marksTo l l.length) n.toNat s) = c
    have HCC := hide hcc
    clear hcc
    refine anyH_op (i := 5) (by kernel_rfl) rfl rfl (.int .i64 (c : Int)) w3 (by simp [go_sem]) hS3 ?_
    refine anyH_op (i := 6) (by kernel_rfl) rfl rfl (.bool true) w3 (by simp [go_sem]) hS3 ?_
    refine wpAnyH_done (by kernel_rfl) ?_ _
    simp only [Act.put, List.getElem_toArray, List.getElem_cons_zero, List.getElem_cons_succ, List.setIfInBounds_toArray, List.set_cons_zero, List.set_cons_succ]
    have HB3 := hide (HB1.out.trans (hS3.mono (by omega)))
    clear hS hS2 hS3 hb2 hb3 ho2 hl2
    go_wp2
    go_ret2
    exact ⟨by rw [HCC.out]; rfl, HB3.out⟩

set_option maxHeartbeats 1000000 in
theorem implCountFrom_c (n : Int) (v : Value) (l : List Int) (x : Int) (w : World) (hl : ints w.heap.size w v l) (hlen : l.length < 1000000000) (hT : tab w) :
    Calls Tryd.prog 19 #[.agg #[.int .i64 n, v], .int .i64 x] w fun e w' => e = .returned (.tuple #[.int .i64 (cfR n l x), .bool (okOne n l x)]) ∧ Below w.heap.size w w' := by
  have H0 := hide ((Below.refl w.heap.size w).alloc (Nat.le_refl _) (.cells #[.int .i64 n, v] 28))
  have HL0 := hide ((hl.alloc (.cells #[.int .i64 n, v] 28)).mono (show w.heap.size ≤ (w.alloc (.cells #[.int .i64 n, v] 28)).heap.size by simp))
  have HZ0 := hide (show (w.alloc (.cells #[.int .i64 n, v] 28)).heap.size = w.heap.size + 1 by simp)
  have HT := hide hT
  clear hl hT
  cases hok : okOne n l x
  · have HK := hide hok
    rw [cfR_no hok]
    clear hok
    go_enter Tryd.func19, Tryd.ntmps19
    go_wp2_with (first
      | (go_at_call 52; refine (familyAndOwnSet_c n v l x _ HL0.out hlen).mono ?_; rw [famVal3_no n l x HK.out]; rintro e w1 ⟨rfl, hb1⟩; have hz1 := hb1.size; rw [HZ0.out] at hz1; have HB1 := hide (bl_row ((H0.out.trans (hb1.mono (by rw [HZ0.out]; omega))).alloc (by omega) (.cells (fam 0 noSet) 63)) (show w.heap.size ≤ w1.heap.size by omega) (fam 0 noSet)); clear hb1)
      | (refine wpList_alloc_fam zeroT rfl rfl _ (by first | (simp only [World.size_alloc]; rfl) | rfl) ?_)
      | (refine wpList_store_fam sizeT rfl (.tmp _) (.tmp _) rfl _ _ _ rfl rfl _ _ (famAt.new _ _ _ _) ?_))
    go_ret2
    exact ⟨rfl, HB1.out⟩
  · have HK := hide hok
    have hx := okOne_ltC hok
    obtain ⟨s, rfl⟩ := Int.eq_ofNat_of_zero_le hx.1
    have hs128 : s < 128 := by omega
    have HSP := hide (okOne_sp hok)
    rw [cfR_yes hok, Int.toNat_natCast]
    have hn := okSp_n HSP.out
    obtain ⟨m, rfl⟩ := Int.eq_ofNat_of_zero_le (show 0 ≤ n by omega)
    have hm1 : 1 ≤ m := by omega
    have hm7 : m ≤ 7 := by omega
    have HLT := hide (show ∀ x, marksTo l l.length x = true → x < 2 ^ m from fun x hx => by have := okSp_lt HSP.out x hx; rwa [Int.toNat_natCast] at this)
    rw [Int.toNat_natCast]
    have HCG := hide (cRow_get (cnt (marksTo l l.length) m) s hs128)
    clear hok hx hn
    go_enter Tryd.func19, Tryd.ntmps19
    go_wp2_with (first
      | (go_at_call 52; refine (familyAndOwnSet_c (m : Int) v l (s : Int) _ HL0.out hlen).mono ?_; rw [famVal3_yes (m : Int) l (s : Int) HK.out]; rintro e w1 ⟨rfl, hb1⟩; have hz1 := hb1.size; rw [HZ0.out] at hz1; have HH := hide ((famAt.new 63 w1 0 noSet).row (m : Int) (marksTo l l.length)); have HT1 := hide (((HT.out.belowB HT.out (H0.out.trans (hb1.mono (by rw [HZ0.out]; omega))) (Nat.le_refl _)).alloc (.cells (fam 0 noSet) 63)).setRow w1.heap.size (by have := HT.out.1; omega) (fam (m : Int) (marksTo l l.length))); have HB1 := hide (bl_row ((H0.out.trans (hb1.mono (by rw [HZ0.out]; omega))).alloc (by omega) (.cells (fam 0 noSet) 63)) (show w.heap.size ≤ w1.heap.size by omega) (fam (m : Int) (marksTo l l.length))); clear hb1)
      | (refine wpList_alloc_fam zeroT rfl rfl _ (by first | (simp only [World.size_alloc]; rfl) | rfl) ?_)
      | (refine wpList_store_fam sizeT rfl (.tmp _) (.tmp _) rfl _ _ _ rfl rfl _ _ (famAt.new _ _ _ _) ?_)
      | (refine wpList_load_fam rowT sizeT rfl (.tmp _) rfl _ rfl (m : Int) _ HH.out ?_)
      | (go_at_call 53; refine (wordCounts_c m (marksTo l l.length) _ hm1 hm7 HLT.out HT1.out).mono ?_; rintro e w2 ⟨rfl, hb2⟩; have HB2 := hide (HB1.out.trans (hb2.mono (by have := HB1.out.size; omega))); clear hb2)
      | (refine wpList_num arrC intS rowI rfl (.tmp _) (.tmp _) rfl _ (cRow_len _) rfl s rfl hs128 _ HCG.out ?_))
    go_ret2
    exact ⟨rfl, HB2.out⟩

def cwR (n : Int) (l : List Int) : Int := if okSp n l then (cnt (marksTo l l.length) n.toNat 0 : Int) else 0
theorem cwR_eq (n : Int) (l : List Int) : cfR n l 0 = cwR n l ∧ okOne n l 0 = okSp n l := by
  cases h : okSp n l
  · rw [cfR_no (okOne_no0 h), okOne_no0 h]
    simp [cwR, h]
  · rw [cfR_yes (okOne_zero h), okOne_zero h]
    simp [cwR, h]

set_option maxHeartbeats 1000000 in
theorem specCountWords_c (n : Int) (v : Value) (l : List Int) (w : World) (hl : ints w.heap.size w v l) (hlen : l.length < 1000000000) (_ : tab w) :
    Calls Tryd.prog 14 #[.agg #[.int .i64 n, v]] w fun e w' => e = .returned (.tuple #[.int .i64 (cwR n l), .bool (okSp n l)]) ∧ Below w.heap.size w w' := by
  have H0 := hide ((Below.refl w.heap.size w).alloc (Nat.le_refl _) (.cells #[.int .i64 n, v] 28))
  have HL0 := hide ((hl.alloc (.cells #[.int .i64 n, v] 28)).mono (show w.heap.size ≤ (w.alloc (.cells #[.int .i64 n, v] 28)).heap.size by simp))
  have HS0 := hide (hp_last w (.cells #[.int .i64 n, v] 28))
  have HZ0 := hide (show (w.alloc (.cells #[.int .i64 n, v] 28)).heap.size = w.heap.size + 1 by simp)
  clear hl
  cases hok : okSp n l
  · have HG := hide (show goodB n l = false by rw [← ok_good]; exact hok)
    have HE := hide (show cwR n l = 0 by simp [cwR, hok])
    clear hok
    go_enter Tryd.func14, Tryd.ntmps14
    go_wp2_with (go_at_call 48; refine (spGood_c n v l _ HL0.out hlen).mono ?_; rw [HG.out]; rintro e w1 ⟨rfl, hb1⟩; have HB1 := hide (H0.out.trans (hb1.mono (by rw [HZ0.out]; omega))); clear hb1)
    go_ret2
    exact ⟨by rw [HE.out]; rfl, HB1.out⟩
  · have HG := hide (show goodB n l = true by rw [← ok_good]; exact hok)
    have HSP := hide hok
    have hpos := okSp_ne hok
    have HW0 := hide (show (wRow l (cnt (marksTo l l.length) n.toNat) 0)[0]?.getD 0 = (cnt (marksTo l l.length) n.toNat 0 : Int) by
      rw [wRow_get _ _ _ _ hpos, if_pos (Nat.le_refl _)]
      congr 2
      obtain ⟨j, hj, e⟩ := (okSp_has hok 0).1 (okSp_spc hok).zero
      rcases Nat.eq_zero_or_pos j with h0 | h0
      · rw [h0] at e; exact e
      · have := okSp_nth_inc hok 0 j h0 hj; omega)
    have HE := hide (show cwR n l = (cnt (marksTo l l.length) n.toNat 0 : Int) by simp [cwR, hok])
    have hml : 0 < (wRow l (cnt (marksTo l l.length) n.toNat) 0).length := by rw [wRow_len]; exact hpos
    clear hok
    go_enter Tryd.func14, Tryd.ntmps14
    go_wp2_with (first
      | (go_at_call 48; refine (spGood_c n v l _ HL0.out hlen).mono ?_; rw [HG.out]; rintro e w1 ⟨rfl, hb1⟩; have hs1 := (hb1.block w.heap.size (by rw [HZ0.out]; omega)).trans HS0.out; have d0 := cells_at0 hs1; have d1 := cells_at1 hs1; have HL1 := hide ((HL0.out.below hb1 (Nat.le_refl _)).mono hb1.size); have HB1 := hide (H0.out.trans (hb1.mono (by rw [HZ0.out]; omega))); have HZ1 := hide (show w.heap.size + 1 ≤ w1.heap.size by rw [← HZ0.out]; exact hb1.size); clear hb1 hs1)
      | (go_at_call 49; refine (woWays_c n v l _ HL1.out hlen HSP.out).mono ?_; rintro e w2 ⟨v2, rfl, ho2, hb2⟩; have HI2 := hide ho2.ints; have HB2 := hide (HB1.out.trans (hb2.mono (by have := HZ1.out; omega))); clear ho2 hb2)
      | (refine wpList_at sliceT intS rfl (.tmp _) (.const _) rfl v2 rfl 0 rfl _ _ HI2.out hml ?_; intro ad hcell hblk; rw [HW0.out] at hcell))
    go_ret2
    exact ⟨by rw [HE.out]; rfl, HB2.out⟩

set_option maxHeartbeats 400000 in
theorem implCountWords_c (n : Int) (v : Value) (l : List Int) (w : World) (hl : ints w.heap.size w v l) (hlen : l.length < 1000000000) (hT : tab w) :
    Calls Tryd.prog 16 #[.agg #[.int .i64 n, v]] w fun e w' => e = .returned (.tuple #[.int .i64 (cwR n l), .bool (okSp n l)]) ∧ Below w.heap.size w w' := by
  have H0 := hide ((Below.refl w.heap.size w).alloc (Nat.le_refl _) (.cells #[.int .i64 n, v] 28))
  have HL0 := hide ((hl.alloc (.cells #[.int .i64 n, v] 28)).mono (show w.heap.size ≤ (w.alloc (.cells #[.int .i64 n, v] 28)).heap.size by simp))
  have HZ0 := hide (show (w.alloc (.cells #[.int .i64 n, v] 28)).heap.size = w.heap.size + 1 by simp)
  have HT := hide (hT.alloc (.cells #[.int .i64 n, v] 28))
  have HE := hide (cwR_eq n l)
  clear hl hT
  go_enter Tryd.func16, Tryd.ntmps16
  go_wp2_with (go_at_call 19; refine (implCountFrom_c n v l 0 _ HL0.out hlen HT.out).mono ?_; rw [HE.out.1, HE.out.2]; rintro e w1 ⟨rfl, hb1⟩; have HB1 := hide (H0.out.trans (hb1.mono (by rw [HZ0.out]; omega))); clear hb1)
  go_ret2
  exact ⟨rfl, HB1.out⟩
end Go.Proofs.YtknjiomagdfgfaaDoor
