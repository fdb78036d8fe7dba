/- Contracts: PathsOf, PathsWithin, LongestPath, CanLearn: the specification's and the program's. -/
import Derived.Test.YtagahoaogfogkaaPi
namespace Go.Proofs.Ytagahoaogfogkaa
open Go.RowKit
set_option maxRecDepth 100000
theorem ent_fullP : enters Try.prog 53 := enters_of Try.func53 (by kernel_rfl) (by kernel_rfl)
theorem ent_pathsWithin : enters Try.prog 76 := enters_of Try.func76 (by kernel_rfl) (by kernel_rfl)
/-- The most items of the first k of a list's sets. -/
def mostTo (l : List Int) : Nat → Nat
  | 0 => 0
  | k + 1 => max (mostTo l k) (pc (nth l k))
theorem mostTo_le (l : List Int) : ∀ k, mostTo l k ≤ 7
  | 0 => by simp [mostTo]
  | k + 1 => by have := mostTo_le l k; have := pc_le (nth l k); rw [mostTo]; omega
def lpR (n : Int) (l : List Int) : Int := (mostTo (poL n l) (poL n l).length : Int)
def clB (n : Int) (l : List Int) (x i : Int) : Bool := okOne n l x && (decide (0 ≤ i ∧ i < n) && !x.toNat.testBit i.toNat)
def clR (n : Int) (l : List Int) (x i : Int) : Bool := clB n l x i && memB l ((x.toNat ||| p2 i.toNat : Nat) : Int)
theorem setsTo_one (P : Nat → Bool) (h : P 0 = false) : setsTo P 1 = [] := by simp [setsTo, h]
theorem poL_no2 {n : Int} {l : List Int} (h : okSp n l = false) : poL n l = setsTo (fun x => pathF noSet (0 : Int).toNat x && (andNot x (low (0 : Int).toNat) == 0)) (2 ^ (0 : Int).toNat) := by
  rw [poL_no h]
  exact (setsTo_one _ (by simp [pathF, noSet])).symm
theorem poL_yes2 {n : Int} {l : List Int} (h : okSp n l = true) : poL n l = setsTo (fun x => pathF (marksTo l l.length) n.toNat x && (andNot x (low n.toNat) == 0)) (2 ^ n.toNat) := by
  rw [poL_yes h, where_all h]
theorem poL_at (n : Int) (l : List Int) (j : Nat) (hj : j < (poL n l).length) : (poL n l)[j]?.getD 0 = (nth (poL n l) j : Int) ∧ nth (poL n l) j < 128 := by
  cases h : okSp n l
  · rw [poL_no h] at hj; simp at hj
  · rw [poL_yes h] at hj ⊢
    have := paTo_nth (pathSp l) l (okSp_r128 h) j hj
    exact ⟨this.1, this.2.1⟩
attribute [local irreducible] p2 low memB risB

set_option maxHeartbeats 1000000 in
theorem specPathsOf_c (n : Int) (v : Value) (l : List Int) (w : World) (hl : ints w.heap.size w v l) (hlen : l.length < 1000000000) :
    Calls Try.prog 34 #[.agg #[.int .i64 n, v]] w fun e w' => ∃ v', e = .returned (.tuple #[v', .bool (okSp n l)]) ∧ own 3 w' w.heap.size v' (poL n l) ∧ Below w.heap.size w w' := by
  have HL := hide ((hl.alloc (.cells #[.int .i64 n, v] 26)).mono (show w.heap.size ≤ (w.alloc (.cells #[.int .i64 n, v] 26)).heap.size by simp))
  have H0 := hide ((Below.refl w.heap.size w).alloc (Nat.le_refl _) (.cells #[.int .i64 n, v] 26))
  have HS0 := hide (hp_last w (.cells #[.int .i64 n, v] 26))
  have HZ := hide (show (w.alloc (.cells #[.int .i64 n, v] 26)).heap.size = w.heap.size + 1 by simp)
  have hc0 := cells_at0 HS0.out
  have hc1 := cells_at1 HS0.out
  clear hl
  cases hok : okSp n l
  · have HG := hide (show goodB n l = false by rw [← ok_good]; exact hok)
    rw [poL_no hok]
    clear hok
    go_enter Try.func34, Try.ntmps34
    go_wp2_with (go_at_call 74; refine (spGood_c n v l _ HL.out hlen).mono ?_; rw [HG.out]; rintro e w1 ⟨rfl, hb1⟩; have HB1 := hide (H0.out.trans (hb1.mono (by rw [HZ.out]; omega))); clear hb1)
    go_ret2
    exact ⟨_, rfl, own_nil _ _ _, HB1.out⟩
  · have HG := hide (show goodB n l = true by rw [← ok_good]; exact hok)
    rw [poL_yes hok]
    have HI := hide (okSp_inc hok)
    have HR := hide (okSp_r128 hok)
    have hl128 := okSp_len hok
    clear hok
    go_enter Try.func34, Try.ntmps34
    go_wp2_with (first
      | (go_at_call 74; refine (spGood_c n v l _ HL.out hlen).mono ?_; rw [HG.out]; rintro e w1 ⟨rfl, hb1⟩; have HS1 := hide ((hb1.block w.heap.size (by rw [HZ.out]; omega)).trans HS0.out); have c0 := cells_at0 HS1.out; have c1 := cells_at1 HS1.out; have HL1 := hide ((HL.out.below hb1 (Nat.le_refl _)).mono hb1.size); have hz1 := hb1.size; rw [HZ.out] at hz1; have HB1 := hide (H0.out.trans (hb1.mono (by rw [HZ.out]; omega))); clear hb1)
      | (go_at_call 75; refine (paAll_c n v l _ HL1.out HI.out (by omega) HR.out).mono ?_; rintro e w2 ⟨v2, rfl, ho2, hb2⟩; have HO2 := hide (show own 3 w2 w.heap.size v2 _ from ho2.mono (by omega)); have HB2 := hide (HB1.out.trans (hb2.mono (by omega))); clear ho2 hb2))
    go_ret2
    exact ⟨_, rfl, HO2.out, HB2.out⟩
set_option maxHeartbeats 1000000 in
theorem implPathsOf_c (n : Int) (v : Value) (l : List Int) (w : World) (hl : ints w.heap.size w v l) (hlen : l.length < 1000000000) :
    Calls Try.prog 35 #[.agg #[.int .i64 n, v]] w fun e w' => ∃ v', e = .returned (.tuple #[v', .bool (okSp n l)]) ∧ own 3 w' w.heap.size v' (poL n l) ∧ Below w.heap.size w w' := by
  have HL := hide ((hl.alloc (.cells #[.int .i64 n, v] 26)).mono (show w.heap.size ≤ (w.alloc (.cells #[.int .i64 n, v] 26)).heap.size by simp))
  have H0 := hide ((Below.refl w.heap.size w).alloc (Nat.le_refl _) (.cells #[.int .i64 n, v] 26))
  have HZ := hide (show (w.alloc (.cells #[.int .i64 n, v] 26)).heap.size = w.heap.size + 1 by simp)
  have key : ∀ (N : Int) (F : Nat → Bool) (b : Bool), famVal n l = .tuple #[.agg (fam N F), .bool b] → 0 ≤ N → N ≤ 7 → poL n l = setsTo (fun x => pathF F N.toNat x && (andNot x (low N.toNat) == 0)) (2 ^ N.toNat) → okSp n l = b →
      Calls Try.prog 35 #[.agg #[.int .i64 n, v]] w fun e w' => ∃ v', e = .returned (.tuple #[v', .bool (okSp n l)]) ∧ own 3 w' w.heap.size v' (poL n l) ∧ Below w.heap.size w w' := by
    intro N F b hv hN0 hN7 hr hb0
    have HV := hide hv
    rw [hr, hb0]
    clear hv hr hb0
    go_enter Try.func35, Try.ntmps35
    go_wp2_with (first
      | (go_at_call 60; refine (familyOf_c n v l _ HL.out hlen).mono ?_; rw [HV.out]; rintro e w1 ⟨rfl, hb⟩; have hz1 := hb.size; rw [HZ.out] at hz1; have HH := hide ((famAt.new 64 w1 0 noSet).row N F); have HB := hide (bl_row ((H0.out.trans (hb.mono (by rw [HZ.out]; omega))).alloc (by omega) (.cells (fam 0 noSet) 64)) (show w.heap.size ≤ w1.heap.size by omega) (fam N F)); clear hb)
      | (refine wpList_alloc_fam zeroT rfl rfl _ (by first | (simp only [World.size_alloc]; rfl) | rfl) ?_)
      | (refine wpList_store_fam sizeT rfl (.tmp _) (.tmp _) rfl _ _ _ rfl rfl _ _ (famAt.new _ _ _ _) ?_))
    have hzX : ((w1.alloc (.cells (fam 0 noSet) 64)).setRow w1.heap.size (fam N F)).heap.size = w1.heap.size + 1 := by simp [World.setRow]
    generalize (w1.alloc (.cells (fam 0 noSet) 64)).setRow w1.heap.size (fam N F) = W at HH HB hzX ⊢
    refine wp_region_held (S := Below W.heap.size W) (by kernel_rfl) ?_
    have hS : Below W.heap.size W { W with drawn := W.drawn + 1 } := (Below.refl _ _).drew
    refine wpAnyH_take (i := 0) rfl (by kernel_rfl) (by kernel_rfl) (by kernel_rfl) (fun _ _ _ h => h) (yields_load_fam rowT sizeT rfl (.tmp _) rfl _ rfl N F (fun w' h => HH.out.below h HH.out.lt)) hS ?_
    refine wpAnyH_take (i := 1) rfl (by kernel_rfl) (by kernel_rfl) (by kernel_rfl) (fun _ _ _ h => h) (yields_load_fam rowT sizeT rfl (.tmp _) rfl _ rfl N F (fun w' h => HH.out.below h HH.out.lt)) hS ?_
    refine wpAnyH_take (i := 4) (v := .bool b) rfl (by kernel_rfl) (by kernel_rfl) (by kernel_rfl) (fun _ _ _ h => h) (.inl ⟨rfl, fun w' _ => by go_simp⟩) hS ?_
    simp only [Act.put, List.getElem_toArray, List.getElem_cons_zero, List.getElem_cons_succ, List.setIfInBounds_toArray, List.set_cons_zero, List.set_cons_succ]
    refine anyH_call (i := 2) (by kernel_rfl) rfl rfl 53 ent_fullP _ _ rfl #[.agg (fam N F)] rfl (full_c N F _ hN0 hN7) ?_
    rintro e w2 ⟨rfl, hb2⟩
    have hS2 : Below W.heap.size W w2 := hS.trans hb2
    have hz2 := hS2.size
    refine ⟨_, rfl, hS2, ?_⟩
    simp only [Act.put, List.getElem_toArray, List.getElem_cons_zero, List.getElem_cons_succ, List.setIfInBounds_toArray, List.set_cons_zero, List.set_cons_succ]
    refine anyH_call (i := 3) (by kernel_rfl) rfl rfl 76 ent_pathsWithin _ _ rfl #[.agg (fam N F), .int .i64 (low N.toNat : Int)] rfl (pathsWithin_c N F (low N.toNat) w2 hN0 hN7) ?_
    rintro e w3 ⟨v3, rfl, ho3, hb3⟩
    have hS3 : Below W.heap.size W w3 := hS2.trans (hb3.mono hz2)
    refine ⟨_, rfl, hS3, ?_⟩
    simp only [Act.put, List.getElem_toArray, List.getElem_cons_zero, List.getElem_cons_succ, List.setIfInBounds_toArray, List.set_cons_zero, List.set_cons_succ]
    refine anyH_op (i := 5) (by kernel_rfl) rfl rfl v3 w3 (by simp [go_sem]) hS3 ?_
    refine anyH_op (i := 6) (by kernel_rfl) rfl rfl (.bool b) w3 (by simp [go_sem]) hS3 ?_
    refine wpAnyH_done (by kernel_rfl) ?_ _
    simp only [Act.put, List.getElem_toArray, List.getElem_cons_zero, List.getElem_cons_succ, List.setIfInBounds_toArray, List.set_cons_zero, List.set_cons_succ]
    have HB3 := hide (HB.out.trans (hS3.mono (by omega)))
    have HO3 := hide (show own 3 w3 w.heap.size v3 _ from ho3.mono (show w.heap.size ≤ w2.heap.size by omega))
    clear hS hS3 hb3 ho3 hS2 hb2
    go_wp2
    go_ret2
    exact ⟨_, rfl, HO3.out, HB3.out⟩
  cases hok : okSp n l
  · rw [← hok]
    exact key 0 noSet false (famVal_no n l hok) (by omega) (by omega) (poL_no2 hok) hok
  · have hn := okSp_n hok
    rw [← hok]
    exact key n _ true (famVal_yes n l hok) (by omega) (by omega) (poL_yes2 hok) hok

set_option maxHeartbeats 1000000 in
theorem specPathsWithin_c (n : Int) (v : Value) (l : List Int) (x : Int) (w : World) (hl : ints w.heap.size w v l) (hlen : l.length < 1000000000) :
    Calls Try.prog 36 #[.agg #[.int .i64 n, v], .int .i64 x] w fun e w' => ∃ v', e = .returned (.tuple #[v', .bool (okOne n l x)]) ∧ own 3 w' w.heap.size v' (pwL n l x) ∧ Below w.heap.size w w' := by
  have HL := hide ((hl.alloc (.cells #[.int .i64 n, v] 26)).mono (show w.heap.size ≤ (w.alloc (.cells #[.int .i64 n, v] 26)).heap.size by simp))
  have H0 := hide ((Below.refl w.heap.size w).alloc (Nat.le_refl _) (.cells #[.int .i64 n, v] 26))
  have HS0 := hide (hp_last w (.cells #[.int .i64 n, v] 26))
  have HZ := hide (show (w.alloc (.cells #[.int .i64 n, v] 26)).heap.size = w.heap.size + 1 by simp)
  have hc0 := cells_at0 HS0.out
  have hc1 := cells_at1 HS0.out
  clear hl
  cases hok : okOne n l x
  · have HG := hide hok
    rw [pwL_no hok]
    clear hok
    go_enter Try.func36, Try.ntmps36
    go_wp2_with (go_at_call 77; refine (spOne_c n v l x _ HL.out hlen).mono ?_; rw [HG.out]; rintro e w1 ⟨rfl, hb1⟩; have HB1 := hide (H0.out.trans (hb1.mono (by rw [HZ.out]; omega))); clear hb1)
    go_ret2
    exact ⟨_, rfl, own_nil _ _ _, HB1.out⟩
  · have HG := hide hok
    have hok2 := okOne_sp hok
    rw [pwL_yes hok, ← paTo_paTo (pathSp l) (fun s => andNot s x.toNat == 0) l]
    have HI := hide (okSp_inc hok2)
    have HR := hide (okSp_r128 hok2)
    have hl128 := okSp_len hok2
    have HAT := hide (paTo_nth (pathSp l) l (okSp_r128 hok2))
    have hpl := paTo_len (pathSp l) l l.length
    obtain ⟨hi0, hi1⟩ := okSet_in (okOne_set hok)
    have hlo := low_lt n.toNat (by have := okSp_n hok2; omega)
    obtain ⟨s, rfl⟩ := Int.eq_ofNat_of_zero_le hi0
    have hs : s < 128 := by omega
    rw [Int.toNat_natCast]
    clear hok hok2 hi0 hi1 hlo
    generalize hP : paTo (pathSp l) l l.length = P at HAT hpl
    have HP := hide hP
    clear hP
    go_enter Try.func36, Try.ntmps36
    go_wp2_with (first
      | (go_at_call 77; refine (spOne_c n v l (s : Int) _ HL.out hlen).mono ?_; rw [HG.out]; rintro e w1 ⟨rfl, hb1⟩; have HS1 := hide ((hb1.block w.heap.size (by rw [HZ.out]; omega)).trans HS0.out); have c0 := cells_at0 HS1.out; have c1 := cells_at1 HS1.out; have HL1 := hide ((HL.out.below hb1 (Nat.le_refl _)).mono hb1.size); have hz1 := hb1.size; rw [HZ.out] at hz1; have HB1 := hide (H0.out.trans (hb1.mono (by rw [HZ.out]; omega))); clear hb1)
      | (go_at_call 75; refine (paAll_c n v l _ HL1.out HI.out (by omega) HR.out).mono ?_; rw [HP.out]; rintro e w2 ⟨v2, rfl, ho2, hb2⟩; have HI2 := hide ho2.ints; have hz2 := hb2.size; have HB2 := hide (HB1.out.trans (hb2.mono (by omega))); clear ho2 hb2)
      | (refine wpList_len sliceT rfl (.tmp _) rfl _ rfl w2.heap.size P HI2.out ?_))
    go_loopw [6, 16] (fun o i wr => ∃ k : Nat, k ≤ P.length ∧ i = .int .i64 (k : Int) ∧ Hid (own 3 wr w2.heap.size o (paTo (fun a => andNot a s == 0) P k)) ∧ Hid (Below w2.heap.size w2 wr)) (fun _ i _ => P.length - (intOf i).toNat)
    case atStart => exact ⟨0, by omega, rfl, own_nil _ _ _, Below.refl _ _⟩
    case round =>
      obtain ⟨j, hj, rfl, HO, HB⟩ := hrel
      have hsz := HB.out.size
      have HPW := hide (HI2.out.below HB.out (Nat.le_refl _))
      have hlen2 := paTo_len (fun a => andNot a s == 0) P j
      by_cases hlt : j < P.length
      · have hx := HAT.out j hlt
        have HN := hide (show paTo (fun a => andNot a s == 0) P (j + 1) = if (andNot (nth P j) s == 0) = true then paTo (fun a => andNot a s == 0) P j ++ [P[j]?.getD 0] else paTo (fun a => andNot a s == 0) P j from rfl)
        generalize paTo (fun a => andNot a s == 0) P j = A at HO HN hlen2
        generalize nth P j = y at HN hx
        obtain ⟨hx1, hx2, _⟩ := hx
        have HXX := hide hx1
        have hand := i64_andNot y s (by omega)
        clear hx1
        cases hp : (andNot y s == 0)
        · have HPP := hide hp
          have hp2 : ((andNot y s : Int) == 0) = false := by
            rw [Bool.eq_false_iff] at hp ⊢
            simp at hp ⊢; exact hp
          clear hp
          go_wp2_with (first
            | (refine wpList_at sliceT intS rfl (.tmp _) (.tmp _) rfl _ rfl j rfl w2.heap.size P HPW.out hlt ?_; intro ad hcell hblk; rw [HXX.out] at hcell))
          go_roundw
          case rel => exact ⟨j + 1, by omega, by go_num, by rw [HN.out, HPP.out]; exact HO.out, HB.out⟩
          case measure => simp [intOf]; omega
        · have HPP := hide hp
          have hp2 : ((andNot y s : Int) == 0) = true := by
            simp at hp ⊢; exact hp
          clear hp
          go_wp2_with (first
            | (refine wpList_at sliceT intS rfl (.tmp _) (.tmp _) rfl _ rfl j rfl w2.heap.size P HPW.out hlt ?_; intro ad hcell hblk; rw [HXX.out] at hcell)
            | (at_builtin; refine wpList_append1 sliceT intI rfl _ _ rfl w2.heap.size _ _ rfl (HO.out.alloc _) _ (y : Int) rfl (by simp [go_sem]) (by simp; omega) (by omega) ?_; intro v4 w4 ho4 hb4; have HO4 := hide ho4; have HB4 := hide ((HB.out.alloc (by omega) _).trans hb4); clear ho4 hb4))
          go_roundw
          case rel => exact ⟨j + 1, by omega, by go_num, by rw [HN.out, HPP.out, HXX.out]; exact HO4.out, HB4.out⟩
          case measure => simp [intOf]; omega
      · have HJ := hide (show j = P.length by omega)
        have hlt' : ¬ ((j : Int) < (P.length : Int)) := by omega
        clear hlen2
        go_wp2
        go_ret2
        exact ⟨_, rfl, by rw [← HJ.out]; exact HO.out.mono (by omega), HB2.out.trans (HB.out.mono (by omega))⟩

set_option maxHeartbeats 1000000 in
theorem implPathsWithin_c (n : Int) (v : Value) (l : List Int) (x : Int) (w : World) (hl : ints w.heap.size w v l) (hlen : l.length < 1000000000) :
    Calls Try.prog 37 #[.agg #[.int .i64 n, v], .int .i64 x] w fun e w' => ∃ v', e = .returned (.tuple #[v', .bool (okOne n l x)]) ∧ own 3 w' w.heap.size v' (pwL n l x) ∧ Below w.heap.size w w' := by
  have HL := hide ((hl.alloc (.cells #[.int .i64 n, v] 26)).mono (show w.heap.size ≤ (w.alloc (.cells #[.int .i64 n, v] 26)).heap.size by simp))
  have H0 := hide ((Below.refl w.heap.size w).alloc (Nat.le_refl _) (.cells #[.int .i64 n, v] 26))
  have HZ := hide (show (w.alloc (.cells #[.int .i64 n, v] 26)).heap.size = w.heap.size + 1 by simp)
  have key : ∀ (N : Int) (F : Nat → Bool) (S : Nat) (b : Bool), famVal3 n l x = .tuple #[.agg (fam N F), .int .i64 (S : Int), .bool b] → 0 ≤ N → N ≤ 7 → pwL n l x = setsTo (fun x => pathF F N.toNat x && (andNot x S == 0)) (2 ^ N.toNat) → okOne n l x = b →
      Calls Try.prog 37 #[.agg #[.int .i64 n, v], .int .i64 x] w fun e w' => ∃ v', e = .returned (.tuple #[v', .bool (okOne n l x)]) ∧ own 3 w' w.heap.size v' (pwL n l x) ∧ Below w.heap.size w w' := by
    intro N F S b hv hN0 hN7 hr hb0
    have HV := hide hv
    rw [hr, hb0]
    clear hv hr hb0
    go_enter Try.func37, Try.ntmps37
    go_wp2_with (first
      | (go_at_call 78; refine (familyAndOwnSet_c n v l x _ HL.out hlen).mono ?_; rw [HV.out]; rintro e w1 ⟨rfl, hb⟩; have hz1 := hb.size; rw [HZ.out] at hz1; have HH := hide ((famAt.new 64 w1 0 noSet).row N F); have HB := hide (bl_row ((H0.out.trans (hb.mono (by rw [HZ.out]; omega))).alloc (by omega) (.cells (fam 0 noSet) 64)) (show w.heap.size ≤ w1.heap.size by omega) (fam N F)); clear hb)
      | (refine wpList_alloc_fam zeroT rfl rfl _ (by first | (simp only [World.size_alloc]; rfl) | rfl) ?_)
      | (refine wpList_store_fam sizeT rfl (.tmp _) (.tmp _) rfl _ _ _ rfl rfl _ _ (famAt.new _ _ _ _) ?_)
      | (refine wpList_load_fam rowT sizeT rfl (.tmp _) rfl _ rfl N F HH.out ?_)
      | (go_at_call 76; refine (pathsWithin_c N F S _ hN0 hN7).mono ?_; rintro e w3 ⟨v3, rfl, ho3, hb3⟩; have HB3 := hide (HB.out.trans (hb3.mono (by simp [World.setRow]; omega))); have HO3 := hide (show own 3 w3 w.heap.size v3 _ from ho3.mono (by simp [World.setRow]; omega)); clear ho3 hb3))
    go_ret2
    exact ⟨_, rfl, HO3.out, HB3.out⟩
  cases hok : okOne n l x
  · rw [← hok]
    exact key 0 noSet 0 false (famVal3_no n l x hok) (by omega) (by omega) (by rw [pwL_no hok]; exact (setsTo_one _ (by simp [pathF, noSet])).symm) hok
  · have hn := okSp_n (okOne_sp hok)
    obtain ⟨hi0, hi1⟩ := okSet_in (okOne_set hok)
    rw [← hok]
    refine key n _ x.toNat true ?_ (by omega) (by omega) (by rw [pwL_yes hok, where_same (okOne_sp hok)]) hok
    rw [famVal3_yes n l x hok, Int.toNat_of_nonneg hi0]
end Go.Proofs.Ytagahoaogfogkaa
