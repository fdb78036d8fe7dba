/- Contracts: DifferentEnds, IsOrderSpace: the specification's and the program's. -/
import Derived.Test.YtagahoaogfogkaaDoorPf
namespace Go.Proofs.YtagahoaogfogkaaDoor
open Go.RowKit
set_option maxRecDepth 100000
/-- How many of 0, 1, .., k - 1 are wanted. -/
def moreN (K : Nat → Bool) : Nat → Nat
  | 0 => 0
  | k + 1 => moreN K k + if K k then 1 else 0
theorem moreN_le (K : Nat → Bool) : ∀ k, moreN K k ≤ k
  | 0 => Nat.le_refl 0
  | k + 1 => by
    have := moreN_le K k
    rw [moreN]
    split <;> omega
theorem moreN_congr {K M : Nat → Bool} : ∀ k, (∀ i, i < k → K i = M i) → moreN K k = moreN M k
  | 0, _ => rfl
  | k + 1, h => by rw [moreN, moreN, moreN_congr k (fun i hi => h i (by omega)), h k (by omega)]
theorem pc_items (K : Nat → Bool) : ∀ k, k ≤ 7 → pc (itemsOf K k) = moreN K k
  | 0, _ => by
    have h1 : itemsOf K 0 < 2 ^ 0 := itemsOf_lt K 0
    have h2 : itemsOf K 0 = 0 := by omega
    rw [h2]; rfl
  | k + 1, h => by
    have ih := pc_items K k (by omega)
    have h1 : itemsOf K k < 2 ^ k := itemsOf_lt K k
    have h2 := p2_le k 7 (by omega)
    have hb : (itemsOf K k).testBit k = false := Nat.testBit_lt_two_pow h1
    have e : itemsOf K (k + 1) = itemsOf K k ||| (if K k then p2 k else 0) := rfl
    rw [e, moreN]
    cases hK : K k
    · simp [ih]
    · have := pc_or (itemsOf K k) (by omega) k (by omega) hb
      simp only [if_true]
      rw [← ih, ← this]; rfl
/-- Whether an item is the end of more than one path. -/
def twoF (F : Nat → Bool) (n i : Nat) : Bool := decide (1 < (setsTo (fun x => pathF F n x && (endF F n x == i)) (2 ^ n)).length)
def twoSp (l : List Int) (i : Nat) : Bool := decide (1 < (paTo (fun s => pathSp l s && (endSp l s == i)) l l.length).length)
def deF (F : Nat → Bool) (n : Nat) : Nat := pc (itemsOf (twoF F n) n)
def deSp (l : List Int) (n : Nat) : Nat := moreN (twoSp l) n
theorem de_same {n : Int} {l : List Int} (h : okSp n l = true) : deF (marksTo l l.length) n.toNat = deSp l n.toNat := by
  have hn := okSp_n h
  unfold deF deSp
  rw [pc_items _ _ (by omega)]
  refine moreN_congr _ fun i _ => ?_
  unfold twoF twoSp
  rw [where_end h i]
theorem de_none : deF noSet 0 = 0 := rfl
def deR (n : Int) (l : List Int) : Int := if okSp n l then (deSp l n.toNat : Int) else 0
theorem deR_no {n : Int} {l : List Int} (h : okSp n l = false) : deR n l = 0 := by simp [deR, h]
theorem deR_yes {n : Int} {l : List Int} (h : okSp n l = true) : deR n l = (deSp l n.toNat : Int) := by simp [deR, h]
def ioR (n : Int) (l : List Int) : Bool := okSp n l && (deSp l n.toNat == 0)
theorem ioR_no {n : Int} {l : List Int} (h : okSp n l = false) : ioR n l = false := by simp [ioR, h]
theorem ioR_yes {n : Int} {l : List Int} (h : okSp n l = true) : ioR n l = (deSp l n.toNat == 0) := by simp [ioR, h]
theorem paTo_split (Q : Nat → Bool) (l : List Int) (k : Nat) : (paTo Q l (k + 1)).length = (paTo Q l k).length + if Q (nth l k) then 1 else 0 := by
  rw [paTo]
  split <;> simp
attribute [local irreducible] p2 low memB risB

/-! ### The program's -/
theorem ent_de1 : enters Tryd.prog 95 := enters_of Tryd.func95 (by kernel_rfl) (by kernel_rfl)
set_option maxHeartbeats 1000000 in
theorem de1_c (n : Int) (F : Nat → Bool) (i g : Nat) (w : World) (h0 : 0 ≤ n) (h7 : n ≤ 7) (hT : tab w) (hf : famAt 55 w g n F) :
    Calls Tryd.prog 95 #[.int .i64 (i : Int), .pointer (some ⟨g, 0, none⟩)] w fun e w' => e = .returned (.bool (twoF F n.toNat i)) ∧ Below w.heap.size w w' := by
  have HPT := hide (pathsTo_c n F i w h0 h7 hT)
  have HW := hide (show twoF F n.toNat i = decide (1 < (setsTo (fun x => pathF F n.toNat x && (endF F n.toNat x == i)) (2 ^ n.toNat)).length) from rfl)
  have hlen := setsTo_len (fun x => pathF F n.toNat x && (endF F n.toNat x == i)) (2 ^ n.toNat)
  have hp := p2_le n.toNat 7 (by omega)
  have HF := hide hf
  clear hT hf
  generalize setsTo (fun x => pathF F n.toNat x && (endF F n.toNat x == i)) (2 ^ n.toNat) = A at HPT HW hlen
  go_enter Tryd.func95, Tryd.ntmps95
  go_wp2_with (first
    | (refine wpList_load_fam rowT sizeT rfl (.tmp _) rfl _ rfl n F HF.out ?_)
    | (go_at_call 63; refine HPT.out.mono ?_; rintro e w1 ⟨v1, rfl, ho1, hb1⟩; have HI1 := hide ho1.ints; have HB1 := hide hb1; clear ho1 hb1)
    | (refine wpList_len sliceT rfl (.tmp _) rfl _ rfl w1.heap.size A HI1.out ?_))
  go_ret
  exact ⟨ret_b (by rw [HW.out, Bool.eq_iff_iff]; simp; try omega), HB1.out⟩
set_option maxHeartbeats 1000000 in
theorem differentEnds_c (n : Int) (F : Nat → Bool) (w : World) (h0 : 0 ≤ n) (h7 : n ≤ 7) (hT : tab w) :
    Calls Tryd.prog 67 #[.agg (fam n F)] w fun e w' => e = .returned (.int .i64 (deF F n.toNat : Int)) ∧ Below w.heap.size w w' := by
  have HT := hide hT
  have HB := hide ((Below.refl w.heap.size w).alloc (Nat.le_refl _) (.cells (fam n F) 55))
  have HF := hide (famAt.new 55 w n F)
  have hg0 := HF.out.get0
  have HZ := hide (show (w.alloc (.cells (fam n F) 55)).heap.size = w.heap.size + 1 by simp)
  have h2 := p2_le n.toNat 7 (by omega)
  have h1 : itemsOf (twoF F n.toNat) n.toNat < 2 ^ n.toNat := itemsOf_lt (twoF F n.toNat) n.toNat
  have hit : itemsOf (twoF F n.toNat) n.toNat < 128 := by omega
  have HE := hide (show deF F n.toNat = pc (itemsOf (twoF F n.toNat) n.toNat) from rfl)
  have HW := hide (itemsWhere_c n 95 #[.pointer (some ⟨w.heap.size, 0, none⟩)] (w.alloc (.cells (fam n F) 55)) (twoF F n.toNat) ent_de1 h0 h7 fun i w1 hi0 hi hb => by
    obtain ⟨i, rfl⟩ := Int.eq_ofNat_of_zero_le hi0
    have := de1_c n F i w.heap.size w1 h0 h7 (HT.out.belowB HT.out (HB.out.trans (hb.mono (by rw [HZ.out]; omega))) (Nat.le_refl _)) (HF.out.below hb (by rw [HZ.out]; omega))
    exact this)
  clear hT h1 h2
  generalize itemsOf (twoF F n.toNat) n.toNat = I at hit HE HW
  have HS : Hid (∀ (w1 : World), Calls Tryd.prog 88 #[.int .i64 (I : Int)] w1 fun e w' => e = .returned (.int .i64 (pc I : Int)) ∧ w1 = w') := hide fun w1 => by
    have := size_c (I : Int) w1 (by omega) (by omega)
    rw [Int.toNat_natCast] at this
    exact this
  rw [HE.out]
  generalize pc I = C at HS
  go_enter Tryd.func67, Tryd.ntmps67
  go_wp2_with (first
    | (go_at_call 94; refine HW.out.mono ?_; rintro e w1 ⟨rfl, hb1⟩; have HB1 := hide (HB.out.trans (hb1.mono (by rw [HZ.out]; omega))); clear hb1)
    | (go_at_call 88; refine (HS.out _).mono ?_; rintro e w2 ⟨rfl, rfl⟩))
  go_ret
  exact ⟨rfl, HB1.out⟩
set_option maxHeartbeats 1000000 in
theorem implDifferentEnds_c (n : Int) (v : Value) (l : List Int) (w : World) (hl : ints w.heap.size w v l) (hlen : l.length < 1000000000) (hT : tab w) :
    Calls Tryd.prog 41 #[.agg #[.int .i64 n, v]] w fun e w' => e = .returned (.tuple #[.int .i64 (deR n l), .bool (okSp n l)]) ∧ Below w.heap.size w w' := by
  have HL := hide ((hl.alloc (.cells #[.int .i64 n, v] 29)).mono (show w.heap.size ≤ (w.alloc (.cells #[.int .i64 n, v] 29)).heap.size by simp))
  have H0 := hide ((Below.refl w.heap.size w).alloc (Nat.le_refl _) (.cells #[.int .i64 n, v] 29))
  have HZ := hide (show (w.alloc (.cells #[.int .i64 n, v] 29)).heap.size = w.heap.size + 1 by simp)
  have key : ∀ (N : Int) (F : Nat → Bool) (b : Bool), famVal n l = .tuple #[.agg (fam N F), .bool b] → 0 ≤ N → N ≤ 7 → deR n l = (deF F N.toNat : Int) → okSp n l = b →
      Calls Tryd.prog 41 #[.agg #[.int .i64 n, v]] w fun e w' => e = .returned (.tuple #[.int .i64 (deR n l), .bool (okSp n l)]) ∧ Below w.heap.size w w' := by
    intro N F b hv hN0 hN7 hr hb0
    have HV := hide hv
    rw [hr, hb0]
    clear hv hr hb0
    generalize hD : deF F N.toNat = D
    have HD := hide hD
    clear hD
    go_enter Tryd.func41, Tryd.ntmps41
    go_wp2_with (first
      | (go_at_call 47; refine (familyOf_c n v l _ HL.out hlen).mono ?_; rw [HV.out]; rintro e w1 ⟨rfl, hb⟩; have hz1 := hb.size; rw [HZ.out] at hz1; have HH := hide ((famAt.new 55 w1 0 noSet).row N F); have HB := hide (bl_row ((H0.out.trans (hb.mono (by rw [HZ.out]; omega))).alloc (by omega) (.cells (fam 0 noSet) 55)) (show w.heap.size ≤ w1.heap.size by omega) (fam N F)); clear hb)
      | (refine wpList_alloc_fam zeroT rfl rfl _ (by first | (simp only [World.size_alloc]; rfl) | rfl) ?_)
      | (refine wpList_store_fam sizeT rfl (.tmp _) (.tmp _) rfl _ _ _ rfl rfl _ _ (famAt.new _ _ _ _) ?_)
      | (refine wpList_load_fam rowT sizeT rfl (.tmp _) rfl _ rfl N F HH.out ?_)
      | (go_at_call 67; refine (differentEnds_c N F _ hN0 hN7 (hT.belowB hT HB.out (Nat.le_refl _))).mono ?_; rw [HD.out]; rintro e w3 ⟨rfl, hb3⟩; have HB3 := hide (HB.out.trans (hb3.mono (by simp [World.setRow]; omega))); clear hb3))
    go_ret2
    exact ⟨rfl, HB3.out⟩
  cases hok : okSp n l
  · rw [← hok]
    exact key 0 noSet false (famVal_no n l hok) (by omega) (by omega) (by rw [deR_no hok]; rfl) hok
  · have hn := okSp_n hok
    rw [← hok]
    exact key n _ true (famVal_yes n l hok) (by omega) (by omega) (by rw [deR_yes hok, de_same hok]) hok
set_option maxHeartbeats 1000000 in
theorem implIsOrderSpace_c (n : Int) (v : Value) (l : List Int) (w : World) (hl : ints w.heap.size w v l) (hlen : l.length < 1000000000) (hT : tab w) :
    Calls Tryd.prog 35 #[.agg #[.int .i64 n, v]] w fun e w' => e = .returned (.tuple #[.bool (ioR n l), .bool (okSp n l)]) ∧ Below w.heap.size w w' := by
  have HL := hide ((hl.alloc (.cells #[.int .i64 n, v] 29)).mono (show w.heap.size ≤ (w.alloc (.cells #[.int .i64 n, v] 29)).heap.size by simp))
  have H0 := hide ((Below.refl w.heap.size w).alloc (Nat.le_refl _) (.cells #[.int .i64 n, v] 29))
  have HZ := hide (show (w.alloc (.cells #[.int .i64 n, v] 29)).heap.size = w.heap.size + 1 by simp)
  have HT := hide hT
  clear hl hT
  cases hok : okSp n l
  · have HK := hide hok
    rw [ioR_no hok]
    clear hok
    go_enter Tryd.func35, Tryd.ntmps35
    go_wp2_with (first
      | (go_at_call 47; refine (familyOf_c n v l _ HL.out hlen).mono ?_; rw [famVal_no n l HK.out]; rintro e w1 ⟨rfl, hb1⟩; have hz1 := hb1.size; rw [HZ.out] at hz1; have HB1 := hide (bl_row ((H0.out.trans (hb1.mono (by rw [HZ.out]; omega))).alloc (by omega) (.cells (fam 0 noSet) 55)) (show w.heap.size ≤ w1.heap.size by omega) (fam 0 noSet)); clear hb1)
      | (refine wpList_alloc_fam zeroT rfl rfl _ (by first | (simp only [World.size_alloc]; rfl) | rfl) ?_)
      | (refine wpList_store_fam sizeT rfl (.tmp _) (.tmp _) rfl _ _ _ rfl rfl _ _ (famAt.new _ _ _ _) ?_))
    go_ret2
    exact ⟨rfl, HB1.out⟩
  · have HK := hide hok
    have hn := okSp_n hok
    rw [ioR_yes hok, ← de_same hok]
    clear hok
    generalize hD : deF (marksTo l l.length) n.toNat = D
    have HD := hide hD
    clear hD
    go_enter Tryd.func35, Tryd.ntmps35
    go_wp2_with (first
      | (go_at_call 47; refine (familyOf_c n v l _ HL.out hlen).mono ?_; rw [famVal_yes n l HK.out]; rintro e w1 ⟨rfl, hb1⟩; have hz1 := hb1.size; rw [HZ.out] at hz1; have HH := hide ((famAt.new 55 w1 0 noSet).row n (marksTo l l.length)); have HB1 := hide (bl_row ((H0.out.trans (hb1.mono (by rw [HZ.out]; omega))).alloc (by omega) (.cells (fam 0 noSet) 55)) (show w.heap.size ≤ w1.heap.size by omega) (fam n (marksTo l l.length))); clear hb1)
      | (refine wpList_alloc_fam zeroT rfl rfl _ (by first | (simp only [World.size_alloc]; rfl) | rfl) ?_)
      | (refine wpList_store_fam sizeT rfl (.tmp _) (.tmp _) rfl _ _ _ rfl rfl _ _ (famAt.new _ _ _ _) ?_)
      | (refine wpList_load_fam rowT sizeT rfl (.tmp _) rfl _ rfl n _ HH.out ?_)
      | (go_at_call 67; refine (differentEnds_c n _ _ (by omega) (by omega) (HT.out.belowB HT.out HB1.out (Nat.le_refl _))).mono ?_; rw [HD.out]; rintro e w3 ⟨rfl, hb3⟩; have HB3 := hide (HB1.out.trans (hb3.mono (by simp [World.setRow]; omega))); clear hb3))
    go_ret2
    refine ⟨?_, HB3.out⟩
    have : ((D : Int) == 0) = (D == 0) := by rw [Bool.eq_iff_iff]; simp
    simp [this]

/-! ### The specification's -/
set_option maxHeartbeats 2000000 in
theorem paMore_c (n : Int) (v : Value) (l : List Int) (w : World) (hl : ints w.heap.size w v l) (hok : okSp n l = true) :
    Calls Tryd.prog 66 #[.agg #[.int .i64 n, v]] w fun e w' => e = .returned (.int .i64 (deSp l n.toNat : Int)) ∧ Below w.heap.size w w' := by
  have HL := hide (hl.alloc (.cells #[.int .i64 n, v] 29))
  have H0 := hide ((Below.refl w.heap.size w).alloc (Nat.le_refl _) (.cells #[.int .i64 n, v] 29))
  have HS0 := hide (hp_last w (.cells #[.int .i64 n, v] 29))
  have HZ := hide (show (w.alloc (.cells #[.int .i64 n, v] 29)).heap.size = w.heap.size + 1 by simp)
  have hc0 := cells_at0 HS0.out
  have hc1 := cells_at1 HS0.out
  have hn := okSp_n hok
  have HI := hide (okSp_inc hok)
  have HR := hide (okSp_r128 hok)
  have hl128 := okSp_len hok
  have HAT := hide (paTo_nth (pathSp l) l (okSp_r128 hok))
  have hpl := paTo_len (pathSp l) l l.length
  have HTW := hide (fun i => show twoSp l i = decide (1 < (paTo (fun s => endSp l s == i) (paTo (pathSp l) l l.length) (paTo (pathSp l) l l.length).length).length) by rw [paTo_paTo]; rfl)
  obtain ⟨N, rfl⟩ := Int.eq_ofNat_of_zero_le (show 0 ≤ n by omega)
  rw [Int.toNat_natCast]
  clear hl hok
  generalize hP : paTo (pathSp l) l l.length = P at HAT hpl HTW
  have HP := hide hP
  clear hP
  have HDE := hide (show deSp l N = moreN (twoSp l) N from rfl)
  rw [HDE.out]
  go_enter Tryd.func66, Tryd.ntmps66
  go_wp2_with (go_at_call 61; refine (paAll_c (N : Int) v l _ (HL.out.mono (by rw [HZ.out]; omega)) HI.out (by omega) HR.out).mono ?_; rw [HP.out]; rintro e w2 ⟨v2, rfl, ho2, hb2⟩; have HI2 := hide ho2.ints; have hz2 := hb2.size; rw [HZ.out] at hz2; have HS2 := hide ((hb2.block w.heap.size (by rw [HZ.out]; omega)).trans HS0.out); have HL2 := hide ((HL.out.below hb2 (by rw [HZ.out]; omega)).mono (show w.heap.size ≤ w2.heap.size by omega)); have HB2 := hide (H0.out.trans (hb2.mono (by rw [HZ.out]; omega))); clear ho2 hb2)
  clear hc0 hc1
  go_loopw [3, 5] (fun o i wr => ∃ k : Nat, k ≤ N ∧ i = .int .i64 (k : Int) ∧ o = .int .i64 (moreN (twoSp l) k : Int) ∧ Hid (Below w2.heap.size w2 wr)) (fun _ i _ => N - (intOf i).toNat)
  case atStart => exact ⟨0, by omega, rfl, rfl, Below.refl _ _⟩
  case round =>
    obtain ⟨i, hi, rfl, rfl, HB⟩ := hrel
    have hsz := HB.out.size
    have HPW := hide (HI2.out.below HB.out (Nat.le_refl _))
    have HSW := hide ((HB.out.block w.heap.size (by omega)).trans HS2.out)
    have d0 := cells_at0 HSW.out
    have d1 := cells_at1 HSW.out
    have hle := moreN_le (twoSp l) i
    have HMN := hide (show moreN (twoSp l) (i + 1) = moreN (twoSp l) i + if twoSp l i then 1 else 0 from rfl)
    generalize hM : moreN (twoSp l) i = M at hle HMN
    have HM := hide hM
    clear hM
    by_cases hlt : i < N
    · have hlt2 : (i : Int) < (N : Int) := by omega
      go_wp2_with (refine wpList_len sliceT rfl (.tmp _) rfl _ rfl w2.heap.size P HPW.out ?_)
      clear d0 d1
      have hwr := hsz
      go_loopw [19, 6] (fun a o wq => ∃ k : Nat, k ≤ P.length ∧ a = .int .i64 (k : Int) ∧ o = .int .i64 ((paTo (fun s => endSp l s == i) P k).length : Int) ∧ Hid (Below w2.heap.size w2 wq)) (fun a _ _ => P.length - (intOf a).toNat)
      case atStart => exact ⟨0, by omega, rfl, rfl, HB⟩
      case round =>
        obtain ⟨j, hj, rfl, rfl, HBQ⟩ := hrel
        have hszq := HBQ.out.size
        have HPQ := hide (HI2.out.below HBQ.out (Nat.le_refl _))
        have HSQ := hide ((HBQ.out.block w.heap.size (by omega)).trans HS2.out)
        have e0 := cells_at0 HSQ.out
        have e1 := cells_at1 HSQ.out
        have HLQ := hide ((HL2.out.below HBQ.out (Nat.le_refl _)).mono HBQ.out.size)
        have hlen2 := paTo_len (fun a => endSp l a == i) P j
        by_cases hlj : j < P.length
        · have hx := HAT.out j hlj
          have HN := hide (paTo_split (fun a => endSp l a == i) P j)
          generalize (paTo (fun a => endSp l a == i) P j).length = A at HN hlen2
          generalize nth P j = y at HN hx
          obtain ⟨hx1, hx2, hx3⟩ := hx
          have HXX := hide hx1
          have HPP := hide hx3
          clear hx1 hx3
          generalize hE : endSp l y = E at HN
          have HE := hide hE
          clear hE
          cases hp : (E == i)
          all_goals
            have HQ := hide hp
            have hp2 : ((E : Int) == (i : Int)) = _ := (show ((E : Int) == (i : Int)) = (E == i) by rw [Bool.eq_iff_iff]; simp; try omega).trans hp
            clear hp
            go_wp2_with (first
              | (refine wpList_at sliceT intS rfl (.tmp _) (.tmp _) rfl _ rfl j rfl w2.heap.size P HPQ.out hlj ?_; intro ad hcell hblk; rw [HXX.out] at hcell)
              | (go_at_call 56; refine (paEnd_c (N : Int) v l y _ HLQ.out HI.out (by omega) hx2 HPP.out).mono ?_; rw [HE.out]; rintro e w3 ⟨rfl, hb3⟩; have HB3 := hide (HBQ.out.trans (hb3.mono hszq)); clear hb3))
            go_roundw
            case rel => exact ⟨j + 1, by omega, by go_num, by rw [HN.out, HQ.out]; go_num, HB3⟩
            case measure => simp [intOf]; omega
        · have hlj' : ¬ ((j : Int) < (P.length : Int)) := by omega
          have hjP : j = P.length := by omega
          have HTQ := hide (show twoSp l i = decide (1 < (paTo (fun a => endSp l a == i) P j).length) by rw [hjP]; exact HTW.out i)
          clear hjP
          generalize (paTo (fun a => endSp l a == i) P j).length = A at HTQ hlen2
          by_cases hA : 1 < A
          · have hA2 : (1 : Int) < (A : Int) := by omega
            have HT2 := hide (HTQ.out.trans (show decide (1 < A) = true by simpa using hA))
            go_wp2
            go_roundw
            case rel => exact ⟨i + 1, by omega, by go_num, by rw [HMN.out, HT2.out]; go_num, HBQ⟩
            case measure => simp [intOf]; omega
          · have hA2 : ¬ ((1 : Int) < (A : Int)) := by omega
            have HT2 := hide (HTQ.out.trans (show decide (1 < A) = false by simpa using hA))
            go_wp2
            go_roundw
            case rel => exact ⟨i + 1, by omega, by go_num, by rw [HMN.out, HT2.out]; go_num, HBQ⟩
            case measure => simp [intOf]; omega
    · have HJ := hide (show i = N by omega)
      have hlt2 : ¬ ((i : Int) < (N : Int)) := by omega
      go_wp2
      go_ret
      exact ⟨ret_i (by rw [← HJ.out, HM.out]), HB2.out.trans (HB.out.mono (by omega))⟩
theorem specDifferentEnds_c (n : Int) (v : Value) (l : List Int) (w : World) (hl : ints w.heap.size w v l) (hlen : l.length < 1000000000) (_ : tab w) :
    Calls Tryd.prog 40 #[.agg #[.int .i64 n, v]] w fun e w' => e = .returned (.tuple #[.int .i64 (deR n l), .bool (okSp n l)]) ∧ Below w.heap.size w w' := by
  have HL := hide ((hl.alloc (.cells #[.int .i64 n, v] 29)).mono (show w.heap.size ≤ (w.alloc (.cells #[.int .i64 n, v] 29)).heap.size by simp))
  have H0 := hide ((Below.refl w.heap.size w).alloc (Nat.le_refl _) (.cells #[.int .i64 n, v] 29))
  have HS0 := hide (hp_last w (.cells #[.int .i64 n, v] 29))
  have HZ := hide (show (w.alloc (.cells #[.int .i64 n, v] 29)).heap.size = w.heap.size + 1 by simp)
  have hc0 := cells_at0 HS0.out
  have hc1 := cells_at1 HS0.out
  clear hl
  cases hok : okSp n l
  · have HG := hide (show goodB n l = false by rw [← ok_good]; exact hok)
    rw [deR_no hok]
    clear hok
    go_enter Tryd.func40, Tryd.ntmps40
    go_wp2_with (go_at_call 43; refine (spGood_c n v l _ HL.out hlen).mono ?_; rw [HG.out]; rintro e w1 ⟨rfl, hb1⟩; have HB1 := hide (H0.out.trans (hb1.mono (by rw [HZ.out]; omega))); clear hb1)
    go_ret2
    exact ⟨rfl, HB1.out⟩
  · have HG := hide (show goodB n l = true by rw [← ok_good]; exact hok)
    have HOK := hide hok
    rw [deR_yes hok]
    clear hok
    generalize hD : deSp l n.toNat = D
    have HD := hide hD
    clear hD
    go_enter Tryd.func40, Tryd.ntmps40
    go_wp2_with (first
      | (go_at_call 43; refine (spGood_c n v l _ HL.out hlen).mono ?_; rw [HG.out]; rintro e w1 ⟨rfl, hb1⟩; have HS1 := hide ((hb1.block w.heap.size (by rw [HZ.out]; omega)).trans HS0.out); have c0 := cells_at0 HS1.out; have c1 := cells_at1 HS1.out; have HL1 := hide ((HL.out.below hb1 (Nat.le_refl _)).mono hb1.size); have hz1 := hb1.size; rw [HZ.out] at hz1; have HB1 := hide (H0.out.trans (hb1.mono (by rw [HZ.out]; omega))); clear hb1)
      | (go_at_call 66; refine (paMore_c n v l _ HL1.out HOK.out).mono ?_; rw [HD.out]; rintro e w2 ⟨rfl, hb2⟩; have HB2 := hide (HB1.out.trans (hb2.mono (by omega))); clear hb2))
    go_ret2
    exact ⟨rfl, HB2.out⟩
theorem specIsOrderSpace_c (n : Int) (v : Value) (l : List Int) (w : World) (hl : ints w.heap.size w v l) (hlen : l.length < 1000000000) (_ : tab w) :
    Calls Tryd.prog 34 #[.agg #[.int .i64 n, v]] w fun e w' => e = .returned (.tuple #[.bool (ioR n l), .bool (okSp n l)]) ∧ Below w.heap.size w w' := by
  have HL := hide ((hl.alloc (.cells #[.int .i64 n, v] 29)).mono (show w.heap.size ≤ (w.alloc (.cells #[.int .i64 n, v] 29)).heap.size by simp))
  have H0 := hide ((Below.refl w.heap.size w).alloc (Nat.le_refl _) (.cells #[.int .i64 n, v] 29))
  have HS0 := hide (hp_last w (.cells #[.int .i64 n, v] 29))
  have HZ := hide (show (w.alloc (.cells #[.int .i64 n, v] 29)).heap.size = w.heap.size + 1 by simp)
  have hc0 := cells_at0 HS0.out
  have hc1 := cells_at1 HS0.out
  clear hl
  cases hok : okSp n l
  · have HG := hide (show goodB n l = false by rw [← ok_good]; exact hok)
    rw [ioR_no hok]
    clear hok
    go_enter Tryd.func34, Tryd.ntmps34
    go_wp2_with (go_at_call 43; refine (spGood_c n v l _ HL.out hlen).mono ?_; rw [HG.out]; rintro e w1 ⟨rfl, hb1⟩; have HB1 := hide (H0.out.trans (hb1.mono (by rw [HZ.out]; omega))); clear hb1)
    go_ret2
    exact ⟨rfl, HB1.out⟩
  · have HG := hide (show goodB n l = true by rw [← ok_good]; exact hok)
    have HOK := hide hok
    rw [ioR_yes hok]
    clear hok
    generalize hD : deSp l n.toNat = D
    have HD := hide hD
    clear hD
    go_enter Tryd.func34, Tryd.ntmps34
    go_wp2_with (first
      | (go_at_call 43; refine (spGood_c n v l _ HL.out hlen).mono ?_; rw [HG.out]; rintro e w1 ⟨rfl, hb1⟩; have HS1 := hide ((hb1.block w.heap.size (by rw [HZ.out]; omega)).trans HS0.out); have c0 := cells_at0 HS1.out; have c1 := cells_at1 HS1.out; have HL1 := hide ((HL.out.below hb1 (Nat.le_refl _)).mono hb1.size); have hz1 := hb1.size; rw [HZ.out] at hz1; have HB1 := hide (H0.out.trans (hb1.mono (by rw [HZ.out]; omega))); clear hb1)
      | (go_at_call 66; refine (paMore_c n v l _ HL1.out HOK.out).mono ?_; rw [HD.out]; rintro e w2 ⟨rfl, hb2⟩; have HB2 := hide (HB1.out.trans (hb2.mono (by omega))); clear hb2))
    go_ret2
    refine ⟨?_, HB2.out⟩
    have : ((D : Int) == 0) = (D == 0) := by rw [Bool.eq_iff_iff]; simp
    simp [this]
end Go.Proofs.YtagahoaogfogkaaDoor
