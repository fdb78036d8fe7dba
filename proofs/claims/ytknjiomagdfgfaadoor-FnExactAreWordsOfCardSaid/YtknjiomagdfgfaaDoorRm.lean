/- Ranks of words: mathematics; full words; the program's rank. -/
import Derived.Test.YtknjiomagdfgfaaDoorSo
import Derived.Test.YtknjiomagdfgfaaDoorWi2
namespace Go.Proofs.YtknjiomagdfgfaaDoor
open Go.RowKit
set_option maxRecDepth 100000
attribute [local irreducible] p2 low memB risB
theorem lsum_low (c : Nat → Bool) (g : Nat → Nat) (x : Nat) : ∀ k, x ≤ k → lsum (fun i => if (decide (i < x) && c i) = true then g i else 0) (List.range k) = lsum (fun i => if c i = true then g i else 0) (List.range x) := by
  intro k
  induction k with
  | zero => intro hk; have : x = 0 := by omega
            subst this; rfl
  | succ k ih =>
    intro hk
    rcases Nat.lt_or_ge k x with h | h
    · have : x = k + 1 := by omega
      subst this
      exact lsum_congr fun i hi => by rw [decide_eq_true (List.mem_range.1 hi), Bool.true_and]
    · rw [List.range_succ, lsum_app, ih h]
      simp [lsum]
      intro hh
      omega
theorem isum_below (F : Nat → Bool) (A : Nat → Nat) (n s x : Nat) (h7 : n ≤ 7) (hx : x ≤ n) :
    isum (fun i => A (p2s s i)) (itemsL (outerOf F n s &&& low x)) (itemsL (outerOf F n s &&& low x)).length = sumN F A s x := by
  unfold isum
  rw [List.take_length, sumN_r]
  have e : (itemsL (outerOf F n s &&& low x)).map Int.toNat = itemsN (outerOf F n s &&& low x) := by
    unfold itemsL
    rw [List.map_map]
    conv => rhs; rw [← List.map_id (itemsN (outerOf F n s &&& low x))]
    exact List.map_congr_left fun x _ => by simp
  rw [e]
  unfold itemsN
  rw [lsum_filter, ← lsum_low _ _ x 7 (by omega)]
  refine lsum_congr fun i _ => ?_
  rw [Nat.testBit_and, outer_bit, low_bit]
  by_cases hi : i < x
  · rw [decide_eq_true hi, decide_eq_true (show i < n by omega), Bool.true_and, Bool.and_true]
  · rw [decide_eq_false hi, Bool.and_false, Bool.false_and]
def rkTo (F : Nat → Bool) (n : Nat) (m : List Int) : Nat → Nat
  | 0 => 0
  | k + 1 => rkTo F n m k + sumN F (cnt F n) (setTo m k) (m[k]?.getD 0).toNat
theorem rkTo_le (F : Nat → Bool) (n : Nat) (m : List Int) (h7 : n ≤ 7) (hm : ∀ j, j < m.length → 0 ≤ m[j]?.getD 0 ∧ m[j]?.getD 0 < (n : Int)) : ∀ k, k ≤ m.length → rkTo F n m k ≤ k * 5764801
  | 0, _ => by simp [rkTo]
  | k + 1, h => by
    have h1 := rkTo_le F n m h7 hm k (by omega)
    have h2 := hm k (by omega)
    have h3 := cnt_sum_le F n h7 (setTo m k) (m[k]?.getD 0).toNat (by omega)
    rw [rkTo, Nat.add_mul, Nat.one_mul]
    omega
theorem cnt_off {F : Nat → Bool} {n : Nat} (h7 : n ≤ 7) (hl : F (low n) = true) (x : Nat) (hx : x < 128) (hf : F x = false) : cnt F n x = 0 := by
  rw [cnt_eq F n h7 x hx, if_neg (by rintro rfl; rw [hl] at hf; cases hf), hf]
  rfl
def okFu (n : Int) (l m : List Int) : Bool := okWd n l m && decide ((m.length : Int) = n)
theorem okFu_wd {n : Int} {l m : List Int} (h : okFu n l m = true) : okWd n l m = true ∧ (m.length : Int) = n := by
  simp only [okFu, Bool.and_eq_true, decide_eq_true_eq] at h; exact h

set_option maxHeartbeats 1000000 in
theorem isFullWord_c (n : Nat) (F : Nat → Bool) (u : Value) (m : List Int) (w : World) (hm : ints w.heap.size w u m) (hml : m.length < 1000000000) (h7 : n ≤ 7) :
    Calls Tryd.prog 59 #[.agg (fam (n : Int) F), u] w fun e w' => e = .returned (.bool (decide (m.length = n) && wordB F n m)) ∧ Below w.heap.size w w' := by
  have H0 := hide ((Below.refl w.heap.size w).alloc (Nat.le_refl _) (.cells (fam (n : Int) F) 63))
  have HM := hide ((hm.alloc (.cells (fam (n : Int) F) 63)).mono (show w.heap.size ≤ (w.alloc (.cells (fam (n : Int) F) 63)).heap.size by simp))
  have hf0 := famAt.new 63 w (n : Int) F
  have c0 := hf0.get0
  have HF := hide hf0
  clear hm hf0
  by_cases he : m.length = n
  · have hb : ((m.length : Int) == (n : Int)) = true := by simp; omega
    have HE := hide he
    clear he
    go_enter Tryd.func59, Tryd.ntmps59
    go_wp2_with (first
      | (refine wpList_len sliceT rfl (.tmp _) rfl u rfl _ m HM.out ?_)
      | (refine wpList_load_fam rowT sizeT rfl (.tmp _) rfl _ rfl (n : Int) F HF.out ?_)
      | (go_at_call 92; refine (isWord_c (n : Int) F u m _ HM.out hml (by omega) (by omega)).mono ?_; rw [Int.toNat_natCast]; rintro e w1 ⟨rfl, hb1⟩; have HB := hide (H0.out.trans (hb1.mono (by simp))); clear hb1))
    go_ret
    exact ⟨ret_b (by rw [decide_eq_true HE.out, Bool.true_and]), HB.out⟩
  · have hb : ((m.length : Int) == (n : Int)) = false := by simp; omega
    have HE := hide he
    clear he
    go_enter Tryd.func59, Tryd.ntmps59
    go_wp2_with (refine wpList_len sliceT rfl (.tmp _) rfl u rfl _ m HM.out ?_)
    go_ret
    exact ⟨ret_b (by rw [decide_eq_false HE.out, Bool.false_and]), H0.out⟩

set_option maxHeartbeats 4000000 in
theorem rankOf_c (n : Nat) (F : Nat → Bool) (u : Value) (m : List Int) (w : World) (hm : ints w.heap.size w u m) (hml : m.length = n) (h1 : 1 ≤ n) (h7 : n ≤ 7) (hsp : Spc F n) (hw : wordTo F n m m.length = true) (hT : tab w) :
    Calls Tryd.prog 60 #[.agg (fam (n : Int) F), u] w fun e w' => e = .returned (.int .i64 (rkTo F n m m.length : Int)) ∧ Below w.heap.size w w' := by
  have hp := p2_le n 7 h7
  have HIN := hide (wordTo_len hw)
  have HS := hide (fun k (h : k ≤ m.length) => show setTo m k < 128 by have := setTo_lt k (wordTo_at hw k h); omega)
  have HRL := hide (fun k (h : k ≤ m.length) => show rkTo F n m k ≤ 40353607 by
    have h1 := rkTo_le F n m h7 (wordTo_len hw) k h
    have h2 : k * 5764801 ≤ 7 * 5764801 := Nat.mul_le_mul_right _ (by omega)
    omega)
  have HRK := hide (fun k => show rkTo F n m (k + 1) = rkTo F n m k + sumN F (cnt F n) (setTo m k) (m[k]?.getD 0).toNat from rfl)
  have HSK := hide (fun k => show setTo m (k + 1) = setTo m k ||| p2 (m[k]?.getD 0).toNat from rfl)
  have HLT := hide hsp.lt
  have HMP := hide hm
  have HT := hide (hT.alloc (.cells (fam (n : Int) F) 63))
  have H0 := hide ((Below.refl w.heap.size w).alloc (Nat.le_refl _) (.cells (fam (n : Int) F) 63))
  have HF0 := hide (famAt.new 63 w (n : Int) F)
  have HZ := hide (show (w.alloc (.cells (fam (n : Int) F) 63)).heap.size = w.heap.size + 1 by simp)
  have hml8 : m.length ≤ 7 := by omega
  have HTW0 := hide hT
  clear hm hsp hw hT hp hml
  go_enter Tryd.func60, Tryd.ntmps60
  go_wp2_with (first
    | (refine wpList_load_fam rowT sizeT rfl (.tmp _) rfl _ rfl (n : Int) F HF0.out ?_)
    | (go_at_call 53; refine (wordCounts_c n F _ h1 h7 HLT.out HT.out).mono ?_; rintro e w2 ⟨rfl, hb2⟩; have hz2 := hb2.size; rw [HZ.out] at hz2; have HFW := hide (((HF0.out.below hb2 (by rw [HZ.out]; omega)).alloc (.cells (rowV zRow) 68)).rowO w2.heap.size (by omega) (rowV (cRow (cnt F n)))); have HCW := hide ((blk.new 68 w2 zRow).row (cRow (cnt F n))); have HTW := hide (((HT.out.belowB HT.out hb2 (Nat.le_refl _)).alloc (.cells (rowV zRow) 68)).setRow w2.heap.size (by have := HTW0.out.1; omega) (rowV (cRow (cnt F n)))); have HBW := hide (bl_row ((H0.out.trans (hb2.mono (by rw [HZ.out]; omega))).alloc (by omega) (.cells (rowV zRow) 68)) (show w.heap.size ≤ w2.heap.size by omega) (rowV (cRow (cnt F n)))); clear hb2)
    | (refine wpList_alloc_arr zeroC rfl rfl _ (by first | (simp only [World.size_alloc]; rfl) | rfl) ?_)
    | (refine wpList_store_arr sizeC rfl (.tmp _) (.tmp _) rfl _ (cRow (cnt F n)) (cRow_len _) rfl rfl zRow zRow_len (blk.new _ _ _) ?_)
    | (refine wpList_len sliceT rfl (.tmp _) rfl u rfl w.heap.size m (HMP.out.below HBW.out (Nat.le_refl _)) ?_))
  have hzW : ((w2.alloc (.cells (rowV zRow) 68)).setRow w2.heap.size (rowV (cRow (cnt F n)))).heap.size = w2.heap.size + 1 := by simp [World.setRow]
  generalize ((w2.alloc (.cells (rowV zRow) 68)).setRow w2.heap.size (rowV (cRow (cnt F n)))) = W at HFW HCW HTW HBW hzW ⊢
  generalize w2.heap.size = g at HCW hzW hz2 ⊢
  clear HF0 HT H0 HZ
  go_loopw [6, 7, 16] (fun rv sv kv wr => ∃ k : Nat, k ≤ m.length ∧ kv = .int .i64 k ∧ sv = .int .i64 (setTo m k : Int) ∧ rv = .int .i64 (rkTo F n m k : Int) ∧ Hid (Below W.heap.size W wr)) (fun _ _ kv _ => m.length - (intOf kv).toNat)
  case atStart => exact ⟨0, Nat.zero_le _, rfl, rfl, rfl, Below.refl _ _⟩
  case round =>
    obtain ⟨k, hk, rfl, rfl, rfl, HB⟩ := hrel
    have hszr := HB.out.size
    have hs128 := HS.out k hk
    have hr := HRL.out k hk
    have HF := hide (HFW.out.below HB.out HFW.out.lt)
    have HTR := hide (HTW.out.belowB HTW.out HB.out (Nat.le_refl _))
    have HMR := hide ((HMP.out.below HBW.out (Nat.le_refl _)).below HB.out (by omega))
    by_cases hlt : k < m.length
    · have hin := HIN.out k hlt
      have hrk := HRK.out k
      have hsk := HSK.out k
      have hr2 := HRL.out (k + 1) hlt
      have hs2 := HS.out (k + 1) hlt
      generalize hx : m[k]?.getD 0 = x at hin hrk hsk
      have HX := hide hx
      obtain ⟨x, rfl⟩ := Int.eq_ofNat_of_zero_le hin.1
      rw [Int.toNat_natCast] at hrk hsk
      have hxn : x < n := by omega
      have HIA := hide (isum_below F (cnt F n) n (setTo m k) x h7 (by omega))
      have hy0 := outer_lt F n (setTo m k) h7
      have hlo := low_lt x (by omega)
      have hand := i64_and (outerOf F n (setTo m k)) (low x) (by omega) (by omega)
      have hy : outerOf F n (setTo m k) &&& low x < 128 := Nat.lt_of_le_of_lt Nat.and_le_left hy0
      have HSUM := hide (show rkTo F n m (k + 1) = rkTo F n m k + sumN F (cnt F n) (setTo m k) x from hrk)
      have HSET := hide hsk
      clear hx hin hrk hsk
      generalize setTo m k = s at hs128 HIA hand hy hy0 HSUM HSET ⊢
      generalize rkTo F n m k = rk at hr HSUM ⊢
      generalize hyy : outerOf F n s &&& low x = y at HIA hand hy
      have HIL := hide (itemsL_at y)
      have hlen := itemsL_len _ hy
      have HIS := hide (fun j => isum_le (fun i => cnt F n (p2s s i)) (itemsL y) j)
      have HIT := hide (fun j h => isum_step (fun i => cnt F n (p2s s i)) (itemsL y) j h)
      clear hyy
      generalize hLL : itemsL y = L at HIA HIL hlen HIS HIT
      have HL := hide hLL
      clear hLL
      go_wp2_with (first
        | (refine wpList_at sliceT intS rfl (.tmp _) (.tmp _) rfl u rfl k rfl _ m HMR.out hlt ?_; intro ad hcell hblk; rw [HX.out] at hcell)
        | (refine wpList_load_fam rowT sizeT rfl (.tmp _) rfl _ rfl (n : Int) F HF.out ?_)
        | (go_at_call 85; refine (outerFringe_c (n : Int) F (s : Int) wr (by omega) (by omega) (by omega) (by omega)).mono ?_; rw [Int.toNat_natCast, Int.toNat_natCast]; rintro e w3 ⟨rfl, hb3⟩; have hz3 := hb3.size; have HT3 := hide (HTR.out.belowB HTR.out hb3 (Nat.le_refl _)); have HB3 := hide (HB.out.trans (hb3.mono hszr)); clear hb3)
        | (go_at_call 77; refine (below_c (x : Int) _ (by omega) (by omega)).mono ?_; rw [Int.toNat_natCast]; rintro e w3' ⟨rfl, rfl⟩)
        | (go_at_call 89; refine (items_c y _ hy HT3.out).mono ?_; rw [HL.out]; rintro e w4 ⟨v4, rfl, ho4, hb4⟩; have hz4 := hb4.size; have HO4 := hide ho4; have HB4 := hide (HB3.out.trans (hb4.mono (by omega))); clear ho4 hb4)
        | (refine wpList_len sliceT rfl (.tmp _) rfl v4 rfl _ L HO4.out.ints ?_))
      go_loopw [6, 28] (fun rv jv wi => ∃ j : Nat, j ≤ L.length ∧ jv = .int .i64 j ∧ rv = .int .i64 ((rk + isum (fun i => cnt F n (p2s s i)) L j : Nat) : Int) ∧ Hid (∃ B, own 3 wi B v4 L) ∧ Hid (Below W.heap.size W wi)) (fun _ jv _ => L.length - (intOf jv).toNat)
      case atStart => exact ⟨0, Nat.zero_le _, rfl, by rw [isum_zero]; rfl, ⟨_, HO4.out⟩, HB4⟩
      case round =>
        clear HB HB3 HB4 HO4
        obtain ⟨j, hj, rfl, rfl, HO, HB⟩ := hrel
        have hszi := HB.out.size
        by_cases hjl : j < L.length
        · obtain ⟨B, hob⟩ := HO.out
          have HOI := hide hob.ints
          obtain ⟨i, hi, hi7, hyb⟩ := HIL.out j hjl
          have HXI := hide hi
          have hps := p2s_lt s i hs128 hi7
          have HC := HCW.out.below HB.out HCW.out.lt
          have hg2 := HC.cell (p2s s i) (by rw [cRow_len]; exact hps)
          rw [cRow_get _ _ hps] at hg2
          have HST := hide (show isum (fun i => cnt F n (p2s s i)) L (j + 1) = isum (fun i => cnt F n (p2s s i)) L j + cnt F n (p2s s i) by rw [HIT.out j hjl, hi, Int.toNat_natCast])
          have hb1 := HIS.out (j + 1)
          rw [HIA.out, HST.out] at hb1
          have hsum := HSUM.out
          have hwith := with_c (s : Int) (i : Int)
          rw [Int.toNat_natCast, Int.toNat_natCast, show s ||| p2 i = p2s s i from rfl] at hwith
          have HW := hide hwith
          clear hi hyb hwith hob HC
          generalize p2s s i = q at hps HST hg2 HW hb1
          generalize cnt F n q = c at HST hg2 hb1
          generalize isum (fun i => cnt F n (p2s s i)) L j = p at HST hb1 ⊢
          have hadd : IntKind.i64.wrap (((rk + p : Nat) : Int) + (c : Int)) = ((rk + (p + c) : Nat) : Int) := by rw [IntWalk.i64_in _ (by omega)]; omega
          have hadd2 : IntKind.i64.wrap ((rk : Int) + (p : Int) + (c : Int)) = (rk : Int) + ((p : Int) + (c : Int)) := by rw [IntWalk.i64_in _ (by omega)]; omega
          clear hsum hb1
          go_wp2_with (first
            | (refine wpList_at sliceT intS rfl (.tmp _) (.tmp _) rfl v4 rfl j rfl _ L HOI.out hjl ?_; intro ad hcell hblk; rw [HXI.out] at hcell)
            | (go_at_call 90; refine (HW.out _ (by omega) (by omega) (by omega) (by omega)).mono ?_; rintro e w5 ⟨rfl, rfl⟩))
          go_roundw
          case rel => exact ⟨j + 1, by omega, by go_num, by (rw [HST.out]; congr 1), HO, HB⟩
          case measure => simp [intOf]; omega
        · have hjl' : ¬ ((j : Int) < (L.length : Int)) := by omega
          have hjj : j = L.length := by omega
          have HRS := hide (show rk + isum (fun i => cnt F n (p2s s i)) L j = rkTo F n m (k + 1) by rw [hjj, HIA.out, HSUM.out])
          clear hjj
          go_wp2_with (go_at_call 90; refine (with_c (s : Int) (x : Int) _ (by omega) (by omega) (by omega) (by omega)).mono ?_; rw [Int.toNat_natCast, Int.toNat_natCast, ← HSET.out]; rintro e w5 ⟨rfl, rfl⟩)
          go_roundw
          case rel => exact ⟨k + 1, by omega, by go_num, rfl, by (rw [← HRS.out]; congr 1), HB⟩
          case measure => simp [intOf]; omega
    · have hlt' : ¬ ((k : Int) < (m.length : Int)) := by omega
      have HK := hide (show k = m.length by omega)
      clear hk
      go_wp2
      go_ret
      exact ⟨ret_i (by rw [HK.out]), HBW.out.trans (HB.out.mono (by have := HBW.out.size; omega))⟩
end Go.Proofs.YtknjiomagdfgfaaDoor
