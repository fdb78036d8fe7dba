/- Contracts: IsElimination, both. -/
import Derived.Test.YtojejhdlfklhkaaDoorNb
import Derived.Test.YtojejhdlfklhkaaDoorNo
import Derived.Test.YtojejhdlfklhkaaDoorNk
namespace Go.Proofs.YtojejhdlfklhkaaDoor
open Go.RowKit
set_option maxRecDepth 100000
set_option linter.unusedSimpArgs false
def ieR (l o : List Int) : Bool := neB l && eliB l o
theorem ie_no {l : List Int} (h : neB l = false) (o : List Int) : ieR l o = false := by unfold ieR; rw [h]; rfl
theorem ie_yes {l : List Int} (h : neB l = true) (o : List Int) : ieR l o = eliB l o := by unfold ieR; rw [h]; rfl
theorem rest_next (n : Nat) (o : List Int) (k : Nat) : andNot (low n) (setTo o (k + 1)) = andNot (andNot (low n) (setTo o k)) (p2 (o[k]?.getD 0).toNat) := by
  rw [andNot_andNot, setTo, Nat.or_comm]
theorem wordN_next (F : Nat → Bool) (n : Nat) (o : List Int) (k : Nat) : wordTo F n o (k + 1) = (wordTo F n o k && stepB F n (setTo o k) (o[k]?.getD 0)) := rfl
theorem rest_zero (n : Nat) (o : List Int) : andNot (low n) (setTo o 0) = low n := by
  apply Nat.eq_of_testBit_eq
  intro i
  rw [andNot_bit, setTo, Nat.zero_testBit]; simp
attribute [local irreducible] p2 low memB risB
set_option maxHeartbeats 2000000 in
theorem implIsElimination_c (v : Value) (l : List Int) (u : Value) (o : List Int) (w : World) (hl : ints w.heap.size w v l) (hlen : l.length < 1000000000) (base : Nat) (ho : own 3 w base u o) (hol : o.length < 1000000000) (hT : tab w) :
    Calls Tryd.prog 34 #[.agg #[v], u] w fun e w' => e = .returned (.tuple #[.bool (ieR l o), .bool (neB l)]) ∧ Below w.heap.size w w' := by
  obtain ⟨sa, sc, hv⟩ := hl.shape
  subst hv
  have HL := hide hl
  have HO := hide ho.ints
  have HT := hide hT
  have HB0 := hide (bx_start 27 (.slice sa l.length sc) w)
  clear hl hT ho
  cases hn : neB l
  · have HN := hide hn
    have HR := hide (ie_no hn o)
    clear hn
    go_enter Tryd.func34, Tryd.ntmps34
    go_wp2_with (go_at_call 56; refine (isNet_c _ l _ (bx_full HB0.out HL.out) hlen (bx_tab HB0.out HT.out)).mono ?_; rw [HN.out]; rintro e w2 ⟨rfl, hb2⟩; have HB2 := hide (bx_to HB0.out hb2); clear hb2)
    go_ret2
    exact ⟨by rw [HR.out]; rfl, bx_below HB2.out⟩
  · have HN := hide hn
    have HA := hide (neB_A hn)
    have h7 := (neA_in (neB_A hn)).1.2
    have HR := hide (ie_yes hn o)
    have HRZ := hide (rest_zero l.length o)
    have hlo := low_lt l.length h7
    clear hn
    go_enter Tryd.func34, Tryd.ntmps34
    go_wp2_with (first
      | (go_at_call 56; refine (isNet_c _ l _ (bx_full HB0.out HL.out) hlen (bx_tab HB0.out HT.out)).mono ?_; rw [HN.out]; rintro e w2 ⟨rfl, hb2⟩; have HB2 := hide (bx_to HB0.out hb2); have hc2 := bx_cell HB2.out; clear hb2)
      | (go_at_call 74; refine (wholeOf_c _ l _ (bx_full HB2.out HL.out) h7).mono ?_; rintro e w3 ⟨rfl, hb3⟩; have HB3 := hide (bx_to HB2.out hb3); have HB4 := hide (HB3.out.alloc (bx_size HB3.out) (.cells #[.slice sa l.length sc, .int .i64 (low l.length : Int)] 78)); have HG4 := hide (hp_last w3 (.cells #[.slice sa l.length sc, .int .i64 (low l.length : Int)] 78)); have HO4 := hide (bx_ints HB4.out HO.out); clear hb3)
      | (refine wpList_len sliceT rfl (.tmp _) rfl u rfl w.heap.size o HO4.out ?_))
    have HZ3 := hide (bx_size HB3.out)
    generalize (w3.alloc (.cells #[.slice sa l.length sc, .int .i64 (low l.length : Int)] 78)) = W4 at *
    generalize w3.heap.size = g at *
    go_loopw [16] (fun j wr => ∃ k : Nat, j = .int .i64 (k : Int) ∧ k ≤ o.length ∧ Hid (wordTo (elF l) l.length o k = true) ∧ Hid (wr.heap[g]? = some (.cells #[.slice sa l.length sc, .int .i64 (andNot (low l.length) (setTo o k) : Int)] 78)) ∧ Hid (Below (w.heap.size + 1) (w.alloc (.cells #[.slice sa l.length sc] 27)) wr)) (fun j _ => o.length - (intOf j).toNat)
    case atStart => exact ⟨0, rfl, Nat.zero_le _, rfl, by rw [HRZ.out]; exact HG4, HB4⟩
    case round =>
      clear HB3 HB4 HG4 HO4 hc2
      obtain ⟨k, rfl, hk, HW, HG, HB⟩ := hrel
      have hcell := bx_cell HB.out
      have g0 := cells_at0 HG.out
      have g1 := cells_at1 HG.out
      have g3 := hp_free HG.out 1
      have HOW := hide (bx_ints HB.out HO.out)
      have HLW := hide (bx_ints HB.out HL.out)
      have hgz := hp_lt HG.out
      have hr8 := andNot_lt128 (low l.length) (setTo o k) hlo
      by_cases hlt : k < o.length
      · have HNW := hide (wordN_next (elF l) l.length o k)
        have HRN := hide (rest_next l.length o k)
        have HST := hide (step_sim (x := o[k]?.getD 0) h7 HW.out)
        have HNO := hide (fun h => eli_no (l := l) (o := o) hlt h)
        have HSI := hide (fun w1 h1 hT1 => simplicial_c (.slice sa l.length sc) l (andNot (low l.length) (setTo o k)) w1 h1 HA.out hr8 hT1)
        have hS8 := simS_lt (l := l) h7 (andNot (low l.length) (setTo o k))
        generalize andNot (low l.length) (setTo o k) = r at *
        generalize simS l r = sm at *
        generalize hx : o[k]?.getD 0 = x at *
        have HX := hide hx
        clear hx
        by_cases hin : 0 ≤ x ∧ x < (l.length : Int)
        · have HIN := hide hin
          obtain ⟨i, rfl⟩ := Int.eq_ofNat_of_zero_le hin.1
          rw [decide_eq_true hin, Int.toNat_natCast] at HST
          rw [Int.toNat_natCast] at HRN
          have hi7 : i < 7 := by omega
          clear hin
          cases hb : sm.testBit i
          · have HBT := hide hb
            have HE := hide (HNO.out (by rw [HST.out, hb]; rfl))
            clear hb
            go_wp2_with (first
              | (refine wpList_at sliceT intS rfl (.tmp _) (.tmp _) rfl u rfl k rfl w.heap.size o HOW.out hlt ?_; intro ad hcell2 hblk; rw [HX.out] at hcell2)
              | (go_at_call 65; refine (isItem_c _ _ _).mono ?_; rw [decide_eq_true HIN.out]; rintro e w4 ⟨rfl, rfl⟩)
              | (go_at_call 72; refine (HSI.out _ (bx_full HB.out HL.out) (bx_tab HB.out HT.out)).mono ?_; rintro e w5 ⟨rfl, hb5⟩; have HB5 := hide (bx_to HB.out hb5); clear hb5)
              | (go_at_call 75; refine (has_c _ _ _ (by omega) (by omega) (by omega) (by omega)).mono ?_; rw [Int.toNat_natCast, Int.toNat_natCast, HBT.out]; rintro e w6 ⟨rfl, rfl⟩))
            go_ret2
            exact ⟨by rw [HR.out, HE.out]; rfl, bx_below HB5.out⟩
          · have HBT := hide hb
            have HE := hide (show wordTo (elF l) l.length o (k + 1) = true by rw [HNW.out, HW.out, HST.out, hb]; rfl)
            clear hb
            go_wp2_with (first
              | (refine wpList_at sliceT intS rfl (.tmp _) (.tmp _) rfl u rfl k rfl w.heap.size o HOW.out hlt ?_; intro ad hcell2 hblk; rw [HX.out] at hcell2)
              | (go_at_call 65; refine (isItem_c _ _ _).mono ?_; rw [decide_eq_true HIN.out]; rintro e w4 ⟨rfl, rfl⟩)
              | (go_at_call 72; refine (HSI.out _ (bx_full HB.out HL.out) (bx_tab HB.out HT.out)).mono ?_; rintro e w5 ⟨rfl, hb5⟩; have HB5 := hide (bx_to HB.out hb5); have HG5 := hide ((hb5.block g hgz).trans HG.out); have g51 := cells_at1 HG5.out; have g53 := hp_free HG5.out 1; clear hb5)
              | (go_at_call 75; refine (has_c _ _ _ (by omega) (by omega) (by omega) (by omega)).mono ?_; rw [Int.toNat_natCast, Int.toNat_natCast, HBT.out]; rintro e w6 ⟨rfl, rfl⟩)
              | (go_at_call 76; refine (without_c _ _ _ (by omega) (by omega) (by omega) (by omega)).mono ?_; rw [Int.toNat_natCast, Int.toNat_natCast]; rintro e w7 ⟨rfl, rfl⟩))
            go_roundw
            case rel => exact ⟨k + 1, by go_num, by omega, HE, hide (by rw [HRN.out]; exact bareS HG5.out _), HB5.out.setCell (by show w.heap.size + 1 ≤ g; exact HZ3.out) _⟩
            case measure => simp [intOf]; omega
        · have HIN := hide hin
          have HE := hide (HNO.out (by rw [HST.out, decide_eq_false hin]; rfl))
          clear hin
          go_wp2_with (first
            | (refine wpList_at sliceT intS rfl (.tmp _) (.tmp _) rfl u rfl k rfl w.heap.size o HOW.out hlt ?_; intro ad hcell2 hblk; rw [HX.out] at hcell2)
            | (go_at_call 65; refine (isItem_c _ _ _).mono ?_; rw [decide_eq_false HIN.out]; rintro e w4 ⟨rfl, rfl⟩))
          go_ret2
          exact ⟨by rw [HR.out, HE.out]; rfl, bx_below HB.out⟩
      · have HE := hide (eli_end h7 (show wordTo (elF l) l.length o o.length = true by rw [← show k = o.length by omega]; exact HW.out))
        have hlt' : ¬ ((k : Int) < (o.length : Int)) := by omega
        have HKE := hide (show k = o.length by omega)
        rw [← HKE.out] at HE
        generalize andNot (low l.length) (setTo o k) = r at *
        go_wp2
        go_ret2
        refine ⟨?_, bx_below HB.out⟩
        rw [HR.out, HE.out, show ((r : Int) == 0) = (r == 0) by rw [Bool.eq_iff_iff, beq_iff_eq, beq_iff_eq]; omega]
        rfl
end Go.Proofs.YtojejhdlfklhkaaDoor
