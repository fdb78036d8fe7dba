/- Contracts: IsElimination, the specification's. -/
import Derived.Test.YtojejhdlfklhkaaDoorNq
namespace Go.Proofs.YtojejhdlfklhkaaDoor
open Go.RowKit
set_option maxRecDepth 100000
set_option linter.unusedSimpArgs false
attribute [local irreducible] p2 low memB risB
set_option maxHeartbeats 2000000 in
theorem specIsElimination_c (v : Value) (l : List Int) (u : Value) (o : List Int) (w : World) (hl : ints w.heap.size w v l) (hlen : l.length < 1000000000) (base : Nat) (ho : own 3 w base u o) (hol : o.length < 1000000000) (_hT : tab w) :
    Calls Tryd.prog 32 #[.agg #[v], u] w fun e w' => e = .returned (.tuple #[.bool (ieR l o), .bool (neB l)]) ∧ Below w.heap.size w w' := by
  have HL := hide hl
  have HO := hide ho.ints
  have HOO := hide ho
  have HB0 := hide (bx_start 27 v w)
  clear hl ho
  cases hn : neB l
  · have HN := hide hn
    have HR := hide (ie_no hn o)
    clear hn
    go_enter Tryd.func32, Tryd.ntmps32
    go_wp2_with (go_at_call 55; refine (shGood_c v l _ (bx_full HB0.out HL.out) hlen).mono ?_; rw [HN.out]; rintro e w2 ⟨rfl, hb2⟩; have HB2 := hide (bx_to HB0.out hb2); clear hb2)
    go_ret2
    exact ⟨by rw [HR.out]; rfl, bx_below HB2.out⟩
  · have HN := hide hn
    have HA := hide (neB_A hn)
    have h7 := (neA_in (neB_A hn)).1.2
    have h1 := (neA_in (neB_A hn)).1.1
    have HR := hide (ie_yes hn o)
    clear hn
    by_cases hll : o.length = l.length
    · cases hord : okOrd o
      · have HORD := hide hord
        have HE := hide (eli_ord h1 h7 hord)
        have hd : ((o.length : Int) != (l.length : Int)) = false := by rw [hll]; simp
        have hd2 : (o.length != l.length) = false := by rw [hll]; simp
        have HLL := hide hll
        clear hord hll
        go_enter Tryd.func32, Tryd.ntmps32
        go_wp2_with (first
          | (go_at_call 55; refine (shGood_c v l _ (bx_full HB0.out HL.out) hlen).mono ?_; rw [HN.out]; rintro e w2 ⟨rfl, hb2⟩; have HB2 := hide (bx_to HB0.out hb2); have hc2 := bx_cell HB2.out; have HL2 := hide (bx_ints HB2.out HL.out); have HO2 := hide (bx_ints HB2.out HO.out); have HW2 : Hid (own 3 w2 base u o) := hide (HOO.out.kept (bx_below HB2.out)); clear hb2)
          | (refine wpList_len sliceT rfl (.tmp 12) rfl u rfl w.heap.size o HO2.out ?_)
          | (refine wpList_len sliceT rfl (.tmp 15) rfl v rfl w.heap.size l HL2.out ?_)
          | (go_at_call 73; refine (spOrder_c u o _ base HW2.out hol).mono ?_; rw [HORD.out]; rintro e w3 ⟨rfl, rfl⟩))
        go_ret2
        exact ⟨by rw [HR.out, HE.out]; rfl, bx_below HB2.out⟩
      · have HORD := hide hord
        have hd : ((o.length : Int) != (l.length : Int)) = false := by rw [hll]; simp
        have hd2 : (o.length != l.length) = false := by rw [hll]; simp
        have HLL := hide hll
        have hp1 : wrap64 (2 ^ o.length) = (p2 l.length : Int) := by rw [hll]; exact wrap_p2 l.length h7
        have hp2 : IntKind.i64.wrap (2 ^ o.length) = (p2 l.length : Int) := by rw [IntWalk.i64_left]; exact hp1
        have hp3 := wrap_low l.length h7
        have hp4 := low_p2 l.length
        have hlo := low_lt l.length h7
        have HRZ := hide (rest_zero l.length o)
        clear hord hll
        go_enter Tryd.func32, Tryd.ntmps32
        go_wp2_with (first
          | (go_at_call 55; refine (shGood_c v l _ (bx_full HB0.out HL.out) hlen).mono ?_; rw [HN.out]; rintro e w2 ⟨rfl, hb2⟩; have HB2 := hide (bx_to HB0.out hb2); have hc2 := bx_cell HB2.out; have HL2 := hide (bx_ints HB2.out HL.out); have HO2 := hide (bx_ints HB2.out HO.out); have HW2 : Hid (own 3 w2 base u o) := hide (HOO.out.kept (bx_below HB2.out)); clear hb2)
          | (refine wpList_len sliceT rfl (.tmp 15) rfl v rfl w.heap.size l HL2.out ?_)
          | (refine wpList_len sliceT rfl (.tmp _) rfl u rfl w.heap.size o HO2.out ?_)
          | (go_at_call 73; refine (spOrder_c u o _ base HW2.out hol).mono ?_; rw [HORD.out]; rintro e w3 ⟨rfl, rfl⟩))
        clear hp1 hp2 hp3 hp4 hc2 hd hd2
        go_loopw [6, 29] (fun rr j wr => ∃ k : Nat, rr = .int .i64 (andNot (low l.length) (setTo o k) : Int) ∧ j = .int .i64 (k : Int) ∧ k ≤ o.length ∧ Hid (wordTo (elF l) l.length o k = true) ∧ Hid (Below (w.heap.size + 1) (w.alloc (.cells #[v] 27)) wr)) (fun _ j _ => o.length - (intOf j).toNat)
        case atStart => exact ⟨0, by rw [HRZ.out], rfl, Nat.zero_le _, rfl, HB2⟩
        case round =>
          obtain ⟨k, rfl, rfl, hk, HW, HB⟩ := hrel
          have hcell := bx_cell HB.out
          have HOW := hide (bx_ints HB.out HO.out)
          have hr8 := andNot_lt128 (low l.length) (setTo o k) hlo
          by_cases hlt : k < o.length
          · have HNW := hide (wordN_next (elF l) l.length o k)
            have HRN := hide (rest_next l.length o k)
            have HOS := hide (ord_step h7 HORD.out HLL.out hlt HW.out)
            have HNO := hide (fun h => eli_no (l := l) (o := o) hlt h)
            have HSI := hide (fun i w1 h1 hi => shSimplicial_c v l i (andNot (low l.length) (setTo o k)) w1 h1 HA.out hi hr8)
            generalize andNot (low l.length) (setTo o k) = r at *
            generalize hx : o[k]?.getD 0 = x at *
            have HX := hide hx
            clear hx
            obtain ⟨i, rfl⟩ := Int.eq_ofNat_of_zero_le HOS.out.1.1
            have hil : i < l.length := by have := HOS.out.1.2; omega
            have hi7 : i < 7 := by omega
            have HST := hide HOS.out.2.2
            rw [Int.toNat_natCast] at HST HRN
            have HSJ := hide (fun w1 h1 => HSI.out i w1 h1 hil)
            have hp1 := wrap_p2 i (by omega)
            have hp2 : IntKind.i64.wrap (2 ^ i) = (p2 i : Int) := by rw [IntWalk.i64_left]; exact hp1
            have han := i64_andNot r (p2 i) (Nat.lt_trans hr8 (by decide))
            cases hb : simB l r i
            · have HBT := hide hb
              have HE := hide (HNO.out (by rw [HST.out, hb]))
              clear hb
              go_wp2_with (first
                | (refine wpList_at sliceT intS rfl (.tmp _) (.tmp _) rfl u rfl k rfl w.heap.size o HOW.out hlt ?_; intro ad hcell2 hblk; rw [HX.out] at hcell2)
                | (go_at_call 70; refine (HSJ.out _ (bx_full HB.out HL.out)).mono ?_; rw [HBT.out]; rintro e w5 ⟨rfl, hb5⟩; have HB5 := hide (bx_to HB.out hb5); clear hb5))
              go_ret2
              exact ⟨by rw [HR.out, HE.out]; rfl, bx_below HB5.out⟩
            · have HBT := hide hb
              have HE := hide (show wordTo (elF l) l.length o (k + 1) = true by rw [HNW.out, HW.out, HST.out, hb]; rfl)
              clear hb
              go_wp2_with (first
                | (refine wpList_at sliceT intS rfl (.tmp _) (.tmp _) rfl u rfl k rfl w.heap.size o HOW.out hlt ?_; intro ad hcell2 hblk; rw [HX.out] at hcell2)
                | (go_at_call 70; refine (HSJ.out _ (bx_full HB.out HL.out)).mono ?_; rw [HBT.out]; rintro e w5 ⟨rfl, hb5⟩; have HB5 := hide (bx_to HB.out hb5); clear hb5))
              go_roundw
              case rel => exact ⟨k + 1, by rw [HRN.out], by go_num, by omega, HE, HB5⟩
              case measure => simp [intOf]; omega
          · have HE := hide (show eliB l o = true by unfold eliB; rw [decide_eq_true HLL.out, show wordTo (elF l) l.length o o.length = true by rw [← show k = o.length by omega]; exact HW.out]; rfl)
            have hlt' : ¬ ((k : Int) < (o.length : Int)) := by omega
            go_wp2
            go_ret2
            exact ⟨by rw [HR.out, HE.out]; rfl, bx_below HB.out⟩
    · have HE := hide (eli_len hll)
      have hd : ((o.length : Int) != (l.length : Int)) = true := by simp; omega
      have hd2 : (o.length != l.length) = true := by simp; exact hll
      clear hll
      go_enter Tryd.func32, Tryd.ntmps32
      go_wp2_with (first
        | (go_at_call 55; refine (shGood_c v l _ (bx_full HB0.out HL.out) hlen).mono ?_; rw [HN.out]; rintro e w2 ⟨rfl, hb2⟩; have HB2 := hide (bx_to HB0.out hb2); have hc2 := bx_cell HB2.out; have HL2 := hide (bx_ints HB2.out HL.out); have HO2 := hide (bx_ints HB2.out HO.out); clear hb2)
        | (refine wpList_len sliceT rfl (.tmp 12) rfl u rfl w.heap.size o HO2.out ?_)
        | (refine wpList_len sliceT rfl (.tmp 15) rfl v rfl w.heap.size l HL2.out ?_))
      go_ret2
      exact ⟨by rw [HR.out, HE.out]; rfl, bx_below HB2.out⟩
end Go.Proofs.YtojejhdlfklhkaaDoor
