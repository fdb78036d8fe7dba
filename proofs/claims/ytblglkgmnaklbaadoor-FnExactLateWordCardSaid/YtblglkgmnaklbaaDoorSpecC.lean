/- Contracts of the specification's functions, III: the two loops of the test for a space. -/
import Derived.Test.YtblglkgmnaklbaaDoorSpecB
namespace Go.Proofs.YtblglkgmnaklbaaDoor
open Go.RowKit
set_option maxRecDepth 100000
attribute [local irreducible] p2 low memB risB

set_option maxHeartbeats 2000000 in
theorem spGood_5 (m : Nat) (v : Value) (l : List Int) (w : World) (hl : ints w.heap.size w v l) (hlen : l.length < 1000000000) (hn1 : 1 ≤ m) (hn2 : m ≤ 7) (hle : l.length ≤ p2 m) (hri : risB 0 (low m) l l.length = true) (hm0 : memB l 0 = true) (hml : memB l (low m) = true) :
    Calls Tryd.prog 32 #[.agg #[.int .i64 (m : Int), v]] w fun e w' => e = .returned (.bool (goodTo l l.length)) ∧ Below w.heap.size w w' := by
  have hc0 : ∀ w', Below (w.alloc (.cells #[.int .i64 (m : Int), v] 29)).heap.size (w.alloc (.cells #[.int .i64 (m : Int), v] 29)) w' → w'.cell? ⟨w.heap.size, 0, none⟩ = some (.int .i64 (m : Int)) := fun w' h => by
    rw [h.cell (by simp)]; simp
  have hc1 : ∀ w', Below (w.alloc (.cells #[.int .i64 (m : Int), v] 29)).heap.size (w.alloc (.cells #[.int .i64 (m : Int), v] 29)) w' → w'.cell? ⟨w.heap.size, 1, none⟩ = some v := fun w' h => by
    rw [h.cell (by simp)]; simp
  have HSH := hide hl.shape
  have HL1 := hide (hl.alloc (.cells #[.int .i64 (m : Int), v] 29))
  have HN : Hid (1 ≤ (m : Int) ∧ (m : Int) ≤ 7) := ⟨by omega, by omega⟩
  have hp1 := wrap_p2 m hn2
  have hp2 : IntKind.i64.wrap (2 ^ m) = (p2 m : Int) := by rw [IntWalk.i64_left]; exact hp1
  have hp3 := wrap_low m hn2
  clear hl
  have hd : decide (p2 m < l.length) = false := by simp; omega
  have HIN := hide (risB_inc _ _ _ hri)
  have HRI := hide hri
  have HM0 := hide hm0
  have HML := hide hml
  clear hle hri hm0 hml
  go_enter Tryd.func32, Tryd.ntmps32
  go_wp2
  refine wp_region_old (by kernel_rfl) (by kernel_rfl) ?_
  repeat (first
    | go_big_quiet_skip
    | (refine q_load_cell rowI rfl (.tmp _) rfl _ rfl (.int .i64 (m : Int)) hc0 ?_; simp only [Act.put, List.setIfInBounds_toArray, List.set_cons_zero, List.set_cons_succ])
    | (refine q_load_cell rowS rfl (.tmp _) rfl _ rfl v hc1 ?_; simp only [Act.put, List.setIfInBounds_toArray, List.set_cons_zero, List.set_cons_succ])
    | (refine q_len sliceT rfl (.tmp _) rfl v rfl l.length HSH.out ?_; simp only [Act.put, List.setIfInBounds_toArray, List.set_cons_zero, List.set_cons_succ])
    | (refine q_pure rfl 50 ent_spItems _ _ rfl #[.int .i64 (m : Int)] rfl (.bool true) (fun w' _ => by have := spItems_c m w'; rw [decide_eq_true HN.out] at this; exact this) ?_; simp only [Act.put, List.setIfInBounds_toArray, List.set_cons_zero, List.set_cons_succ])
    | (refine q_pure rfl 60 ent_l1Rising _ _ rfl #[v, .int .i64 0, .int .i64 (low m : Int)] rfl (.bool _) (fun w' hb => by have := l1Rising_c v l 0 (low m : Int) w' ((HL1.out.below hb (by simp)).mono (by have := hb.size; simp at this; omega)) hlen; rw [HRI.out] at this; exact this) ?_; simp only [Act.put, List.setIfInBounds_toArray, List.set_cons_zero, List.set_cons_succ])
    | go_big_quiet_step ((first | exact fun _ => rfl | exact fun _ => ⟨rfl, rfl⟩)))
  refine wpQuiet_nil ?_
  intro w1 hb1
  have hsz1 := hb1.size
  simp at hsz1
  have hd0 : ∀ w', Below w1.heap.size w1 w' → w'.cell? ⟨w.heap.size, 0, none⟩ = some (.int .i64 (m : Int)) := fun w' h => (h.cell (p := ⟨w.heap.size, 0, none⟩) (by show w.heap.size < _; omega)).trans (hc0 w1 hb1)
  have hd1 : ∀ w', Below w1.heap.size w1 w' → w'.cell? ⟨w.heap.size, 1, none⟩ = some v := fun w' h => (h.cell (p := ⟨w.heap.size, 1, none⟩) (by show w.heap.size < _; omega)).trans (hc1 w1 hb1)
  have HL2 := hide ((HL1.out.below hb1 (by simp)).mono (show w.heap.size ≤ w1.heap.size by omega))
  have HB1 := hide ((Below.refl w.heap.size w).alloc (Nat.le_refl _) (.cells #[.int .i64 (m : Int), v] 29) |>.trans (hb1.mono (by simp)))
  clear hc0 hc1 hb1 HL1
  go_wp2
  refine wp_region_old (by kernel_rfl) (by kernel_rfl) ?_
  go_big_quiet_step ((first | exact fun _ => rfl | exact fun _ => ⟨rfl, rfl⟩))
  refine q_load_cell rowS rfl (.tmp _) rfl _ rfl v hd1 ?_
  simp only [Act.put, List.setIfInBounds_toArray, List.set_cons_zero, List.set_cons_succ]
  refine q_pure rfl 61 ent_spHas _ _ rfl #[v, .int .i64 0] rfl (.bool true) (fun w' hb => by have := spHas_c v l 0 w' ((HL2.out.below hb (Nat.le_refl _)).mono (by have := hb.size; omega)) HIN.out hlen; rw [HM0.out] at this; exact this) ?_
  simp only [Act.put, List.setIfInBounds_toArray, List.set_cons_zero, List.set_cons_succ]
  go_big_quiet_step ((first | exact fun _ => rfl | exact fun _ => ⟨rfl, rfl⟩))
  go_big_quiet_step ((first | exact fun _ => rfl | exact fun _ => ⟨rfl, rfl⟩))
  go_big_quiet_step ((first | exact fun _ => rfl | exact fun _ => ⟨rfl, rfl⟩))
  refine q_load_cell rowS rfl (.tmp _) rfl _ rfl v hd1 ?_
  simp only [Act.put, List.setIfInBounds_toArray, List.set_cons_zero, List.set_cons_succ]
  go_big_quiet_step ((first | exact fun _ => rfl | exact fun _ => ⟨rfl, rfl⟩))
  refine q_load_cell rowI rfl (.tmp _) rfl _ rfl (.int .i64 (m : Int)) hd0 ?_
  simp only [Act.put, List.setIfInBounds_toArray, List.set_cons_zero, List.set_cons_succ]
  go_big_quiet_step ((first | exact fun _ => rfl | exact fun _ => ⟨rfl, rfl⟩))
  go_big_quiet_step ((first | exact fun _ => rfl | exact fun _ => ⟨rfl, rfl⟩))
  refine q_pure rfl 61 ent_spHas _ _ rfl #[v, .int .i64 (low m : Int)] rfl (.bool true) (fun w' hb => by have := spHas_c v l (low m : Int) w' ((HL2.out.below hb (Nat.le_refl _)).mono (by have := hb.size; omega)) HIN.out hlen; rw [HML.out] at this; exact this) ?_
  simp only [Act.put, List.setIfInBounds_toArray, List.set_cons_zero, List.set_cons_succ]
  repeat (go_big_quiet_step ((first | exact fun _ => rfl | exact fun _ => ⟨rfl, rfl⟩)))
  refine wpQuiet_nil ?_
  intro w2 hb2
  have hsz2 := hb2.size
  have he1 := hd1 w2 hb2
  have HB2 := hide (HB1.out.trans (hb2.mono (by omega)))
  have HL3 := hide ((HL2.out.below hb2 (Nat.le_refl _)).mono (show w1.heap.size ≤ w2.heap.size by omega))
  clear hd0 hd1 HB1 HL2 hp1 hp2 hp3 hd
  go_wp2_with (refine wpList_len sliceT rfl (.tmp _) rfl v rfl w2.heap.size l HL3.out ?_)
  go_loop [47] (fun i => ∃ k : Nat, k ≤ l.length ∧ i = .int .i64 k ∧ Hid (goodTo l k = true)) (fun i => l.length - (intOf i).toNat)
  case atStart => exact ⟨0, Nat.zero_le _, rfl, rfl⟩
  case round =>
    obtain ⟨k, hk, rfl, HG⟩ := hrel
    by_cases hlt : k < l.length
    · have hr := (risB_at 0 (low m) l _ HRI.out k hlt).1
      have hlo := low_lt m hn2
      obtain ⟨s, hs⟩ := Int.eq_ofNat_of_zero_le hr.1
      have hs128 : s < 128 := by omega
      have HS := hide hs
      clear hs hr hlo
      by_cases hbad : 0 < s ∧ itemsOf (innerSp l s) 7 = 0
      · have hs0 : 0 < s := hbad.1
        have hd1 : decide ((0 : Int) < (s : Int)) = true := by simp; omega
        have hd2 : decide (0 < s) = true := by simp; omega
        have hq : ((itemsOf (innerSp l s) 7 : Int) == 0) = true := by rw [hbad.2]; rfl
        have hno : goodTo l l.length = false := goodTo_false l (k + 1) (by rw [goodTo, HS.out, Int.toNat_natCast, hbad.2]; simp; intro h; omega) _ (by omega)
        have HNO := hide hno
        clear hno hbad
        go_wp2_with (first
          | (refine wpList_at sliceT intS rfl (.tmp _) (.tmp _) rfl v rfl k rfl w2.heap.size l HL3.out hlt ?_; intro ad hcell hblk; rw [HS.out] at hcell)
          | (go_at_call 62; refine (spInner_c v l _ w2 HL3.out HIN.out hlen (by omega) (by omega)).mono ?_; rw [Int.toNat_natCast]; rintro e w' ⟨rfl, rfl⟩))
        go_ret
        exact ⟨ret_b HNO.out.symm, HB2.out⟩
      · have HBD := hide hbad
        clear hbad
        by_cases hs0 : 0 < s
        all_goals
          have HS0 := hide hs0
          first
            | (have hs0' : 0 < s := HS0.out
               have hd2 : decide (0 < s) = true := by simp; omega
               have hd1 : decide ((0 : Int) < (s : Int)) = true := by simp; omega
               have hq : ((itemsOf (innerSp l s) 7 : Int) == 0) = false := by
                 have : itemsOf (innerSp l s) 7 ≠ 0 := fun h => HBD.out ⟨hs0', h⟩
                 simp; omega)
            | (have hd2 : decide (0 < s) = false := by simp; omega
               have hd1 : decide ((0 : Int) < (s : Int)) = false := by simp; omega)
          clear hs0
          go_wp2_with (first
            | (refine wpList_at sliceT intS rfl (.tmp _) (.tmp _) rfl v rfl k rfl w2.heap.size l HL3.out hlt ?_; intro ad hcell hblk; rw [HS.out] at hcell)
            | (refine wpList_len sliceT rfl (.tmp _) rfl v rfl w2.heap.size l HL3.out ?_)
            | (go_at_call 62; refine (spInner_c v l _ w2 HL3.out HIN.out hlen (by omega) (by omega)).mono ?_; rw [Int.toNat_natCast]; rintro e w' ⟨rfl, rfl⟩))
          go_loop [63] (fun i => ∃ j : Nat, j ≤ l.length ∧ i = .int .i64 j ∧ Hid (closeTo l s j = true)) (fun i => l.length - (intOf i).toNat)
          case atStart => exact ⟨0, Nat.zero_le _, rfl, rfl⟩
          case round =>
            obtain ⟨j, hj, rfl, HC⟩ := hrel
            by_cases hltj : j < l.length
            · have hrj := (risB_at 0 (low m) l _ HRI.out j hltj).1
              have hlo := low_lt m hn2
              obtain ⟨t, ht⟩ := Int.eq_ofNat_of_zero_le hrj.1
              have ht128 : t < 128 := by omega
              have HT := hide ht
              have hor := i64_or s t (by omega) (by omega)
              clear ht hrj hlo hcell
              cases hm : memB l ((s ||| t : Nat) : Int)
              · have hno : goodTo l l.length = false := goodTo_false l (k + 1) (by
                  rw [goodTo, HS.out, Int.toNat_natCast, closeTo_false l s (j + 1) (by rw [closeTo, HT.out, Int.toNat_natCast, hm]; simp) _ (by omega)]; simp) _ (by omega)
                have HNO := hide hno
                have HM := hide hm
                clear hno hm
                go_wp2_with (first
                  | (refine wpList_at sliceT intS rfl (.tmp _) (.tmp _) rfl v rfl j rfl w2.heap.size l HL3.out hltj ?_; intro ad2 hcell2 hblk2; rw [HT.out] at hcell2)
                  | (go_at_call 61; refine (spHas_c v l _ w2 HL3.out HIN.out hlen).mono ?_; rw [HM.out]; rintro e w' ⟨rfl, rfl⟩))
                go_ret
                exact ⟨ret_b HNO.out.symm, HB2.out⟩
              · have hyes : closeTo l s (j + 1) = true := by rw [closeTo, HT.out, Int.toNat_natCast, hm, HC.out]; rfl
                have HY := hide hyes
                have HM := hide hm
                clear hyes hm
                go_wp2_with (first
                  | (refine wpList_at sliceT intS rfl (.tmp _) (.tmp _) rfl v rfl j rfl w2.heap.size l HL3.out hltj ?_; intro ad2 hcell2 hblk2; rw [HT.out] at hcell2)
                  | (go_at_call 61; refine (spHas_c v l _ w2 HL3.out HIN.out hlen).mono ?_; rw [HM.out]; rintro e w' ⟨rfl, rfl⟩))
                go_round
                case rel => exact ⟨j + 1, by omega, by go_num, HY⟩
                case measure => simp [intOf]; omega
            · have HJ := hide (show l.length = j by omega)
              have hltj' : ¬ ((j : Int) < (l.length : Int)) := by omega
              have hyes : goodTo l (k + 1) = true := by
                rw [goodTo, HS.out, Int.toNat_natCast, HG.out, HJ.out, HC.out]
                have := HBD.out
                have h3 : (!(decide (0 < (s : Int)) && itemsOf (innerSp l s) 7 == 0)) = true := by
                  rw [Bool.not_eq_true', Bool.and_eq_false_iff]
                  by_cases h4 : 0 < s
                  · right; simp; exact fun h => this ⟨h4, h⟩
                  · left; simp; omega
                rw [h3]; rfl
              have HY := hide hyes
              clear hyes
              go_wp2
              go_round
              case rel => exact ⟨k + 1, by omega, by go_num, HY⟩
              case measure => simp [intOf]; omega
    · have HK := hide (show l.length = k by omega)
      have hlt' : ¬ ((k : Int) < (l.length : Int)) := by omega
      go_wp2
      go_ret
      exact ⟨ret_b (by rw [HK.out]; exact HG.out.symm), HB2.out⟩

theorem spGood_c (n : Int) (v : Value) (l : List Int) (w : World) (hl : ints w.heap.size w v l) (hlen : l.length < 1000000000) :
    Calls Tryd.prog 32 #[.agg #[.int .i64 n, v]] w fun e w' => e = .returned (.bool (goodB n l)) ∧ Below w.heap.size w w' := by
  by_cases hn : 1 ≤ n ∧ n ≤ 7
  · obtain ⟨m, rfl⟩ := Int.eq_ofNat_of_zero_le (show 0 ≤ n by omega)
    have e : goodB (m : Int) l = (decide (l.length ≤ p2 m) && (risB 0 (low m) l l.length && (memB l 0 && (memB l (low m) && goodTo l l.length)))) := by
      unfold goodB
      rw [decide_eq_true hn, Int.toNat_natCast]; rfl
    by_cases hle : l.length ≤ p2 m
    · cases hri : risB 0 (low m) l l.length
      · have hv : goodB (m : Int) l = false := by rw [e, hri]; simp
        rw [hv]; exact spGood_2 m v l w hl hlen (by omega) (by omega) hle hri
      · cases hm0 : memB l 0
        · have hv : goodB (m : Int) l = false := by rw [e, hm0]; simp
          rw [hv]; exact spGood_3 m v l w hl hlen (by omega) (by omega) hle hri hm0
        · cases hml : memB l (low m)
          · have hv : goodB (m : Int) l = false := by rw [e, hml]; simp
            rw [hv]; exact spGood_4 m v l w hl hlen (by omega) (by omega) hle hri hm0 hml
          · have hv : goodB (m : Int) l = goodTo l l.length := by rw [e, hri, hm0, hml, decide_eq_true hle]; simp
            rw [hv]; exact spGood_5 m v l w hl hlen (by omega) (by omega) hle hri hm0 hml
    · have hv : goodB (m : Int) l = false := by rw [e, decide_eq_false hle]; simp
      rw [hv]; exact spGood_1 m v l w hl hlen (by omega) (by omega) (by omega)
  · have hv : goodB n l = false := by simp [goodB, hn]
    rw [hv]; exact spGood_n n v w hn

end Go.Proofs.YtblglkgmnaklbaaDoor
