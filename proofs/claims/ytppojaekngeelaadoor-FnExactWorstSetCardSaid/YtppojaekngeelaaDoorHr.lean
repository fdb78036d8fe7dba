/- Contracts: the item that halves best, the specification's. -/
import Derived.Test.YtppojaekngeelaaDoorHd
import Derived.Test.YtppojaekngeelaaDoorHh
import Derived.Test.YtppojaekngeelaaDoorKa
namespace Go.Proofs.YtppojaekngeelaaDoor
open Go.RowKit
set_option maxRecDepth 100000
set_option linter.unusedSimpArgs false
def mxH (a b : Int) : Int := if a < b then b else a
theorem l1MostH_c (a b : Int) (w : World) : Calls Tryd.prog 66 #[.int .i64 a, .int .i64 b] w fun e w' => e = .returned (.int .i64 (mxH a b)) ∧ w = w' := by
  have HM := hide (show mxH a b = if a < b then b else a from rfl)
  by_cases h : b < a
  all_goals
    go_enter Tryd.func66, Tryd.ntmps66
    go_wp2
    go_ret
    exact ⟨ret_i (by rw [HM.out]; split <;> omega), rfl⟩
def abH (a : Int) : Int := if a < 0 then -a else a
theorem l1Abs_c (a : Int) (w : World) (h : -1000000 ≤ a ∧ a ≤ 1000000) : Calls Tryd.prog 63 #[.int .i64 a] w fun e w' => e = .returned (.int .i64 (abH a)) ∧ w = w' := by
  have hn : IntKind.i64.wrap (-a) = -a := IntWalk.i64_in _ (by omega)
  have HM := hide (show abH a = mxH a (-a) by unfold abH mxH; split <;> split <;> omega)
  go_enter Tryd.func63, Tryd.ntmps63
  go_wp2_with (go_at_call 66; refine (l1MostH_c _ _ _).mono ?_; rintro e w' ⟨rfl, rfl⟩)
  go_ret
  exact ⟨ret_i (by rw [HM.out]), rfl⟩
/-- How many of the first k sets have an item. -/
def hcTo (L : List Int) (i k : Nat) : Nat := (paTo (fun s => s.testBit i) L k).length
theorem hcTo_yes {L : List Int} {i k : Nat} (h : (nth L k).testBit i = true) : hcTo L i (k + 1) = hcTo L i k + 1 := by unfold hcTo; rw [paTo, if_pos h]; simp
theorem hcTo_no {L : List Int} {i k : Nat} (h : (nth L k).testBit i = false) : hcTo L i (k + 1) = hcTo L i k := by unfold hcTo; rw [paTo, if_neg (by rw [h]; simp)]
theorem hcTo_le (L : List Int) (i k : Nat) : hcTo L i k ≤ k := paTo_len _ L k
theorem hcTo_all (G : Nat → Bool) (i : Nat) : hcTo (setsTo G 128) i (setsTo G 128).length = cntS (ptF G i true) := by
  unfold hcTo cntS
  rw [paTo_sets]
  congr 2
  funext s
  rw [ptF_at]; cases s.testBit i <;> rfl
def apN (c : Nat → Int) (b : Int) : Int := if b < 0 then 0 else c b.toNat
theorem mn_skip {c : Nat → Int} {O i : Nat} (h : O.testBit i = false) : mnTo c O (i + 1) = mnTo c O i := by rw [mnTo, h]; rfl
theorem mn_take {c : Nat → Int} {O i : Nat} (h : O.testBit i = true) (h2 : mnTo c O i < 0 ∨ c i < apN c (mnTo c O i)) : mnTo c O (i + 1) = (i : Int) ∧ apN c (mnTo c O (i + 1)) = c i := by
  have e : mnTo c O (i + 1) = (i : Int) := by
    rw [mnTo, h, Bool.true_and]
    rcases h2 with h2 | h2
    · rw [decide_eq_true h2]; rfl
    · unfold apN at h2
      split at h2
      · rename_i h3; rw [decide_eq_true h3]; rfl
      · rw [decide_eq_true h2, Bool.or_true]; rfl
  rw [e]
  exact ⟨rfl, by unfold apN; rw [if_neg (by omega), Int.toNat_natCast]⟩
theorem mn_stay {c : Nat → Int} {O i : Nat} (h : O.testBit i = true) (h1 : ¬ mnTo c O i < 0) (h2 : ¬ c i < apN c (mnTo c O i)) : mnTo c O (i + 1) = mnTo c O i := by
  unfold apN at h2
  rw [if_neg h1] at h2
  rw [mnTo, h, Bool.true_and, decide_eq_false h1, decide_eq_false h2]; rfl
theorem op_lt {m : Nat} (F : Nat → Bool) : opN m F < 2 ^ m := by
  have : low m < 2 ^ m := by have := low_succ m; omega
  exact andNot_lt _ _ _ this
/-- What is in neither of the sets. -/
theorem op_in (m : Nat) (F : Nat → Bool) (i : Nat) (hi : i < m) : (kaL (setsTo F 128) (low m) ||| knL (setsTo F 128) (low m)).testBit i = !(opN m F).testBit i := by
  unfold opN
  rw [andNot_bit, low_bit, decide_eq_true hi, Bool.true_and, Bool.not_not]
attribute [local irreducible] p2 low memB risB famAt own
set_option maxHeartbeats 8000000 in
theorem asHalf_c (m : Nat) (v : Value) (l : List Int) (y z : Nat) (w : World) (hl : ints w.heap.size w v l) (hlen : l.length < 1000000000) (hok : okSp (m : Int) l = true) (hy : y < 128) (hz : z < 128) (h0 : opN m (leF (marksTo l l.length) y z) ≠ 0) :
    Calls Tryd.prog 45 #[.agg #[.int .i64 (m : Int), v], .int .i64 (y : Int), .int .i64 (z : Int)] w fun e w' => e = .returned (.int .i64 (mnI (difN (leF (marksTo l l.length) y z)) (opN m (leF (marksTo l l.length) y z)) : Int)) ∧ Below w.heap.size w w' := by
  have HL := hide ((hl.alloc (.cells #[.int .i64 (m : Int), v] 28)).mono (show w.heap.size ≤ (w.alloc (.cells #[.int .i64 (m : Int), v] 28)).heap.size by simp))
  have H0 := hide ((Below.refl w.heap.size w).alloc (Nat.le_refl _) (.cells #[.int .i64 (m : Int), v] 28))
  have HS0 := hide (hp_last w (.cells #[.int .i64 (m : Int), v] 28))
  have HZ := hide (show (w.alloc (.cells #[.int .i64 (m : Int), v] 28)).heap.size = w.heap.size + 1 by simp)
  have hm := okSp_n hok
  have hm7 : m ≤ 7 := by omega
  have hlo := low_lt m hm7
  have HR := hide (sp_r128 hok)
  have HAS := hide (fun w1 h => asLeft_c (m : Int) v l y z w1 h hlen HR.out hy hz)
  have hLL := lf_sets hok y z
  rw [hLL] at HAS
  have hL := setsTo_len (leF (marksTo l l.length) y z) 128
  have HRG := hide (setsTo_range (leF (marksTo l l.length) y z) 128)
  have HKN := hide (fun u w1 (h : ints w1.heap.size w1 u (setsTo (leF (marksTo l l.length) y z) 128)) => asKnown_c m v u _ w1 h (by omega) hm7 HRG.out)
  have HHC := hide (fun i => hcTo_all (leF (marksTo l l.length) y z) i)
  have HDF := hide (fun i => difN_abs (leF (marksTo l l.length) y z) i)
  have HDI := hide (fun i => difN_in (leF (marksTo l l.length) y z) i)
  have HOI := hide (fun i hi => op_in m (leF (marksTo l l.length) y z) i hi)
  have HEND := hide (show mnTo (difN (leF (marksTo l l.length) y z)) (opN m (leF (marksTo l l.length) y z)) m = (mnI (difN (leF (marksTo l l.length) y z)) (opN m (leF (marksTo l l.length) y z)) : Int) from mnTo_of (op_lt _) (next_ex (opN_lt m hm7 _) h0))
  have hka : kaL (setsTo (leF (marksTo l l.length) y z) 128) (low m) < 128 := kaTo_lt _ _ hlo _
  have hkn : knL (setsTo (leF (marksTo l l.length) y z) 128) (low m) < 128 := knTo_lt _ _ hlo _
  have hor8 : kaL (setsTo (leF (marksTo l l.length) y z) 128) (low m) ||| knL (setsTo (leF (marksTo l l.length) y z) 128) (low m) < 128 := Nat.or_lt_two_pow (n := 7) hka hkn
  have hcl : cntS (leF (marksTo l l.length) y z) = (setsTo (leF (marksTo l l.length) y z) 128).length := rfl
  rw [← HEND.out]
  rw [hcl] at HDF
  clear hl hok hLL h0 hcl HEND
  generalize opN m (leF (marksTo l l.length) y z) = O at *
  generalize hc : difN (leF (marksTo l l.length) y z) = c at *
  clear hc
  generalize setsTo (leF (marksTo l l.length) y z) 128 = L at *
  generalize leF (marksTo l l.length) y z = G at *
  have hor := i64_or (kaL L (low m)) (knL L (low m)) (by omega) (by omega)
  generalize kaL L (low m) = A at *
  generalize knL L (low m) = B at *
  generalize (A ||| B) = AB at *
  go_enter Tryd.func45, Tryd.ntmps45
  go_wp2_with (first
    | (go_at_call 44; refine (HAS.out _ HL.out).mono ?_; rintro e w2 ⟨v2, rfl, ho2, hb2⟩; have hz2 := hb2.size; rw [HZ.out] at hz2 ho2 hb2; have HI2 := hide ho2.ints; have HS2 := hide ((hb2.block w.heap.size (by omega)).trans HS0.out); have d0 := cells_at0 HS2.out; have d1 := cells_at1 HS2.out; have HB2 := hide (H0.out.trans (hb2.mono (by omega))); clear ho2 hb2)
    | (go_at_call 62; refine (HKN.out _ _ HI2.out).mono ?_; rintro e w3 ⟨rfl, hb3⟩; have hz3 := hb3.size; have HI3 := hide (HI2.out.below hb3 (Nat.le_refl _)); have HS3 := hide ((hb3.block w.heap.size (by omega)).trans HS2.out); have HB3 := hide (HB2.out.trans (hb3.mono (by omega))); clear hb3 d0 d1))
  have d0 := cells_at0 HS3.out
  go_loopw [10, 11, 12] (fun b a i wr => ∃ k : Nat, k ≤ m ∧ i = .int .i64 (k : Int) ∧ b = .int .i64 (mnTo c O k) ∧ a = .int .i64 (apN c (mnTo c O k)) ∧ wr = w3) (fun _ _ i _ => m - (intOf i).toNat)
  case atStart => exact ⟨0, Nat.zero_le _, rfl, rfl, rfl, rfl⟩
  case round =>
    obtain ⟨k, hk, rfl, rfl, rfl, rfl⟩ := hrel
    by_cases hlt : k < m
    · have hlt' : (k : Int) < (m : Int) := by omega
      have HSI := hide (fun w1 => by have h := spIn_c (AB : Int) (k : Int) w1 (by omega) (by omega) (by omega) (by omega); rw [Int.toNat_natCast, Int.toNat_natCast, HOI.out k hlt] at h; exact h)
      cases hb : O.testBit k
      · have HM := hide (mn_skip (c := c) hb)
        rw [hb] at HSI
        clear hb
        go_wp2_with (go_at_call 47; refine (HSI.out _).mono ?_; rintro e w' ⟨rfl, rfl⟩)
        go_roundw
        case rel => exact ⟨k + 1, by omega, by go_num, by rw [HM.out], by rw [HM.out], trivial⟩
        case measure => (simp [intOf] <;> omega)
      · have HBT := hide hb
        rw [hb] at HSI
        clear hb
        go_wp2_with (first
          | (go_at_call 47; refine (HSI.out _).mono ?_; rintro e w' ⟨rfl, rfl⟩)
          | (refine wpList_len sliceT rfl (.tmp _) rfl _ rfl w2.heap.size L HI3.out ?_))
        go_loopw [13, 40] (fun nn j wq => ∃ q : Nat, q ≤ L.length ∧ j = .int .i64 (q : Int) ∧ nn = .int .i64 (hcTo L k q : Int) ∧ wq = wr) (fun _ j _ => L.length - (intOf j).toNat)
        case atStart => exact ⟨0, Nat.zero_le _, rfl, rfl, rfl⟩
        case round =>
          obtain ⟨q, hq, rfl, rfl, rfl⟩ := hrel
          have hqle := hcTo_le L k q
          by_cases hlq : q < L.length
          · have hr := HRG.out q hlq
            have hx : L[q]?.getD 0 = (nth L q : Int) := by unfold nth; rw [Int.toNat_of_nonneg hr.1]
            have HX := hide hx
            have hx8 : nth L q < 128 := by rw [hx] at hr; omega
            have HSJ := hide (fun w1 => by have h := spIn_c (nth L q : Int) (k : Int) w1 (by omega) (by omega) (by omega) (by omega); rw [Int.toNat_natCast, Int.toNat_natCast] at h; exact h)
            cases hbq : (nth L q).testBit k
            · have HN := hide (hcTo_no hbq)
              rw [hbq] at HSJ
              clear hbq hx hr
              generalize nth L q = s at *
              go_wp2_with (first
                | (refine wpList_at sliceT intS rfl (.tmp _) (.tmp _) rfl _ rfl q rfl w2.heap.size L HI3.out hlq ?_; intro ad hcell hblk; rw [HX.out] at hcell)
                | (go_at_call 47; refine (HSJ.out _).mono ?_; rintro e w' ⟨rfl, rfl⟩))
              go_roundw
              case rel => exact ⟨q + 1, by omega, by go_num, by rw [HN.out], trivial⟩
              case measure => (simp [intOf] <;> omega)
            · have HN := hide (hcTo_yes hbq)
              rw [hbq] at HSJ
              clear hbq hx hr
              generalize nth L q = s at *
              go_wp2_with (first
                | (refine wpList_at sliceT intS rfl (.tmp _) (.tmp _) rfl _ rfl q rfl w2.heap.size L HI3.out hlq ?_; intro ad hcell hblk; rw [HX.out] at hcell)
                | (go_at_call 47; refine (HSJ.out _).mono ?_; rintro e w' ⟨rfl, rfl⟩))
              go_roundw
              case rel => exact ⟨q + 1, by omega, by go_num, by rw [HN.out]; go_num, trivial⟩
              case measure => (simp [intOf] <;> omega)
          · have hqe : q = L.length := by omega
            subst hqe
            have hlt2 : ¬ ((L.length : Int) < (L.length : Int)) := by omega
            have hd := HDF.out k
            rw [← HHC.out k] at hd
            have HAB := hide (fun w1 => by have h := l1Abs_c (2 * (hcTo L k L.length : Int) - (L.length : Int)) w1 (by omega); rw [show abH (2 * (hcTo L k L.length : Int) - (L.length : Int)) = c k from hd.symm] at h; exact h)
            have hmul : IntKind.i64.wrap (2 * (hcTo L k L.length : Int)) = 2 * (hcTo L k L.length : Int) := IntWalk.i64_in _ (by omega)
            have hsub : IntKind.i64.wrap (2 * (hcTo L k L.length : Int) - (L.length : Int)) = 2 * (hcTo L k L.length : Int) - (L.length : Int) := IntWalk.i64_in _ (by omega)
            have hdi := HDI.out k
            clear hd
            generalize hcTo L k L.length = x at *
            have HT := hide (fun h2 => mn_take (c := c) HBT.out h2)
            have HST := hide (fun h1 h2 => mn_stay (c := c) HBT.out h1 h2)
            generalize hX1 : mnTo c O (k + 1) = X1 at HT HST
            generalize hX : mnTo c O k = X at *
            have HX1 := hide hX1
            clear hX1
            generalize c k = ck at *
            by_cases hneg : X < 0
            · obtain ⟨t1, t2⟩ := HT.out (.inl hneg)
              have HT1 := hide t1
              have HT2 := hide t2
              clear t1 t2
              go_wp2_with (first
                | (refine wpList_len sliceT rfl (.tmp _) rfl _ rfl w2.heap.size L HI3.out ?_)
                | (go_at_call 63; refine (HAB.out _).mono ?_; rintro e w' ⟨rfl, rfl⟩))
              go_roundw
              case rel => exact ⟨k + 1, by omega, by go_num, by rw [HX1.out, HT1.out], by rw [HX1.out, HT2.out], trivial⟩
              case measure => (simp [intOf] <;> omega)
            · generalize hap : apN c X = ap at *
              by_cases hcl2 : ck < ap
              · obtain ⟨t1, t2⟩ := HT.out (.inr hcl2)
                have HT1 := hide t1
                have HT2 := hide t2
                clear t1 t2 hap
                go_wp2_with (first
                  | (refine wpList_len sliceT rfl (.tmp _) rfl _ rfl w2.heap.size L HI3.out ?_)
                  | (go_at_call 63; refine (HAB.out _).mono ?_; rintro e w' ⟨rfl, rfl⟩))
                go_roundw
                case rel => exact ⟨k + 1, by omega, by go_num, by rw [HX1.out, HT1.out], by rw [HX1.out, HT2.out], trivial⟩
                case measure => (simp [intOf] <;> omega)
              · have HT1 := hide (HST.out hneg hcl2)
                have HAP := hide hap
                clear hap
                go_wp2_with (first
                  | (refine wpList_len sliceT rfl (.tmp _) rfl _ rfl w2.heap.size L HI3.out ?_)
                  | (go_at_call 63; refine (HAB.out _).mono ?_; rintro e w' ⟨rfl, rfl⟩))
                go_roundw
                case rel => exact ⟨k + 1, by omega, by go_num, by rw [HX1.out, HT1.out], by rw [HX1.out, HT1.out, HAP.out], trivial⟩
                case measure => (simp [intOf] <;> omega)
    · have hke : k = m := by omega
      subst hke
      have hlt' : ¬ ((k : Int) < (k : Int)) := by omega
      go_wp2
      go_ret
      exact ⟨rfl, HB3.out⟩
end Go.Proofs.YtppojaekngeelaaDoor
