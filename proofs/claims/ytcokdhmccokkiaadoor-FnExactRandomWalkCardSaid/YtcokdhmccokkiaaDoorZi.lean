/- Contracts: RandomWalk, both. -/
import Derived.Test.YtcokdhmccokkiaaDoorZd
import Derived.Test.YtcokdhmccokkiaaDoorTz
import Derived.Test.YtcokdhmccokkiaaDoorHar
namespace Go.Proofs.YtcokdhmccokkiaaDoor
open Go.RowKit
set_option maxRecDepth 100000
set_option linter.unusedSimpArgs false
attribute [local irreducible] p2 low memB risB
set_option maxHeartbeats 2000000 in
theorem walk_c (n : Nat) (F : Nat → Bool) (a : Option Addr) (c : Nat) (ch : List Int) (w : World) (h7 : n ≤ 7) (hsp : Spc F n) (hch : ints w.heap.size w (.slice a ch.length c) ch) (hcl : ch.length < 1000000000) (hpos : ∀ k, k < ch.length → 0 ≤ ch[k]?.getD 0) (hT : tab w) :
    Calls Tryd.prog 48 #[.agg (fam (n : Int) F), .slice a ch.length c] w fun e w' => ∃ v, e = .returned v ∧ own 3 w' w.heap.size v (wkL F n ch n) ∧ Below w.heap.size w w' := by
  have H0 := hide ((Below.refl w.heap.size w).alloc (Nat.le_refl _) (.cells (fam (n : Int) F) 53))
  have HF := hide (famAt.new 53 w (n : Int) F)
  have HZ := hide (show (w.alloc (.cells (fam (n : Int) F) 53)).heap.size = w.heap.size + 1 by simp)
  have HSP := hide hsp
  have HCH := hide hch
  have HPOS := hide hpos
  have HT := hide hT
  have h00 := HF.out.get0
  clear hsp hch hpos hT
  go_enter Tryd.func48, Tryd.ntmps48
  go_wp2_with fail
  clear h00
  go_loopw [5, 6, 11] (fun o sv i wr => ∃ k : Nat, k ≤ n ∧ sv = .int .i64 (wkS F n ch k : Int) ∧ i = .int .i64 (k : Int) ∧ Hid (own 3 wr (w.heap.size + 1) o (wkL F n ch k)) ∧ Hid (Below (w.heap.size + 1) (w.alloc (.cells (fam (n : Int) F) 53)) wr)) (fun _ _ i _ => n - (intOf i).toNat)
  case atStart => exact ⟨0, by omega, rfl, rfl, own_nil _ _ _, (Below.refl _ _)⟩
  case round =>
    obtain ⟨k, hk, rfl, rfl, HO, HB⟩ := hrel
    have hsz := HB.out.size
    rw [HZ.out] at hsz
    by_cases hlt : k < n
    · have hlt' : (k : Int) < (n : Int) := by omega
      obtain ⟨hs8, hl0, hl7, i, he, hi7, hS, hL⟩ := wk_step HSP.out h7 ch k hlt
      have HFW := hide (HF.out.below HB.out (by omega))
      have HBW := hide (H0.out.trans (HB.out.mono (show w.heap.size ≤ w.heap.size + 1 by omega)))
      have hln := wkL_len F n ch k
      have HOF := hide (fun w1 => by have := outerFringe_c (n : Int) F (wkS F n ch k : Int) w1 (by omega) (by omega) (by omega) (by omega); rw [Int.toNat_natCast, Int.toNat_natCast] at this; exact this)
      have hO := outer_lt F n (wkS F n ch k) h7
      have HIT := hide (fun w1 (h : tab w1) => items_c (outerOf F n (wkS F n ch k)) w1 hO h)
      rw [show itemsL (outerOf F n (wkS F n ch k)) = wkO F n ch k from rfl] at HIT
      have HCV := hide he
      have HSN := hide hS
      have HLN := hide hL
      generalize outerOf F n (wkS F n ch k) = O at *
      generalize wkO F n ch k = I at *
      generalize wkS F n ch k = S at *
      generalize wkL F n ch k = A at *
      have HCS := hide (fun v3 w3 (h : Below w.heap.size w w3) (h3 : ints w3.heap.size w3 v3 I) => by
        have := chosen_c (.slice a ch.length c) v3 ch I k w3 ((HCH.out.below h (Nat.le_refl _)).mono h.size) hcl HPOS.out h3 hl0 (by omega)
        rw [show I[pkI ch k I.length]?.getD 0 = chV ch k I from rfl, HCV.out] at this
        exact this)
      have HWI := hide (fun w3 => by have := with_c (S : Int) (i : Int) w3 (by omega) (by omega) (by omega) (by omega); rw [Int.toNat_natCast, Int.toNat_natCast] at this; exact this)
      clear he hS hL
      go_wp2_with (first
        | (refine wpList_load_fam rowT sizeT rfl (.tmp _) rfl _ rfl (n : Int) F HFW.out ?_)
        | (go_at_call 71; refine (HOF.out _).mono ?_; rintro e w2 ⟨rfl, hb2⟩; have hz2 := hb2.size; have HB2 := hide (HBW.out.trans (hb2.mono (by omega))); have HC2 := hide (HB.out.trans (hb2.mono hsz)); have HO2 := hide (HO.out.kept hb2); clear hb2)
        | (go_at_call 72; refine (HIT.out _ (HT.out.below HB2.out)).mono ?_; rintro e w3 ⟨v3, rfl, ho3, hb3⟩; have hz3 := hb3.size; have HI3 := hide ho3.ints; have HB3 := hide (HB2.out.trans (hb3.mono (by omega))); have HC3 := hide (HC2.out.trans (hb3.mono (by omega))); have HO3 := hide (HO2.out.kept hb3); clear hb3 ho3)
        | (go_at_call 70; refine (HCS.out _ _ HB3.out HI3.out).mono ?_; rintro e w4 ⟨rfl, rfl⟩)
        | (at_builtin; refine wpList_append1 sliceT intI rfl _ _ rfl (w.heap.size + 1) _ _ rfl (HO3.out.alloc _) _ (i : Int) rfl (by simp [go_sem]) (by simp; omega) (by omega) ?_; intro v6 w6 ho6 hb6; have HO6 := hide ho6; have HB6 := hide ((HC3.out.alloc (by omega) _).trans hb6); clear ho6 hb6)
        | (go_at_call 73; refine (HWI.out _).mono ?_; rintro e w7 ⟨rfl, rfl⟩))
      go_roundw
      case rel => exact ⟨k + 1, by omega, by rw [HSN.out], by go_num, by rw [HLN.out]; exact HO6.out, HB6.out⟩
      case measure => (simp [intOf] <;> omega)
    · have HK := hide (show k = n by omega)
      have hlt' : ¬ ((k : Int) < (n : Int)) := by omega
      go_wp2
      go_ret
      exact ⟨_, rfl, by have h := HO.out; rw [HK.out] at h; exact h.mono (by omega), H0.out.trans (HB.out.mono (by omega))⟩
set_option maxHeartbeats 2000000 in
theorem implRandomWalk_c (n : Int) (v : Value) (l : List Int) (u : Value) (ch : List Int) (w : World) (hl : ints w.heap.size w v l) (hlen : l.length < 1000000000) (hm : ints w.heap.size w u ch) (hml : ch.length < 1000000000) (hT : tab w) :
    Calls Tryd.prog 23 #[.agg #[.int .i64 n, v], u] w fun e w' => ∃ v', e = .returned (.tuple #[v', .bool (rwB n l ch)]) ∧ own 3 w' w.heap.size v' (rwL n l ch) ∧ Below w.heap.size w w' := by
  obtain ⟨ua, uc, hu⟩ := hm.shape
  subst hu
  have HM := hide hm
  have HT := hide hT
  have HL := hide ((hl.alloc (.cells #[.int .i64 n, v] 29)).mono (show w.heap.size ≤ (w.alloc (.cells #[.int .i64 n, v] 29)).heap.size by simp))
  have H0 := hide ((Below.refl w.heap.size w).alloc (Nat.le_refl _) (.cells #[.int .i64 n, v] 29))
  have HZ := hide (show (w.alloc (.cells #[.int .i64 n, v] 29)).heap.size = w.heap.size + 1 by simp)
  have HCH := hide (fun w1 (h : Below w.heap.size w w1) => areChoices_c (.slice ua ch.length uc) ch 20 w1 ((HM.out.below h (Nat.le_refl _)).mono h.size) hml)
  clear hl hm hT
  cases hok : okSp n l
  · have HK := hide hok
    have hb : rwB n l ch = false := by unfold rwB; rw [hok]; rfl
    rw [rwL_no hb, hb]
    clear hok hb
    go_enter Tryd.func23, Tryd.ntmps23
    go_wp2_with (first
      | (go_at_call 46; refine (familyOf_c n v l _ HL.out hlen).mono ?_; rw [famVal_no n l HK.out]; rintro e w1 ⟨rfl, hb⟩; have hz1 := hb.size; rw [HZ.out] at hz1; have HB := hide (bl_row ((H0.out.trans (hb.mono (by rw [HZ.out]; omega))).alloc (by omega) (.cells (fam 0 noSet) 53)) (show w.heap.size ≤ w1.heap.size by omega) (fam 0 noSet)); clear hb)
      | (refine wpList_alloc_fam zeroT rfl rfl _ (by first | (simp only [World.size_alloc]; rfl) | rfl) ?_)
      | (refine wpList_store_fam sizeT rfl (.tmp _) (.tmp _) rfl w1.heap.size _ _ rfl rfl _ _ (famAt.new _ _ _ _) ?_)
      )
    go_ret2
    exact ⟨_, rfl, own_nil _ _ _, HB.out⟩
  · have HK := hide hok
    have hn := okSp_n hok
    have HSP := hide (okSp_spc hok)
    obtain ⟨m, rfl⟩ := Int.eq_ofNat_of_zero_le (show 0 ≤ n by omega)
    have hm7 : m ≤ 7 := by omega
    rw [Int.toNat_natCast] at HSP
    cases hb : chB 20 ch
    all_goals
      have hrb : rwB (m : Int) l ch = chB 20 ch := by unfold rwB; rw [hok]; rfl
      rw [hb] at hrb HCH
      have HB20 := hide hb
    · rw [rwL_no hrb, hrb]
      clear hok hn hb hrb
      go_enter Tryd.func23, Tryd.ntmps23
      go_wp2_with (first
        | (go_at_call 46; refine (familyOf_c (m : Int) v l _ HL.out hlen).mono ?_; rw [famVal_yes (m : Int) l HK.out]; rintro e w1 ⟨rfl, hb⟩; have hz1 := hb.size; rw [HZ.out] at hz1; have HZ2 := hide (show ((w1.alloc (.cells (fam 0 noSet) 53)).setRow w1.heap.size (fam (m : Int) (marksTo l l.length))).heap.size = w1.heap.size + 1 by simp [World.setRow]); have HB := hide (bl_row ((H0.out.trans (hb.mono (by rw [HZ.out]; omega))).alloc (by omega) (.cells (fam 0 noSet) 53)) (show w.heap.size ≤ w1.heap.size by omega) (fam (m : Int) (marksTo l l.length))); clear hb)
        | (refine wpList_alloc_fam zeroT rfl rfl _ (by first | (simp only [World.size_alloc]; rfl) | rfl) ?_)
        | (refine wpList_store_fam sizeT rfl (.tmp _) (.tmp _) rfl w1.heap.size _ _ rfl rfl _ _ (famAt.new _ _ _ _) ?_)
        | (go_at_call 47; refine (HCH.out _ HB.out).mono ?_; rintro e w3 ⟨rfl, hb3⟩; have HB3 := hide (HB.out.trans (hb3.mono (by rw [HZ2.out]; omega))); clear hb3))
      go_ret2
      exact ⟨_, rfl, own_nil _ _ _, HB3.out⟩
    · have hpos := (chB_in hb).2
      have HRL := hide (rwL_yes hrb)
      rw [HRL.out, hrb, Int.toNat_natCast]
      have HWK := hide (fun w1 (h : Below w.heap.size w w1) => walk_c m (marksTo l l.length) ua uc ch w1 hm7 HSP.out ((HM.out.below h (Nat.le_refl _)).mono h.size) hml hpos (HT.out.below h))
      clear hok hn hb hrb hpos
      go_enter Tryd.func23, Tryd.ntmps23
      go_wp2_with (first
        | (go_at_call 46; refine (familyOf_c (m : Int) v l _ HL.out hlen).mono ?_; rw [famVal_yes (m : Int) l HK.out]; rintro e w1 ⟨rfl, hb⟩; have hz1 := hb.size; rw [HZ.out] at hz1; have HH := hide ((famAt.new 53 w1 0 noSet).row (m : Int) (marksTo l l.length)); have HZ2 := hide (show ((w1.alloc (.cells (fam 0 noSet) 53)).setRow w1.heap.size (fam (m : Int) (marksTo l l.length))).heap.size = w1.heap.size + 1 by simp [World.setRow]); have HB := hide (bl_row ((H0.out.trans (hb.mono (by rw [HZ.out]; omega))).alloc (by omega) (.cells (fam 0 noSet) 53)) (show w.heap.size ≤ w1.heap.size by omega) (fam (m : Int) (marksTo l l.length))); clear hb)
        | (refine wpList_alloc_fam zeroT rfl rfl _ (by first | (simp only [World.size_alloc]; rfl) | rfl) ?_)
        | (refine wpList_store_fam sizeT rfl (.tmp _) (.tmp _) rfl w1.heap.size _ _ rfl rfl _ _ (famAt.new _ _ _ _) ?_)
        | (go_at_call 47; refine (HCH.out _ HB.out).mono ?_; rintro e w3 ⟨rfl, hb3⟩; have hz3 := hb3.size; rw [HZ2.out] at hz3; have HH3 := hide (HH.out.below hb3 HH.out.lt); have HB3 := hide (HB.out.trans (hb3.mono (by rw [HZ2.out]; omega))); clear hb3)
        | (refine wpList_load_fam rowT sizeT rfl (.tmp _) rfl w1.heap.size rfl (m : Int) _ HH3.out ?_)
        | (go_at_call 48; refine (HWK.out _ HB3.out).mono ?_; rintro e w4 ⟨v4, rfl, ho4, hb4⟩; have HO4 := hide (show own 3 w4 w.heap.size v4 _ from ho4.mono (by omega)); have HB4 := hide (HB3.out.trans (hb4.mono (by omega))); clear hb4 ho4))
      go_ret2
      exact ⟨_, rfl, HO4.out, HB4.out⟩
end Go.Proofs.YtcokdhmccokkiaaDoor
