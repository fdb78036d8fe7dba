/- Plain mathematics: critical pairs; contract: isCritical, the program's. -/
import Derived.Test.YtagahoaogfogkaaDoorCw
namespace Go.Proofs.YtagahoaogfogkaaDoor
open Go.RowKit
set_option maxRecDepth 100000
/-- Whether K holds for the first k numbers of a list. -/
def alTo (K : Nat → Bool) (it : List Int) : Nat → Bool
  | 0 => true
  | k + 1 => alTo K it k && K (nth it k)
theorem alTo_iff (K : Nat → Bool) (it : List Int) : ∀ k, alTo K it k = true ↔ ∀ j, j < k → K (nth it j) = true
  | 0 => by simp [alTo]
  | k + 1 => by
    rw [alTo, Bool.and_eq_true, alTo_iff K it k]
    constructor
    · rintro ⟨h1, h2⟩ j hj
      rcases Nat.lt_or_ge j k with h | h
      · exact h1 j h
      · have : j = k := by omega
        subst this; exact h2
    · intro h
      exact ⟨fun j hj => h j (by omega), h k (by omega)⟩
theorem alTo_false {K : Nat → Bool} {it : List Int} {k : Nat} (h : K (nth it k) = false) (m : Nat) (hm : k < m) : alTo K it m = false := by
  cases h2 : alTo K it m
  · rfl
  · have := (alTo_iff K it m).1 h2 k hm
    rw [h] at this; cases this
/-- Whether K holds for those of 0, 1, .., k - 1 that a set has. -/
def alN (O : Nat) (K : Nat → Bool) : Nat → Bool
  | 0 => true
  | k + 1 => if O.testBit k then alN O K k && K k else alN O K k
theorem alN_iff (O : Nat) (K : Nat → Bool) : ∀ k, alN O K k = true ↔ ∀ j, j < k → O.testBit j = true → K j = true
  | 0 => by simp [alN]
  | k + 1 => by
    rw [alN]
    constructor
    · intro h j hj hb
      split at h
      · rename_i hk
        rw [Bool.and_eq_true, alN_iff O K k] at h
        rcases Nat.lt_or_ge j k with h3 | h3
        · exact h.1 j h3 hb
        · have : j = k := by omega
          subst this; exact h.2
      · rename_i hk
        rw [alN_iff O K k] at h
        rcases Nat.lt_or_ge j k with h3 | h3
        · exact h j h3 hb
        · have : j = k := by omega
          subst this; exact absurd hb hk
    · intro h
      split
      · rename_i hk
        rw [Bool.and_eq_true, alN_iff O K k]
        exact ⟨fun j hj => h j (by omega), h k (by omega) hk⟩
      · rw [alN_iff O K k]
        exact fun j hj => h j (by omega)
/-- The program's test, and the specification's. -/
def criF (F : Nat → Bool) (n i s : Nat) : Bool := (!s.testBit i && !(outerOf F n s).testBit i) && alTo (fun j => (outerOf F n (s ||| p2 j)).testBit i) (itemsL (outerOf F n s)) (itemsL (outerOf F n s)).length
def criSp (l : List Int) (n i s : Nat) : Bool := (!s.testBit i && !(itemsOf (outerSp l s) n).testBit i) && alN (itemsOf (outerSp l s) n) (fun j => memB l ((s ||| p2 j ||| p2 i : Nat) : Int)) n
theorem nth_items (x : Nat) (j : Nat) : (j ∈ itemsN x) ↔ ∃ k, k < (itemsL x).length ∧ nth (itemsL x) k = j := by
  unfold itemsL nth
  rw [List.mem_iff_getElem]
  constructor
  · rintro ⟨k, hk, e⟩
    refine ⟨k, by simpa using hk, ?_⟩
    rw [List.getElem?_map, List.getElem?_eq_getElem hk, e]; simp
  · rintro ⟨k, hk, e⟩
    rw [List.length_map] at hk
    refine ⟨k, hk, ?_⟩
    rw [List.getElem?_map, List.getElem?_eq_getElem hk] at e
    simpa using e
theorem cri_same {n : Int} {l : List Int} (h : okSp n l = true) (i s : Nat) (hi : i < n.toNat) (hs : s < 2 ^ n.toNat) : criF (marksTo l l.length) n.toNat i s = criSp l n.toNat i s := by
  have hn := okSp_n h
  have hO : outerOf (marksTo l l.length) n.toNat s = itemsOf (outerSp l s) n.toNat := outer_same _ l n.toNat s (by omega) hs (fun y _ => okSp_marks h y)
  unfold criF criSp
  rw [← hO]
  cases h1 : s.testBit i
  · cases h2 : (outerOf (marksTo l l.length) n.toNat s).testBit i
    · simp only [Bool.not_false, Bool.true_and]
      rw [Bool.eq_iff_iff, alTo_iff, alN_iff]
      have hmem : ∀ j, j ∈ itemsN (outerOf (marksTo l l.length) n.toNat s) ↔ j < n.toNat ∧ (outerOf (marksTo l l.length) n.toNat s).testBit j = true := by
        intro j
        unfold itemsN
        rw [List.mem_filter, List.mem_range]
        constructor
        · rintro ⟨_, hb⟩
          refine ⟨?_, hb⟩
          rw [outer_bitC] at hb
          simp only [Bool.and_eq_true, decide_eq_true_eq] at hb
          exact hb.1
        · rintro ⟨hj, hb⟩; exact ⟨by omega, hb⟩
      have key : ∀ j, (outerOf (marksTo l l.length) n.toNat s).testBit j = true → (outerOf (marksTo l l.length) n.toNat (s ||| p2 j)).testBit i = memB l ((s ||| p2 j ||| p2 i : Nat) : Int) := by
        intro j hb
        have hij : j ≠ i := by intro e; rw [e, h2] at hb; cases hb
        have hsb : (s ||| p2 j).testBit i = false := by rw [Nat.testBit_or, h1, p2_bit]; simp [hij]
        rw [outer_bitC, hsb, ← okSp_marks h]
        simp [hi, p2s]
      constructor
      · intro ha j hj hb
        obtain ⟨k, hk, e⟩ := (nth_items _ j).1 ((hmem j).2 ⟨hj, hb⟩)
        have := ha k hk
        rw [e, key j hb] at this
        exact this
      · intro ha k hk
        have hm := (hmem _).1 ((nth_items (outerOf (marksTo l l.length) n.toNat s) _).2 ⟨k, hk, rfl⟩)
        rw [key _ hm.2]
        exact ha _ hm.1 hm.2
    · simp
  · simp
/-- The pairs of the first i items, in order. -/
def crTo (l : List Int) (n : Nat) : Nat → List (List Int)
  | 0 => []
  | i + 1 => crTo l n i ++ (paTo (criSp l n i) l l.length).map fun b => [(i : Int), b]
def crL (n : Int) (l : List Int) : List (List Int) := if okSp n l then crTo l n.toNat n.toNat else []
theorem crL_no {n : Int} {l : List Int} (h : okSp n l = false) : crL n l = [] := by simp [crL, h]
theorem crL_yes {n : Int} {l : List Int} (h : okSp n l = true) : crL n l = crTo l n.toNat n.toNat := by simp [crL, h]
theorem crTo_len (l : List Int) (n : Nat) : ∀ k, (crTo l n k).length ≤ k * l.length
  | 0 => by simp [crTo]
  | k + 1 => by
    have h1 := crTo_len l n k
    have h2 := paTo_len (criSp l n k) l l.length
    rw [crTo, List.length_append, List.length_map, Nat.add_mul, Nat.one_mul]
    omega
theorem crTo_two (l : List Int) (n : Nat) : ∀ k, ∀ r ∈ crTo l n k, r.length = 2
  | 0 => by simp [crTo]
  | k + 1 => by
    intro r hr
    rw [crTo, List.mem_append] at hr
    rcases hr with hr | hr
    · exact crTo_two l n k r hr
    · rw [List.mem_map] at hr
      obtain ⟨b, _, rfl⟩ := hr
      rfl
theorem crL_small (n : Int) (l : List Int) : small2 (crL n l) := by
  cases h : okSp n l
  · rw [crL_no h]; exact small2_nil
  · rw [crL_yes h]
    have h1 := crTo_len l n.toNat n.toNat
    have h2 := okSp_len h
    have h4 := okSp_n h
    have h3 : n.toNat * l.length ≤ 7 * 128 := Nat.mul_le_mul (by omega) h2
    refine small2_of _ 2 (fun r hr => by have := crTo_two l n.toNat _ r hr; omega) (by omega) (by omega)
attribute [local irreducible] p2 low memB risB
theorem ent_withC : enters Tryd.prog 72 := enters_of Tryd.func72 (by kernel_rfl) (by kernel_rfl)
theorem ent_hasC : enters Tryd.prog 98 := enters_of Tryd.func98 (by kernel_rfl) (by kernel_rfl)
theorem ent_outerC : enters Tryd.prog 70 := enters_of Tryd.func70 (by kernel_rfl) (by kernel_rfl)
set_option maxHeartbeats 2000000 in
theorem isCritical_c (n : Int) (F : Nat → Bool) (i s : Nat) (w : World) (h0 : 0 ≤ n) (h7 : n ≤ 7) (hi : i < 7) (hs : s < 128) (hT : tab w) :
    Calls Tryd.prog 76 #[.agg (fam n F), .int .i64 (i : Int), .int .i64 (s : Int)] w fun e w' => e = .returned (.bool (criF F n.toNat i s)) ∧ Below w.heap.size w w' := by
  have HT := hide (hT.alloc (.cells (fam n F) 55))
  have HB := hide ((Below.refl w.heap.size w).alloc (Nat.le_refl _) (.cells (fam n F) 55))
  have HF := hide (famAt.new 55 w n F)
  have HZ := hide (show (w.alloc (.cells (fam n F) 55)).heap.size = w.heap.size + 1 by simp)
  have HOU : Hid (∀ (x : Nat) (w1 : World), x < 128 → Calls Tryd.prog 70 #[.agg (fam n F), .int .i64 (x : Int)] w1 fun e w' => e = .returned (.int .i64 (outerOf F n.toNat x : Int)) ∧ Below w1.heap.size w1 w') := hide fun x w1 hx => by
    have := outerFringe_c n F (x : Int) w1 h0 h7 (by omega) (by omega)
    rw [Int.toNat_natCast] at this
    exact this
  have HHA : Hid (∀ (x : Nat) (w1 : World), x < 128 → Calls Tryd.prog 98 #[.int .i64 (x : Int), .int .i64 (i : Int)] w1 fun e w' => e = .returned (.bool (x.testBit i)) ∧ w1 = w') := hide fun x w1 hx => by
    have := has_c (x : Int) (i : Int) w1 (by omega) (by omega) (by omega) (by omega)
    rw [Int.toNat_natCast, Int.toNat_natCast] at this
    exact this
  have HO128 := hide (fun x => outer_ltC F n.toNat x (by omega))
  have ho128 := HO128.out s
  have HCR := hide (show criF F n.toNat i s = ((!s.testBit i && !(outerOf F n.toNat s).testBit i) && alTo (fun j => (outerOf F n.toNat (s ||| p2 j)).testBit i) (itemsL (outerOf F n.toNat s)) (itemsL (outerOf F n.toNat s)).length) from rfl)
  have HOS := hide (HOU.out s)
  rw [HCR.out]
  clear hT HCR
  cases h1 : s.testBit i
  · have H1 := hide h1
    cases h2 : (outerOf F n.toNat s).testBit i
    · have H2 := hide h2
      clear h1 h2
      rw [show ((!false && !false) && alTo (fun j => (outerOf F n.toNat (s ||| p2 j)).testBit i) (itemsL (outerOf F n.toNat s)) (itemsL (outerOf F n.toNat s)).length) = alTo (fun j => (outerOf F n.toNat (s ||| p2 j)).testBit i) (itemsL (outerOf F n.toNat s)) (itemsL (outerOf F n.toNat s)).length by simp]
      generalize outerOf F n.toNat s = O at ho128 HOS H2
      have HIT := hide (fun (w1 : World) (h1 : tab w1) => items_c O w1 ho128 h1)
      have HAT := hide (items_at O)
      have hit : (itemsL O).length ≤ 7 := by unfold itemsL; rw [List.length_map]; exact items_len O ho128
      generalize itemsL O = it at HIT HAT hit
      go_enter Tryd.func76, Tryd.ntmps76
      go_wp2_with (first
        | (refine wpList_load_fam rowT sizeT rfl (.tmp _) rfl _ rfl n F HF.out ?_)
        | (go_at_call 70; refine (HOS.out _ hs).mono ?_; rintro e w1 ⟨rfl, hb1⟩; have HB1 := hide (show Below (w.heap.size + 1) (w.alloc (.cells (fam n F) 55)) w1 from hb1.mono (by rw [HZ.out]; omega)); have hz1 := hb1.size; rw [HZ.out] at hz1; clear hb1)
        | (go_at_call 98; refine (HHA.out _ _ (by omega)).mono ?_; (first | rw [H1.out] | rw [H2.out]); rintro e w2 ⟨rfl, rfl⟩)
        | (go_at_call 71; refine (HIT.out _ (HT.out.belowB HT.out HB1.out (by rw [HZ.out]; omega))).mono ?_; rintro e w3 ⟨v3, rfl, ho3, hb3⟩; have HI3 := hide ho3.ints; have hz3 := hb3.size; have HB3 := hide (HB1.out.trans (hb3.mono (by omega))); clear ho3 hb3)
        | (refine wpList_len sliceT rfl (.tmp _) rfl _ rfl w3.heap.size it HI3.out ?_))
      go_loopw [24] (fun t wq => ∃ k : Nat, k ≤ it.length ∧ t = .int .i64 (k : Int) ∧ alTo (fun j => (outerOf F n.toNat (s ||| p2 j)).testBit i) it k = true ∧ Hid (Below w3.heap.size w3 wq)) (fun t _ => it.length - (intOf t).toNat)
      case atStart => exact ⟨0, by omega, rfl, rfl, Below.refl _ _⟩
      case round =>
        obtain ⟨k, hk, rfl, ha, HBQ⟩ := hrel
        have HA := hide ha
        have hszq := HBQ.out.size
        have HIQ := hide (HI3.out.below HBQ.out (Nat.le_refl _))
        have HFQ := hide ((HF.out.below HB3.out (by omega)).below HBQ.out (by omega))
        clear ha
        by_cases hlk : k < it.length
        · obtain ⟨t, ht7, hti⟩ := HAT.out k hlk
          have HNX := hide (show alTo (fun j => (outerOf F n.toNat (s ||| p2 j)).testBit i) it (k + 1) = (alTo (fun j => (outerOf F n.toNat (s ||| p2 j)).testBit i) it k && (outerOf F n.toNat (s ||| p2 (nth it k))).testBit i) from rfl)
          have HFA := hide (fun (h : (outerOf F n.toNat (s ||| p2 (nth it k))).testBit i = false) => alTo_false (K := fun j => (outerOf F n.toNat (s ||| p2 j)).testBit i) h it.length hlk)
          have hnt : nth it k = t := by unfold nth; rw [hti]; simp
          rw [hnt] at HNX HFA
          have HTI := hide hti
          have hp := p2_lt128 t (by omega)
          have hb128 := or_lt128 s (p2 t) hs hp
          have HW : Hid (∀ (w1 : World), Calls Tryd.prog 72 #[.int .i64 (s : Int), .int .i64 (t : Int)] w1 fun e w' => e = .returned (.int .i64 ((s ||| p2 t : Nat) : Int)) ∧ w1 = w') := hide fun w1 => by
            have := with_c (s : Int) (t : Int) w1 (by omega) (by omega) (by omega) (by omega)
            rw [Int.toNat_natCast, Int.toNat_natCast] at this
            exact this
          clear hti hnt hp
          generalize s ||| p2 t = b at HNX HFA HW hb128
          have hob := HO128.out b
          have HOB := hide (fun w1 => HOU.out b w1 hb128)
          have HHB := hide (fun w1 => HHA.out (outerOf F n.toNat b) w1 hob)
          generalize outerOf F n.toNat b = ob at HNX HFA HOB HHB hob
          cases hr : ob.testBit i
          all_goals
            have HR := hide hr
            rw [hr] at HHB
            clear hr
            go_wp2_with (first
              | (refine wpList_at sliceT intS rfl (.tmp _) (.tmp _) rfl _ rfl k rfl w3.heap.size it HIQ.out hlk ?_; intro ad hcell hblk; rw [HTI.out] at hcell))
            refine wp_region_held (S := Below wr.heap.size wr) (by kernel_rfl) ?_
            have hS : Below wr.heap.size wr { wr with drawn := wr.drawn + 1 } := (Below.refl _ _).drew
            refine wpAnyH_take (i := 0) rfl (by kernel_rfl) (by kernel_rfl) (by kernel_rfl) (fun _ _ _ h => h) (yields_load_fam rowT sizeT rfl (.tmp _) rfl _ rfl n F (fun w' h => HFQ.out.below h HFQ.out.lt)) hS ?_
            refine wpAnyH_take (i := 1) (v := .int .i64 (s : Int)) rfl (by kernel_rfl) (by kernel_rfl) (by kernel_rfl) (fun _ _ _ h => h) (.inl ⟨rfl, fun w' _ => by go_simp⟩) hS ?_
            refine wpAnyH_take (i := 2) (v := .int .i64 (t : Int)) rfl (by kernel_rfl) (by kernel_rfl) (by kernel_rfl) (fun _ _ _ h => h) (.inl ⟨rfl, fun w' _ => by go_simp⟩) hS ?_
            refine wpAnyH_take (i := 5) (v := .int .i64 (i : Int)) rfl (by kernel_rfl) (by kernel_rfl) (by kernel_rfl) (fun _ _ _ h => h) (.inl ⟨rfl, fun w' _ => by go_simp⟩) hS ?_
            simp only [Act.put, List.getElem_toArray, List.getElem_cons_zero, List.getElem_cons_succ, List.setIfInBounds_toArray, List.set_cons_zero, List.set_cons_succ]
            refine anyH_call (i := 3) (by kernel_rfl) rfl rfl 72 ent_withC _ _ rfl #[.int .i64 (s : Int), .int .i64 (t : Int)] rfl (HW.out _) ?_
            rintro e w5 ⟨rfl, rfl⟩
            refine ⟨_, rfl, hS, ?_⟩
            simp only [Act.put, List.getElem_toArray, List.getElem_cons_zero, List.getElem_cons_succ, List.setIfInBounds_toArray, List.set_cons_zero, List.set_cons_succ]
            refine anyH_call (i := 4) (by kernel_rfl) rfl rfl 70 ent_outerC _ _ rfl #[.agg (fam n F), .int .i64 (b : Int)] rfl (HOB.out _) ?_
            rintro e w6 ⟨rfl, hb6⟩
            have hS6 : Below wr.heap.size wr w6 := hS.trans hb6
            refine ⟨_, rfl, hS6, ?_⟩
            simp only [Act.put, List.getElem_toArray, List.getElem_cons_zero, List.getElem_cons_succ, List.setIfInBounds_toArray, List.set_cons_zero, List.set_cons_succ]
            refine anyH_call (i := 6) (by kernel_rfl) rfl rfl 98 ent_hasC _ _ rfl #[.int .i64 (ob : Int), .int .i64 (i : Int)] rfl (HHB.out _) ?_
            rintro e w7 ⟨rfl, rfl⟩
            refine ⟨_, rfl, hS6, ?_⟩
            simp only [Act.put, List.getElem_toArray, List.getElem_cons_zero, List.getElem_cons_succ, List.setIfInBounds_toArray, List.set_cons_zero, List.set_cons_succ]
            refine anyH_op (i := 7) (by kernel_rfl) rfl rfl (.bool _) _ (by simp [go_sem]; rfl) hS6 ?_
            refine wpAnyH_done (by kernel_rfl) ?_ _
            simp only [Act.put, List.getElem_toArray, List.getElem_cons_zero, List.getElem_cons_succ, List.setIfInBounds_toArray, List.set_cons_zero, List.set_cons_succ]
            have HB7 := hide (HBQ.out.trans (hS6.mono (by omega)))
            clear hS hS6 hb6
            go_wp2
          · go_ret
            exact ⟨ret_b (by rw [HFA.out HR.out]), HB.out.trans ((HB3.out.trans (HB7.out.mono (by omega))).mono (by omega))⟩
          · go_roundw
            case rel => exact ⟨k + 1, by omega, by go_num, by rw [HNX.out, HA.out, HR.out]; rfl, HB7⟩
            case measure => simp [intOf]; omega
        · have HJ := hide (show k = it.length by omega)
          have hlk' : ¬ ((k : Int) < (it.length : Int)) := by omega
          go_wp2
          go_ret
          exact ⟨ret_b (by rw [← HJ.out, HA.out]), HB.out.trans ((HB3.out.trans (HBQ.out.mono (by omega))).mono (by omega))⟩
    · have H2 := hide h2
      clear h1 h2
      go_enter Tryd.func76, Tryd.ntmps76
      generalize outerOf F n.toNat s = O at ho128 HOS H2 ⊢
      go_wp2_with (first
        | (refine wpList_load_fam rowT sizeT rfl (.tmp _) rfl _ rfl n F HF.out ?_)
        | (go_at_call 70; refine (HOS.out _ hs).mono ?_; rintro e w1 ⟨rfl, hb1⟩; have HB1 := hide (show Below (w.heap.size + 1) (w.alloc (.cells (fam n F) 55)) w1 from hb1.mono (by rw [HZ.out]; omega)); clear hb1)
        | (go_at_call 98; refine (HHA.out _ _ (by omega)).mono ?_; (first | rw [H1.out] | rw [H2.out]); rintro e w2 ⟨rfl, rfl⟩))
      go_ret
      exact ⟨ret_b (by simp), HB.out.trans (HB1.out.mono (by omega))⟩
  · have H1 := hide h1
    clear h1
    go_enter Tryd.func76, Tryd.ntmps76
    generalize outerOf F n.toNat s = O at ho128 HOS ⊢
    go_wp2_with (first
      | (refine wpList_load_fam rowT sizeT rfl (.tmp _) rfl _ rfl n F HF.out ?_)
      | (go_at_call 70; refine (HOS.out _ hs).mono ?_; rintro e w1 ⟨rfl, hb1⟩; have HB1 := hide (show Below (w.heap.size + 1) (w.alloc (.cells (fam n F) 55)) w1 from hb1.mono (by rw [HZ.out]; omega)); clear hb1)
      | (go_at_call 98; refine (HHA.out _ _ (by omega)).mono ?_; (first | rw [H1.out] | fail); rintro e w2 ⟨rfl, rfl⟩))
    go_ret
    exact ⟨ret_b (by simp), HB.out.trans (HB1.out.mono (by omega))⟩
end Go.Proofs.YtagahoaogfogkaaDoor
