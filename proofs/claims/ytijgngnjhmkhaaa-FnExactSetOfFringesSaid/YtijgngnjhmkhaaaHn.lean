/- Contracts: LongestProof and SetOfFringes, the program's and the specification's. -/
import Derived.Test.YtijgngnjhmkhaaaHl
import Derived.Test.YtijgngnjhmkhaaaPk
import Derived.Lib.MinMax
namespace Go.Proofs.Ytijgngnjhmkhaaa
open Go.RowKit
set_option maxRecDepth 100000
set_option linter.unusedSimpArgs false
theorem pc_apart : ∀ a, a < 128 → ∀ b, b < 128 → a &&& b = 0 → pc (a ||| b) = pc a + pc b := by decide +kernel
theorem pc_le7 (x : Nat) : pc x ≤ 7 := by unfold pc; omega
theorem fr_apart (l : List Int) (n s : Nat) : itemsOf (innerSp l s) 7 &&& itemsOf (outerSp l s) n = 0 := by
  apply Nat.eq_of_testBit_eq
  intro i
  rw [Nat.testBit_and, Nat.zero_testBit, itemsOf_bit, itemsOf_bit]
  unfold innerSp outerSp
  cases s.testBit i <;> simp
/-- The size of the least proof of a set. -/
def prN (l : List Int) (n s : Nat) : Nat := pc (itemsOf (innerSp l s) 7) + pc (itemsOf (outerSp l s) n)
theorem prN_or {l : List Int} {n : Nat} (hn : n ≤ 7) (s : Nat) : pc (itemsOf (innerSp l s) 7 ||| itemsOf (outerSp l s) n) = prN l n s :=
  pc_apart _ (itemsOf_lt _ 7) _ (Nat.lt_of_lt_of_le (itemsOf_lt _ n) (p2_le n 7 hn)) (fr_apart l n s)
theorem prN_le (l : List Int) (n s : Nat) : prN l n s ≤ 14 := by
  have := pc_le7 (itemsOf (innerSp l s) 7)
  have := pc_le7 (itemsOf (outerSp l s) n)
  unfold prN; omega
def lgTo (l : List Int) (n : Nat) : Nat → Nat
  | 0 => 0
  | k + 1 => max (lgTo l n k) (prN l n (nth l k))
theorem lgTo_le (l : List Int) (n : Nat) : ∀ k, lgTo l n k ≤ 14
  | 0 => by simp [lgTo]
  | k + 1 => by
    have := lgTo_le l n k
    have := prN_le l n (nth l k)
    rw [lgTo]; omega
def lgR (n : Int) (l : List Int) : Int := if okSp n l then (lgTo l n.toNat l.length : Int) else 0
/-! Sets with given fringes. -/
def sfP (n : Nat) (l : List Int) (y z : Int) (s : Nat) : Bool := decide ((itemsOf (innerSp l s) 7 : Int) = y) && decide ((itemsOf (outerSp l s) n : Int) = z)
def sfL (n : Int) (l : List Int) (y z : Int) : List Int := if okSp n l then paTo (sfP n.toNat l y z) l l.length else []
def sfR (n : Int) (l : List Int) (y z : Int) : Int := (sfL n l y z).headD 0
def sfB (n : Int) (l : List Int) (y z : Int) : Bool := !(sfL n l y z).isEmpty
theorem paTo_first {P : Nat → Bool} {l : List Int} {k : Nat} (hk : k < l.length) (h : paTo P l k = []) (hP : P (nth l k) = true) : ∃ r, paTo P l l.length = l[k]?.getD 0 :: r := by
  rw [paTo_take P l k (by omega)] at h
  refine ⟨(l.drop (k + 1)).filter fun a => P a.toNat, ?_⟩
  rw [paTo_all]
  have e : l = l.take k ++ (l[k] :: l.drop (k + 1)) := by rw [← List.drop_eq_getElem_cons hk, List.take_append_drop]
  conv => lhs; rw [e]
  rw [List.filter_append, h, List.nil_append, List.filter_cons]
  have hP2 : P (l[k]).toNat = true := by unfold nth at hP; rw [List.getElem?_eq_getElem hk] at hP; exact hP
  rw [if_pos hP2, List.getElem?_eq_getElem hk]
  rfl
theorem sf_found {n : Int} {l : List Int} {y z : Int} {k : Nat} (h : okSp n l = true) (hk : k < l.length) (h0 : paTo (sfP n.toNat l y z) l k = []) (hP : sfP n.toNat l y z (nth l k) = true) : sfR n l y z = l[k]?.getD 0 ∧ sfB n l y z = true := by
  obtain ⟨r, e⟩ := paTo_first hk h0 hP
  unfold sfR sfB sfL
  rw [if_pos h, e]
  exact ⟨rfl, rfl⟩
theorem sf_none {n : Int} {l : List Int} {y z : Int} (h : okSp n l = true → paTo (sfP n.toNat l y z) l l.length = []) : sfR n l y z = 0 ∧ sfB n l y z = false := by
  unfold sfR sfB sfL
  cases hs : okSp n l
  · exact ⟨rfl, rfl⟩
  · rw [if_pos rfl, h hs]; exact ⟨rfl, rfl⟩
/-- Outside of the sets there are none. -/
theorem sf_out {n : Int} {l : List Int} {y z : Int} (h : okSp n l = true) (hyz : ¬ (0 ≤ y ∧ y ≤ (low n.toNat : Int)) ∨ ¬ (0 ≤ z ∧ z ≤ (low n.toNat : Int))) : sfR n l y z = 0 ∧ sfB n l y z = false := by
  refine sf_none fun _ => ?_
  rw [paTo_all, List.filter_eq_nil_iff]
  intro a ha hP
  unfold sfP at hP
  rw [Bool.and_eq_true, decide_eq_true_eq, decide_eq_true_eq] at hP
  obtain ⟨j, hj, rfl⟩ := List.mem_iff_getElem.1 ha
  have hr := okSp_pos h j hj
  rw [List.getElem?_eq_getElem hj] at hr
  have hpl := low_succ n.toNat
  have hn := okSp_n h
  have e1 := inner_same (marksTo l l.length) l n.toNat (l[j]).toNat (by omega) (by simp at hr; omega) (fun x _ => okSp_marks h x)
  have h1 : innerOf (marksTo l l.length) n.toNat (l[j]).toNat < 2 ^ n.toNat := itemsOf_lt _ _
  have h2 : itemsOf (outerSp l (l[j]).toNat) n.toNat < 2 ^ n.toNat := itemsOf_lt _ _
  rw [e1] at h1
  omega
theorem lg_prog (n : Int) (l : List Int) : ∃ (N : Nat) (F : Nat → Bool) (b : Bool), famVal n l = .tuple #[.agg (fam (N : Int) F), .bool b] ∧ N ≤ 7 ∧ okSp n l = b ∧ lgR n l = (lgTo l n.toNat (setsTo F 128).length : Int) ∧ (b = true → setsTo F 128 = l ∧ (N : Int) = n) ∧ (b = false → setsTo F 128 = []) ∧
    ∀ k, k < (setsTo F 128).length → nth (setsTo F 128) k = nth l k ∧ (setsTo F 128)[k]?.getD 0 = (nth l k : Int) ∧ nth l k < 128 ∧ innerOf F N (nth l k) = itemsOf (innerSp l (nth l k)) 7 ∧ outerOf F N (nth l k) = itemsOf (outerSp l (nth l k)) N := by
  cases hok : okSp n l
  · refine ⟨0, noSet, false, famVal_no n l hok, by omega, rfl, ?_, (fun h => by cases h), fun _ => sets_noneH _, fun k hk => ?_⟩
    · unfold lgR; rw [hok, sets_noneH]; rfl
    · rw [sets_noneH] at hk; exact absurd hk (by simp)
  · have hn := okSp_n hok
    obtain ⟨N, rfl⟩ := Int.eq_ofNat_of_zero_le (show 0 ≤ n by omega)
    have e : setsTo (marksTo l l.length) 128 = l := (okSp_list hok).symm
    refine ⟨N, marksTo l l.length, true, famVal_yes _ l hok, by omega, rfl, ?_, fun _ => ⟨e, rfl⟩, (fun h => by cases h), fun k hk => ?_⟩
    · unfold lgR; rw [if_pos hok, e]
    · rw [e] at hk ⊢
      have hr := sp_r128 hok k hk
      have hp := okSp_pos hok k hk
      have hpl := low_succ N
      rw [Int.toNat_natCast] at hp
      have hx : l[k]?.getD 0 = (nth l k : Int) := by unfold nth; rw [Int.toNat_of_nonneg hr.1]
      refine ⟨rfl, hx, by omega, ?_, ?_⟩
      · exact inner_same _ l N (nth l k) (by omega) (by omega) (fun y _ => okSp_marks hok y)
      · exact outer_same _ l N (nth l k) (by omega) (by omega) (fun y _ => okSp_marks hok y)
attribute [local irreducible] p2 low memB risB famAt own
theorem ent_spCountN : enters Try.prog 66 := enters_of Try.func66 (by kernel_rfl) (by kernel_rfl)
theorem ent_l1MostN : enters Try.prog 65 := enters_of Try.func65 (by kernel_rfl) (by kernel_rfl)
set_option maxHeartbeats 4000000 in
theorem implLongestProof_c (n : Int) (v : Value) (l : List Int) (w : World) (hl : ints w.heap.size w v l) (hlen : l.length < 1000000000) :
    Calls Try.prog 35 #[.agg #[.int .i64 n, v]] w fun e w' => e = .returned (.tuple #[.int .i64 (lgR n l), .bool (okSp n l)]) ∧ Below w.heap.size w w' := by
  have HL := hide ((hl.alloc (.cells #[.int .i64 n, v] 28)).mono (show w.heap.size ≤ (w.alloc (.cells #[.int .i64 n, v] 28)).heap.size by simp))
  have H0 := hide ((Below.refl w.heap.size w).alloc (Nat.le_refl _) (.cells #[.int .i64 n, v] 28))
  have HZ := hide (show (w.alloc (.cells #[.int .i64 n, v] 28)).heap.size = w.heap.size + 1 by simp)
  obtain ⟨N, F, b, hv, hN, hb, hr, ht, _, hat⟩ := lg_prog n l
  have HV := hide hv
  rw [hr, hb]
  have HSE := hide (fun w1 => sets_c (N : Int) F w1)
  have hL := setsTo_len F 128
  have HAT := hide hat
  have HTN := hide (show ∀ k, k < (setsTo F 128).length → n.toNat = N from fun k hk => by
    cases b
    · rename_i he; rw [he rfl] at hk; exact absurd hk (by simp)
    · rw [← (ht rfl).2, Int.toNat_natCast])
  have HLE := hide (lgTo_le l n.toNat)
  have HNX := hide (fun k => show lgTo l n.toNat (k + 1) = max (lgTo l n.toNat k) (prN l n.toNat (nth l k)) from rfl)
  have HPR := hide (fun s (h : n.toNat ≤ 7) => prN_or (l := l) h s)
  clear hl hv hr hb hat ht
  generalize setsTo F 128 = L at *
  go_enter Try.func35, Try.ntmps35
  go_wp2_with (first
    | (go_at_call 53; refine (familyOf_c n v l _ HL.out hlen).mono ?_; rw [HV.out]; rintro e w1 ⟨rfl, hb⟩; have hz1 := hb.size; rw [HZ.out] at hz1; have HH := hide ((famAt.new 56 w1 0 noSet).row (N : Int) F); have HZ2 := hide (show ((w1.alloc (.cells (fam 0 noSet) 56)).setRow w1.heap.size (fam (N : Int) F)).heap.size = w1.heap.size + 1 by simp [World.setRow]); have HB := hide (bl_row ((H0.out.trans (hb.mono (by rw [HZ.out]; omega))).alloc (by omega) (.cells (fam 0 noSet) 56)) (show w.heap.size ≤ w1.heap.size by omega) (fam (N : Int) F)); clear hb)
    | (refine wpList_alloc_fam zeroT rfl rfl _ (by first | (simp only [World.size_alloc]; rfl) | rfl) ?_)
    | (refine wpList_store_fam sizeT rfl (.tmp _) (.tmp _) rfl w1.heap.size _ _ rfl rfl _ _ (famAt.new _ _ _ _) ?_)
    | (refine wpList_load_fam rowT sizeT rfl (.tmp _) rfl w1.heap.size rfl (N : Int) F HH.out ?_)
    | (go_at_call 48; refine (HSE.out _).mono ?_; rintro e w2 ⟨v2, rfl, ho2, hb2⟩; rw [HZ2.out] at hb2 ho2; have hz2 := hb2.size; rw [HZ2.out] at hz2; have HI2 := hide ho2.ints; have HH2 := hide (HH.out.below hb2 (by omega)); have HB2 := hide (HB.out.trans (hb2.mono (by omega))); clear ho2 hb2)
    | (refine wpList_len sliceT rfl (.tmp _) rfl _ rfl w2.heap.size L HI2.out ?_)
    )
  go_loopw [6, 18] (fun x i wr => ∃ k : Nat, k ≤ L.length ∧ i = .int .i64 (k : Int) ∧ x = .int .i64 (lgTo l n.toNat k : Int) ∧ Hid (Below w2.heap.size w2 wr)) (fun _ i _ => L.length - (intOf i).toNat)
  case atStart => exact ⟨0, Nat.zero_le _, rfl, rfl, Below.refl _ _⟩
  case round =>
    obtain ⟨k, hk, rfl, rfl, HB⟩ := hrel
    have hsz := HB.out.size
    by_cases hlt : k < L.length
    · obtain ⟨e0, hx, hx8, ei, eo⟩ := HAT.out k hlt
      have HX := hide hx
      have HLW := hide (HI2.out.below HB.out (Nat.le_refl _))
      have HHW := hide (HH2.out.below HB.out (by omega))
      have e1 := HTN.out k hlt
      have HN := hide (HNX.out k)
      have hle := HLE.out k
      have hpr := HPR.out (nth l k) (by omega)
      rw [e1, ← ei, ← eo] at hpr
      have hi8 : innerOf F N (nth l k) < 128 := Nat.lt_of_lt_of_le (itemsOf_lt _ _) (p2_le N 7 hN)
      have ho8 : outerOf F N (nth l k) < 128 := Nat.lt_of_lt_of_le (itemsOf_lt _ _) (p2_le N 7 hN)
      have hor8 : innerOf F N (nth l k) ||| outerOf F N (nth l k) < 128 := Nat.or_lt_two_pow (n := 7) hi8 ho8
      have HIN := hide (fun w1 => by have h := innerFringe_c (N : Int) F (nth l k : Int) w1 (by omega) (by omega) (by omega) (by omega); rw [Int.toNat_natCast, Int.toNat_natCast] at h; exact h)
      have HOU := hide (fun w1 => by have h := outerFringe_c (N : Int) F (nth l k : Int) w1 (by omega) (by omega) (by omega) (by omega); rw [Int.toNat_natCast, Int.toNat_natCast] at h; exact h)
      have hor := i64_or (innerOf F N (nth l k)) (outerOf F N (nth l k)) (by omega) (by omega)
      have HSZ := hide (fun w1 => by have h := size_c ((innerOf F N (nth l k) ||| outerOf F N (nth l k) : Nat) : Int) w1 (by omega) (by omega); rw [Int.toNat_natCast, hpr] at h; exact h)
      rw [e1] at HN
      have HPE := hide (show (max (lgTo l N k : Int) (prN l N (nth l k) : Int)) = (lgTo l N (k + 1) : Int) by rw [HN.out]; omega)
      rw [e1] at hle HNX HLE ⊢
      clear e0 hx ei eo hpr HN
      generalize innerOf F N (nth l k) = A at *
      generalize outerOf F N (nth l k) = B at *
      generalize (A ||| B) = C at *
      generalize prN l N (nth l k) = p at *
      generalize nth l k = s at *
      generalize hX1 : lgTo l N (k + 1) = X1 at HPE
      generalize lgTo l N k = X at *
      have HX1 := hide hX1
      clear hX1
      go_wp2_with (refine wpList_at sliceT intS rfl (.tmp _) (.tmp _) rfl _ rfl k rfl w2.heap.size L HLW.out hlt ?_; intro ad hcell hblk; rw [HX.out] at hcell)
      clear hcell hblk
      refine wp_region_old (by kernel_rfl) (by kernel_rfl) ?_
      refine q_load_fam rowT sizeT rfl (.tmp _) rfl w1.heap.size rfl (N : Int) F (fun w' h => HHW.out.below h HHW.out.lt) ?_
      simp only [Act.put, List.setIfInBounds_toArray, List.set_cons_zero, List.set_cons_succ]
      go_big_quiet_step ((first | exact fun _ => rfl | exact fun _ => ⟨rfl, rfl⟩))
      refine q_callH rfl 59 ent_innerL _ _ rfl #[.agg (fam (N : Int) F), .int .i64 (s : Int)] rfl (.int .i64 (A : Int)) (fun w' _ => HIN.out w') ?_
      simp only [Act.put, List.setIfInBounds_toArray, List.set_cons_zero, List.set_cons_succ]
      refine q_load_fam rowT sizeT rfl (.tmp _) rfl w1.heap.size rfl (N : Int) F (fun w' h => HHW.out.below h HHW.out.lt) ?_
      simp only [Act.put, List.setIfInBounds_toArray, List.set_cons_zero, List.set_cons_succ]
      go_big_quiet_step ((first | exact fun _ => rfl | exact fun _ => ⟨rfl, rfl⟩))
      refine q_callH rfl 60 ent_outerL _ _ rfl #[.agg (fam (N : Int) F), .int .i64 (s : Int)] rfl (.int .i64 (B : Int)) (fun w' _ => HOU.out w') ?_
      simp only [Act.put, List.setIfInBounds_toArray, List.set_cons_zero, List.set_cons_succ]
      repeat (first | go_big_quiet_skip | go_big_quiet_step ((first | exact fun _ => rfl | exact fun _ => ⟨rfl, rfl⟩)))
      refine wpQuiet_nil ?_
      intro w3 hb3
      have HB3 := hide (HB.out.trans (hb3.mono hsz))
      clear hb3
      go_wp2_with (go_at_call 67; refine (HSZ.out _).mono ?_; rintro e w4 ⟨rfl, rfl⟩)
      go_roundw
      case rel => exact ⟨k + 1, by omega, by go_num, by rw [HPE.out, HX1.out], HB3⟩
      case measure => (simp [intOf] <;> omega)
    · have HJ := hide (show k = L.length by omega)
      have hlt' : ¬ ((k : Int) < (L.length : Int)) := by omega
      go_wp2
      go_ret2
      exact ⟨by rw [← HJ.out]; rfl, HB2.out.trans (HB.out.mono (by omega))⟩
set_option maxHeartbeats 4000000 in
theorem specLongestProof_c (n : Int) (v : Value) (l : List Int) (w : World) (hl : ints w.heap.size w v l) (hlen : l.length < 1000000000) :
    Calls Try.prog 34 #[.agg #[.int .i64 n, v]] w fun e w' => e = .returned (.tuple #[.int .i64 (lgR n l), .bool (okSp n l)]) ∧ Below w.heap.size w w' := by
  have HL := hide ((hl.alloc (.cells #[.int .i64 n, v] 28)).mono (show w.heap.size ≤ (w.alloc (.cells #[.int .i64 n, v] 28)).heap.size by simp))
  have H0 := hide ((Below.refl w.heap.size w).alloc (Nat.le_refl _) (.cells #[.int .i64 n, v] 28))
  have HS0 := hide (hp_last w (.cells #[.int .i64 n, v] 28))
  have HZ := hide (show (w.alloc (.cells #[.int .i64 n, v] 28)).heap.size = w.heap.size + 1 by simp)
  clear hl
  cases hok : okSp n l
  · have HG := hide (show goodB n l = false by rw [← ok_good]; exact hok)
    have HR := hide (show lgR n l = 0 by unfold lgR; rw [hok]; rfl)
    rw [HR.out]
    clear hok
    go_enter Try.func34, Try.ntmps34
    go_wp2_with (go_at_call 52; refine (spGood_c n v l _ HL.out hlen).mono ?_; rw [HG.out]; rintro e w1 ⟨rfl, hb1⟩; have HB1 := hide (H0.out.trans (hb1.mono (by rw [HZ.out]; omega))); clear hb1)
    go_ret2
    exact ⟨rfl, HB1.out⟩
  · have HG := hide (show goodB n l = true by rw [← ok_good]; exact hok)
    have HR := hide (show lgR n l = (lgTo l n.toNat l.length : Int) by unfold lgR; rw [if_pos hok])
    have HI := hide (okSp_inc hok)
    have HRG := hide (sp_r128 hok)
    have hn := okSp_n hok
    have HLE := hide (lgTo_le l n.toNat)
    have HNX := hide (fun k => show lgTo l n.toNat (k + 1) = max (lgTo l n.toNat k) (pc (itemsOf (innerSp l (nth l k)) 7) + pc (itemsOf (outerSp l (nth l k)) n.toNat)) from rfl)
    have hN7 : n.toNat ≤ 7 := by omega
    rw [HR.out]
    clear hok
    go_enter Try.func34, Try.ntmps34
    go_wp2_with (first
      | (go_at_call 52; refine (spGood_c n v l _ HL.out hlen).mono ?_; rw [HG.out]; rintro e w1 ⟨rfl, hb1⟩; have HS1 := hide ((hb1.block w.heap.size (by rw [HZ.out]; omega)).trans HS0.out); have d1 := cells_at1 HS1.out; have HL1 := hide ((HL.out.below hb1 (Nat.le_refl _)).mono hb1.size); have hz1 := hb1.size; rw [HZ.out] at hz1; have HB1 := hide (H0.out.trans (hb1.mono (by rw [HZ.out]; omega))); clear hb1)
      | (refine wpList_len sliceT rfl (.tmp _) rfl _ rfl w1.heap.size l HL1.out ?_))
    clear d1
    go_loopw [4, 13] (fun x i wr => ∃ k : Nat, k ≤ l.length ∧ i = .int .i64 (k : Int) ∧ x = .int .i64 (lgTo l n.toNat k : Int) ∧ Hid (Below w1.heap.size w1 wr)) (fun _ i _ => l.length - (intOf i).toNat)
    case atStart => exact ⟨0, Nat.zero_le _, rfl, rfl, Below.refl _ _⟩
    case round =>
      obtain ⟨k, hk, rfl, rfl, HB⟩ := hrel
      have hsz := HB.out.size
      by_cases hlt : k < l.length
      · have hr := HRG.out k hlt
        have hx : l[k]?.getD 0 = (nth l k : Int) := by unfold nth; rw [Int.toNat_of_nonneg hr.1]
        have HX := hide hx
        have hx8 : nth l k < 128 := by omega
        have HLW := hide (HL1.out.below HB.out (Nat.le_refl _))
        have HN := hide (HNX.out k)
        have hle := HLE.out k
        have hi8 : itemsOf (innerSp l (nth l k)) 7 < 128 := itemsOf_lt _ 7
        have ho8 : itemsOf (outerSp l (nth l k)) n.toNat < 128 := Nat.lt_of_lt_of_le (itemsOf_lt _ _) (p2_le _ 7 hN7)
        have HIN := hide (fun w' (h : ints w'.heap.size w' v l) => by have h2 := spInner_c v l (nth l k : Int) w' h HI.out hlen (by omega) (by omega); rw [Int.toNat_natCast] at h2; exact h2)
        have HOU := hide (fun w' (h : ints w'.heap.size w' v l) => by have h2 := spOuter_c n v l (nth l k : Int) w' h HI.out hlen (by omega) (by omega) (by omega) (by omega); rw [Int.toNat_natCast] at h2; exact h2)
        clear hx hr
        generalize itemsOf (innerSp l (nth l k)) 7 = A at *
        generalize itemsOf (outerSp l (nth l k)) n.toNat = B at *
        generalize nth l k = s at *
        have hpa := pc_le7 A
        have hpb := pc_le7 B
        have HCA := hide (fun w' => by have h := spCount_c (A : Int) w' (by omega) (by omega); rw [Int.toNat_natCast] at h; exact h)
        have HCB := hide (fun w' => by have h := spCount_c (B : Int) w' (by omega) (by omega); rw [Int.toNat_natCast] at h; exact h)
        have hadd : IntKind.i64.wrap ((pc A : Int) + (pc B : Int)) = ((pc A + pc B : Nat) : Int) := by rw [IntWalk.i64_in _ (by omega)]; omega
        have HMX := hide (fun w' => l1Most_c (lgTo l n.toNat k) (pc A + pc B) w')
        rw [← HN.out] at HMX
        clear HN
        generalize pc A + pc B = ab at *
        generalize pc A = pa at *
        generalize pc B = pb at *
        generalize hX1 : lgTo l n.toNat (k + 1) = X1 at HMX
        generalize lgTo l n.toNat k = X at *
        have HX1 := hide hX1
        clear hX1
        have HC0 := hide (show ∀ w', Below wr.heap.size wr w' → w'.cell? ⟨w.heap.size, 0, none⟩ = some (.int .i64 n) from fun w' h => (h.cell (p := ⟨w.heap.size, 0, none⟩) (by show w.heap.size < _; omega)).trans ((HB.out.cell (p := ⟨w.heap.size, 0, none⟩) (by show w.heap.size < _; omega)).trans (cells_at0 HS1.out)))
        have HC1 := hide (show ∀ w', Below wr.heap.size wr w' → w'.cell? ⟨w.heap.size, 1, none⟩ = some v from fun w' h => (h.cell (p := ⟨w.heap.size, 1, none⟩) (by show w.heap.size < _; omega)).trans ((HB.out.cell (p := ⟨w.heap.size, 1, none⟩) (by show w.heap.size < _; omega)).trans (cells_at1 HS1.out)))
        have HLF := hide (show ∀ w', Below wr.heap.size wr w' → ints w'.heap.size w' v l from fun w' h => (HLW.out.below h (by omega)).mono (by have := h.size; omega))
        go_wp2_with (refine wpList_at sliceT intS rfl (.tmp _) (.tmp _) rfl _ rfl k rfl w1.heap.size l HLW.out hlt ?_; intro ad hcell hblk; rw [HX.out] at hcell)
        clear hcell hblk
        refine wp_region_old (by kernel_rfl) (by kernel_rfl) ?_
        go_big_quiet_step ((first | exact fun _ => rfl | exact fun _ => ⟨rfl, rfl⟩))
        go_big_quiet_step ((first | exact fun _ => rfl | exact fun _ => ⟨rfl, rfl⟩))
        refine q_load_cell rowS rfl (.tmp _) rfl ⟨w.heap.size, 1, none⟩ rfl v HC1.out ?_
        simp only [Act.put, List.setIfInBounds_toArray, List.set_cons_zero, List.set_cons_succ]
        go_big_quiet_step ((first | exact fun _ => rfl | exact fun _ => ⟨rfl, rfl⟩))
        refine q_callH rfl 56 ent_spInner _ _ rfl #[v, .int .i64 (s : Int)] rfl (.int .i64 (A : Int)) (fun w' h => (HIN.out w' (HLF.out w' h)).mono fun e w2 ⟨he, hw⟩ => ⟨he, by rw [← hw]; exact Below.refl _ _⟩) ?_
        simp only [Act.put, List.setIfInBounds_toArray, List.set_cons_zero, List.set_cons_succ]
        refine q_callH rfl 66 ent_spCountN _ _ rfl #[.int .i64 (A : Int)] rfl (.int .i64 (pa : Int)) (fun w' h => (HCA.out w').mono fun e w2 ⟨he, hw⟩ => ⟨he, by rw [← hw]; exact Below.refl _ _⟩) ?_
        simp only [Act.put, List.setIfInBounds_toArray, List.set_cons_zero, List.set_cons_succ]
        refine q_load_two rowSp sizeSp rfl (.tmp _) rfl w.heap.size 0 rfl (.int .i64 n) v HC0.out HC1.out ?_
        simp only [Act.put, List.setIfInBounds_toArray, List.set_cons_zero, List.set_cons_succ]
        go_big_quiet_step ((first | exact fun _ => rfl | exact fun _ => ⟨rfl, rfl⟩))
        refine q_callH rfl 57 ent_spOuter _ _ rfl #[.agg #[.int .i64 n, v], .int .i64 (s : Int)] rfl (.int .i64 (B : Int)) (fun w' h => HOU.out w' (HLF.out w' h)) ?_
        simp only [Act.put, List.setIfInBounds_toArray, List.set_cons_zero, List.set_cons_succ]
        refine q_callH rfl 66 ent_spCountN _ _ rfl #[.int .i64 (B : Int)] rfl (.int .i64 (pb : Int)) (fun w' h => (HCB.out w').mono fun e w2 ⟨he, hw⟩ => ⟨he, by rw [← hw]; exact Below.refl _ _⟩) ?_
        simp only [Act.put, List.setIfInBounds_toArray, List.set_cons_zero, List.set_cons_succ]
        refine q_valH rfl (.int .i64 (ab : Int)) (fun w' => by simp [execOp, go_sem, hadd]) ?_
        simp only [Act.put, List.setIfInBounds_toArray, List.set_cons_zero, List.set_cons_succ]
        refine q_callH rfl 65 ent_l1MostN _ _ rfl #[.int .i64 (X : Int), .int .i64 (ab : Int)] rfl (.int .i64 (X1 : Int)) (fun w' h => (HMX.out w').mono fun e w2 ⟨he, hw⟩ => ⟨he, by rw [← hw]; exact Below.refl _ _⟩) ?_
        simp only [Act.put, List.setIfInBounds_toArray, List.set_cons_zero, List.set_cons_succ]
        repeat (first | go_big_quiet_skip | go_big_quiet_step ((first | exact fun _ => rfl | exact fun _ => ⟨rfl, rfl⟩)))
        refine wpQuiet_nil ?_
        intro w3 hb3
        have HB3 := hide (HB.out.trans (hb3.mono hsz))
        clear hb3
        go_wp2
        go_roundw
        case rel => exact ⟨k + 1, by omega, by go_num, by rw [HX1.out], HB3⟩
        case measure => (simp [intOf] <;> omega)
      · have HJ := hide (show k = l.length by omega)
        have hlt' : ¬ ((k : Int) < (l.length : Int)) := by omega
        go_wp2
        go_ret2
        exact ⟨by rw [← HJ.out]; rfl, HB1.out.trans (HB.out.mono (by omega))⟩
end Go.Proofs.Ytijgngnjhmkhaaa
