/- Contracts: OrderSpace: the specification's and the program's. -/
import Derived.Test.YtblglkgmnaklbaaDoorPr
import Derived.Test.YtblglkgmnaklbaaDoorSq
namespace Go.Proofs.YtblglkgmnaklbaaDoor
open Go.RowKit
set_option maxRecDepth 100000
def osK (L : List (List Int)) (s : Nat) : Bool := kpTo L s L.length
def osB (n : Int) (L : List (List Int)) : Bool := ordOk n (prA n L) (osK L)
def osN (n : Int) (L : List (List Int)) : Int := ordN n (prA n L) (osK L)
def osL (n : Int) (L : List (List Int)) : List Int := ordL n (prA n L) (osK L)
theorem osL_len (n : Int) (L : List (List Int)) : (osL n L).length < 1000000000 := by
  unfold osL ordL
  split
  · have := setsTo_len (cutAt (osK L) (low n.toNat + 1)) 128; omega
  · simp
theorem implOrderSpace_c (n : Int) (u : Value) (L : List (List Int)) (w : World) (hl : rows w.heap.size w u L) (hs : small2 L) :
    Calls Tryd.prog 56 #[.int .i64 n, u] w fun e w' => ∃ v', e = .returned (.tuple #[.agg #[.int .i64 (osN n L), v'], .bool (osB n L)]) ∧ own 3 w' w.heap.size v' (osL n L) ∧ Below w.heap.size w w' := by
  obtain ⟨ua, uc, rfl⟩ := hl.shape
  exact orderSpace_c n ua L.length uc (prA n L) (osK L) w (fun w' hb => arePairs_c n _ L w' ((hl.below hb (Nat.le_refl _)).mono hb.size) hs)
    (fun hA h7 s hs' w' hb => (keepsPairs_c n s _ L w' ((hl.below hb (Nat.le_refl _)).mono hb.size) hA h7 hs').mono fun e w'' h => ⟨h.1, by rw [← h.2]; exact Below.refl _ _⟩)
/-- The specification's test of a pair. -/
theorem pair_spec {n : Int} {r : List Int} (h : r.length = 2) : pairB n r = (allTo 0 (n - 1) r r.length && !(r0 r == r1 r)) := by
  have e : allTo 0 (n - 1) r r.length = (decide (0 ≤ r0 r ∧ r0 r < n) && decide (0 ≤ r1 r ∧ r1 r < n)) := by
    rw [h]
    unfold allTo allTo allTo r0 r1
    rw [Bool.true_and]
    congr 1 <;> rw [decide_eq_decide] <;> omega
  unfold pairB
  rw [decide_eq_true h, e, Bool.true_and]
theorem sets_cut (K : Nat → Bool) (m : Nat) (hm : 2 ^ m ≤ 128) : setsTo (cutAt K (low m + 1)) 128 = setsTo K (2 ^ m) := by
  have hl := low_succ m
  have h1 : ∀ k, 2 ^ m ≤ k → setsTo (cutAt K (low m + 1)) k = setsTo (cutAt K (low m + 1)) (2 ^ m) := by
    intro k
    induction k with
    | zero => intro h; have := p2_pos m; omega
    | succ k ih =>
      intro h
      rcases Nat.lt_or_ge k (2 ^ m) with h1 | h1
      · have : k + 1 = 2 ^ m := by omega
        rw [this]
      · rw [setsTo, ih h1]
        have : cutAt K (low m + 1) k = false := by unfold cutAt; simp; omega
        rw [this]; rfl
  rw [h1 128 hm]
  refine setsTo_congr _ fun x hx => ?_
  unfold cutAt
  rw [decide_eq_true (by omega), Bool.true_and]
theorem os_good {m : Nat} (h1 : 1 ≤ m) (h7 : m ≤ 7) (K : Nat → Bool) : goodB (m : Int) (setsTo K (2 ^ m)) = spaceB (cutAt K (low m + 1)) m := by
  have hp := p2_le m 7 h7
  have hl := low_succ m
  rw [← sets_cut K m (by omega), ← ok_good]
  refine okSp_sets m (cutAt K (low m + 1)) h1 h7 fun x hx => ?_
  unfold cutAt at hx
  rw [Bool.and_eq_true, decide_eq_true_eq] at hx
  omega
theorem osB_no1 {n : Int} {L : List (List Int)} (h : ¬ (1 ≤ n ∧ n ≤ 7)) : osB n L = false := by unfold osB ordOk; rw [decide_eq_false h]; rfl
theorem osB_no2 {n : Int} {L : List (List Int)} (h : prA n L = false) : osB n L = false := by unfold osB ordOk; rw [h]; simp
theorem osNL_no {n : Int} {L : List (List Int)} (h : osB n L = false) : osN n L = 0 ∧ osL n L = [] ∧ osB n L = false := ⟨ordN_no h, ordL_no h, h⟩
theorem osNL_yes {n : Int} {L : List (List Int)} (h : osB n L = true) : osN n L = n ∧ osL n L = setsTo (cutAt (osK L) (low n.toNat + 1)) 128 ∧ osB n L = true := ⟨ordN_yes h, ordL_yes h, h⟩
theorem os_goodP {m : Nat} (h1 : 1 ≤ m) (h7 : m ≤ 7) (K : Nat → Bool) : goodB (m : Int) (setsTo K (p2 m)) = spaceB (cutAt K (low m + 1)) m := os_good h1 h7 K
theorem osB_g {m : Nat} {L : List (List Int)} (h1 : 1 ≤ m) (h7 : m ≤ 7) (h : prA (m : Int) L = true) : osB (m : Int) L = goodB (m : Int) (setsTo (osK L) (p2 m)) := by
  rw [os_goodP h1 h7]
  unfold osB ordOk
  rw [decide_eq_true (show 1 ≤ (m : Int) ∧ (m : Int) ≤ 7 by omega), h, Int.toNat_natCast, Bool.true_and, Bool.true_and]
theorem osL_g {m : Nat} {L : List (List Int)} (h7 : m ≤ 7) (h : osB (m : Int) L = true) : osL (m : Int) L = setsTo (osK L) (p2 m) := by
  rw [(osNL_yes h).2.1, Int.toNat_natCast]
  exact sets_cut (osK L) m (p2_le m 7 h7)
attribute [local irreducible] p2 low memB risB
theorem ent_l1AllO : enters Tryd.prog 51 := enters_of Tryd.func51 (by kernel_rfl) (by kernel_rfl)
theorem ent_spInO : enters Tryd.prog 66 := enters_of Tryd.func66 (by kernel_rfl) (by kernel_rfl)
set_option maxHeartbeats 4000000 in
theorem specOrderSpace_c (n : Int) (u : Value) (L : List (List Int)) (w : World) (hl : rows w.heap.size w u L) (hs : small2 L) :
    Calls Tryd.prog 52 #[.int .i64 n, u] w fun e w' => ∃ v', e = .returned (.tuple #[.agg #[.int .i64 (osN n L), v'], .bool (osB n L)]) ∧ own 3 w' w.heap.size v' (osL n L) ∧ Below w.heap.size w w' := by
  have HR0 := hide (hp_last w (.cells #[.int .i64 0, .slice none 0 0] 29))
  have H0 := hide ((Below.refl w.heap.size w).alloc (Nat.le_refl _) (.cells #[.int .i64 0, .slice none 0 0] 29))
  have HL0 := hide (hl.alloc (.cells #[.int .i64 0, .slice none 0 0] 29))
  have HZ0 := hide (show (w.alloc (.cells #[.int .i64 0, .slice none 0 0] 29)).heap.size = w.heap.size + 1 by simp)
  have HSM := hide hs
  have hll := hs.1
  obtain ⟨q0, q1, q2, q3⟩ := zero_slotsQ HR0.out
  clear hl hs
  by_cases hn : 1 ≤ n ∧ n ≤ 7
  · obtain ⟨m, rfl⟩ := Int.eq_ofNat_of_zero_le (show 0 ≤ n by omega)
    have HN := hide hn
    by_cases h40 : 40 < L.length
    · have HBX := hide (osNL_no (osB_no2 (n := (m : Int)) (L := L) (by unfold prA; rw [decide_eq_false (by omega)]; rfl)))
      have hgt : (40 : Int) < (L.length : Int) := by omega
      have z0 := q0
      have z1 := q1
      have HBZ := H0
      clear hn
      go_enter Tryd.func52, Tryd.ntmps52
      go_wp2_with (first
        | (go_at_call 50; refine (spItems_c _ _).mono ?_; rw [decide_eq_true HN.out]; rintro e w1 ⟨rfl, rfl⟩)
        | (refine wpList_len2 sliceT2 rfl (.tmp _) rfl u rfl w.heap.size L HL0.out ?_))
      refine bodyPost_ret (v := .tuple #[.agg #[.int .i64 0, .slice none 0 0], .bool false]) (by simp [results, Tryd.results52, go_sem, z0, z1]) rfl ⟨_, by rw [HBX.out.1, HBX.out.2.2], by rw [HBX.out.2.1]; exact own_nil _ _ _, ?_⟩
      first | exact HBZ.out | exact (HBZ.out.setCell (by show w.heap.size ≤ w.heap.size; omega) _).setCell (by show w.heap.size ≤ w.heap.size; omega) _
    · have hgt : ¬ ((40 : Int) < (L.length : Int)) := by omega
      have HPA := hide (show prA (m : Int) L = prTo (m : Int) L L.length by unfold prA; rw [decide_eq_true (by omega)]; rfl)
      have hm7 : m ≤ 7 := by omega
      have hm1 : 1 ≤ m := by omega
      have hsub : IntKind.i64.wrap ((m : Int) - 1) = (m : Int) - 1 := IntWalk.i64_in _ (by omega)
      clear hn
      go_enter Tryd.func52, Tryd.ntmps52
      go_wp2_with (first
        | (go_at_call 50; refine (spItems_c _ _).mono ?_; rw [decide_eq_true HN.out]; rintro e w1 ⟨rfl, rfl⟩)
        | (refine wpList_len2 sliceT2 rfl (.tmp _) rfl u rfl w.heap.size L HL0.out ?_))
      generalize (w.alloc (.cells #[.int .i64 0, .slice none 0 0] 29)) = W at HR0 H0 HL0 HZ0 q0 q1 q2 q3 ⊢
      go_loopw [24] (fun i wr => ∃ k : Nat, k ≤ L.length ∧ i = .int .i64 (k : Int) ∧ Hid (prTo (m : Int) L k = true) ∧ Hid (Below (w.heap.size + 1) W wr)) (fun i _ => L.length - (intOf i).toNat)
      case atStart => exact ⟨0, Nat.zero_le _, rfl, rfl, Below.refl _ _⟩
      case round =>
        obtain ⟨k, hk, rfl, HJ, HB⟩ := hrel
        have hsz := HB.out.size
        rw [HZ0.out] at hsz
        have HLW := hide ((HL0.out.below HB.out (by omega)).mono (show w.heap.size ≤ wr.heap.size by omega))
        by_cases hlt : k < L.length
        · have HNX := hide (show prTo (m : Int) L (k + 1) = (prTo (m : Int) L k && pairB (m : Int) (L[k]?.getD [])) from rfl)
          have HFA := hide (fun h => osNL_no (osB_no2 (n := (m : Int)) (L := L) (by rw [HPA.out]; exact prTo_false (k := k) h L.length hlt)))
          generalize hr : L[k]?.getD [] = r at HNX HFA
          have HR := hide hr
          have hrl := HSM.out.row k hlt
          rw [hr] at hrl
          clear hr
          go_wp2_with (refine wpList_at2 sliceT2 rowS2 rfl (.tmp _) (.tmp _) rfl u rfl _ rfl k rfl wr.heap.size L HLW.out hlt ?_; intro ad uu hcell hblk hu; rw [HR.out] at hu; have HU := hide hu; obtain ⟨sa, sc, hsu⟩ := hu.shape; have HSU := hide (show ∃ b c, uu = .slice b r.length c from ⟨sa, sc, hsu⟩); clear hu hsu)
          refine wp_region_old (by kernel_rfl) (by kernel_rfl) ?_
          go_big_quiet_step ((first | exact fun _ => rfl | exact fun _ => ⟨rfl, rfl⟩))
          refine q_len sliceT rfl (.tmp _) rfl uu rfl r.length HSU.out ?_
          simp only [Act.put, List.setIfInBounds_toArray, List.set_cons_zero, List.set_cons_succ]
          by_cases h2 : r.length = 2
          · have hb2 : ((r.length : Int) != 2) = false := by rw [h2]; rfl
            generalize hx : r[0]?.getD 0 = x
            generalize hy : r[1]?.getD 0 = y
            have HX := hide hx
            have HY := hide hy
            have HPB := hide (show pairB (m : Int) r = (allTo 0 ((m : Int) - 1) r r.length && !(x == y)) by rw [pair_spec h2]; unfold r0 r1; rw [hx, hy])
            clear hx hy
            go_big_quiet_step ((first | exact fun _ => rfl | exact fun _ => ⟨rfl, rfl⟩))
            go_big_quiet_step ((first | exact fun _ => rfl | exact fun _ => ⟨rfl, rfl⟩))
            go_big_quiet_step ((first | exact fun _ => rfl | exact fun _ => ⟨rfl, rfl⟩))
            go_big_quiet_step ((first | exact fun _ => rfl | exact fun _ => ⟨rfl, rfl⟩))
            go_big_quiet_step ((first | exact fun _ => rfl | exact fun _ => ⟨rfl, rfl⟩))
            generalize hq : allTo 0 ((m : Int) - 1) r r.length = q at HPB
            have HQ := hide hq
            clear hq
            refine q_pure rfl 51 ent_l1AllO _ _ rfl #[uu, .int .i64 0, .int .i64 ((m : Int) - 1)] rfl (.bool q) (fun w' hb => by have := l1All_c uu r 0 ((m : Int) - 1) w' ((HU.out.below hb (Nat.le_refl _)).mono hb.size) (by omega); rw [HQ.out] at this; exact this) ?_
            simp only [Act.put, List.setIfInBounds_toArray, List.set_cons_zero, List.set_cons_succ]
            cases q
            · skip
              repeat (first | go_big_quiet_skip | go_big_quiet_step ((first | exact fun _ => rfl | exact fun _ => ⟨rfl, rfl⟩)))
              refine wpQuiet_nil ?_
              intro w2 hb2
              have HW2 := hide (HB.out.trans (hb2.mono hsz))
              clear hb2
              have HBX := hide (HFA.out (by rw [HPB.out]; rfl))
              have hr2 := (HW2.out.block w.heap.size (by omega)).trans HR0.out
              obtain ⟨z0, z1, z2, z3⟩ := zero_slotsQ hr2
              have HBZ := hide (H0.out.trans (HW2.out.mono (by omega)))
              clear hr2 q0 q1 q2 q3
              go_wp2
              refine bodyPost_ret (v := .tuple #[.agg #[.int .i64 0, .slice none 0 0], .bool false]) (by simp [results, Tryd.results52, go_sem, z0, z1]) rfl ⟨_, by rw [HBX.out.1, HBX.out.2.2], by rw [HBX.out.2.1]; exact own_nil _ _ _, ?_⟩
              first | exact HBZ.out | exact (HBZ.out.setCell (by show w.heap.size ≤ w.heap.size; omega) _).setCell (by show w.heap.size ≤ w.heap.size; omega) _
            · skip
              go_big_quiet_step ((first | exact fun _ => rfl | exact fun _ => ⟨rfl, rfl⟩))
              go_big_quiet_step ((first | exact fun _ => rfl | exact fun _ => ⟨rfl, rfl⟩))
              go_big_quiet_step ((first | exact fun _ => rfl | exact fun _ => ⟨rfl, rfl⟩))
              go_big_quiet_step ((first | exact fun _ => rfl | exact fun _ => ⟨rfl, rfl⟩))
              refine q_at sliceT intS rfl _ _ rfl uu rfl _ rfl 0 rfl wr.heap.size r wr HU.out (by omega) ?_
              intro ad0 hcell0 hblk0
              rw [HX.out] at hcell0
              simp only [Act.put, List.setIfInBounds_toArray, List.set_cons_zero, List.set_cons_succ]
              refine q_load_cell rowI rfl (.tmp _) rfl ad0 rfl (.int .i64 x) (fun w' h => (h.cell (by omega)).trans hcell0) ?_
              simp only [Act.put, List.setIfInBounds_toArray, List.set_cons_zero, List.set_cons_succ]
              go_big_quiet_step ((first | exact fun _ => rfl | exact fun _ => ⟨rfl, rfl⟩))
              refine q_at sliceT intS rfl _ _ rfl uu rfl _ rfl 1 rfl wr.heap.size r wr HU.out (by omega) ?_
              intro ad1 hcell1 hblk1
              rw [HY.out] at hcell1
              simp only [Act.put, List.setIfInBounds_toArray, List.set_cons_zero, List.set_cons_succ]
              refine q_load_cell rowI rfl (.tmp _) rfl ad1 rfl (.int .i64 y) (fun w' h => (h.cell (by omega)).trans hcell1) ?_
              simp only [Act.put, List.setIfInBounds_toArray, List.set_cons_zero, List.set_cons_succ]
              cases hxy : (x == y)
              · rw [hxy] at HPB
                repeat (first | go_big_quiet_skip | go_big_quiet_step ((first | exact fun _ => rfl | exact fun _ => ⟨rfl, rfl⟩)))
                refine wpQuiet_nil ?_
                intro w2 hb2
                have HW2 := hide (HB.out.trans (hb2.mono hsz))
                clear hb2
                go_wp2
                go_roundw
                case rel => exact ⟨k + 1, by omega, by go_num, hide (by rw [HNX.out, HJ.out, HPB.out]; rfl), HW2⟩
                case measure => (simp [intOf] <;> omega)
              · rw [hxy] at HPB
                repeat (first | go_big_quiet_skip | go_big_quiet_step ((first | exact fun _ => rfl | exact fun _ => ⟨rfl, rfl⟩)))
                refine wpQuiet_nil ?_
                intro w2 hb2
                have HW2 := hide (HB.out.trans (hb2.mono hsz))
                clear hb2
                have HBX := hide (HFA.out (by rw [HPB.out]; rfl))
                have hr2 := (HW2.out.block w.heap.size (by omega)).trans HR0.out
                obtain ⟨z0, z1, z2, z3⟩ := zero_slotsQ hr2
                have HBZ := hide (H0.out.trans (HW2.out.mono (by omega)))
                clear hr2 q0 q1 q2 q3
                go_wp2
                refine bodyPost_ret (v := .tuple #[.agg #[.int .i64 0, .slice none 0 0], .bool false]) (by simp [results, Tryd.results52, go_sem, z0, z1]) rfl ⟨_, by rw [HBX.out.1, HBX.out.2.2], by rw [HBX.out.2.1]; exact own_nil _ _ _, ?_⟩
                first | exact HBZ.out | exact (HBZ.out.setCell (by show w.heap.size ≤ w.heap.size; omega) _).setCell (by show w.heap.size ≤ w.heap.size; omega) _
          · have hb2 : ((r.length : Int) != 2) = true := by simp; omega
            have HPB := hide (show pairB (m : Int) r = false by simp [pairB, h2])
            repeat (first | go_big_quiet_skip | go_big_quiet_step ((first | exact fun _ => rfl | exact fun _ => ⟨rfl, rfl⟩)))
            refine wpQuiet_nil ?_
            intro w2 hb2
            have HW2 := hide (HB.out.trans (hb2.mono hsz))
            clear hb2
            have HBX := hide (HFA.out HPB.out)
            have hr2 := (HW2.out.block w.heap.size (by omega)).trans HR0.out
            obtain ⟨z0, z1, z2, z3⟩ := zero_slotsQ hr2
            have HBZ := hide (H0.out.trans (HW2.out.mono (by omega)))
            clear hr2 q0 q1 q2 q3
            go_wp2
            refine bodyPost_ret (v := .tuple #[.agg #[.int .i64 0, .slice none 0 0], .bool false]) (by simp [results, Tryd.results52, go_sem, z0, z1]) rfl ⟨_, by rw [HBX.out.1, HBX.out.2.2], by rw [HBX.out.2.1]; exact own_nil _ _ _, ?_⟩
            first | exact HBZ.out | exact (HBZ.out.setCell (by show w.heap.size ≤ w.heap.size; omega) _).setCell (by show w.heap.size ≤ w.heap.size; omega) _
        · have HK := hide (show k = L.length by omega)
          have HA := hide (show prA (m : Int) L = true by rw [HPA.out, ← HK.out]; exact HJ.out)
          have hlt' : ¬ ((k : Int) < (L.length : Int)) := by omega
          have hp := wrap_p2 m hm7
          have hp2 : IntKind.i64.wrap (2 ^ m) = (p2 m : Int) := by rw [IntWalk.i64_left]; exact hp
          have h128 := p2_le128 m hm7
          have HOB := hide (osB_g hm1 hm7 HA.out)
          have HOL := hide (fun h => osL_g (L := L) hm7 h)
          have HSL := hide (setsTo_len (osK L) (p2 m))
          have HTX := hide (hp_last wr (.cells #[.int .i64 (m : Int), .slice none 0 0] 29))
          have HBT := hide (HB.out.alloc (show w.heap.size + 1 ≤ wr.heap.size by omega) (.cells #[.int .i64 (m : Int), .slice none 0 0] 29))
          have HLT := hide (HLW.out.alloc (.cells #[.int .i64 (m : Int), .slice none 0 0] 29))
          have HZT := hide (show (wr.alloc (.cells #[.int .i64 (m : Int), .slice none 0 0] 29)).heap.size = wr.heap.size + 1 by simp)
          clear q0 q1 q2 q3
          go_wp2_with fail
          generalize (wr.alloc (.cells #[.int .i64 (m : Int), .slice none 0 0] 29)) = W1 at HTX HBT HLT HZT ⊢
          generalize hBe : wr.heap.size = B at HTX HBT HLT HZT hsz ⊢
          clear hBe HB HLW
          go_loopw [9] (fun i w3 => ∃ k : Nat, k ≤ p2 m ∧ i = .int .i64 (k : Int) ∧ Hid (∃ sv, own 3 w3 (B + 1) sv (setsTo (osK L) k) ∧ w3.heap[B]? = some (.cells #[.int .i64 (m : Int), sv] 29)) ∧ Hid (Below B W1 w3)) (fun i _ => p2 m - (intOf i).toNat)
          case atStart => exact ⟨0, Nat.zero_le _, rfl, ⟨_, own_nil _ _ _, HTX.out⟩, Below.refl _ _⟩
          case round =>
            obtain ⟨a, ha, rfl, HO, HBB⟩ := hrel
            have hz3 := HBB.out.size
            rw [HZT.out] at hz3
            have HL3 := hide ((HLT.out.below HBB.out (Nat.le_refl _)).mono (show B ≤ wr.heap.size by omega))
            by_cases hla : a < p2 m
            · have HST := hide (show setsTo (osK L) (a + 1) = (if kpTo L a L.length then setsTo (osK L) a ++ [(a : Int)] else setsTo (osK L) a) from rfl)
              have ha128 : a < 128 := by omega
              have HLA := hide (setsTo_len (osK L) a)
              have HPR := hide (fun j hj => pairB_in ((prA_in HA.out).2 j hj))
              generalize setsTo (osK L) a = S1 at HO HST HLA
              obtain ⟨sv, ho3, ht3⟩ := HO.out
              have HO3 := hide ho3
              have HT3 := hide ht3
              clear HO ho3 ht3
              go_wp2_with (refine wpList_len2 sliceT2 rfl (.tmp _) rfl u rfl wr.heap.size L HL3.out ?_)
              go_loopw [59, 10] (fun i g w4 => ∃ j : Nat, j ≤ L.length ∧ i = .int .i64 (j : Int) ∧ g = .bool (kpTo L a j) ∧ Hid (Below wr.heap.size wr w4)) (fun i _ _ => L.length - (intOf i).toNat)
              case atStart => exact ⟨0, Nat.zero_le _, rfl, rfl, Below.refl _ _⟩
              case round =>
                obtain ⟨j, hj, rfl, rfl, HBI⟩ := hrel
                have hsi := HBI.out.size
                have HL4 := hide ((HL3.out.below HBI.out (Nat.le_refl _)).mono hsi)
                by_cases hlj : j < L.length
                · obtain ⟨g1, g2, g3, g4, g5, g6⟩ := HPR.out j hlj
                  have HNX := hide (show kpTo L a (j + 1) = (kpTo L a j && (!a.testBit (r1 (L[j]?.getD [])).toNat || a.testBit (r0 (L[j]?.getD [])).toNat)) from rfl)
                  generalize hr : L[j]?.getD [] = r at g1 g2 g3 g4 g5 g6 HNX
                  have HR := hide hr
                  obtain ⟨x, hx⟩ := Int.eq_ofNat_of_zero_le g2
                  obtain ⟨y, hy⟩ := Int.eq_ofNat_of_zero_le g4
                  rw [hx, hy, Int.toNat_natCast, Int.toNat_natCast] at HNX
                  have HX := hide (show r[0]?.getD 0 = (x : Int) from hx)
                  have HY := hide (show r[1]?.getD 0 = (y : Int) from hy)
                  have hx7 : x < 7 := by omega
                  have hy7 : y < 7 := by omega
                  clear hr hx hy g2 g3 g4 g5 g6
                  generalize kpTo L a j = c at HNX ⊢
                  have HCY := hide (fun w' => by have := spIn_c a y w' (by omega) (by omega) (by omega) (by omega); rw [Int.toNat_natCast, Int.toNat_natCast] at this; exact this)
                  have HCX := hide (fun w' => by have := spIn_c a x w' (by omega) (by omega) (by omega) (by omega); rw [Int.toNat_natCast, Int.toNat_natCast] at this; exact this)
                  generalize a.testBit y = by1 at HNX HCY
                  generalize a.testBit x = bx at HNX HCX
                  cases c
                  · skip
                    go_wp2_with (first
                      | (refine wpList_at2 sliceT2 rowS2 rfl (.tmp _) (.tmp _) rfl u rfl _ rfl j rfl wr.heap.size L HL4.out hlj ?_; intro ad uu hcell hblk hu; rw [HR.out] at hu; have HU := hide hu; clear hu)
                      | (refine wpList_at sliceT intS rfl (.tmp 66) _ rfl uu rfl 1 rfl wr.heap.size r HU.out (by omega) ?_; intro ad1 hcell1 hblk1; rw [HY.out] at hcell1)
                      | (refine wpList_at sliceT intS rfl (.tmp 73) _ rfl uu rfl 0 rfl wr.heap.size r HU.out (by omega) ?_; intro ad0 hcell0 hblk0; rw [HX.out] at hcell0)
                      | (go_at_call 66; refine (HCY.out _).mono ?_; rintro e w3 ⟨rfl, rfl⟩; clear HCY)
                      | (go_at_call 66; refine (HCX.out _).mono ?_; rintro e w3 ⟨rfl, rfl⟩))
                    go_roundw
                    case rel => exact ⟨j + 1, by omega, by go_num, by rw [HNX.out]; rfl, HBI⟩
                    case measure => (simp [intOf] <;> omega)
                  · cases by1
                    · skip
                      go_wp2_with (first
                        | (refine wpList_at2 sliceT2 rowS2 rfl (.tmp _) (.tmp _) rfl u rfl _ rfl j rfl wr.heap.size L HL4.out hlj ?_; intro ad uu hcell hblk hu; rw [HR.out] at hu; have HU := hide hu; clear hu)
                        | (refine wpList_at sliceT intS rfl (.tmp 66) _ rfl uu rfl 1 rfl wr.heap.size r HU.out (by omega) ?_; intro ad1 hcell1 hblk1; rw [HY.out] at hcell1)
                        | (refine wpList_at sliceT intS rfl (.tmp 73) _ rfl uu rfl 0 rfl wr.heap.size r HU.out (by omega) ?_; intro ad0 hcell0 hblk0; rw [HX.out] at hcell0)
                        | (go_at_call 66; refine (HCY.out _).mono ?_; rintro e w3 ⟨rfl, rfl⟩; clear HCY)
                        | (go_at_call 66; refine (HCX.out _).mono ?_; rintro e w3 ⟨rfl, rfl⟩))
                      go_roundw
                      case rel => exact ⟨j + 1, by omega, by go_num, by rw [HNX.out]; rfl, HBI⟩
                      case measure => (simp [intOf] <;> omega)
                    · cases bx
                      · skip
                        go_wp2_with (first
                          | (refine wpList_at2 sliceT2 rowS2 rfl (.tmp _) (.tmp _) rfl u rfl _ rfl j rfl wr.heap.size L HL4.out hlj ?_; intro ad uu hcell hblk hu; rw [HR.out] at hu; have HU := hide hu; clear hu)
                          | (refine wpList_at sliceT intS rfl (.tmp 66) _ rfl uu rfl 1 rfl wr.heap.size r HU.out (by omega) ?_; intro ad1 hcell1 hblk1; rw [HY.out] at hcell1)
                          | (refine wpList_at sliceT intS rfl (.tmp 73) _ rfl uu rfl 0 rfl wr.heap.size r HU.out (by omega) ?_; intro ad0 hcell0 hblk0; rw [HX.out] at hcell0)
                          | (go_at_call 66; refine (HCY.out _).mono ?_; rintro e w3 ⟨rfl, rfl⟩; clear HCY)
                          | (go_at_call 66; refine (HCX.out _).mono ?_; rintro e w3 ⟨rfl, rfl⟩))
                        go_roundw
                        case rel => exact ⟨j + 1, by omega, by go_num, by rw [HNX.out]; rfl, HBI⟩
                        case measure => (simp [intOf] <;> omega)
                      · skip
                        go_wp2_with (first
                          | (refine wpList_at2 sliceT2 rowS2 rfl (.tmp _) (.tmp _) rfl u rfl _ rfl j rfl wr.heap.size L HL4.out hlj ?_; intro ad uu hcell hblk hu; rw [HR.out] at hu; have HU := hide hu; clear hu)
                          | (refine wpList_at sliceT intS rfl (.tmp 66) _ rfl uu rfl 1 rfl wr.heap.size r HU.out (by omega) ?_; intro ad1 hcell1 hblk1; rw [HY.out] at hcell1)
                          | (refine wpList_at sliceT intS rfl (.tmp 73) _ rfl uu rfl 0 rfl wr.heap.size r HU.out (by omega) ?_; intro ad0 hcell0 hblk0; rw [HX.out] at hcell0)
                          | (go_at_call 66; refine (HCY.out _).mono ?_; rintro e w3 ⟨rfl, rfl⟩; clear HCY)
                          | (go_at_call 66; refine (HCX.out _).mono ?_; rintro e w3 ⟨rfl, rfl⟩))
                        go_roundw
                        case rel => exact ⟨j + 1, by omega, by go_num, by rw [HNX.out]; rfl, HBI⟩
                        case measure => (simp [intOf] <;> omega)
                · have HJJ := hide (show j = L.length by omega)
                  have HT4 := hide ((HBI.out.block B (by omega)).trans HT3.out)
                  have HO4 : Hid (own 3 _ (B + 1) sv S1) := hide (HO3.out.kept HBI.out)
                  have HB4 := hide (HBB.out.trans (HBI.out.mono (by omega)))
                  have hz4 : B + 1 ≤ wr.heap.size := by omega
                  generalize hck : kpTo L a j = c
                  rw [← HJJ.out, hck] at HST
                  clear hck HBI HL4 HL3 HT3 HO3 HBB
                  have hc1 := cells_at1 HT4.out
                  have hl4 := HLA.out
                  cases c
                  · go_wp2
                    go_roundw
                    case rel => exact ⟨a + 1, by omega, by go_num, ⟨sv, by rw [HST.out]; exact HO4.out, HT4.out⟩, HB4⟩
                    case measure => (simp [intOf] <;> omega)
                  · obtain ⟨aa, cc, hsv⟩ := HO4.out.shape
                    subst hsv
                    go_wp2_with (at_builtin; refine wpList_append1 sliceT intI rfl _ _ rfl (B + 1) _ _ rfl (HO4.out.alloc _) _ (a : Int) rfl (by simp [go_sem]) (by simp; omega) (by omega) ?_; intro v5 w5 ho5 hb5; obtain ⟨a5, c5, hv5⟩ := ho5.shape; subst hv5; have HB5 := hide (((Below.refl _ _).alloc (by omega) _).trans hb5); have HO5 := hide ho5; clear ho5 hb5; have ht5 := (HB5.out.block B (by omega)).trans HT4.out; have f5 := hp_free ht5 1; have k5 := cells_at1 ht5; have HT5 := hide ht5; clear ht5; have hb6 := HB4.out.trans (HB5.out.mono (by omega)); have HB6 := hide hb6; clear hb6)
                    go_roundw
                    case rel => exact ⟨a + 1, by omega, by go_num, ⟨_, by have h := HO5.out.setLow ⟨B, 1, none⟩ (by show B < B + 1; omega) (.slice a5 (S1.length + 1) c5); rw [List.length_append, List.length_singleton] at h; rw [HST.out, if_pos rfl]; exact h, bareN HT5.out _⟩, HB6.out.setCell (by show B ≤ B; omega) _⟩
                    case measure => (simp [intOf] <;> omega)
            · have HAE := hide (show a = p2 m by omega)
              obtain ⟨sv, ho3, ht3⟩ := HO.out
              rw [HAE.out] at ho3
              obtain ⟨aa, cc, hsv⟩ := ho3.shape
              subst hsv
              generalize hS : setsTo (osK L) (p2 m) = S at ho3 ht3 HOB HOL HSL
              have HO3 := hide ho3
              have HT3 := hide ht3
              have hd0 := cells_at0 ht3
              have hd1 := cells_at1 ht3
              have HR3 := hide ((HBB.out.block w.heap.size (by omega)).trans ((HBT.out.block w.heap.size (by omega)).trans HR0.out))
              have HB3 := hide ((H0.out.trans (HBT.out.mono (by omega))).trans (HBB.out.mono (by omega)))
              clear HO ho3 ht3 hS
              go_wp2_with fail
              cases hgb : goodB (m : Int) S
              · have HGD := hide hgb
                rw [hgb] at HOB
                clear hgb
                have HBX := hide (osNL_no HOB.out)
                refine (spIf_no_c (m : Int) _ S wr HO3.out.ints (by have := HSL.out; omega) HGD.out).mono ?_
                rintro e w7 ⟨rfl, hb7⟩
                have hr7 := (hb7.block w.heap.size (by omega)).trans HR3.out
                obtain ⟨q0, q1, q2, q3⟩ := zero_slotsQ hr7
                have HB7 := hide (HB3.out.trans (hb7.mono (by omega)))
                clear hb7 hr7 hd0 hd1
                go_wp2
                refine bodyPost_ret (v := .tuple #[.agg #[.int .i64 0, .slice none 0 0], .bool false]) (by simp [results, Tryd.results52, go_sem, q0, q1]) rfl ⟨_, by rw [HBX.out.1, HBX.out.2.2], by rw [HBX.out.2.1]; exact own_nil _ _ _, ?_⟩
                exact (HB7.out.setCell (Nat.le_refl _) _).setCell (Nat.le_refl _) _
              · have HGD := hide hgb
                rw [hgb] at HOB
                clear hgb
                have HBX := hide (osNL_yes HOB.out)
                refine (spIf_c (m : Int) _ S wr HO3.out.ints (by have := HSL.out; omega) HGD.out).mono ?_
                rintro e w7 ⟨rfl, hb7⟩
                have hr7 := (hb7.block w.heap.size (by omega)).trans HR3.out
                obtain ⟨q0, q1, q2, q3⟩ := zero_slotsQ hr7
                have HB7 := hide (HB3.out.trans (hb7.mono (by omega)))
                have HO7 : Hid (own 3 w7 (B + 1) (.slice aa S.length cc) S) := hide (HO3.out.kept hb7)
                clear hb7 hr7 hd0 hd1
                go_wp2
                refine bodyPost_ret (v := .tuple #[.agg #[.int .i64 (m : Int), .slice aa S.length cc], .bool true]) (by simp [results, Tryd.results52, go_sem, q0, q1]) rfl ⟨_, by rw [HBX.out.1, HBX.out.2.2], ?_, ?_⟩
                · rw [HOL.out HOB.out]
                  have hfin := ((HO7.out.setLow ⟨w.heap.size, 0, none⟩ (show w.heap.size < B + 1 by omega) (.int .i64 (m : Int))).setLow ⟨w.heap.size, 1, none⟩ (show w.heap.size < B + 1 by omega) (.slice aa S.length cc))
                  exact hfin.mono (by omega)
                · exact (HB7.out.setCell (Nat.le_refl _) _).setCell (Nat.le_refl _) _
  · have HN := hide hn
    have HBX := hide (osNL_no (osB_no1 (L := L) hn))
    have z0 := q0
    have z1 := q1
    have HBZ := H0
    clear hn
    go_enter Tryd.func52, Tryd.ntmps52
    go_wp2_with (first
      | (go_at_call 50; refine (spItems_c _ _).mono ?_; rw [decide_eq_false HN.out]; rintro e w1 ⟨rfl, rfl⟩))
    refine bodyPost_ret (v := .tuple #[.agg #[.int .i64 0, .slice none 0 0], .bool false]) (by simp [results, Tryd.results52, go_sem, z0, z1]) rfl ⟨_, by rw [HBX.out.1, HBX.out.2.2], by rw [HBX.out.2.1]; exact own_nil _ _ _, ?_⟩
    first | exact HBZ.out | exact (HBZ.out.setCell (by show w.heap.size ≤ w.heap.size; omega) _).setCell (by show w.heap.size ≤ w.heap.size; omega) _
end Go.Proofs.YtblglkgmnaklbaaDoor
