/- Contracts: pairs of items: arePairs, keepsPairs, OrderSpace, the program's. -/
import Derived.Test.YtblglkgmnaklbaaDoorRt
import Derived.Test.YtblglkgmnaklbaaDoorFre
namespace Go.Proofs.YtblglkgmnaklbaaDoor
open Go.RowKit
set_option maxRecDepth 100000
def r0 (r : List Int) : Int := r[0]?.getD 0
def r1 (r : List Int) : Int := r[1]?.getD 0
def pairB (n : Int) (r : List Int) : Bool := decide (r.length = 2) && ((decide (0 ≤ r0 r ∧ r0 r < n) && decide (0 ≤ r1 r ∧ r1 r < n)) && !(r0 r == r1 r))
def prTo (n : Int) (L : List (List Int)) : Nat → Bool
  | 0 => true
  | k + 1 => prTo n L k && pairB n (L[k]?.getD [])
theorem prTo_iff (n : Int) (L : List (List Int)) : ∀ k, prTo n L k = true ↔ ∀ j, j < k → pairB n (L[j]?.getD []) = true
  | 0 => by simp [prTo]
  | k + 1 => by
    rw [prTo, Bool.and_eq_true, prTo_iff n L k]
    constructor
    · rintro ⟨h1, h2⟩ j hj
      rcases Nat.lt_or_ge j k with h | h
      · exact h1 j h
      · have : j = k := by omega
        subst this; exact h2
    · intro h
      exact ⟨fun j hj => h j (by omega), h k (by omega)⟩
theorem prTo_false {n : Int} {L : List (List Int)} {k : Nat} (h : pairB n (L[k]?.getD []) = false) (m : Nat) (hm : k < m) : prTo n L m = false := by
  cases h2 : prTo n L m
  · rfl
  · have := (prTo_iff n L m).1 h2 k hm
    rw [h] at this; cases this
def prA (n : Int) (L : List (List Int)) : Bool := decide (L.length ≤ 40) && prTo n L L.length
/-- Whether a set keeps the first k pairs. -/
def kpTo (L : List (List Int)) (s : Nat) : Nat → Bool
  | 0 => true
  | k + 1 => kpTo L s k && (!s.testBit (r1 (L[k]?.getD [])).toNat || s.testBit (r0 (L[k]?.getD [])).toNat)
theorem kpTo_false {L : List (List Int)} {s k : Nat} (h : kpTo L s k = false) : ∀ m, k ≤ m → kpTo L s m = false := by
  intro m hm
  induction m with
  | zero => have : k = 0 := by omega
            subst this; exact h
  | succ m ih =>
    rcases Nat.lt_or_ge k (m + 1) with h1 | h1
    · rw [kpTo, ih (by omega)]; rfl
    · have : k = m + 1 := by omega
      subst this; exact h
theorem pairB_in {n : Int} {r : List Int} (h : pairB n r = true) : r.length = 2 ∧ 0 ≤ r0 r ∧ r0 r < n ∧ 0 ≤ r1 r ∧ r1 r < n ∧ r0 r ≠ r1 r := by
  simp only [pairB, Bool.and_eq_true, decide_eq_true_eq, Bool.not_eq_true', beq_eq_false_iff_ne] at h
  exact ⟨h.1, h.2.1.1.1, h.2.1.1.2, h.2.1.2.1, h.2.1.2.2, h.2.2⟩
theorem prA_in {n : Int} {L : List (List Int)} (h : prA n L = true) : L.length ≤ 40 ∧ ∀ j, j < L.length → pairB n (L[j]?.getD []) = true := by
  simp only [prA, Bool.and_eq_true, decide_eq_true_eq] at h
  exact ⟨h.1, (prTo_iff n L _).1 h.2⟩
attribute [local irreducible] p2 low memB risB
theorem ent_isItem : enters Tryd.prog 90 := enters_of Tryd.func90 (by kernel_rfl) (by kernel_rfl)
set_option maxHeartbeats 4000000 in
theorem arePairs_c (n : Int) (v : Value) (L : List (List Int)) (w : World) (hl : rows w.heap.size w v L) (hs : small2 L) :
    Calls Tryd.prog 55 #[v, .int .i64 n] w fun e w' => e = .returned (.bool (prA n L)) ∧ Below w.heap.size w w' := by
  have HL := hide hl
  have hll := hs.1
  clear hl hs
  by_cases h40 : 40 < L.length
  · have hgt : (40 : Int) < (L.length : Int) := by omega
    have HP := hide (show prA n L = false by unfold prA; rw [decide_eq_false (by omega)]; rfl)
    go_enter Tryd.func55, Tryd.ntmps55
    go_wp2_with (refine wpList_len2 sliceT2 rfl (.tmp _) rfl v rfl w.heap.size L HL.out ?_)
    go_ret
    exact ⟨ret_b HP.out.symm, Below.refl _ _⟩
  · have hgt : ¬ ((40 : Int) < (L.length : Int)) := by omega
    have HP := hide (show prA n L = prTo n L L.length by unfold prA; rw [decide_eq_true (by omega)]; rfl)
    rw [HP.out]
    go_enter Tryd.func55, Tryd.ntmps55
    go_wp2_with (refine wpList_len2 sliceT2 rfl (.tmp _) rfl v rfl w.heap.size L HL.out ?_)
    go_loopw [12] (fun i wr => ∃ k : Nat, k ≤ L.length ∧ i = .int .i64 (k : Int) ∧ Hid (prTo n L k = true) ∧ Hid (Below w.heap.size w wr)) (fun i _ => L.length - (intOf i).toNat)
    case atStart => exact ⟨0, Nat.zero_le _, rfl, rfl, Below.refl _ _⟩
    case round =>
      obtain ⟨k, hk, rfl, HJ, HB⟩ := hrel
      have hsz := HB.out.size
      have HLW := hide ((HL.out.below HB.out (Nat.le_refl _)).mono hsz)
      by_cases hlt : k < L.length
      · have HNX := hide (show prTo n L (k + 1) = (prTo n L k && pairB n (L[k]?.getD [])) from rfl)
        have HFA := hide (fun h => prTo_false (n := n) (L := L) (k := k) h L.length hlt)
        generalize hr : L[k]?.getD [] = r at HNX HFA
        have HR := hide hr
        clear hr
        go_wp2_with (refine wpList_at2 sliceT2 rowS2 rfl (.tmp _) (.tmp _) rfl v rfl _ rfl k rfl wr.heap.size L HLW.out hlt ?_; intro ad u hcell hblk hu; rw [HR.out] at hu; have HU := hide hu; obtain ⟨sa, sc, hsu⟩ := hu.shape; have HSU := hide (show ∃ b c, u = .slice b r.length c from ⟨sa, sc, hsu⟩); clear hu hsu)
        refine wp_region_old (by kernel_rfl) (by kernel_rfl) ?_
        go_big_quiet_step ((first | exact fun _ => rfl | exact fun _ => ⟨rfl, rfl⟩))
        refine q_len sliceT rfl (.tmp _) rfl u rfl r.length HSU.out ?_
        simp only [Act.put, List.setIfInBounds_toArray, List.set_cons_zero, List.set_cons_succ]
        by_cases h2 : r.length = 2
        · have hb2 : ((r.length : Int) != 2) = false := by rw [h2]; rfl
          generalize hx : r[0]?.getD 0 = x
          generalize hy : r[1]?.getD 0 = y
          have HX := hide hx
          have HY := hide hy
          have HPB := hide (show pairB n r = ((decide (0 ≤ x ∧ x < n) && decide (0 ≤ y ∧ y < n)) && !(x == y)) by
            unfold pairB r0 r1; rw [decide_eq_true h2, hx, hy, Bool.true_and])
          clear hx hy
          go_big_quiet_step ((first | exact fun _ => rfl | exact fun _ => ⟨rfl, rfl⟩))
          go_big_quiet_step ((first | exact fun _ => rfl | exact fun _ => ⟨rfl, rfl⟩))
          go_big_quiet_step ((first | exact fun _ => rfl | exact fun _ => ⟨rfl, rfl⟩))
          refine q_at sliceT intS rfl _ _ rfl u rfl _ rfl 0 rfl wr.heap.size r wr HU.out (by omega) ?_
          intro ad0 hcell0 hblk0
          rw [HX.out] at hcell0
          simp only [Act.put, List.setIfInBounds_toArray, List.set_cons_zero, List.set_cons_succ]
          refine q_load_cell rowI rfl (.tmp _) rfl ad0 rfl (.int .i64 x) (fun w' h => (h.cell (by omega)).trans hcell0) ?_
          simp only [Act.put, List.setIfInBounds_toArray, List.set_cons_zero, List.set_cons_succ]
          go_big_quiet_step ((first | exact fun _ => rfl | exact fun _ => ⟨rfl, rfl⟩))
          cases hb0 : decide (0 ≤ x ∧ x < n)
          · have HB0 := hide hb0
            rw [hb0] at HPB
            clear hb0
            refine q_pure rfl 90 ent_isItem _ _ rfl #[.int .i64 x, .int .i64 n] rfl (.bool false) (fun w' _ => by have := isItem_c x n w'; rw [HB0.out] at this; exact this) ?_
            simp only [Act.put, List.setIfInBounds_toArray, List.set_cons_zero, List.set_cons_succ]
            repeat (first | go_big_quiet_skip | go_big_quiet_step ((first | exact fun _ => rfl | exact fun _ => ⟨rfl, rfl⟩)))
            refine wpQuiet_nil ?_
            intro w2 hb2
            have HW2 := hide (HB.out.trans (hb2.mono hsz))
            clear hb2
            go_wp2
            go_ret
            exact ⟨ret_b (by rw [HFA.out (by rw [HPB.out]; rfl)]), HW2.out⟩
          · have HB0 := hide hb0
            rw [hb0] at HPB
            clear hb0
            refine q_pure rfl 90 ent_isItem _ _ rfl #[.int .i64 x, .int .i64 n] rfl (.bool true) (fun w' _ => by have := isItem_c x n w'; rw [HB0.out] at this; exact this) ?_
            simp only [Act.put, List.setIfInBounds_toArray, List.set_cons_zero, List.set_cons_succ]
            go_big_quiet_step ((first | exact fun _ => rfl | exact fun _ => ⟨rfl, rfl⟩))
            go_big_quiet_step ((first | exact fun _ => rfl | exact fun _ => ⟨rfl, rfl⟩))
            go_big_quiet_step ((first | exact fun _ => rfl | exact fun _ => ⟨rfl, rfl⟩))
            go_big_quiet_step ((first | exact fun _ => rfl | exact fun _ => ⟨rfl, rfl⟩))
            refine q_at sliceT intS rfl _ _ rfl u rfl _ rfl 1 rfl wr.heap.size r wr HU.out (by omega) ?_
            intro ad1 hcell1 hblk1
            rw [HY.out] at hcell1
            simp only [Act.put, List.setIfInBounds_toArray, List.set_cons_zero, List.set_cons_succ]
            refine q_load_cell rowI rfl (.tmp _) rfl ad1 rfl (.int .i64 y) (fun w' h => (h.cell (by omega)).trans hcell1) ?_
            simp only [Act.put, List.setIfInBounds_toArray, List.set_cons_zero, List.set_cons_succ]
            go_big_quiet_step ((first | exact fun _ => rfl | exact fun _ => ⟨rfl, rfl⟩))
            cases hb1 : decide (0 ≤ y ∧ y < n)
            · have HB1 := hide hb1
              rw [hb1] at HPB
              clear hb1
              refine q_pure rfl 90 ent_isItem _ _ rfl #[.int .i64 y, .int .i64 n] rfl (.bool false) (fun w' _ => by have := isItem_c y n w'; rw [HB1.out] at this; exact this) ?_
              simp only [Act.put, List.setIfInBounds_toArray, List.set_cons_zero, List.set_cons_succ]
              repeat (first | go_big_quiet_skip | go_big_quiet_step ((first | exact fun _ => rfl | exact fun _ => ⟨rfl, rfl⟩)))
              refine wpQuiet_nil ?_
              intro w2 hb2
              have HW2 := hide (HB.out.trans (hb2.mono hsz))
              clear hb2
              go_wp2
              go_ret
              exact ⟨ret_b (by rw [HFA.out (by rw [HPB.out]; rfl)]), HW2.out⟩
            · have HB1 := hide hb1
              rw [hb1] at HPB
              clear hb1
              refine q_pure rfl 90 ent_isItem _ _ rfl #[.int .i64 y, .int .i64 n] rfl (.bool true) (fun w' _ => by have := isItem_c y n w'; rw [HB1.out] at this; exact this) ?_
              simp only [Act.put, List.setIfInBounds_toArray, List.set_cons_zero, List.set_cons_succ]
              go_big_quiet_step ((first | exact fun _ => rfl | exact fun _ => ⟨rfl, rfl⟩))
              go_big_quiet_step ((first | exact fun _ => rfl | exact fun _ => ⟨rfl, rfl⟩))
              go_big_quiet_step ((first | exact fun _ => rfl | exact fun _ => ⟨rfl, rfl⟩))
              go_big_quiet_step ((first | exact fun _ => rfl | exact fun _ => ⟨rfl, rfl⟩))
              refine q_at sliceT intS rfl _ _ rfl u rfl _ rfl 0 rfl wr.heap.size r wr HU.out (by omega) ?_
              intro ad0 hcell0 hblk0
              rw [HX.out] at hcell0
              simp only [Act.put, List.setIfInBounds_toArray, List.set_cons_zero, List.set_cons_succ]
              refine q_load_cell rowI rfl (.tmp _) rfl ad0 rfl (.int .i64 x) (fun w' h => (h.cell (by omega)).trans hcell0) ?_
              simp only [Act.put, List.setIfInBounds_toArray, List.set_cons_zero, List.set_cons_succ]
              go_big_quiet_step ((first | exact fun _ => rfl | exact fun _ => ⟨rfl, rfl⟩))
              refine q_at sliceT intS rfl _ _ rfl u rfl _ rfl 1 rfl wr.heap.size r wr HU.out (by omega) ?_
              intro ad1 hcell1 hblk1
              rw [HY.out] at hcell1
              simp only [Act.put, List.setIfInBounds_toArray, List.set_cons_zero, List.set_cons_succ]
              refine q_load_cell rowI rfl (.tmp _) rfl ad1 rfl (.int .i64 y) (fun w' h => (h.cell (by omega)).trans hcell1) ?_
              simp only [Act.put, List.setIfInBounds_toArray, List.set_cons_zero, List.set_cons_succ]
              cases hxy : (x == y)
              · rw [hxy] at HPB
                repeat (first | go_big_quiet_skip | go_big_quiet_step ((first | exact fun _ => rfl | exact fun _ => ⟨rfl, rfl⟩)))
                refine wpQuiet_nil ?_
                intro w2 hb2
                have HW2 := hide (HB.out.trans (hb2.mono hsz))
                clear hb2
                go_wp2
                go_roundw
                case rel => exact ⟨k + 1, by omega, by go_num, hide (by rw [HNX.out, HJ.out, HPB.out]; rfl), HW2⟩
                case measure => (simp [intOf] <;> omega)
              · rw [hxy] at HPB
                repeat (first | go_big_quiet_skip | go_big_quiet_step ((first | exact fun _ => rfl | exact fun _ => ⟨rfl, rfl⟩)))
                refine wpQuiet_nil ?_
                intro w2 hb2
                have HW2 := hide (HB.out.trans (hb2.mono hsz))
                clear hb2
                go_wp2
                go_ret
                exact ⟨ret_b (by rw [HFA.out (by rw [HPB.out]; rfl)]), HW2.out⟩
        · have hb2 : ((r.length : Int) != 2) = true := by simp; omega
          have HPB := hide (show pairB n r = false by simp [pairB, h2])
          repeat (first | go_big_quiet_skip | go_big_quiet_step ((first | exact fun _ => rfl | exact fun _ => ⟨rfl, rfl⟩)))
          refine wpQuiet_nil ?_
          intro w2 hb2
          have HW2 := hide (HB.out.trans (hb2.mono hsz))
          clear hb2
          go_wp2
          go_ret
          exact ⟨ret_b (by rw [HFA.out HPB.out]), HW2.out⟩
      · have HK := hide (show k = L.length by omega)
        have hlt' : ¬ ((k : Int) < (L.length : Int)) := by omega
        go_wp2
        go_ret
        exact ⟨ret_b (by rw [← HK.out, HJ.out]), HB.out⟩
set_option maxHeartbeats 2000000 in
theorem keepsPairs_c (n : Int) (s : Nat) (v : Value) (L : List (List Int)) (w : World) (hl : rows w.heap.size w v L) (hA : prA n L = true) (h7 : n ≤ 7) (hs : s < 128) :
    Calls Tryd.prog 93 #[.int .i64 (s : Int), v] w fun e w' => e = .returned (.bool (kpTo L s L.length)) ∧ w = w' := by
  have HL := hide hl
  have hll := (prA_in hA).1
  have HPR := hide (fun j hj => pairB_in ((prA_in hA).2 j hj))
  have HHA : Hid (∀ (k : Nat) (w1 : World), k < 7 → Calls Tryd.prog 86 #[.int .i64 (s : Int), .int .i64 (k : Int)] w1 fun e w' => e = .returned (.bool (s.testBit k)) ∧ w1 = w') := hide fun k w1 hk => by
    have := has_c (s : Int) (k : Int) w1 (by omega) (by omega) (by omega) (by omega)
    rw [Int.toNat_natCast, Int.toNat_natCast] at this
    exact this
  clear hl hA
  go_enter Tryd.func93, Tryd.ntmps93
  go_wp2_with (refine wpList_len2 sliceT2 rfl (.tmp _) rfl v rfl w.heap.size L HL.out ?_)
  go_loop [9] (fun i => ∃ k : Nat, k ≤ L.length ∧ i = .int .i64 (k : Int) ∧ Hid (kpTo L s k = true)) (fun i => L.length - (intOf i).toNat)
  case atStart => exact ⟨0, Nat.zero_le _, rfl, rfl⟩
  case round =>
    obtain ⟨k, hk, rfl, HJ⟩ := hrel
    by_cases hlt : k < L.length
    · obtain ⟨g1, g2, g3, g4, g5, g6⟩ := HPR.out k hlt
      have HNX := hide (show kpTo L s (k + 1) = (kpTo L s k && (!s.testBit (r1 (L[k]?.getD [])).toNat || s.testBit (r0 (L[k]?.getD [])).toNat)) from rfl)
      have HFA := hide (fun h => kpTo_false (L := L) (s := s) (k := k + 1) h L.length hlt)
      generalize hr : L[k]?.getD [] = r at g1 g2 g3 g4 g5 g6 HNX
      have HR := hide hr
      obtain ⟨x, hx⟩ := Int.eq_ofNat_of_zero_le g2
      obtain ⟨y, hy⟩ := Int.eq_ofNat_of_zero_le g4
      rw [hx, hy, Int.toNat_natCast, Int.toNat_natCast] at HNX
      have HX := hide (show r[0]?.getD 0 = (x : Int) from hx)
      have HY := hide (show r[1]?.getD 0 = (y : Int) from hy)
      have hx7 : x < 7 := by omega
      have hy7 : y < 7 := by omega
      have HHX := hide (fun w1 => HHA.out x w1 hx7)
      have HHY := hide (fun w1 => HHA.out y w1 hy7)
      clear hr hx hy g2 g3 g4 g5 g6
      cases hby : s.testBit y
      · rw [hby] at HNX HHY
        clear hby
        go_wp2_with (first
          | (refine wpList_at2 sliceT2 rowS2 rfl (.tmp 7) (.tmp _) rfl v rfl _ rfl k rfl w.heap.size L HL.out hlt ?_; intro ad u hcell hblk hu; rw [HR.out] at hu; have HU := hide hu; clear hu)
          | (refine wpList_at sliceT intS rfl (.tmp 14) _ rfl u rfl 1 rfl w.heap.size r HU.out (by omega) ?_; intro ad1 hcell1 hblk1; rw [HY.out] at hcell1)
          | (go_at_call 86; refine (HHY.out _).mono ?_; rintro e w3 ⟨rfl, rfl⟩))
        go_round
        case rel => exact ⟨k + 1, by omega, by go_num, hide (by rw [HNX.out, HJ.out]; rfl)⟩
        case measure => (simp [intOf] <;> omega)
      · rw [hby] at HNX HHY
        clear hby
        cases hbx : s.testBit x
        · rw [hbx] at HNX HHX
          clear hbx
          go_wp2_with (first
            | (refine wpList_at2 sliceT2 rowS2 rfl (.tmp 7) (.tmp _) rfl v rfl _ rfl k rfl w.heap.size L HL.out hlt ?_; intro ad u hcell hblk hu; rw [HR.out] at hu; have HU := hide hu; clear hu)
            | (refine wpList_at sliceT intS rfl (.tmp 14) _ rfl u rfl 1 rfl w.heap.size r HU.out (by omega) ?_; intro ad1 hcell1 hblk1; rw [HY.out] at hcell1)
            | (refine wpList_at sliceT intS rfl (.tmp 20) _ rfl u rfl 0 rfl w.heap.size r HU.out (by omega) ?_; intro ad0 hcell0 hblk0; rw [HX.out] at hcell0)
            | (go_at_call 86; refine (HHY.out _).mono ?_; rintro e w3 ⟨rfl, rfl⟩; clear HHY)
            | (go_at_call 86; refine (HHX.out _).mono ?_; rintro e w3 ⟨rfl, rfl⟩))
          go_ret
          exact ⟨ret_b (by rw [HFA.out (by rw [HNX.out]; simp)]), rfl⟩
        · rw [hbx] at HNX HHX
          clear hbx
          go_wp2_with (first
            | (refine wpList_at2 sliceT2 rowS2 rfl (.tmp 7) (.tmp _) rfl v rfl _ rfl k rfl w.heap.size L HL.out hlt ?_; intro ad u hcell hblk hu; rw [HR.out] at hu; have HU := hide hu; clear hu)
            | (refine wpList_at sliceT intS rfl (.tmp 14) _ rfl u rfl 1 rfl w.heap.size r HU.out (by omega) ?_; intro ad1 hcell1 hblk1; rw [HY.out] at hcell1)
            | (refine wpList_at sliceT intS rfl (.tmp 20) _ rfl u rfl 0 rfl w.heap.size r HU.out (by omega) ?_; intro ad0 hcell0 hblk0; rw [HX.out] at hcell0)
            | (go_at_call 86; refine (HHY.out _).mono ?_; rintro e w3 ⟨rfl, rfl⟩; clear HHY)
            | (go_at_call 86; refine (HHX.out _).mono ?_; rintro e w3 ⟨rfl, rfl⟩))
          go_round
          case rel => exact ⟨k + 1, by omega, by go_num, hide (by rw [HNX.out, HJ.out]; rfl)⟩
          case measure => (simp [intOf] <;> omega)
    · have HK := hide (show k = L.length by omega)
      have hlt' : ¬ ((k : Int) < (L.length : Int)) := by omega
      go_wp2
      go_ret
      exact ⟨ret_b (by rw [← HK.out, HJ.out]), rfl⟩
end Go.Proofs.YtblglkgmnaklbaaDoor
