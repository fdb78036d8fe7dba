/- Contracts: a net with a set of its points: neighbours that are left, whether what is left is joined (the program's). -/
import Derived.Test.YtonimjpfaalniaaDoorNc
import Derived.Test.YtonimjpfaalniaaDoorCnt
import Derived.Test.YtonimjpfaalniaaDoorBx
namespace Go.Proofs.YtonimjpfaalniaaDoor
open Go.RowKit
set_option maxRecDepth 100000
theorem rowNq : (Tryd.prog.underlying 62).map TypeDesc.isRow = some true := by kernel_rfl
theorem sizeNq : (Tryd.prog.info? 62).map (·.size) = some 1 := by kernel_rfl
theorem rowSet : (Tryd.prog.underlying 95).map TypeDesc.isRow = some false := by kernel_rfl
theorem ent_neighbours : enters Tryd.prog 186 := enters_of Tryd.func186 (by kernel_rfl) (by kernel_rfl)
/-- The points that are reached behind the first j of those that were reached. -/
def RdIn (l : List Int) (s x j y : Nat) : Prop := ∀ q, y.testBit q = true ↔ x.testBit q = true ∨ ∃ m, m < j ∧ (nth l (nth (itemsL x) m) &&& s).testBit q = true
theorem RdIn.start (l : List Int) (s x : Nat) : RdIn l s x 0 x := by
  intro q
  constructor
  · exact .inl
  · rintro (h | ⟨m, hm, _⟩)
    · exact h
    · omega
theorem RdIn.next {l : List Int} {s x j y : Nat} (h : RdIn l s x j y) : RdIn l s x (j + 1) (y ||| (nth l (nth (itemsL x) j) &&& s)) := by
  intro q
  rw [Nat.testBit_or, Bool.or_eq_true, h q]
  constructor
  · rintro ((h | ⟨m, hm, h⟩) | h)
    · exact .inl h
    · exact .inr ⟨m, by omega, h⟩
    · exact .inr ⟨j, by omega, h⟩
  · rintro (h | ⟨m, hm, h⟩)
    · exact .inl (.inl h)
    · rcases Nat.lt_or_ge m j with h' | h'
      · exact .inl (.inr ⟨m, h', h⟩)
      · rw [show m = j by omega] at h; exact .inr h
theorem RdIn.done {l : List Int} {s x y : Nat} (hx : x < 128) (h : RdIn l s x (itemsL x).length y) : y = rd l s x := by
  apply Nat.eq_of_testBit_eq
  intro q
  rw [Bool.eq_iff_iff, h q, rd_bit]
  constructor
  · rintro (h | ⟨m, hm, h⟩)
    · exact .inl h
    · obtain ⟨_, i2, i3⟩ := item_at hx hm
      rw [Nat.testBit_and, Bool.and_eq_true] at h
      exact .inr ⟨_, i2, i3, h.1, h.2⟩
  · rintro (h | ⟨p, hp, h1, h2, h3⟩)
    · exact .inl h
    · obtain ⟨m, hm, e⟩ := (items_mem hx).1 h1
      exact .inr ⟨m, hm, by rw [e, Nat.testBit_and, h2, h3]; rfl⟩
theorem rdTo_next (l : List Int) (s x k : Nat) : rdTo l s x (k + 1) = rd l s (rdTo l s x k) := rfl
theorem sub_lt {a n : Nat} {s : Nat} (hs : s < 2 ^ n) (h : sub a s) {i : Nat} (hi : a.testBit i = true) : i < n := bit_lt hs (h i hi)
theorem jnB_zero (l : List Int) : jnB l 0 = true := rfl
theorem jnB_rounds {l : List Int} {s : Nat} (hs : s < 128) (h0 : s ≠ 0) : jnB l s = (rdTo l s (p2 (tzN s)) (pc s) == s) := by
  unfold jnB
  rw [Bool.eq_iff_iff, Bool.or_eq_true, beq_iff_eq, beq_iff_eq, beq_iff_eq, reach_rounds hs (tzN_bit s hs h0)]
  constructor
  · rintro (h | h)
    · exact absurd h h0
    · exact h
  · exact .inr
attribute [local irreducible] p2 low memB risB
theorem by_tab {T : TypeId} {v u : Value} {w wr : World} (h : Below (w.heap.size + 1) (w.alloc (.cells #[v, u] T)) wr) (hT : tab w) : tab wr := hT.below (by_below h)
set_option maxHeartbeats 1000000 in
theorem neighboursLeft_c (v : Value) (l : List Int) (s p : Nat) (w : World) (hl : ints w.heap.size w v l) (hp : p < l.length) (hx : l[p]?.getD 0 = (nth l p : Int)) (hx8 : nth l p < 128) (hs : s < 128) :
    Calls Tryd.prog 189 #[.agg #[v, .int .i64 (s : Int)], .int .i64 (p : Int)] w fun e w' => e = .returned (.int .i64 ((nth l p &&& s : Nat) : Int)) ∧ Below w.heap.size w w' := by
  have HL := hide hl
  have hand := i64_and (nth l p) s (by omega) (by omega)
  have HNB := hide (fun w1 h1 => neighbours_c v l p w1 h1 hp hx)
  clear hl hx
  generalize nth l p = x at *
  have HA := hide hand
  clear hand
  have HC0 := hide (fun w' (h : Below (w.alloc (.cells #[v, .int .i64 (s : Int)] 163)).heap.size (w.alloc (.cells #[v, .int .i64 (s : Int)] 163)) w') => by_cell0 (h.mono (by simp)))
  have HC1 := hide (fun w' (h : Below (w.alloc (.cells #[v, .int .i64 (s : Int)] 163)).heap.size (w.alloc (.cells #[v, .int .i64 (s : Int)] 163)) w') => by_cell1 (h.mono (by simp)))
  go_enter Tryd.func189, Tryd.ntmps189
  go_wp2_with fail
  refine wp_region_old (by kernel_rfl) (by kernel_rfl) ?_
  go_big_quiet_step ((first | exact fun _ => rfl | exact fun _ => ⟨rfl, rfl⟩))
  refine q_load_one rowNq sizeNq rfl (.tmp _) rfl _ _ rfl v HC0.out ?_
  simp only [Act.put, List.setIfInBounds_toArray, List.set_cons_zero, List.set_cons_succ]
  go_big_quiet_step ((first | exact fun _ => rfl | exact fun _ => ⟨rfl, rfl⟩))
  refine q_belowN rfl 186 ent_neighbours _ _ rfl #[.agg #[v], .int .i64 (p : Int)] rfl (.int .i64 (x : Int)) (fun w' h => HNB.out w' (by_full (h.mono (by simp)) HL.out)) ?_
  simp only [Act.put, List.setIfInBounds_toArray, List.set_cons_zero, List.set_cons_succ]
  go_big_quiet_step ((first | exact fun _ => rfl | exact fun _ => ⟨rfl, rfl⟩))
  refine q_load_cell rowSet rfl (.tmp _) rfl _ rfl (.int .i64 (s : Int)) HC1.out ?_
  simp only [Act.put, List.setIfInBounds_toArray, List.set_cons_zero, List.set_cons_succ]
  have hand := HA.out
  go_big_quiet_step ((first | exact fun _ => rfl | exact fun _ => ⟨rfl, rfl⟩))
  go_big_quiet_step ((first | exact fun _ => rfl | exact fun _ => ⟨rfl, rfl⟩))
  refine wpQuiet_nil ?_
  intro w2 hb2
  have HB2 := hide (by_to (by_start 163 v (.int .i64 (s : Int)) w) hb2)
  clear hb2
  go_wp2
  go_ret
  exact ⟨rfl, by_below HB2.out⟩

set_option maxHeartbeats 2000000 in
theorem isJoined_c (v : Value) (l : List Int) (s : Nat) (w : World) (hl : ints w.heap.size w v l) (hA : neA l = true) (hs : s < 2 ^ l.length) (hT : tab w) :
    Calls Tryd.prog 159 #[.agg #[v, .int .i64 (s : Int)]] w fun e w' => e = .returned (.bool (jnB l s)) ∧ Below w.heap.size w w' := by
  have h7 := (neA_in hA).1.2
  have hs8 : s < 128 := by have := p2_le l.length 7 h7; omega
  have HSN := hide hs
  have HL := hide hl
  have HT := hide hT
  have H128 := hide (fun p => neA_128 hA p)
  have HCX := hide (fun p hp => neA_cast hA p hp)
  have HB0 := hide (by_start 163 v (.int .i64 (s : Int)) w)
  clear hl hT hA hs
  by_cases h0 : s = 0
  · subst h0
    have HJ := hide (jnB_zero l)
    go_enter Tryd.func159, Tryd.ntmps159
    go_wp2
    go_ret
    exact ⟨ret_b HJ.out.symm, by_below HB0.out⟩
  · have hne : ((s : Int) == 0) = false := by rw [beq_eq_false_iff_ne]; omega
    have HRR := hide (jnB_rounds (l := l) hs8 h0)
    have hf7 := tzN_lt s hs8
    have hpc := pc_le s
    have HS0 := hide h0
    have hp128 := p2_lt128 (tzN s) hf7
    have HXS := hide (fun k => rdTo_min (l := l) (s := s) (X := s) (fun _ _ _ _ h => h) (p2_sub (tzN_bit s hs8 h0)) k)
    have HX8 := hide (fun k => rdTo_lt (l := l) (s := s) hp128 hs8 k)
    clear h0
    go_enter Tryd.func159, Tryd.ntmps159
    go_wp2_with (first
      | (go_at_call 164; refine (first_c s _ hs8 HS0.out (by_tab HB0.out HT.out)).mono ?_; rintro e w1 ⟨rfl, rfl⟩)
      | (go_at_call 114; refine (single_c _ _ (by omega) (by omega)).mono ?_; rw [Int.toNat_natCast]; rintro e w1 ⟨rfl, rfl⟩)
      | (go_at_call 188; refine (size_c _ _ (by omega) (by omega)).mono ?_; rw [Int.toNat_natCast]; rintro e w1 ⟨rfl, rfl⟩))
    generalize tzN s = f at *
    go_loopw [3, 16] (fun o i wr => ∃ k : Nat, k ≤ pc s ∧ i = .int .i64 (k : Int) ∧ o = .int .i64 (rdTo l s (p2 f) k : Int) ∧ Hid (Below (w.heap.size + 1) (w.alloc (.cells #[v, .int .i64 (s : Int)] 163)) wr)) (fun _ i _ => pc s - (intOf i).toNat)
    case atStart => exact ⟨0, Nat.zero_le _, rfl, rfl, HB0⟩
    case round =>
      obtain ⟨k, hk, rfl, rfl, HB⟩ := hrel
      have hc0 := by_cell0 HB.out
      have hc1 := by_cell1 HB.out
      by_cases hlt : k < pc s
      · have HNX := hide (rdTo_next l s (p2 f) k)
        have HSB := hide (HXS.out k)
        have hx8 := HX8.out k
        generalize rdTo l s (p2 f) k = x at *
        have HIT := hide (fun m hm => item_at (S := x) (m := m) hx8 hm)
        have HDN := hide (fun y h => RdIn.done (l := l) (s := s) (x := x) (y := y) hx8 h)
        have h7l := items_short x
        go_wp2_with (first
          | (go_at_call 131; refine (items_c x _ hx8 (by_tab HB.out HT.out)).mono ?_; rintro e w6 ⟨v6, rfl, ho6, hb6⟩; have HB6 := hide (by_to HB.out hb6); have HI6 := hide ho6.ints; clear hb6 ho6)
          | (refine wpList_len sliceT rfl (.tmp _) rfl v6 rfl w6.heap.size (itemsL x) HI6.out ?_))
        clear hc0 hc1
        go_loopw [3, 21] (fun o i ws => ∃ j : Nat, j ≤ (itemsL x).length ∧ i = .int .i64 (j : Int) ∧ Hid (Below w6.heap.size w6 ws) ∧ ∃ y : Nat, o = .int .i64 (y : Int) ∧ y < 128 ∧ Hid (RdIn l s x j y)) (fun _ i _ => (itemsL x).length - (intOf i).toNat)
        case atStart => exact ⟨0, Nat.zero_le _, rfl, Below.refl _ _, x, rfl, hx8, RdIn.start l s x⟩
        case round =>
          obtain ⟨j, hj, rfl, HBI, y, rfl, hy8, HY⟩ := hrel
          have HBW := hide (by_to HB6.out HBI.out)
          have hc0 := by_cell0 HBW.out
          have hc1 := by_cell1 HBW.out
          have HIW := hide (HI6.out.below HBI.out (Nat.le_refl _))
          by_cases hlj : j < (itemsL x).length
          · obtain ⟨i1, i2, i3⟩ := HIT.out j hlj
            have HNY := hide HY.out.next
            have hol := sub_lt HSN.out HSB.out i3
            have HX := hide i1
            have HNB2 := hide (fun w1 h1 => neighboursLeft_c v l s (nth (itemsL x) j) w1 h1 hol (HCX.out _ hol) (H128.out _) hs8)
            have hz8 : nth l (nth (itemsL x) j) &&& s < 128 := Nat.lt_of_le_of_lt Nat.and_le_right hs8
            clear i1 i3 HY
            generalize nth (itemsL x) j = o at *
            generalize nth l o &&& s = z at *
            have hor := i64_or y z (by omega) (by omega)
            have hyz := or_lt128 y z hy8 hz8
            go_wp2_with (first
              | (refine wpList_at sliceT intS rfl (.tmp _) (.tmp _) rfl v6 rfl j rfl w6.heap.size (itemsL x) HIW.out hlj ?_; intro ad hcell hblk; rw [HX.out] at hcell)
              | (go_at_call 189; refine (HNB2.out _ (by_full HBW.out HL.out)).mono ?_; rintro e w7 ⟨rfl, hb7⟩; have hz7 := HBI.out.size; have HB7 := hide (HBI.out.trans (hb7.mono hz7)); clear hb7))
            go_roundw
            case rel => exact ⟨j + 1, by omega, by go_num, HB7, _, rfl, hyz, HNY⟩
            case measure => simp [intOf]; omega
          · have HE := hide (HDN.out y (by rw [← show j = (itemsL x).length by omega]; exact HY.out))
            have hlj' : ¬ ((j : Int) < ((itemsL x).length : Int)) := by omega
            go_wp2
            go_roundw
            case rel => exact ⟨k + 1, by omega, by go_num, by rw [HNX.out, HE.out], HBW⟩
            case measure => simp [intOf]; omega
      · have HKE := hide (show k = pc s by omega)
        have hlt' : ¬ ((k : Int) < (pc s : Int)) := by omega
        have HYES := hide (show jnB l s = (rdTo l s (p2 f) k == s) by rw [HRR.out, HKE.out])
        go_wp2
        go_ret
        refine ⟨ret_b ?_, by_below HB.out⟩
        rw [HYES.out, Bool.eq_iff_iff]
        simp only [beq_iff_eq]
        omega
end Go.Proofs.YtonimjpfaalniaaDoor
