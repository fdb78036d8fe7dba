/- Contracts: simplicial points: the program's and the specification's tests; SimplicialOf, both. -/
import Derived.Test.YtonimjpfaalniaaDoorNh
namespace Go.Proofs.YtonimjpfaalniaaDoor
open Go.RowKit
set_option maxRecDepth 100000
set_option linter.unusedSimpArgs false
theorem ent_nleft : enters Tryd.prog 189 := enters_of Tryd.func189 (by kernel_rfl) (by kernel_rfl)
theorem ent_withoutS : enters Tryd.prog 203 := enters_of Tryd.func203 (by kernel_rfl) (by kernel_rfl)
theorem ent_withinS : enters Tryd.prog 145 := enters_of Tryd.func145 (by kernel_rfl) (by kernel_rfl)
theorem ent_simpl1 : enters Tryd.prog 192 := enters_of Tryd.func192 (by kernel_rfl) (by kernel_rfl)
theorem sizeShl : (Tryd.prog.info? 163).map (·.size) = some 2 := by kernel_rfl
theorem rowShl : (Tryd.prog.underlying 163).map TypeDesc.isRow = some true := by kernel_rfl
/-- Of the first k neighbours each one is a neighbour of the others. -/
def SiTo (l : List Int) (x : Nat) (k : Nat) : Prop := ∀ j, j < k → x.testBit j = true → andNot x (nth l j ||| p2 j) = 0
theorem SiTo.skip {l : List Int} {x k : Nat} (h : SiTo l x k) (hb : x.testBit k = false) : SiTo l x (k + 1) := by
  intro j hj hx
  rcases Nat.lt_or_ge j k with h' | h'
  · exact h j h' hx
  · rw [show j = k by omega, hb] at hx; cases hx
theorem SiTo.take {l : List Int} {x k : Nat} (h : SiTo l x k) (h0 : andNot x (nth l k ||| p2 k) = 0) : SiTo l x (k + 1) := by
  intro j hj hx
  rcases Nat.lt_or_ge j k with h' | h'
  · exact h j h' hx
  · rw [show j = k by omega]; exact h0
theorem SiTo.done {l : List Int} {s i n : Nat} (hx : nth l i < 2 ^ n) (h : SiTo l (nth l i &&& s) n) : simB l s i = true := by
  rw [simB_iff]
  intro j _ hb
  refine h j (bit_lt hx ?_) hb
  rw [Nat.testBit_and, Bool.and_eq_true] at hb
  exact hb.1
theorem SiTo.bad {l : List Int} {s i k : Nat} (hk : k < 7) (hb : (nth l i &&& s).testBit k = true) (h : ¬ andNot (nth l i &&& s) (nth l k ||| p2 k) = 0) : simB l s i = false := by
  cases e : simB l s i
  · rfl
  · rw [simB_iff] at e
    exact absurd (e k hk hb) h
theorem SiTo.items {l : List Int} {x : Nat} (hx : x < 128) (h : ∀ m, m < (itemsL x).length → andNot x (nth l (nth (itemsL x) m) ||| p2 (nth (itemsL x) m)) = 0) : ∀ n, SiTo l x n := by
  intro n j _ hb
  obtain ⟨m, hm, e⟩ := (items_mem hx).1 hb
  have := h m hm
  rw [e] at this
  exact this
theorem an_an (x p q : Nat) : (andNot (andNot x p) q == 0) = (andNot x (q ||| p) == 0) := by rw [andNot_andNot]
attribute [local irreducible] p2 low memB risB
set_option maxHeartbeats 2000000 in
theorem isSimplicial_c (v : Value) (l : List Int) (s p : Nat) (w : World) (hl : ints w.heap.size w v l) (hA : neA l = true) (hs : s < 128) (hp : p < l.length) (hT : tab w) :
    Calls Tryd.prog 193 #[.agg #[v, .int .i64 (s : Int)], .int .i64 (p : Int)] w fun e w' => e = .returned (.bool (simB l s p)) ∧ Below w.heap.size w w' := by
  have h7 := (neA_in hA).1.2
  have HL := hide hl
  have HT := hide hT
  have H128 := hide (fun p => neA_128 hA p)
  have HCX := hide (fun p hp => neA_cast hA p hp)
  have HLT := hide (fun p => neA_lt hA p)
  have HB0 := hide (by_start 163 v (.int .i64 (s : Int)) w)
  have HNL := hide (fun w1 h1 => neighboursLeft_c v l s p w1 h1 hp (neA_cast hA p hp) (neA_128 hA p) hs)
  have hx8 : nth l p &&& s < 128 := Nat.lt_of_le_of_lt Nat.and_le_right hs
  have HDONE := hide (fun h => SiTo.done (l := l) (s := s) (i := p) (n := l.length) (neA_lt hA p) h)
  have HBAD := hide (fun k h1 h2 h3 => SiTo.bad (l := l) (s := s) (i := p) (k := k) h1 h2 h3)
  have HXL := hide (fun j (h : (nth l p &&& s).testBit j = true) => show j < l.length by rw [Nat.testBit_and, Bool.and_eq_true] at h; exact bit_lt (neA_lt hA p) h.1)
  clear hl hT hA
  generalize nth l p &&& s = x at *
  have HIT := hide (fun m hm => item_at (S := x) (m := m) hx8 hm)
  have h7l := items_short x
  have HSI := hide (fun h => SiTo.items (l := l) (x := x) hx8 h l.length)
  go_enter Tryd.func193, Tryd.ntmps193
  go_wp2_with (first
    | (go_at_call 189; refine (HNL.out _ (by_full HB0.out HL.out)).mono ?_; rintro e w5 ⟨rfl, hb5⟩; have HB5 := hide (by_to HB0.out hb5); clear hb5)
    | (go_at_call 131; refine (items_c x _ hx8 (by_tab HB5.out HT.out)).mono ?_; rintro e w6 ⟨v6, rfl, ho6, hb6⟩; have HB6 := hide (by_to HB5.out hb6); have HI6 := hide ho6.ints; clear hb6 ho6)
    | (refine wpList_len sliceT rfl (.tmp _) rfl v6 rfl w6.heap.size (itemsL x) HI6.out ?_))
  go_loopw [14] (fun i ws => ∃ j : Nat, j ≤ (itemsL x).length ∧ i = .int .i64 (j : Int) ∧ Hid (∀ m, m < j → andNot x (nth l (nth (itemsL x) m) ||| p2 (nth (itemsL x) m)) = 0) ∧ Hid (Below w6.heap.size w6 ws)) (fun i _ => (itemsL x).length - (intOf i).toNat)
  case atStart => exact ⟨0, Nat.zero_le _, rfl, fun m hm => by omega, Below.refl _ _⟩
  case round =>
    obtain ⟨j, hj, rfl, HK, HBI⟩ := hrel
    have HBW := hide (by_to HB6.out HBI.out)
    have HIW := hide (HI6.out.below HBI.out (Nat.le_refl _))
    by_cases hlj : j < (itemsL x).length
    · obtain ⟨i1, i2, i3⟩ := HIT.out j hlj
      have hol := HXL.out _ i3
      have HX := hide i1
      have HLAST := hide (fun (h : andNot x (nth l (nth (itemsL x) j) ||| p2 (nth (itemsL x) j)) = 0) m (hm : m < j + 1) => show andNot x (nth l (nth (itemsL x) m) ||| p2 (nth (itemsL x) m)) = 0 by
        rcases Nat.lt_or_ge m j with h' | h'
        · exact HK.out m h'
        · rw [show m = j by omega]; exact h)
      have HBX := hide (fun h => HBAD.out (nth (itemsL x) j) i2 i3 h)
      have HNB := hide (fun w1 h1 => neighbours_c v l (nth (itemsL x) j) w1 h1 hol (HCX.out _ hol))
      have ho8 := H128.out (nth (itemsL x) j)
      have HAA := hide (an_an x (p2 (nth (itemsL x) j)) (nth l (nth (itemsL x) j)))
      clear i1 i3
      generalize nth (itemsL x) j = o at *
      generalize nth l o = t at *
      have hxo := andNot_lt128 x (p2 o) hx8
      cases hz : (andNot x (t ||| p2 o) == 0)
      all_goals
        have HZ := hide (HAA.out.trans hz)
        have HZ2 := hide hz
        clear hz
        go_wp2_with (refine wpList_at sliceT intS rfl (.tmp _) (.tmp _) rfl v6 rfl j rfl w6.heap.size (itemsL x) HIW.out hlj ?_; intro ad hcell hblk; rw [HX.out] at hcell)
        refine wp_region_old (by kernel_rfl) (by kernel_rfl) ?_
        go_big_quiet_step ((first | exact fun _ => rfl | exact fun _ => ⟨rfl, rfl⟩))
        go_big_quiet_step ((first | exact fun _ => rfl | exact fun _ => ⟨rfl, rfl⟩))
        refine q_pure rfl 203 ent_withoutS _ _ rfl #[.int .i64 (x : Int), .int .i64 (o : Int)] rfl (.int .i64 ((andNot x (p2 o) : Nat) : Int)) (fun w' _ => by have := without_c (x : Int) (o : Int) w' (by omega) (by omega) (by omega) (by omega); rw [Int.toNat_natCast, Int.toNat_natCast] at this; exact this) ?_
        simp only [Act.put, List.setIfInBounds_toArray, List.set_cons_zero, List.set_cons_succ]
        go_big_quiet_step ((first | exact fun _ => rfl | exact fun _ => ⟨rfl, rfl⟩))
        refine q_load_one rowNq sizeNq rfl (.tmp _) rfl _ _ rfl v (fun w' h => by_cell0 (by_to HBW.out h)) ?_
        simp only [Act.put, List.setIfInBounds_toArray, List.set_cons_zero, List.set_cons_succ]
        go_big_quiet_step ((first | exact fun _ => rfl | exact fun _ => ⟨rfl, rfl⟩))
        refine q_belowN rfl 186 ent_neighbours _ _ rfl #[.agg #[v], .int .i64 (o : Int)] rfl (.int .i64 (t : Int)) (fun w' h => HNB.out w' (by_full (by_to HBW.out h) HL.out)) ?_
        simp only [Act.put, List.setIfInBounds_toArray, List.set_cons_zero, List.set_cons_succ]
        refine q_pure rfl 145 ent_withinS _ _ rfl #[.int .i64 ((andNot x (p2 o) : Nat) : Int), .int .i64 (t : Int)] rfl (.bool (andNot (andNot x (p2 o)) t == 0)) (fun w' _ => by have := within_c ((andNot x (p2 o) : Nat) : Int) (t : Int) w' (by omega) (by omega) (by omega); rw [Int.toNat_natCast, Int.toNat_natCast] at this; exact this) ?_
        rw [HZ.out]
        simp only [Act.put, List.setIfInBounds_toArray, List.set_cons_zero, List.set_cons_succ]
        repeat (first | go_big_quiet_skip | go_big_quiet_step ((first | exact fun _ => rfl | exact fun _ => ⟨rfl, rfl⟩)))
        refine wpQuiet_nil ?_
        intro w7 hb7
        have hz7 := HBI.out.size
        have HB7 := hide (HBI.out.trans (hb7.mono hz7))
        clear hb7
        go_wp2
      · have HNO := hide (HBX.out (by have := HZ2.out; rw [beq_eq_false_iff_ne] at this; exact this))
        go_ret
        exact ⟨ret_b HNO.out.symm, by_below (by_to HB6.out HB7.out)⟩
      · have HYES := hide (HLAST.out (by have := HZ2.out; rw [beq_iff_eq] at this; exact this))
        go_roundw
        case rel => exact ⟨j + 1, by omega, by go_num, HYES, HB7⟩
        case measure => simp [intOf]; omega
    · have HYES := hide (HDONE.out (HSI.out (fun m hm => HK.out m (by omega))))
      have hlj' : ¬ ((j : Int) < ((itemsL x).length : Int)) := by omega
      go_wp2
      go_ret
      exact ⟨ret_b HYES.out.symm, by_below HBW.out⟩

/-- The closure of simplicial. -/
theorem simplicial1_c (v : Value) (l : List Int) (s p g : Nat) (w : World) (hl : ints w.heap.size w v l) (hA : neA l = true) (hs : s < 128) (hp : p < l.length) (hT : tab w)
    (hc0 : w.cell? ⟨g, 0, none⟩ = some v) (hc1 : w.cell? ⟨g, 1, none⟩ = some (.int .i64 (s : Int))) :
    Calls Tryd.prog 192 #[.int .i64 (p : Int), .pointer (some ⟨g, 0, none⟩)] w fun e w' => e = .returned (.bool (s.testBit p && simB l s p)) ∧ Below w.heap.size w w' := by
  have h7 := (neA_in hA).1.2
  have HC := hide (isSimplicial_c v l s p w hl hA hs hp hT)
  clear hl hT hA
  cases hb : s.testBit p
  all_goals
    have HB := hide hb
    clear hb
    go_enter Tryd.func192, Tryd.ntmps192
    go_wp2_with (first
      | (go_at_call 135; refine (has_c _ _ _ (by omega) (by omega) (by omega) (by omega)).mono ?_; rw [Int.toNat_natCast, Int.toNat_natCast, HB.out]; rintro e w8 ⟨rfl, rfl⟩)
      | (go_at_call 193; refine HC.out.mono ?_; rintro e w8 ⟨rfl, hb8⟩))
    go_ret
  · exact ⟨rfl, Below.refl _ _⟩
  · exact ⟨ret_b (by simp), hb8⟩
set_option maxHeartbeats 1000000 in
theorem simplicial_c (v : Value) (l : List Int) (s : Nat) (w : World) (hl : ints w.heap.size w v l) (hA : neA l = true) (hs : s < 128) (hT : tab w) :
    Calls Tryd.prog 163 #[.agg #[v, .int .i64 (s : Int)]] w fun e w' => e = .returned (.int .i64 (simS l s : Int)) ∧ Below w.heap.size w w' := by
  have h7 := (neA_in hA).1.2
  have HL := hide hl
  have HT := hide hT
  have HB0 := hide (by_start 163 v (.int .i64 (s : Int)) w)
  have HL0 := hide (by_ints HB0.out hl)
  have HA := hide hA
  clear hl hT hA
  go_enter Tryd.func163, Tryd.ntmps163
  go_wp2_with (refine wpList_len sliceT rfl (.tmp _) rfl v rfl w.heap.size l HL0.out ?_)
  refine (itemsWhere_c (l.length : Int) 192 #[.pointer (some ⟨w.heap.size, 0, none⟩)] _ (fun i => s.testBit i && simB l s i) ent_simpl1 (by omega) (by omega) ?h1).mono ?_
  case h1 =>
    intro i w1 hi0 hi hb
    obtain ⟨p, rfl⟩ := Int.eq_ofNat_of_zero_le hi0
    have HB1 := by_to HB0.out hb
    exact simplicial1_c v l s p w.heap.size w1 (by_full HB1 HL.out) HA.out hs (by omega) (by_tab HB1 HT.out) (by_cell0 HB1) (by_cell1 HB1)
  rintro e w' ⟨rfl, hb⟩
  have HB2 := hide (by_to HB0.out hb)
  clear hb
  go_wp2
  go_ret
  exact ⟨rfl, by_below HB2.out⟩
end Go.Proofs.YtonimjpfaalniaaDoor
/- Contracts: SimplicialOf, both. -/
namespace Go.Proofs.YtonimjpfaalniaaDoor
open Go.RowKit
set_option maxRecDepth 100000
set_option linter.unusedSimpArgs false
def soB (l : List Int) (s : Int) : Bool := neB l && decide (0 ≤ s ∧ s ≤ (low l.length : Int))
def soR (l : List Int) (s : Int) : Int := if soB l s then (simS l s.toNat : Int) else 0
theorem so_no {l : List Int} {s : Int} (h : soB l s = false) : soR l s = 0 ∧ soB l s = false := by unfold soR; rw [h]; exact ⟨rfl, rfl⟩
theorem soB_no1 {l : List Int} {s : Int} (h : neB l = false) : soB l s = false := by unfold soB; rw [h]; rfl
theorem soB_is {l : List Int} {s : Int} (h : neB l = true) : soB l s = decide (0 ≤ s ∧ s ≤ (low l.length : Int)) := by unfold soB; rw [h]; rfl
theorem so_yes {l : List Int} {s : Nat} (h : soB l s = true) : soR l s = (simS l s : Int) ∧ soB l s = true := by unfold soR; rw [h]; exact ⟨rfl, rfl⟩
theorem soB_in {l : List Int} {s : Int} (h : soB l s = true) : neB l = true ∧ 0 ≤ s ∧ s ≤ (low l.length : Int) := by
  unfold soB at h; rw [Bool.and_eq_true, decide_eq_true_eq] at h; exact h
theorem itemsOf_next (K : Nat → Bool) (k : Nat) : itemsOf K (k + 1) = itemsOf K k ||| (if K k then p2 k else 0) := rfl
attribute [local irreducible] p2 low memB risB
set_option maxHeartbeats 2000000 in
theorem shSimplicial_c (v : Value) (l : List Int) (i s : Nat) (w : World) (hl : ints w.heap.size w v l) (hA : neA l = true) (hi : i < l.length) (hs : s < 128) :
    Calls Tryd.prog 120 #[.agg #[v], .int .i64 (i : Int), .int .i64 (s : Int)] w fun e w' => e = .returned (.bool (simB l s i)) ∧ Below w.heap.size w w' := by
  have h7 := (neA_in hA).1.2
  have HL := hide hl
  have H128 := hide (fun p => neA_128 hA p)
  have HCX := hide (fun p hp => neA_cast hA p hp)
  have HB0 := hide (bx_start 62 v w)
  have HL0 := hide (bx_ints HB0.out hl)
  have hx8 : nth l i &&& s < 128 := Nat.lt_of_le_of_lt Nat.and_le_right hs
  have HDONE := hide (fun h => SiTo.done (l := l) (s := s) (i := i) (n := l.length) (neA_lt hA i) h)
  have HBAD := hide (fun k h1 h2 h3 => SiTo.bad (l := l) (s := s) (i := i) (k := k) h1 h2 h3)
  have HXI := hide (neA_cast hA i hi)
  have hi8 := neA_128 hA i
  have hand := i64_and (nth l i) s (Nat.lt_trans hi8 (by decide)) (Nat.lt_trans hs (by decide))
  have HS0 := hide (show SiTo l (nth l i &&& s) 0 from fun j hj => by omega)
  clear hl hA
  generalize nth l i &&& s = x at *
  generalize nth l i = xi at *
  go_enter Tryd.func120, Tryd.ntmps120
  go_wp2_with (first
    | (refine wpList_at sliceT intS rfl (.tmp _) (.tmp _) rfl v rfl i rfl w.heap.size l HL0.out hi ?_; intro ad hcell hblk; rw [HXI.out] at hcell)
    | (refine wpList_len sliceT rfl (.tmp _) rfl v rfl w.heap.size l HL0.out ?_))
  clear hand hcell
  go_loopw [20] (fun o wr => ∃ k : Nat, o = .int .i64 (k : Int) ∧ k ≤ l.length ∧ Hid (SiTo l x k) ∧ Hid (Below (w.heap.size + 1) (w.alloc (.cells #[v] 62)) wr)) (fun o _ => l.length - (intOf o).toNat)
  case atStart => exact ⟨0, rfl, Nat.zero_le _, HS0, HB0⟩
  case round =>
    obtain ⟨k, rfl, hk, HJ, HB⟩ := hrel
    have HLW := hide (bx_ints HB.out HL.out)
    by_cases hlt : k < l.length
    · have hk7 : k < 7 := by omega
      have HX := hide (HCX.out k hlt)
      have ht8 := H128.out k
      have hp1 := wrap_p2 k (by omega)
      have hp2 : IntKind.i64.wrap (2 ^ k) = (p2 k : Int) := by rw [IntWalk.i64_left]; exact hp1
      have hpk := p2_lt128 k hk7
      cases hb : x.testBit k
      · have HBT := hide hb
        have HN := hide (HJ.out.skip hb)
        clear hb
        generalize nth l k = t at *
        go_wp2_with (first
          | (refine wpList_at sliceT intS rfl (.tmp _) (.tmp _) rfl v rfl k rfl w.heap.size l HLW.out hlt ?_; intro ad hcell hblk; rw [HX.out] at hcell)
          | (go_at_call 100; refine (spIn_c _ _ _ (by omega) (by omega) (by omega) (by omega)).mono ?_; rw [Int.toNat_natCast, Int.toNat_natCast, HBT.out]; rintro e w8 ⟨rfl, rfl⟩))
        go_roundw
        case rel => exact ⟨k + 1, by go_num, by omega, HN, HB⟩
        case measure => simp [intOf]; omega
      · have HBT := hide hb
        have HNT := hide (fun h => HJ.out.take h)
        have HBX := hide (fun h => HBAD.out k hk7 hb h)
        clear hb
        generalize nth l k = t at *
        have hor := i64_or t (p2 k) (Nat.lt_trans ht8 (by decide)) (Nat.lt_trans hpk (by decide))
        have htp := or_lt128 t (p2 k) ht8 hpk
        generalize t ||| p2 k = tp at *
        have han := i64_andNot x tp (Nat.lt_trans hx8 (by decide))
        generalize andNot x tp = z at *
        by_cases hz : z = 0
        · have hd : ((z : Int) != 0) = false := by simp; omega
          have HZ := hide (HNT.out hz)
          clear hz
          go_wp2_with (first
            | (refine wpList_at sliceT intS rfl (.tmp _) (.tmp _) rfl v rfl k rfl w.heap.size l HLW.out hlt ?_; intro ad hcell hblk; rw [HX.out] at hcell)
            | (go_at_call 100; refine (spIn_c _ _ _ (by omega) (by omega) (by omega) (by omega)).mono ?_; rw [Int.toNat_natCast, Int.toNat_natCast, HBT.out]; rintro e w8 ⟨rfl, rfl⟩))
          go_roundw
          case rel => exact ⟨k + 1, by go_num, by omega, HZ, HB⟩
          case measure => simp [intOf]; omega
        · have hd : ((z : Int) != 0) = true := by simp; omega
          have HZ := hide (HBX.out hz)
          clear hz
          go_wp2_with (first
            | (refine wpList_at sliceT intS rfl (.tmp _) (.tmp _) rfl v rfl k rfl w.heap.size l HLW.out hlt ?_; intro ad hcell hblk; rw [HX.out] at hcell)
            | (go_at_call 100; refine (spIn_c _ _ _ (by omega) (by omega) (by omega) (by omega)).mono ?_; rw [Int.toNat_natCast, Int.toNat_natCast, HBT.out]; rintro e w8 ⟨rfl, rfl⟩))
          go_ret
          exact ⟨ret_b HZ.out.symm, bx_below HB.out⟩
    · have HYES := hide (HDONE.out (by rw [← show k = l.length by omega]; exact HJ.out))
      have hlt' : ¬ ((k : Int) < (l.length : Int)) := by omega
      go_wp2
      go_ret
      exact ⟨ret_b HYES.out.symm, bx_below HB.out⟩

end Go.Proofs.YtonimjpfaalniaaDoor
