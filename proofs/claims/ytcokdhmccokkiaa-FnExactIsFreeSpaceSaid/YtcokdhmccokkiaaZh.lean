/- Contracts: AlternatingSum and IsFreeSpace, both. -/
import Derived.Test.YtcokdhmccokkiaaZc
import Derived.Test.YtcokdhmccokkiaaCt
namespace Go.Proofs.Ytcokdhmccokkiaa
open Go.RowKit
set_option maxRecDepth 100000
set_option linter.unusedSimpArgs false
/-! ### Mathematics -/
def evZ (x : Int) : Bool := pc x.toNat % 2 == 0
def atF (l : List Int) : Nat → Int
  | 0 => 0
  | k + 1 => atF l k + (1 - 2 * ((pc (nth l k) % 2 : Nat) : Int))
theorem atF_next (l : List Int) (k : Nat) : atF l (k + 1) = atF l k + (1 - 2 * ((pc (nth l k) % 2 : Nat) : Int)) := rfl
theorem atF_ev (l : List Int) : ∀ k, atF l k = (cnZ evZ l k : Int) - ((k : Int) - (cnZ evZ l k : Int))
  | 0 => rfl
  | k + 1 => by
    rw [atF_next, atF_ev l k, cnZ_next]
    unfold evZ nth
    have : pc (l[k]?.getD 0).toNat % 2 = 0 ∨ pc (l[k]?.getD 0).toNat % 2 = 1 := by omega
    rcases this with h | h
    · rw [h]; simp; omega
    · rw [h]; simp; omega
theorem atF_le (l : List Int) (k : Nat) : -(k : Int) ≤ atF l k ∧ atF l k ≤ k := by
  rw [atF_ev]
  have := cnZ_le evZ l k
  omega
def asR (n : Int) (l : List Int) : Int := atF (fsL n l) (fsL n l).length
theorem asR_no {n : Int} {l : List Int} (h : okSp n l = false) : asR n l = 0 := by unfold asR; rw [fsL_no h]; rfl
theorem sets_allZ (F : Nat → Bool) : ∀ k, (setsTo F k).length = k ↔ ∀ i, i < k → F i = true
  | 0 => by simp [setsTo]
  | k + 1 => by
    have ih := sets_allZ F k
    have hle := setsTo_len F k
    rw [setsTo]
    by_cases h : F k = true
    · rw [if_pos h, List.length_append]
      constructor
      · intro h2 i hi
        rcases Nat.lt_or_ge i k with h3 | h3
        · exact ih.1 (by simp at h2; omega) i h3
        · rw [show i = k by omega]; exact h
      · intro h2
        have := ih.2 fun i hi => h2 i (by omega)
        simp; omega
    · rw [if_neg h]
      constructor
      · intro h2; omega
      · intro h2; exact absurd (h2 k (by omega)) h
theorem sets_moreZ (F : Nat → Bool) (N : Nat) (hF : ∀ x, F x = true → x < N) : ∀ k, N ≤ k → setsTo F k = setsTo F N
  | 0, h => by rw [show N = 0 by omega]
  | k + 1, h => by
    rcases Nat.lt_or_ge k N with h2 | h2
    · rw [show N = k + 1 by omega]
    · rw [setsTo, sets_moreZ F N hF k h2, if_neg]
      intro h3
      have := hF k h3
      omega
def ifB (n : Int) (l : List Int) : Bool := okSp n l && decide (l.length = 2 ^ n.toNat)
theorem ifB_no {n : Int} {l : List Int} (h : okSp n l = false) : ifB n l = false := by unfold ifB; rw [h]; rfl
theorem ifB_spec {n : Int} {l : List Int} (h : okSp n l = true) : ifB n l = decide (l.length = 2 ^ n.toNat) := by unfold ifB; rw [h]; rfl
theorem ifB_impl {n : Int} {l : List Int} (h : okSp n l = true) : ifB n l = frB (marksTo l l.length) n.toNat (low n.toNat) := by
  have hn := okSp_n h
  have hsp := okSp_spc h
  have h7 : n.toNat ≤ 7 := by omega
  have hp7 := p2_le n.toNat 7 h7
  have hls := low_succ n.toNat
  rw [ifB_spec h]
  have hll : l.length = (setsTo (marksTo l l.length) (2 ^ n.toNat)).length := by
    rw [← sets_moreZ (marksTo l l.length) (2 ^ n.toNat) hsp.lt 128 (by omega), ← okSp_list h]
  generalize marksTo l l.length = F at hsp hll
  generalize n.toNat = m at *
  have h0 : andNot (low m) (low m) = 0 := an0Z.2 fun i hi => hi
  have hfs := free_same hsp (s := low m) (by omega) (by rw [h0]; exact hsp.zero)
  unfold frB
  rw [hfs, h0, hsp.zero, Bool.true_and, hll, Bool.eq_iff_iff, decide_eq_true_eq, beq_iff_eq, sets_allZ]
  constructor
  · intro hA
    apply Nat.eq_of_testBit_eq
    intro i
    rw [outer_bitZ, low_bitZ]
    by_cases hi : i < m
    · rw [decide_eq_true hi, Nat.zero_testBit, Nat.zero_or, hA (p2 i) (Nat.pow_lt_pow_right (by omega) hi)]; rfl
    · rw [decide_eq_false hi]; rfl
  · intro hE
    have hone : ∀ i, i < m → F (p2 i) = true := by
      intro i hi
      have h1 := congrArg (fun z => z.testBit i) hE
      simp only [outer_bitZ, low_bitZ, decide_eq_true hi, Nat.zero_testBit, Nat.zero_or, Bool.true_and, Bool.not_false] at h1
      exact h1
    intro x hx
    have hor : ∀ k, k ≤ m → F (orTo (fun i => if x.testBit i then p2 i else 0) k) = true := by
      intro k
      induction k with
      | zero => intro _; exact hsp.zero
      | succ k ih =>
        intro hk
        refine hsp.uni _ _ (ih (by omega)) ?_
        by_cases hb : x.testBit k = true
        · simp only [hb]; exact hone k (by omega)
        · simp only [hb]; exact hsp.zero
    have hxe : orTo (fun i => if x.testBit i then p2 i else 0) m = x := by
      apply Nat.eq_of_testBit_eq
      intro b
      rw [show orTo (fun i => if x.testBit i then p2 i else 0) m = itemsOf (fun i => x.testBit i) m from rfl, itemsOf_bit]
      by_cases hb : b < m
      · rw [decide_eq_true hb]; rfl
      · rw [decide_eq_false hb, Nat.testBit_lt_two_pow (Nat.lt_of_lt_of_le hx (Nat.pow_le_pow_right (by omega) (by omega)))]; rfl
    rw [← hxe]
    exact hor m (Nat.le_refl _)
attribute [local irreducible] p2 low memB risB
theorem ent_alt1 : enters Try.prog 64 := enters_of Try.func64 (by kernel_rfl) (by kernel_rfl)
theorem alt1_c (x : Nat) (w : World) (hx : x < 128) :
    Calls Try.prog 64 #[.int .i64 (x : Int)] w fun e w' => e = .returned (.bool (evZ (x : Int))) ∧ Below w.heap.size w w' := by
  have HS := hide (fun w1 => by have := size_c (x : Int) w1 (by omega) (by omega); rw [Int.toNat_natCast] at this; exact this)
  have HE := hide (show evZ (x : Int) = (pc x % 2 == 0) by unfold evZ; rw [Int.toNat_natCast])
  generalize pc x = c at *
  generalize evZ (x : Int) = b at *
  have hrm : (c : Int).tmod 2 = ((c % 2 : Nat) : Int) := rfl
  go_enter Try.func64, Try.ntmps64
  go_wp2_with (go_at_call 65; refine (HS.out _).mono ?_; rintro e w2 ⟨rfl, rfl⟩)
  go_ret
  exact ⟨ret_b (by rw [HE.out, Bool.eq_iff_iff]; simp; try omega), Below.refl _ _⟩
set_option maxHeartbeats 1000000 in
theorem implAlternatingSum_c (n : Int) (v : Value) (l : List Int) (w : World) (hl : ints w.heap.size w v l) (hlen : l.length < 1000000000) :
    Calls Try.prog 39 #[.agg #[.int .i64 n, v]] w fun e w' => e = .returned (.tuple #[.int .i64 (asR n l), .bool (okSp n l)]) ∧ Below w.heap.size w w' := by
  have HL := hide ((hl.alloc (.cells #[.int .i64 n, v] 32)).mono (show w.heap.size ≤ (w.alloc (.cells #[.int .i64 n, v] 32)).heap.size by simp))
  have H0 := hide ((Below.refl w.heap.size w).alloc (Nat.le_refl _) (.cells #[.int .i64 n, v] 32))
  have HZ := hide (show (w.alloc (.cells #[.int .i64 n, v] 32)).heap.size = w.heap.size + 1 by simp)
  clear hl
  cases hok : okSp n l
  · have HK := hide hok
    rw [asR_no hok]
    clear hok
    go_enter Try.func39, Try.ntmps39
    go_wp2_with (first
      | (go_at_call 58; refine (familyOf_c n v l _ HL.out hlen).mono ?_; rw [famVal_no n l HK.out]; rintro e w1 ⟨rfl, hb⟩; have hz1 := hb.size; rw [HZ.out] at hz1; have HB := hide (bl_row ((H0.out.trans (hb.mono (by rw [HZ.out]; omega))).alloc (by omega) (.cells (fam 0 noSet) 58)) (show w.heap.size ≤ w1.heap.size by omega) (fam 0 noSet)); clear hb)
      | (refine wpList_alloc_fam zeroT rfl rfl _ (by first | (simp only [World.size_alloc]; rfl) | rfl) ?_)
      | (refine wpList_store_fam sizeT rfl (.tmp _) (.tmp _) rfl w1.heap.size _ _ rfl rfl _ _ (famAt.new _ _ _ _) ?_)
      )
    go_ret2
    exact ⟨rfl, HB.out⟩
  · have HK := hide hok
    have hn := okSp_n hok
    obtain ⟨m, rfl⟩ := Int.eq_ofNat_of_zero_le (show 0 ≤ n by omega)
    have hm7 : m ≤ 7 := by omega
    have hp7 := p2_le m 7 hm7
    have HFL := hide (fsL_impl hok)
    have hfl := fsL_len (m : Int) l
    have HFR := hide (fsL_range (m : Int) l)
    have HAS := hide (show asR (m : Int) l = (cnZ evZ (fsL (m : Int) l) (fsL (m : Int) l).length : Int) - (((fsL (m : Int) l).length : Int) - (cnZ evZ (fsL (m : Int) l) (fsL (m : Int) l).length : Int)) by unfold asR; exact atF_ev _ _)
    have hcl := cnZ_le evZ (fsL (m : Int) l) (fsL (m : Int) l).length
    rw [Int.toNat_natCast] at HFL HFR
    have HSE := hide (fun w1 => sets_c (m : Int) (cutAt (frB (marksTo l l.length) m) (low m + 1)) w1)
    rw [HFL.out] at HSE
    rw [HAS.out]
    clear hok hn HFL HAS
    generalize fsL (m : Int) l = L at *
    have HCW := hide (fun u w1 (h : ints w1.heap.size w1 u L) => countWhere_c u L 64 #[] #[] evZ w1 h hfl ent_alt1 (fun j w2 hj hb => by
      obtain ⟨h0, h1⟩ := HFR.out j hj
      obtain ⟨x, hx⟩ := Int.eq_ofNat_of_zero_le h0
      have e : ((2 : Int) ^ m) = ((2 ^ m : Nat) : Int) := by push_cast; rfl
      rw [hx, e] at h1
      rw [hx]
      exact alt1_c x w2 (by omega)))
    generalize cnZ evZ L L.length = c at *
    go_enter Try.func39, Try.ntmps39
    go_wp2_with (first
      | (go_at_call 58; refine (familyOf_c (m : Int) v l _ HL.out hlen).mono ?_; rw [famVal_yes (m : Int) l HK.out]; rintro e w1 ⟨rfl, hb⟩; have hz1 := hb.size; rw [HZ.out] at hz1; have HH := hide ((famAt.new 58 w1 0 noSet).row (m : Int) (marksTo l l.length)); have HZ2 := hide (show ((w1.alloc (.cells (fam 0 noSet) 58)).setRow w1.heap.size (fam (m : Int) (marksTo l l.length))).heap.size = w1.heap.size + 1 by simp [World.setRow]); have HB := hide (bl_row ((H0.out.trans (hb.mono (by rw [HZ.out]; omega))).alloc (by omega) (.cells (fam 0 noSet) 58)) (show w.heap.size ≤ w1.heap.size by omega) (fam (m : Int) (marksTo l l.length))); clear hb)
      | (refine wpList_alloc_fam zeroT rfl rfl _ (by first | (simp only [World.size_alloc]; rfl) | rfl) ?_)
      | (refine wpList_store_fam sizeT rfl (.tmp _) (.tmp _) rfl w1.heap.size _ _ rfl rfl _ _ (famAt.new _ _ _ _) ?_)
      | (refine wpList_load_fam rowT sizeT rfl (.tmp _) rfl w1.heap.size rfl (m : Int) _ HH.out ?_)
      | (go_at_call 61; refine (freeSets_c m (marksTo l l.length) _ hm7).mono ?_; rintro e w2 ⟨rfl, hb2⟩; have hz2 := hb2.size; rw [HZ2.out] at hz2; have HB2 := hide (HB.out.trans (hb2.mono (by rw [HZ2.out]; omega))); clear hb2)
      | (go_at_call 62; refine (HSE.out _).mono ?_; rintro e w3 ⟨v3, rfl, ho3, hb3⟩; have HO3 := hide ho3.ints; have HB3 := hide (HB2.out.trans (hb3.mono (by omega))); have hz3 := hb3.size; clear hb3 ho3)
      | (go_at_call 63; refine (HCW.out _ _ HO3.out).mono ?_; rintro e w4 ⟨rfl, hb4⟩; have HO4 := hide (HO3.out.below hb4 (Nat.le_refl _)); have HB4 := hide (HB3.out.trans (hb4.mono (by omega))); clear hb4)
      | (refine wpList_len sliceT rfl (.tmp _) rfl v3 rfl w3.heap.size L HO4.out ?_))
    go_ret2
    exact ⟨rfl, HB4.out⟩
set_option maxHeartbeats 1000000 in
theorem specAlternatingSum_c (n : Int) (v : Value) (l : List Int) (w : World) (hl : ints w.heap.size w v l) (hlen : l.length < 1000000000) :
    Calls Try.prog 38 #[.agg #[.int .i64 n, v]] w fun e w' => e = .returned (.tuple #[.int .i64 (asR n l), .bool (okSp n l)]) ∧ Below w.heap.size w w' := by
  have HL := hide ((hl.alloc (.cells #[.int .i64 n, v] 32)).mono (show w.heap.size ≤ (w.alloc (.cells #[.int .i64 n, v] 32)).heap.size by simp))
  have H0 := hide ((Below.refl w.heap.size w).alloc (Nat.le_refl _) (.cells #[.int .i64 n, v] 32))
  have HS0 := hide (hp_last w (.cells #[.int .i64 n, v] 32))
  have HZ := hide (show (w.alloc (.cells #[.int .i64 n, v] 32)).heap.size = w.heap.size + 1 by simp)
  have hc0 := cells_at0 HS0.out
  have hc1 := cells_at1 HS0.out
  have HG := hide (spGood_c n v l (w.alloc (.cells #[.int .i64 n, v] 32)) HL.out hlen)
  rw [← ok_good] at HG
  clear hl
  cases hok : okSp n l
  · rw [hok] at HG
    rw [asR_no hok]
    clear hok
    go_enter Try.func38, Try.ntmps38
    go_wp2_with (first
      | (go_at_call 53; refine HG.out.mono ?_; rintro e w1 ⟨rfl, hb1⟩; have HB1 := hide (H0.out.trans (hb1.mono (by rw [HZ.out]; omega))); clear hb1 hc0 hc1)
      )
    go_ret2
    exact ⟨rfl, HB1.out⟩
  · rw [hok] at HG
    have hn := okSp_n hok
    have HI := hide (okSp_inc hok)
    have HFL := hide (fsL_yes hok)
    have HLR := hide (fsL_range n l)
    have hfl := fsL_len n l
    obtain ⟨m, rfl⟩ := Int.eq_ofNat_of_zero_le (show 0 ≤ n by omega)
    have hm7 : m ≤ 7 := by omega
    have hp7 := p2_le m 7 hm7
    rw [Int.toNat_natCast] at HLR HFL
    have HAF := hide (fun w1 h => alFree_c m v l w1 h HI.out hlen hm7)
    rw [← HFL.out] at HAF
    unfold asR
    clear hok hn HFL
    generalize hLL : fsL (m : Int) l = L at *
    clear hLL
    go_enter Try.func38, Try.ntmps38
    go_wp2_with (first
      | (go_at_call 53; refine HG.out.mono ?_; rintro e w1 ⟨rfl, hb1⟩; have hz1 := hb1.size; rw [HZ.out] at hz1; have HS1 := hide ((hb1.block w.heap.size (by rw [HZ.out]; omega)).trans HS0.out); have HL1 := hide ((HL.out.below hb1 (by rw [HZ.out]; omega)).mono hb1.size); have HB1 := hide (H0.out.trans (hb1.mono (by rw [HZ.out]; omega))); have d0 := cells_at0 HS1.out; have d1 := cells_at1 HS1.out; clear hb1 hc0 hc1)
      | (go_at_call 60; refine (HAF.out _ HL1.out).mono ?_; rintro e w3 ⟨v3, rfl, ho3, hb3⟩; have hz3 := hb3.size; have HI3 := hide ho3.ints; have HB3 := hide (HB1.out.trans (hb3.mono (by omega))); clear hb3 ho3)
      | (refine wpList_len sliceT rfl (.tmp _) rfl v3 rfl w3.heap.size L HI3.out ?_))
    obtain ⟨va, vc, hv3⟩ := HI3.out.shape
    subst hv3
    go_loopw [4, 13] (fun sv iv wr => ∃ k : Nat, k ≤ L.length ∧ sv = .int .i64 (atF L k) ∧ iv = .int .i64 (k : Int) ∧ wr = w3) (fun _ iv _ => L.length - (intOf iv).toNat)
    case atStart => exact ⟨0, by omega, rfl, rfl, rfl⟩
    case round =>
      obtain ⟨k, hk, rfl, rfl, rfl⟩ := hrel
      have hle := atF_le L k
      by_cases hlt : k < L.length
      · have hlt' : (k : Int) < (L.length : Int) := by omega
        obtain ⟨hr0, hr1⟩ := HLR.out k hlt
        obtain ⟨x, hx⟩ := Int.eq_ofNat_of_zero_le hr0
        have e : ((2 : Int) ^ m) = ((2 ^ m : Nat) : Int) := by push_cast; rfl
        have hx7 : x < 128 := by rw [hx, e] at hr1; omega
        have HN := hide (show atF L (k + 1) = atF L k + (1 - 2 * ((pc x % 2 : Nat) : Int)) by rw [atF_next]; unfold nth; rw [hx, Int.toNat_natCast])
        have HSP := hide (fun w4 => by have := spCount_c (x : Int) w4 (by omega) (by omega); rw [Int.toNat_natCast] at this; exact this)
        have HX := hide hx
        have hrm : (pc x : Int).tmod 2 = ((pc x % 2 : Nat) : Int) := rfl
        have hr2 : pc x % 2 < 2 := Nat.mod_lt _ (by omega)
        clear hx hr0 hr1 e
        generalize pc x % 2 = r at *
        generalize pc x = c at *
        generalize atF L k = s at *
        go_wp2_with (first
          | (refine wpList_at sliceT intS rfl (.tmp 11) (.tmp _) rfl _ rfl k rfl wr.heap.size L HI3.out hlt ?_; intro ad hca hba; rw [HX.out] at hca)
          | (go_at_call 57; refine (HSP.out _).mono ?_; rintro e w4 ⟨rfl, rfl⟩))
        go_roundw
        case rel => exact ⟨k + 1, by omega, by rw [HN.out], by go_num, by trivial⟩
        case measure => (simp [intOf] <;> omega)
      · have HE := hide (show k = L.length by omega)
        have hlt' : ¬ ((k : Int) < (L.length : Int)) := by omega
        go_wp2
        go_ret2
        exact ⟨by rw [HE.out]; rfl, HB3.out⟩
theorem ent_fullZ : enters Try.prog 67 := enters_of Try.func67 (by kernel_rfl) (by kernel_rfl)
set_option maxHeartbeats 1000000 in
theorem implIsFreeSpace_c (n : Int) (v : Value) (l : List Int) (w : World) (hl : ints w.heap.size w v l) (hlen : l.length < 1000000000) :
    Calls Try.prog 41 #[.agg #[.int .i64 n, v]] w fun e w' => e = .returned (.tuple #[.bool (ifB n l), .bool (okSp n l)]) ∧ Below w.heap.size w w' := by
  have HL := hide ((hl.alloc (.cells #[.int .i64 n, v] 32)).mono (show w.heap.size ≤ (w.alloc (.cells #[.int .i64 n, v] 32)).heap.size by simp))
  have H0 := hide ((Below.refl w.heap.size w).alloc (Nat.le_refl _) (.cells #[.int .i64 n, v] 32))
  have HZ := hide (show (w.alloc (.cells #[.int .i64 n, v] 32)).heap.size = w.heap.size + 1 by simp)
  clear hl
  cases hok : okSp n l
  · have HK := hide hok
    rw [ifB_no hok]
    clear hok
    go_enter Try.func41, Try.ntmps41
    go_wp2_with (first
      | (go_at_call 58; refine (familyOf_c n v l _ HL.out hlen).mono ?_; rw [famVal_no n l HK.out]; rintro e w1 ⟨rfl, hb⟩; have hz1 := hb.size; rw [HZ.out] at hz1; have HB := hide (bl_row ((H0.out.trans (hb.mono (by rw [HZ.out]; omega))).alloc (by omega) (.cells (fam 0 noSet) 58)) (show w.heap.size ≤ w1.heap.size by omega) (fam 0 noSet)); clear hb)
      | (refine wpList_alloc_fam zeroT rfl rfl _ (by first | (simp only [World.size_alloc]; rfl) | rfl) ?_)
      | (refine wpList_store_fam sizeT rfl (.tmp _) (.tmp _) rfl w1.heap.size _ _ rfl rfl _ _ (famAt.new _ _ _ _) ?_)
      )
    refine wp_region_old (by kernel_rfl) (by kernel_rfl) ?_
    repeat (go_big_quiet_step ((first | exact fun _ => rfl | exact fun _ => ⟨rfl, rfl⟩)))
    refine wpQuiet_nil ?_
    intro w2 hb2
    have HB2 := hide (HB.out.trans (hb2.mono (by simp [World.setRow]; omega)))
    clear hb2
    go_wp2
    go_ret2
    exact ⟨rfl, HB2.out⟩
  · have HK := hide hok
    have hn := okSp_n hok
    have HIF := hide (ifB_impl hok)
    obtain ⟨m, rfl⟩ := Int.eq_ofNat_of_zero_le (show 0 ≤ n by omega)
    have hm7 : m ≤ 7 := by omega
    have hlo := low_lt m hm7
    rw [Int.toNat_natCast] at HIF
    rw [HIF.out]
    clear hok hn
    go_enter Try.func41, Try.ntmps41
    go_wp2_with (first
      | (go_at_call 58; refine (familyOf_c (m : Int) v l _ HL.out hlen).mono ?_; rw [famVal_yes (m : Int) l HK.out]; rintro e w1 ⟨rfl, hb⟩; have hz1 := hb.size; rw [HZ.out] at hz1; have HH := hide ((famAt.new 58 w1 0 noSet).row (m : Int) (marksTo l l.length)); have HZ2 := hide (show ((w1.alloc (.cells (fam 0 noSet) 58)).setRow w1.heap.size (fam (m : Int) (marksTo l l.length))).heap.size = w1.heap.size + 1 by simp [World.setRow]); have HB := hide (bl_row ((H0.out.trans (hb.mono (by rw [HZ.out]; omega))).alloc (by omega) (.cells (fam 0 noSet) 58)) (show w.heap.size ≤ w1.heap.size by omega) (fam (m : Int) (marksTo l l.length))); clear hb)
      | (refine wpList_alloc_fam zeroT rfl rfl _ (by first | (simp only [World.size_alloc]; rfl) | rfl) ?_)
      | (refine wpList_store_fam sizeT rfl (.tmp _) (.tmp _) rfl w1.heap.size _ _ rfl rfl _ _ (famAt.new _ _ _ _) ?_)
      )
    generalize (w1.alloc (.cells (fam 0 noSet) 58)).setRow w1.heap.size (fam (m : Int) (marksTo l l.length)) = W at HH HZ2 HB ⊢
    have HFX := hide (fun w' (h : Below W.heap.size W w') => HH.out.below h HH.out.lt)
    refine wp_region_old (by kernel_rfl) (by kernel_rfl) ?_
    go_big_quiet_step ((first | exact fun _ => rfl | exact fun _ => ⟨rfl, rfl⟩))
    go_big_quiet_step ((first | exact fun _ => rfl | exact fun _ => ⟨rfl, rfl⟩))
    refine q_load_fam rowT sizeT rfl (.tmp _) rfl _ rfl (m : Int) _ HFX.out ?_
    simp only [Act.put, List.setIfInBounds_toArray, List.set_cons_zero, List.set_cons_succ]
    refine q_load_fam rowT sizeT rfl (.tmp _) rfl _ rfl (m : Int) _ HFX.out ?_
    simp only [Act.put, List.setIfInBounds_toArray, List.set_cons_zero, List.set_cons_succ]
    refine q_below rfl 67 ent_fullZ _ _ rfl #[.agg (fam (m : Int) (marksTo l l.length))] rfl (.int .i64 (low m : Int)) (fun w' _ => by have := full_c (m : Int) (marksTo l l.length) w' (by omega) (by omega); rw [Int.toNat_natCast] at this; exact this) ?_
    simp only [Act.put, List.setIfInBounds_toArray, List.set_cons_zero, List.set_cons_succ]
    refine q_below rfl 66 ent_isFree _ _ rfl #[.agg (fam (m : Int) (marksTo l l.length)), .int .i64 (low m : Int)] rfl (.bool (frB (marksTo l l.length) m (low m))) (fun w' _ => isFree_c m (marksTo l l.length) (low m) w' hm7 hlo) ?_
    simp only [Act.put, List.setIfInBounds_toArray, List.set_cons_zero, List.set_cons_succ]
    repeat (go_big_quiet_step ((first | exact fun _ => rfl | exact fun _ => ⟨rfl, rfl⟩)))
    refine wpQuiet_nil ?_
    intro w2 hb2
    have HB2 := hide (HB.out.trans (hb2.mono (by rw [HZ2.out]; omega)))
    clear hb2
    go_wp2
    go_ret2
    exact ⟨rfl, HB2.out⟩
set_option maxHeartbeats 1000000 in
theorem specIsFreeSpace_c (n : Int) (v : Value) (l : List Int) (w : World) (hl : ints w.heap.size w v l) (hlen : l.length < 1000000000) :
    Calls Try.prog 40 #[.agg #[.int .i64 n, v]] w fun e w' => e = .returned (.tuple #[.bool (ifB n l), .bool (okSp n l)]) ∧ Below w.heap.size w w' := by
  have HL := hide ((hl.alloc (.cells #[.int .i64 n, v] 32)).mono (show w.heap.size ≤ (w.alloc (.cells #[.int .i64 n, v] 32)).heap.size by simp))
  have H0 := hide ((Below.refl w.heap.size w).alloc (Nat.le_refl _) (.cells #[.int .i64 n, v] 32))
  have HS0 := hide (hp_last w (.cells #[.int .i64 n, v] 32))
  have HZ := hide (show (w.alloc (.cells #[.int .i64 n, v] 32)).heap.size = w.heap.size + 1 by simp)
  have hc0 := cells_at0 HS0.out
  have hc1 := cells_at1 HS0.out
  have HG := hide (spGood_c n v l (w.alloc (.cells #[.int .i64 n, v] 32)) HL.out hlen)
  rw [← ok_good] at HG
  clear hl
  cases hok : okSp n l
  · rw [hok] at HG
    rw [ifB_no hok]
    clear hok
    go_enter Try.func40, Try.ntmps40
    go_wp2_with (first
      | (go_at_call 53; refine HG.out.mono ?_; rintro e w1 ⟨rfl, hb1⟩; have HB1 := hide (H0.out.trans (hb1.mono (by rw [HZ.out]; omega))); clear hb1 hc0 hc1)
      )
    go_ret2
    exact ⟨rfl, HB1.out⟩
  · rw [hok] at HG
    have hn := okSp_n hok
    have HIF := hide (ifB_spec hok)
    obtain ⟨m, rfl⟩ := Int.eq_ofNat_of_zero_le (show 0 ≤ n by omega)
    have hm7 : m ≤ 7 := by omega
    rw [Int.toNat_natCast] at HIF
    have hw1 := wrapZ m hm7
    have hls := low_succ m
    rw [HIF.out]
    obtain ⟨va, vc, hv⟩ := HL.out.shape
    subst hv
    clear hok hn
    go_enter Try.func40, Try.ntmps40
    go_wp2_with (first
      | (go_at_call 53; refine HG.out.mono ?_; rintro e w1 ⟨rfl, hb1⟩; have hz1 := hb1.size; rw [HZ.out] at hz1; have HS1 := hide ((hb1.block w.heap.size (by rw [HZ.out]; omega)).trans HS0.out); have HL1 := hide ((HL.out.below hb1 (by rw [HZ.out]; omega)).mono hb1.size); have HB1 := hide (H0.out.trans (hb1.mono (by rw [HZ.out]; omega))); have d0 := cells_at0 HS1.out; have d1 := cells_at1 HS1.out; clear hb1 hc0 hc1)
      )
    have HC0 := hide (fun w' (h : Below w1.heap.size w1 w') => (h.cell (p := ⟨w.heap.size, 0, none⟩) (by show w.heap.size < _; omega)).trans d0)
    have HC1 := hide (fun w' (h : Below w1.heap.size w1 w') => (h.cell (p := ⟨w.heap.size, 1, none⟩) (by show w.heap.size < _; omega)).trans d1)
    refine wp_region_old (by kernel_rfl) (by kernel_rfl) ?_
    go_big_quiet_step ((first | exact fun _ => rfl | exact fun _ => ⟨rfl, rfl⟩))
    refine q_load_cell (by kernel_rfl) rfl (.tmp _) rfl _ rfl (.slice va l.length vc) HC1.out ?_
    simp only [Act.put, List.setIfInBounds_toArray, List.set_cons_zero, List.set_cons_succ]
    go_big_quiet_step ((first | exact fun _ => rfl | exact fun _ => ⟨rfl, rfl⟩))
    go_big_quiet_step ((first | exact fun _ => rfl | exact fun _ => ⟨rfl, rfl⟩))
    refine q_load_cell rowI rfl (.tmp _) rfl _ rfl (.int .i64 (m : Int)) HC0.out ?_
    simp only [Act.put, List.setIfInBounds_toArray, List.set_cons_zero, List.set_cons_succ]
    repeat (go_big_quiet_step ((first | exact fun _ => rfl | exact fun _ => ⟨rfl, rfl⟩)))
    refine wpQuiet_nil ?_
    intro w2 hb2
    have HB2 := hide (HB1.out.trans (hb2.mono (by omega)))
    clear hb2
    go_wp2
    go_ret2
    have e : decide (l.length = 2 ^ m) = ((l.length : Int) == 2 ^ m) := by
      have e2 : ((2 : Int) ^ m) = ((2 ^ m : Nat) : Int) := by push_cast; rfl
      rw [e2, Bool.eq_iff_iff, decide_eq_true_eq, beq_iff_eq]
      omega
    rw [e]
    exact ⟨rfl, HB2.out⟩
end Go.Proofs.Ytcokdhmccokkiaa
