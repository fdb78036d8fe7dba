/- Contracts: the space behind one of the sets, the specification's and the program's. -/
import Derived.Test.YtceofjlhbomcaaaRs
namespace Go.Proofs.Ytceofjlhbomcaaa
open Go.RowKit
set_option maxRecDepth 100000

def beR (n x : Int) : Nat := andNot (low n.toNat) x.toNat
def beB (n : Int) (l : List Int) (x : Int) : Bool := okOne n l x && !(x == (low n.toNat : Int))
def beF (n : Int) (l : List Int) (x : Int) : Nat → Bool := lmTo l (fun a => andNot x.toNat a == 0) (rn (beR n x)) l.length
def beN (n : Int) (l : List Int) (x : Int) : Int := if beB n l x then pc (beR n x) else 0
def beL (n : Int) (l : List Int) (x : Int) : List Int := if beB n l x then setsTo (beF n l x) 128 else []
theorem beB_no1 {n : Int} {l : List Int} {x : Int} (h : okOne n l x = false) : beB n l x = false := by simp [beB, h]
theorem beB_no2 {n : Int} {l : List Int} {x : Int} (h : x = (low n.toNat : Int)) : beB n l x = false := by simp [beB, h]
theorem beB_yes {n : Int} {l : List Int} {x : Int} (h : okOne n l x = true) (h0 : x ≠ (low n.toNat : Int)) : beB n l x = true := by simp [beB, h, h0]
theorem beN_no {n : Int} {l : List Int} {x : Int} (h : beB n l x = false) : beN n l x = 0 := by simp [beN, h]
theorem beN_yes {n : Int} {l : List Int} {x : Int} (h : beB n l x = true) : beN n l x = pc (beR n x) := by simp [beN, h]
theorem beL_no {n : Int} {l : List Int} {x : Int} (h : beB n l x = false) : beL n l x = [] := by simp [beL, h]
theorem beL_yes {n : Int} {l : List Int} {x : Int} (h : beB n l x = true) : beL n l x = setsTo (beF n l x) 128 := by simp [beL, h]
theorem beL_len (n : Int) (l : List Int) (x : Int) : (beL n l x).length < 1000000000 := by
  unfold beL
  split
  · have := setsTo_len (beF n l x) 128; omega
  · simp
theorem be_same {n : Int} {l : List Int} {x : Int} (h : okOne n l x = true) : imgTo (marksTo l l.length) (rn (beR n x)) 128 = beF n l x := by
  refine behind_same (okOne_sp h) x.toNat (beR n x) (okOne_mark h) ?_
  apply Nat.eq_of_testBit_eq
  intro i
  rw [Nat.testBit_and, beR, andNot_bit, Nat.zero_testBit]
  cases x.toNat.testBit i <;> simp
theorem beR_lt {n : Int} {l : List Int} {x : Int} (h : okOne n l x = true) : beR n x < 128 := andNot_lt128 _ _ (low_lt _ (by have := okSp_n (okOne_sp h); omega))
attribute [local irreducible] p2 low memB risB

set_option maxHeartbeats 2000000 in
theorem specBehindSet_c (n : Int) (v : Value) (l : List Int) (x : Int) (w : World) (hl : ints w.heap.size w v l) (hlen : l.length < 1000000000) :
    Calls Try.prog 33 #[.agg #[.int .i64 n, v], .int .i64 x] w fun e w' => ∃ v', e = .returned (.tuple #[.agg #[.int .i64 (beN n l x), v'], .bool (beB n l x)]) ∧ own 3 w' w.heap.size v' (beL n l x) ∧ Below w.heap.size w w' := by
  have hs0 : ((w.alloc (.cells #[.int .i64 n, v] 24)).alloc (.cells #[.int .i64 0, .slice none 0 0] 24)).heap[w.heap.size]? = some (.cells #[.int .i64 n, v] 24) := (hp_old _ _ _ (by simp)).trans (hp_last _ _)
  have hr0 : ((w.alloc (.cells #[.int .i64 n, v] 24)).alloc (.cells #[.int .i64 0, .slice none 0 0] 24)).heap[w.heap.size + 1]? = some (.cells #[.int .i64 0, .slice none 0 0] 24) := by have := hp_last (w.alloc (.cells #[.int .i64 n, v] 24)) (.cells #[.int .i64 0, .slice none 0 0] 24); simpa using this
  have H0 := hide (((Below.refl w.heap.size w).alloc (Nat.le_refl _) (.cells #[.int .i64 n, v] 24)).alloc (by simp) (.cells #[.int .i64 0, .slice none 0 0] 24))
  have HL0 := hide ((hl.alloc (.cells #[.int .i64 n, v] 24)).alloc (.cells #[.int .i64 0, .slice none 0 0] 24))
  have hz0 : ((w.alloc (.cells #[.int .i64 n, v] 24)).alloc (.cells #[.int .i64 0, .slice none 0 0] 24)).heap.size = w.heap.size + 2 := by simp
  have HS0 := hide hs0
  have HR0 := hide hr0
  have HZ0 := hide hz0
  clear hl hs0 hr0 hz0
  cases hok : okOne n l x
  · have HK := hide hok
    have HB := hide (beB_no1 hok)
    rw [beN_no HB.out, beL_no HB.out, HB.out]
    clear hok
    go_enter Try.func33, Try.ntmps33
    go_wp2_with fail
    refine (spOne_c _ v l _ _ (HL0.out.mono (by rw [HZ0.out]; omega)) hlen).mono ?_
    rw [HK.out]
    rintro e w1 ⟨rfl, hb1⟩
    have hs1 := (hb1.block w.heap.size (by rw [HZ0.out]; omega)).trans HS0.out
    have hr1 := (hb1.block (w.heap.size + 1) (by rw [HZ0.out]; omega)).trans HR0.out
    have d0 := cells_at0 hs1
    have d1 := cells_at1 hs1
    have c0 := cells_at0 hr1
    have c1 := cells_at1 hr1
    have f0 := hp_free hr1 0
    have f1 := hp_free hr1 1
    have HS1 := hide hs1
    have HR1 := hide hr1
    have HB1 := hide (H0.out.trans (hb1.mono (by rw [HZ0.out]; omega)))
    have HL1 := hide (HL0.out.below hb1 (by rw [HZ0.out]; omega))
    have HZ1 := hide (show w.heap.size + 2 ≤ w1.heap.size by rw [← HZ0.out]; exact hb1.size)
    clear hb1 hs1 hr1
    go_wp2
    refine bodyPost_ret (v := .tuple #[.agg #[.int .i64 0, .slice none 0 0], .bool false]) (by simp [results, Try.results33, go_sem, c0, c1]) rfl ⟨_, rfl, own_nil _ _ _, ?_⟩
    exact (HB1.out.setCell (by show w.heap.size ≤ w.heap.size + 1; omega) _).setCell (by show w.heap.size ≤ w.heap.size + 1; omega) _
  · have HK := hide hok
    have hn := okSp_n (okOne_sp hok)
    obtain ⟨m, rfl⟩ := Int.eq_ofNat_of_zero_le (show 0 ≤ n by omega)
    have hx := okOne_lt hok
    obtain ⟨s, rfl⟩ := Int.eq_ofNat_of_zero_le hx.1
    have hs128 : s < 128 := by omega
    have hlo := low_lt m (by omega)
    have hp1 := wrap_p2 m (by omega)
    have hp2 : IntKind.i64.wrap (2 ^ m) = (p2 m : Int) := by rw [IntWalk.i64_left]; exact hp1
    have hp3 := wrap_low m (by omega)
    have hp4 : wrap64 ((p2 m : Int) - 1) = (low m : Int) := by rw [← IntWalk.i64_left]; exact hp3
    have hmin : min m 64 = m := by omega
    by_cases hx0 : (s : Int) = (low m : Int)
    · have HB := hide (beB_no2 (n := (m : Int)) (l := l) (x := (s : Int)) (by rw [Int.toNat_natCast]; exact hx0))
      have hxb : ((s : Int) == (low m : Int)) = true := by simpa using hx0
      rw [beN_no HB.out, beL_no HB.out, HB.out]
      clear hok hn hx hx0
      go_enter Try.func33, Try.ntmps33
      go_wp2_with fail
      refine (spOne_c _ v l _ _ (HL0.out.mono (by rw [HZ0.out]; omega)) hlen).mono ?_
      rw [HK.out]
      rintro e w1 ⟨rfl, hb1⟩
      have hs1 := (hb1.block w.heap.size (by rw [HZ0.out]; omega)).trans HS0.out
      have hr1 := (hb1.block (w.heap.size + 1) (by rw [HZ0.out]; omega)).trans HR0.out
      have d0 := cells_at0 hs1
      have d1 := cells_at1 hs1
      have c0 := cells_at0 hr1
      have c1 := cells_at1 hr1
      have f0 := hp_free hr1 0
      have f1 := hp_free hr1 1
      have HS1 := hide hs1
      have HR1 := hide hr1
      have HB1 := hide (H0.out.trans (hb1.mono (by rw [HZ0.out]; omega)))
      have HL1 := hide (HL0.out.below hb1 (by rw [HZ0.out]; omega))
      have HZ1 := hide (show w.heap.size + 2 ≤ w1.heap.size by rw [← HZ0.out]; exact hb1.size)
      clear hb1 hs1 hr1
      go_wp2
      refine bodyPost_ret (v := .tuple #[.agg #[.int .i64 0, .slice none 0 0], .bool false]) (by simp [results, Try.results33, go_sem, c0, c1]) rfl ⟨_, rfl, own_nil _ _ _, ?_⟩
      exact (HB1.out.setCell (by show w.heap.size ≤ w.heap.size + 1; omega) _).setCell (by show w.heap.size ≤ w.heap.size + 1; omega) _
    · have HB := hide (beB_yes hok (by rw [Int.toNat_natCast]; exact hx0))
      rw [beN_yes HB.out, beL_yes HB.out, HB.out]
      have hxb : ((s : Int) == (low m : Int)) = false := by simpa using hx0
      have HSP := hide (okOne_sp hok)
      have hrl := beR_lt hok
      have HF := hide (show beF (m : Int) l (s : Int) = lmTo l (fun a => andNot s a == 0) (rn (beR (m : Int) (s : Int))) l.length from rfl)
      have hrest := i64_andNot (low m) s (by omega)
      rw [show andNot (low m) s = beR (m : Int) (s : Int) from rfl] at hrest
      generalize hF : beF (m : Int) l (s : Int) = RF at HF
      generalize beR (m : Int) (s : Int) = q at hrl HF hrest
      have HFL := hide hF
      clear hok hx hx0 hF hn
      go_enter Try.func33, Try.ntmps33
      go_wp2_with fail
      refine (spOne_c _ v l _ _ (HL0.out.mono (by rw [HZ0.out]; omega)) hlen).mono ?_
      rw [HK.out]
      rintro e w1 ⟨rfl, hb1⟩
      have hs1 := (hb1.block w.heap.size (by rw [HZ0.out]; omega)).trans HS0.out
      have hr1 := (hb1.block (w.heap.size + 1) (by rw [HZ0.out]; omega)).trans HR0.out
      have d0 := cells_at0 hs1
      have d1 := cells_at1 hs1
      have c0 := cells_at0 hr1
      have c1 := cells_at1 hr1
      have f0 := hp_free hr1 0
      have f1 := hp_free hr1 1
      have HS1 := hide hs1
      have HR1 := hide hr1
      have HB1 := hide (H0.out.trans (hb1.mono (by rw [HZ0.out]; omega)))
      have HL1 := hide (HL0.out.below hb1 (by rw [HZ0.out]; omega))
      have HZ1 := hide (show w.heap.size + 2 ≤ w1.heap.size by rw [← HZ0.out]; exact hb1.size)
      clear hb1 hs1 hr1
      have HT0 := hide (hp_last w1 (.cells #[.int .i64 (pc q : Int), .slice none 0 0] 24))
      have HS2 := hide ((hp_old w1 (.cells #[.int .i64 (pc q : Int), .slice none 0 0] 24) w.heap.size (by have := HZ1.out; omega)).trans HS1.out)
      have HR2 := hide ((hp_old w1 (.cells #[.int .i64 (pc q : Int), .slice none 0 0] 24) (w.heap.size + 1) (by have := HZ1.out; omega)).trans HR1.out)
      have HB2 := hide (HB1.out.alloc (by have := HZ1.out; omega) (.cells #[.int .i64 (pc q : Int), .slice none 0 0] 24))
      have HL2 := hide (HL1.out.alloc (.cells #[.int .i64 (pc q : Int), .slice none 0 0] 24))
      have hd1 := cells_at1 HS2.out
      have hz2 : (w1.alloc (.cells #[.int .i64 (pc q : Int), .slice none 0 0] 24)).heap.size = w1.heap.size + 1 := by simp
      have HZ2 := hide hz2
      clear hz2 c0 c1 f0 f1 d1
      go_wp2_with (first
        | (go_at_call 68; refine (spCount_c (q : Int) _ (by omega) (by omega)).mono ?_; rw [Int.toNat_natCast]; rintro e w2 ⟨rfl, rfl⟩)
        | (refine wpList_len sliceT rfl (.tmp _) rfl v rfl w.heap.size l HL2.out ?_))
      go_loopw [35] (fun iv wr => ∃ k : Nat, k ≤ l.length ∧ iv = .int .i64 k ∧ Hid (∃ sv, own 3 wr (w1.heap.size + 1) sv (setsTo (lmTo l (fun a => andNot s a == 0) (rn q) k) 128) ∧ wr.heap[w1.heap.size]? = some (.cells #[.int .i64 (pc q : Int), sv] 24)) ∧ Hid (wr.heap[w.heap.size + 1]? = some (.cells #[.int .i64 0, .slice none 0 0] 24)) ∧ Hid (Below w.heap.size w wr) ∧ Hid (ints w.heap.size wr v l) ∧ w1.heap.size + 1 ≤ wr.heap.size) (fun iv _ => l.length - (intOf iv).toNat)
      case atStart => exact ⟨0, Nat.zero_le _, rfl, ⟨_, by rw [show lmTo l (fun a => andNot s a == 0) (rn q) 0 = noSet from rfl, ← sets_none]; exact own_nil _ _ _, HT0.out⟩, HR2, HB2, HL2, by rw [HZ2.out]; exact Nat.le_refl _⟩
      case round =>
        obtain ⟨k, hk, rfl, HO, HRR, HBB, HLL, hsz⟩ := hrel
        clear HT0 HS2 HR2 HB2 HL2 HZ2 hd1
        by_cases hlt : k < l.length
        · have HX := hide (nth_cast HSP.out k hlt)
          have hy := okSp_lt128 HSP.out _ ((okSp_has HSP.out (nth l k)).2 ⟨k, hlt, rfl⟩)
          have hst := (show lmTo l (fun a => andNot s a == 0) (rn q) (k + 1) = if (andNot s (nth l k) == 0) = true then upd (lmTo l (fun a => andNot s a == 0) (rn q) k) (rn q (nth l k)) true else lmTo l (fun a => andNot s a == 0) (rn q) k from rfl)
          have hsub := i64_andNot s (nth l k) (by omega)
          generalize nth l k = y at HX hy hst hsub
          cases hc : (andNot s y == 0)
          · have HST := hide (show lmTo l (fun a => andNot s a == 0) (rn q) (k + 1) = lmTo l (fun a => andNot s a == 0) (rn q) k by rw [hst, hc]; rfl)
            have hc2 : (((andNot s y : Nat) : Int) == 0) = false := by
              rw [← hc]; rw [Bool.eq_iff_iff]; simp
            generalize andNot s y = sy at hsub hc2
            clear hst hc
            go_wp2_with (refine wpList_at sliceT intS rfl (.tmp _) (.tmp _) rfl v rfl k rfl w.heap.size l HLL.out hlt ?_; intro ad hcell hblk; rw [HX.out] at hcell)
            go_roundw
            case rel => exact ⟨k + 1, by omega, by go_num, by rw [HST.out]; exact HO, HRR, HBB, HLL, hsz⟩
            case measure => simp [intOf]; omega
          · have HST := hide (show lmTo l (fun a => andNot s a == 0) (rn q) (k + 1) = upd (lmTo l (fun a => andNot s a == 0) (rn q) k) (rn q y) true by rw [hst, hc]; rfl)
            have hc2 : (((andNot s y : Nat) : Int) == 0) = true := by
              rw [← hc]; rw [Bool.eq_iff_iff]; simp
            generalize andNot s y = sy at hsub hc2
            have hand := i64_and y q (by omega) (by omega)
            have hys : y &&& q < 128 := Nat.and_lt_two_pow (n := 7) _ hrl
            have HRA := hide (rn_and q y)
            have hr128 := rn_lt128 q y hrl
            generalize rn q y = r at HST HRA hr128
            generalize y &&& q = ys at hand hys HRA
            generalize lmTo l (fun a => andNot s a == 0) (rn q) k = G at HO HST
            clear hst hc
            obtain ⟨sv, ho2, ht2⟩ := HO.out
            have HOO := hide ho2
            have HTT := hide ht2
            clear ho2 ht2 HO
            have hcv : wr.cell? ⟨w1.heap.size, 1, none⟩ = some sv := cells_at1 HTT.out
            go_wp2_with (refine wpList_at sliceT intS rfl (.tmp _) (.tmp _) rfl v rfl k rfl w.heap.size l HLL.out hlt ?_; intro ad hcell hblk; rw [HX.out] at hcell)
            refine wp_region_held (S := fun _ => True) (by kernel_rfl) ?_
            refine wpAnyH_take (i := 0) (v := .pointer (some ⟨w1.heap.size, 1, none⟩)) rfl (by kernel_rfl) (by kernel_rfl) (by kernel_rfl) (fun _ _ _ h => h) (.inl ⟨rfl, fun w' _ => by go_simp⟩) trivial ?_
            refine wpAnyH_take (i := 2) (v := .int .i64 (y : Int)) rfl (by kernel_rfl) (by kernel_rfl) (by kernel_rfl) (fun _ _ _ h => h) (.inl ⟨rfl, fun w' _ => by go_simp⟩) trivial ?_
            refine wpAnyH_take (i := 3) (v := .int .i64 (q : Int)) rfl (by kernel_rfl) (by kernel_rfl) (by kernel_rfl) (fun _ _ _ h => h) (.inl ⟨rfl, fun w' _ => by go_simp⟩) trivial ?_
            refine wpAnyH_take (i := 4) (v := .int .i64 (ys : Int)) rfl (by kernel_rfl) (by kernel_rfl) (by kernel_rfl) (fun _ _ _ h => h) (.inl ⟨rfl, fun w' _ => by simp [go_sem, Act.put, hand]⟩) trivial ?_
            refine wpAnyH_take (i := 5) (v := .int .i64 (q : Int)) rfl (by kernel_rfl) (by kernel_rfl) (by kernel_rfl) (fun _ _ _ h => h) (.inl ⟨rfl, fun w' _ => by go_simp⟩) trivial ?_
            simp only [Act.put, List.getElem_toArray, List.getElem_cons_zero, List.getElem_cons_succ, List.setIfInBounds_toArray, List.set_cons_zero, List.set_cons_succ]
            obtain ⟨aa, cc, hsv⟩ := HOO.out.shape
            refine anyH_op_call (i := 1) (j := 6) (by kernel_rfl) (by kernel_rfl) (by kernel_rfl) rfl rfl (by decide) sv (.int .i64 (r : Int)) rfl rfl rfl rfl rfl ?hq1 ?hq2 69 ent_spNumbered _ _ rfl #[.int .i64 (ys : Int), .int .i64 (q : Int)] rfl rfl (by have := spNumbered_c ys q wr.drew hys hrl; rw [HRA.out] at this; exact this) trivial ?_
            case hq1 => subst hsv; simp [go_sem, hcv]
            case hq2 => subst hsv; simp [go_sem, hcv]
            simp only [Act.put, List.getElem_toArray, List.getElem_cons_zero, List.getElem_cons_succ, List.setIfInBounds_toArray, List.set_cons_zero, List.set_cons_succ]
            have hoo : own 3 wr.drew (w1.heap.size + 1) sv (setsTo G 128) := HOO.out
            have hcall := spPut_c sv G r wr.drew (w1.heap.size + 1) hr128 hoo hsz
            refine anyH_call (i := 7) (by kernel_rfl) rfl rfl 48 ent_spPutN _ _ rfl #[sv, .int .i64 (r : Int)] rfl hcall ?_
            rintro e w2 ⟨v1, rfl, ho1, hb1⟩
            have hz1 : wr.heap.size ≤ w2.heap.size := hb1.size
            have ht1 : w2.heap[w1.heap.size]? = some (.cells #[.int .i64 (pc q : Int), sv] 24) := (hb1.block w1.heap.size (by show _ < wr.heap.size; omega)).trans HTT.out
            have hr1 : w2.heap[w.heap.size + 1]? = some (.cells #[.int .i64 0, .slice none 0 0] 24) := (hb1.block (w.heap.size + 1) (by show _ < wr.heap.size; have := HZ1.out; omega)).trans HRR.out
            have hbb : Below w.heap.size w w2 := HBB.out.trans ((Below.refl _ _).drew.trans (hb1.mono (by show w.heap.size ≤ wr.heap.size; have := HZ1.out; omega)))
            have hll : ints w.heap.size w2 v l := HLL.out.below ((Below.refl _ _).drew.trans (hb1.mono (by show w.heap.size ≤ wr.heap.size; have := HZ1.out; omega))) (Nat.le_refl _)
            have c1 := cells_at1 ht1
            have f1 := hp_free ht1 1
            refine ⟨v1, rfl, trivial, ?_⟩
            simp only [Act.put, List.getElem_toArray, List.getElem_cons_zero, List.getElem_cons_succ, List.setIfInBounds_toArray, List.set_cons_zero, List.set_cons_succ]
            refine anyH_op (i := 8) (by kernel_rfl) rfl rfl (.pointer (some ⟨w1.heap.size, 1, none⟩)) w2 ?hq3 trivial ?_
            case hq3 => go_simp
            simp only [Act.put, List.getElem_toArray, List.getElem_cons_zero, List.getElem_cons_succ, List.setIfInBounds_toArray, List.set_cons_zero, List.set_cons_succ]
            refine anyH_skip (i := 9) (by kernel_rfl) rfl rfl (w2.setCell ⟨w1.heap.size, 1, none⟩ v1) ?hq4 trivial ?_
            case hq4 =>
              obtain ⟨aa2, cc2, hv1⟩ := ho1.shape
              subst hv1
              subst hsv
              simp [go_sem, c1, f1]
            refine wpAnyH_done (by kernel_rfl) ?_ _
            simp only [Act.put, List.getElem_toArray, List.getElem_cons_zero, List.getElem_cons_succ]
            have HO3 := hide (ho1.setLow ⟨w1.heap.size, 1, none⟩ (by show w1.heap.size < _; omega) v1)
            have HT3 := hide (bareN ht1 v1)
            have HR3 := hide ((hp_setO w2 ⟨w1.heap.size, 1, none⟩ (w.heap.size + 1) v1 (by show w.heap.size + 1 ≠ w1.heap.size; have := HZ1.out; omega)).trans hr1)
            have HB3 := hide (hbb.setCell (p := ⟨w1.heap.size, 1, none⟩) (by show w.heap.size ≤ w1.heap.size; have := HZ1.out; omega) v1)
            have HL3 := hide (hll.setCell ⟨w1.heap.size, 1, none⟩ (by show w.heap.size ≤ w1.heap.size; have := HZ1.out; omega) v1)
            clear hoo ho1 hb1 ht1 hr1 hbb hll c1 f1 hcv
            go_wp2
            go_roundw
            case rel => exact ⟨k + 1, by omega, by go_num, ⟨v1, by rw [HST.out]; exact HO3.out, HT3.out⟩, HR3, HB3, HL3, by show w1.heap.size + 1 ≤ _; simp [World.setCell]; omega⟩
            case measure => simp [intOf]; omega
        · have HKE := hide (show k = l.length by omega)
          obtain ⟨sv, ho, ht⟩ := HO.out
          obtain ⟨aa, cc, hsv⟩ := ho.shape
          subst hsv
          have HE := hide (show lmTo l (fun a => andNot s a == 0) (rn q) k = RF by rw [HF.out, HKE.out])
          rw [HE.out] at ho ht
          have HOO := hide ho
          have hd0 := cells_at0 ht
          have hd1 := cells_at1 ht
          have c0 := cells_at0 HRR.out
          have c1 := cells_at1 HRR.out
          have f0 := hp_free HRR.out 0
          have f1 := hp_free HRR.out 1
          generalize hRE : setsTo RF 128 = R at HOO hd1
          have HRE := hide hRE
          clear ho ht HO hk hRE
          go_wp2
          refine bodyPost_ret (v := .tuple #[.agg #[.int .i64 (pc q : Int), .slice aa R.length cc], .bool true]) (by simp [results, Try.results33, go_sem, c0, c1]) rfl ⟨_, rfl, ?_, ?_⟩
          · have hz := HZ1.out
            have hfin := ((HOO.out.setLow ⟨w.heap.size + 1, 0, none⟩ (show w.heap.size + 1 < w1.heap.size + 1 by omega) (.int .i64 (pc q : Int))).setLow ⟨w.heap.size + 1, 1, none⟩ (show w.heap.size + 1 < w1.heap.size + 1 by omega) (.slice aa R.length cc))
            have hfin2 : own 3 _ w.heap.size (.slice aa R.length cc) R := hfin.mono (show w.heap.size ≤ w1.heap.size + 1 by omega)
            rw [HRE.out]; exact hfin2
          · exact (HBB.out.setCell (by show w.heap.size ≤ w.heap.size + 1; omega) _).setCell (by show w.heap.size ≤ w.heap.size + 1; omega) _

theorem ent_fullB : enters Try.prog 56 := enters_of Try.func56 (by kernel_rfl) (by kernel_rfl)
theorem ent_traceB : enters Try.prog 71 := enters_of Try.func71 (by kernel_rfl) (by kernel_rfl)
theorem ent_spaceB : enters Try.prog 58 := enters_of Try.func58 (by kernel_rfl) (by kernel_rfl)
set_option maxHeartbeats 4000000 in
theorem implBehindSet_c (n : Int) (v : Value) (l : List Int) (x : Int) (w : World) (hl : ints w.heap.size w v l) (hlen : l.length < 1000000000) :
    Calls Try.prog 34 #[.agg #[.int .i64 n, v], .int .i64 x] w fun e w' => ∃ v', e = .returned (.tuple #[.agg #[.int .i64 (beN n l x), v'], .bool (beB n l x)]) ∧ own 3 w' w.heap.size v' (beL n l x) ∧ Below w.heap.size w w' := by
  have hr0 : ((w.alloc (.cells #[.int .i64 n, v] 24)).alloc (.cells #[.int .i64 0, .slice none 0 0] 24)).heap[w.heap.size + 1]? = some (.cells #[.int .i64 0, .slice none 0 0] 24) := by have := hp_last (w.alloc (.cells #[.int .i64 n, v] 24)) (.cells #[.int .i64 0, .slice none 0 0] 24); simpa using this
  have H0 := hide (((Below.refl w.heap.size w).alloc (Nat.le_refl _) (.cells #[.int .i64 n, v] 24)).alloc (by simp) (.cells #[.int .i64 0, .slice none 0 0] 24))
  have HZ0 := hide (show ((w.alloc (.cells #[.int .i64 n, v] 24)).alloc (.cells #[.int .i64 0, .slice none 0 0] 24)).heap.size = w.heap.size + 2 by simp)
  have HL0 := hide (((hl.alloc (.cells #[.int .i64 n, v] 24)).alloc (.cells #[.int .i64 0, .slice none 0 0] 24)).mono (show w.heap.size ≤ ((w.alloc (.cells #[.int .i64 n, v] 24)).alloc (.cells #[.int .i64 0, .slice none 0 0] 24)).heap.size by rw [HZ0.out]; omega))
  have HR0 := hide hr0
  clear hl hr0
  cases hok : okOne n l x
  · have HK := hide hok
    have HB := hide (beB_no1 hok)
    rw [beN_no HB.out, beL_no HB.out, HB.out]
    clear hok
    go_enter Try.func34, Try.ntmps34
    go_wp2_with (first
      | (go_at_call 70; refine (familyAndOwnSet_c n v l x _ HL0.out hlen).mono ?_; rw [famVal3_no n l x HK.out]; rintro e w1 ⟨rfl, hb1⟩; have hz1 : w.heap.size + 2 ≤ w1.heap.size := (by have := hb1.size; rw [HZ0.out] at this; exact this); have hr1 : ((w1.alloc (.cells (fam 0 noSet) 64)).setRow w1.heap.size (fam 0 noSet)).heap[w.heap.size + 1]? = some (.cells #[.int .i64 0, .slice none 0 0] 24) := (hp_rowO _ _ _ _ (by omega)).trans ((hp_old _ _ _ (by omega)).trans ((hb1.block (w.heap.size + 1) (by rw [HZ0.out]; omega)).trans HR0.out)); obtain ⟨q0, q1, q2, q3⟩ := zero_slots hr1; have HB2 := hide (bl_row ((H0.out.trans (hb1.mono (by rw [HZ0.out]; omega))).alloc (by omega) (.cells (fam 0 noSet) 64)) (show w.heap.size ≤ w1.heap.size by omega) (fam 0 noSet)); clear hb1 hr1)
      | (refine wpList_alloc_fam zeroT rfl rfl _ (by first | (simp only [World.size_alloc]; rfl) | rfl) ?_)
      | (refine wpList_store_fam sizeT rfl (.tmp _) (.tmp _) rfl _ _ _ rfl rfl _ _ (famAt.new _ _ _ _) ?_))
    refine bodyPost_ret (v := .tuple #[.agg #[.int .i64 0, .slice none 0 0], .bool false]) (by simp [results, Try.results34, go_sem, q0, q1]) rfl ⟨_, rfl, own_nil _ _ _, ?_⟩
    exact (HB2.out.setCell (by show w.heap.size ≤ w.heap.size + 1; omega) _).setCell (by show w.heap.size ≤ w.heap.size + 1; omega) _
  · have HK := hide hok
    have hn := okSp_n (okOne_sp hok)
    obtain ⟨m, rfl⟩ := Int.eq_ofNat_of_zero_le (show 0 ≤ n by omega)
    have hx := okOne_lt hok
    obtain ⟨s, rfl⟩ := Int.eq_ofNat_of_zero_le hx.1
    have hs128 : s < 128 := by omega
    have hlo := low_lt m (by omega)
    have hn1 : 0 ≤ (m : Int) := by omega
    have hn7 : (m : Int) ≤ 7 := by omega
    by_cases hx0 : (s : Int) = (low m : Int)
    · have HB := hide (beB_no2 (n := (m : Int)) (l := l) (x := (s : Int)) (by rw [Int.toNat_natCast]; exact hx0))
      have hxb : ((s : Int) == (low m : Int)) = true := by simpa using hx0
      rw [beN_no HB.out, beL_no HB.out, HB.out]
      clear hok hn hx hx0
      go_enter Try.func34, Try.ntmps34
      go_wp2_with (first
        | (go_at_call 70; refine (familyAndOwnSet_c (m : Int) v l (s : Int) _ HL0.out hlen).mono ?_; rw [famVal3_yes (m : Int) l (s : Int) HK.out]; rintro e w1 ⟨rfl, hb1⟩; have hz1 : w.heap.size + 2 ≤ w1.heap.size := (by have := hb1.size; rw [HZ0.out] at this; exact this); have hr1 : ((w1.alloc (.cells (fam 0 noSet) 64)).setRow w1.heap.size (fam (m : Int) (marksTo l l.length))).heap[w.heap.size + 1]? = some (.cells #[.int .i64 0, .slice none 0 0] 24) := (hp_rowO _ _ _ _ (by omega)).trans ((hp_old _ _ _ (by omega)).trans ((hb1.block (w.heap.size + 1) (by rw [HZ0.out]; omega)).trans HR0.out)); obtain ⟨q0, q1, q2, q3⟩ := zero_slots hr1; have HRX := hide hr1; have HH := hide ((famAt.new 64 w1 0 noSet).row (m : Int) (marksTo l l.length)); have HZX := hide (show ((w1.alloc (.cells (fam 0 noSet) 64)).setRow w1.heap.size (fam (m : Int) (marksTo l l.length))).heap.size = w1.heap.size + 1 by simp [World.setRow]); have HB2 := hide (bl_row ((H0.out.trans (hb1.mono (by rw [HZ0.out]; omega))).alloc (by omega) (.cells (fam 0 noSet) 64)) (show w.heap.size ≤ w1.heap.size by omega) (fam (m : Int) (marksTo l l.length))); clear hb1 hr1)
        | (refine wpList_alloc_fam zeroT rfl rfl _ (by first | (simp only [World.size_alloc]; rfl) | rfl) ?_)
        | (refine wpList_store_fam sizeT rfl (.tmp _) (.tmp _) rfl _ _ _ rfl rfl _ _ (famAt.new _ _ _ _) ?_)
        | (refine wpList_load_fam rowT sizeT rfl (.tmp _) rfl _ rfl (m : Int) _ HH.out ?_)
        | (go_at_call 56; refine (full_c (m : Int) (marksTo l l.length) _ hn1 hn7).mono ?_; rw [Int.toNat_natCast]; rintro e w2 ⟨rfl, hb2⟩; have hr2 := (hb2.block (w.heap.size + 1) (by rw [HZX.out]; omega)).trans HRX.out; have HB3 := hide (HB2.out.trans (hb2.mono (by rw [HZX.out]; omega))); clear q0 q1 q2 q3; obtain ⟨q0, q1, q2, q3⟩ := zero_slots hr2; clear hb2 hr2))
      refine bodyPost_ret (v := .tuple #[.agg #[.int .i64 0, .slice none 0 0], .bool false]) (by simp [results, Try.results34, go_sem, q0, q1]) rfl ⟨_, rfl, own_nil _ _ _, ?_⟩
      exact (HB3.out.setCell (by show w.heap.size ≤ w.heap.size + 1; omega) _).setCell (by show w.heap.size ≤ w.heap.size + 1; omega) _
    · have HB := hide (beB_yes hok (by rw [Int.toNat_natCast]; exact hx0))
      rw [beN_yes HB.out, beL_yes HB.out, HB.out]
      have hxb : ((s : Int) == (low m : Int)) = false := by simpa using hx0
      have hrl := beR_lt hok
      have HF := hide (be_same hok)
      have hrest := i64_andNot (low m) s (by omega)
      rw [show andNot (low m) s = beR (m : Int) (s : Int) from rfl] at hrest
      generalize hF : beF (m : Int) l (s : Int) = RF at HF
      generalize beR (m : Int) (s : Int) = q at hrl HF hrest
      clear hok hx hx0 hF hn
      go_enter Try.func34, Try.ntmps34
      go_wp2_with (first
        | (go_at_call 70; refine (familyAndOwnSet_c (m : Int) v l (s : Int) _ HL0.out hlen).mono ?_; rw [famVal3_yes (m : Int) l (s : Int) HK.out]; rintro e w1 ⟨rfl, hb1⟩; have hz1 : w.heap.size + 2 ≤ w1.heap.size := (by have := hb1.size; rw [HZ0.out] at this; exact this); have hr1 : ((w1.alloc (.cells (fam 0 noSet) 64)).setRow w1.heap.size (fam (m : Int) (marksTo l l.length))).heap[w.heap.size + 1]? = some (.cells #[.int .i64 0, .slice none 0 0] 24) := (hp_rowO _ _ _ _ (by omega)).trans ((hp_old _ _ _ (by omega)).trans ((hb1.block (w.heap.size + 1) (by rw [HZ0.out]; omega)).trans HR0.out)); obtain ⟨q0, q1, q2, q3⟩ := zero_slots hr1; have HRX := hide hr1; have HH := hide ((famAt.new 64 w1 0 noSet).row (m : Int) (marksTo l l.length)); have HZX := hide (show ((w1.alloc (.cells (fam 0 noSet) 64)).setRow w1.heap.size (fam (m : Int) (marksTo l l.length))).heap.size = w1.heap.size + 1 by simp [World.setRow]); have HB2 := hide (bl_row ((H0.out.trans (hb1.mono (by rw [HZ0.out]; omega))).alloc (by omega) (.cells (fam 0 noSet) 64)) (show w.heap.size ≤ w1.heap.size by omega) (fam (m : Int) (marksTo l l.length))); clear hb1 hr1)
        | (refine wpList_alloc_fam zeroT rfl rfl _ (by first | (simp only [World.size_alloc]; rfl) | rfl) ?_)
        | (refine wpList_store_fam sizeT rfl (.tmp _) (.tmp _) rfl _ _ _ rfl rfl _ _ (famAt.new _ _ _ _) ?_)
        | (refine wpList_load_fam rowT sizeT rfl (.tmp _) rfl _ rfl (m : Int) _ HH.out ?_)
        | (go_at_call 56; refine (full_c (m : Int) (marksTo l l.length) _ hn1 hn7).mono ?_; rw [Int.toNat_natCast]; rintro e w2 ⟨rfl, hb2⟩; have HH2 := hide (HH.out.below hb2 HH.out.lt); have HR2 := hide ((hb2.block (w.heap.size + 1) (by rw [HZX.out]; omega)).trans HRX.out); have HB3 := hide (HB2.out.trans (hb2.mono (by rw [HZX.out]; omega))); have HZ2 := hide (show w1.heap.size + 1 ≤ w2.heap.size by rw [← HZX.out]; exact hb2.size); clear q0 q1 q2 q3 hb2))
      refine wp_region_held (S := fun w' => famAt 64 w' w1.heap.size (m : Int) (marksTo l l.length)) (by kernel_rfl) ?_
      have hS : famAt 64 w2.drew w1.heap.size (m : Int) (marksTo l l.length) := HH2.out
      refine wpAnyH_take (i := 0) rfl (by kernel_rfl) (by kernel_rfl) (by kernel_rfl) (fun _ _ _ h => h) (yields_load_fam rowT sizeT rfl (.tmp _) rfl _ rfl (m : Int) (marksTo l l.length) (fun w' h => h)) hS ?_
      refine wpAnyH_take (i := 1) rfl (by kernel_rfl) (by kernel_rfl) (by kernel_rfl) (fun _ _ _ h => h) (yields_load_fam rowT sizeT rfl (.tmp _) rfl _ rfl (m : Int) (marksTo l l.length) (fun w' h => h)) hS ?_
      refine wpAnyH_take (i := 3) (v := .int .i64 (s : Int)) rfl (by kernel_rfl) (by kernel_rfl) (by kernel_rfl) (fun _ _ _ h => h) (.inl ⟨rfl, fun w' _ => by go_simp⟩) hS ?_
      refine anyH_call (i := 2) (by kernel_rfl) rfl rfl 56 ent_fullB _ _ rfl #[.agg (fam (m : Int) (marksTo l l.length))] rfl (full_c (m : Int) (marksTo l l.length) _ hn1 hn7) ?_
      rw [Int.toNat_natCast]
      rintro e w3 ⟨rfl, hb3⟩
      have hS3 := hS.below hb3 hS.lt
      refine ⟨_, rfl, hS3, ?_⟩
      refine anyH_op (i := 4) (by kernel_rfl) rfl rfl (.int .i64 (q : Int)) w3 ?hq1 hS3 ?_
      case hq1 => simp [go_sem, Act.put, hrest]
      refine anyH_call (i := 5) (by kernel_rfl) rfl rfl 71 ent_traceB _ _ rfl #[.agg (fam (m : Int) (marksTo l l.length)), .int .i64 (q : Int)] rfl (trace_c (m : Int) (marksTo l l.length) q _ hrl) ?_
      rw [HF.out]
      rintro e w4 ⟨rfl, hb4⟩
      have hS4 := hS3.below hb4 hS3.lt
      refine ⟨_, rfl, hS4, ?_⟩
      refine anyH_call (i := 6) (by kernel_rfl) rfl rfl 58 ent_spaceB _ _ rfl #[.agg (fam (pc q : Int) RF)] rfl (space_c (pc q : Int) RF _) ?_
      rintro e w5 ⟨v5, rfl, ho5, hb5⟩
      have hS5 := hS4.below hb5 hS4.lt
      obtain ⟨aa, cc, hv⟩ := ho5.shape
      refine ⟨_, rfl, hS5, ?_⟩
      have hz3 : w2.heap.size ≤ w3.heap.size := hb3.size
      have hz4 := hb4.size
      have hz5 := hb5.size
      have hz2 := HZ2.out
      have hb35 : Below w2.heap.size w2 w5 := (Below.refl _ _).drew.trans (hb3.trans ((hb4.mono hz3).trans (hb5.mono (by omega))))
      have hr5 := (hb35.block (w.heap.size + 1) (by omega)).trans HR2.out
      obtain ⟨q0, q1, q2, q3⟩ := zero_slots hr5
      have HB5 := hide (HB3.out.trans (hb35.mono HB3.out.size))
      have HO5 := hide ho5
      subst hv
      have hne : ¬ w.heap.size + 1 = w1.heap.size := by omega
      have hSF : famAt 64 ((w5.setCell ⟨w.heap.size + 1, 0, none⟩ (.int .i64 (pc q : Int))).setCell ⟨w.heap.size + 1, 1, none⟩ (.slice aa (setsTo RF 128).length cc)) w1.heap.size (m : Int) (marksTo l l.length) := (hS5.setO ⟨w.heap.size + 1, 0, none⟩ (show w1.heap.size ≠ w.heap.size + 1 by omega) _).setO ⟨w.heap.size + 1, 1, none⟩ (show w1.heap.size ≠ w.heap.size + 1 by omega) _
      refine anyH_skip (i := 7) (by kernel_rfl) rfl rfl ((w5.setCell ⟨w.heap.size + 1, 0, none⟩ (.int .i64 (pc q : Int))).setCell ⟨w.heap.size + 1, 1, none⟩ (.slice aa (setsTo RF 128).length cc)) ?hq2 hSF ?_
      case hq2 => simp [go_sem, Act.put, q0, q1, q2, q3]
      refine anyH_op (i := 8) (by kernel_rfl) rfl rfl (.bool true) _ ?hq3 hSF ?_
      case hq3 => simp [go_sem]
      refine wpAnyH_done (by kernel_rfl) ?_ _
      simp only [Act.put, List.getElem_toArray, List.getElem_cons_zero, List.getElem_cons_succ, List.setIfInBounds_toArray, List.set_cons_zero, List.set_cons_succ]
      clear hS hS3 hS4 hS5 hSF hb3 hb4 hb5 hb35 hr5 ho5
      go_wp2
      refine bodyPost_ret (v := .tuple #[.agg #[.int .i64 (pc q : Int), .slice aa (setsTo RF 128).length cc], .bool true]) (by simp [results, Try.results34, go_sem, q0, q1]) rfl ⟨_, rfl, ?_, ?_⟩
      · have hfin := ((HO5.out.setLow ⟨w.heap.size + 1, 0, none⟩ (show w.heap.size + 1 < w4.heap.size by omega) (.int .i64 (pc q : Int))).setLow ⟨w.heap.size + 1, 1, none⟩ (show w.heap.size + 1 < w4.heap.size by omega) (.slice aa (setsTo RF 128).length cc))
        exact hfin.mono (show w.heap.size ≤ w4.heap.size by omega)
      · exact (HB5.out.setCell (by show w.heap.size ≤ w.heap.size + 1; omega) _).setCell (by show w.heap.size ≤ w.heap.size + 1; omega) _
end Go.Proofs.Ytceofjlhbomcaaa
