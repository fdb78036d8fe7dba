/- Contracts: what one of the sets has in common with all, the specification's and the program's. -/
import Derived.Test.YtceofjlhbomcaaaIm
import Derived.Test.YtceofjlhbomcaaaNm
import Derived.Test.YtceofjlhbomcaaaFr
namespace Go.Proofs.Ytceofjlhbomcaaa
open Go.RowKit
set_option maxRecDepth 100000

def rsB (n : Int) (l : List Int) (x : Int) : Bool := okOne n l x && !(x == 0)
def rsF (l : List Int) (x : Int) : Nat → Bool := lmTo l (fun _ => true) (rn x.toNat) l.length
def rsN (n : Int) (l : List Int) (x : Int) : Int := if rsB n l x then pc x.toNat else 0
def rsL (n : Int) (l : List Int) (x : Int) : List Int := if rsB n l x then setsTo (rsF l x) 128 else []
theorem rsB_no1 {n : Int} {l : List Int} {x : Int} (h : okOne n l x = false) : rsB n l x = false := by simp [rsB, h]
theorem rsB_no2 {n : Int} {l : List Int} : rsB n l 0 = false := by simp [rsB]
theorem rsB_yes {n : Int} {l : List Int} {x : Int} (h : okOne n l x = true) (h0 : x ≠ 0) : rsB n l x = true := by simp [rsB, h, h0]
theorem rsN_no {n : Int} {l : List Int} {x : Int} (h : rsB n l x = false) : rsN n l x = 0 := by simp [rsN, h]
theorem rsN_yes {n : Int} {l : List Int} {x : Int} (h : rsB n l x = true) : rsN n l x = pc x.toNat := by simp [rsN, h]
theorem rsL_no {n : Int} {l : List Int} {x : Int} (h : rsB n l x = false) : rsL n l x = [] := by simp [rsL, h]
theorem rsL_yes {n : Int} {l : List Int} {x : Int} (h : rsB n l x = true) : rsL n l x = setsTo (rsF l x) 128 := by simp [rsL, h]
theorem rsL_len (n : Int) (l : List Int) (x : Int) : (rsL n l x).length < 1000000000 := by
  unfold rsL
  split
  · have := setsTo_len (rsF l x) 128; omega
  · simp
theorem okOne_lt {n : Int} {l : List Int} {x : Int} (h : okOne n l x = true) : 0 ≤ x ∧ x < 128 := by
  have h1 := okSet_in (okOne_set h)
  have h2 := low_lt n.toNat (by have := okSp_n (okOne_sp h); omega)
  omega
theorem okOne_mark {n : Int} {l : List Int} {x : Int} (h : okOne n l x = true) : marksTo l l.length x.toNat = true := by
  have h1 := okOne_lt h
  rw [okSp_marks (okOne_sp h), show ((x.toNat : Nat) : Int) = x by omega]
  simp only [okOne, Bool.and_eq_true] at h
  exact h.2
theorem pc_pos : ∀ x, x < 128 → x ≠ 0 → 1 ≤ pc x := by decide +kernel
/-- The specification's last test of its answer. -/
theorem rs_good {n : Int} {l : List Int} {x : Int} (h : okOne n l x = true) (h0 : x ≠ 0) : goodB ((pc x.toNat : Nat) : Int) (setsTo (rsF l x) 128) = true := by
  have hx := okOne_lt h
  have hS := okSp_spc (okOne_sp h)
  have h7 := okSp_n (okOne_sp h)
  have hT := trace_spc hS (by omega) x.toNat (okOne_mark h)
  rw [img_lm (okOne_sp h)] at hT
  have hp := pc_le x.toNat
  rw [← ok_good, okSp_sets (pc x.toNat) (rsF l x) (pc_pos x.toNat (by omega) (by omega)) hp hT.lt]
  exact (spc_iff hp hT.lt).2 hT
attribute [local irreducible] p2 low memB risB

theorem nth_cast {n : Int} {l : List Int} (h : okSp n l = true) (k : Nat) (hk : k < l.length) : l[k]?.getD 0 = (nth l k : Int) := by
  have := okSp_pos h k hk
  unfold nth; omega

set_option maxHeartbeats 2000000 in
theorem specRestrictTo_c (n : Int) (v : Value) (l : List Int) (x : Int) (w : World) (hl : ints w.heap.size w v l) (hlen : l.length < 1000000000) :
    Calls Try.prog 31 #[.agg #[.int .i64 n, v], .int .i64 x] w fun e w' => ∃ v', e = .returned (.tuple #[.agg #[.int .i64 (rsN n l x), v'], .bool (rsB n l x)]) ∧ own 3 w' w.heap.size v' (rsL n l x) ∧ Below w.heap.size w w' := by
  have hs0 : ((w.alloc (.cells #[.int .i64 n, v] 24)).alloc (.cells #[.int .i64 0, .slice none 0 0] 24)).heap[w.heap.size]? = some (.cells #[.int .i64 n, v] 24) := (hp_old _ _ _ (by simp)).trans (hp_last _ _)
  have hr0 : ((w.alloc (.cells #[.int .i64 n, v] 24)).alloc (.cells #[.int .i64 0, .slice none 0 0] 24)).heap[w.heap.size + 1]? = some (.cells #[.int .i64 0, .slice none 0 0] 24) := by have := hp_last (w.alloc (.cells #[.int .i64 n, v] 24)) (.cells #[.int .i64 0, .slice none 0 0] 24); simpa using this
  have H0 := hide (((Below.refl w.heap.size w).alloc (Nat.le_refl _) (.cells #[.int .i64 n, v] 24)).alloc (by simp) (.cells #[.int .i64 0, .slice none 0 0] 24))
  have HL0 := hide ((hl.alloc (.cells #[.int .i64 n, v] 24)).alloc (.cells #[.int .i64 0, .slice none 0 0] 24))
  have hz0 : ((w.alloc (.cells #[.int .i64 n, v] 24)).alloc (.cells #[.int .i64 0, .slice none 0 0] 24)).heap.size = w.heap.size + 2 := by simp
  have HS0 := hide hs0
  have HR0 := hide hr0
  have HZ0 := hide hz0
  clear hl hs0 hr0 hz0
  have key : ∀ (W : World), Hid (W.heap[w.heap.size]? = some (.cells #[.int .i64 n, v] 24)) → True := fun _ _ => trivial
  clear key
  cases hok : okOne n l x
  · have HK := hide hok
    have HB := hide (rsB_no1 hok)
    rw [rsN_no HB.out, rsL_no HB.out, HB.out]
    clear hok
    go_enter Try.func31, Try.ntmps31
    go_wp2_with (go_at_call 67; refine (spOne_c n v l _ _ (HL0.out.mono (by rw [HZ0.out]; omega)) hlen).mono ?_; rw [HK.out]; rintro e w1 ⟨rfl, hb1⟩; have hs1 := (hb1.block w.heap.size (by rw [HZ0.out]; omega)).trans HS0.out; have hr1 := (hb1.block (w.heap.size + 1) (by rw [HZ0.out]; omega)).trans HR0.out; have d0 := cells_at0 hs1; have d1 := cells_at1 hs1; have c0 := cells_at0 hr1; have c1 := cells_at1 hr1; have f0 := hp_free hr1 0; have f1 := hp_free hr1 1; have HS1 := hide hs1; have HR1 := hide hr1; have HB1 := hide (H0.out.trans (hb1.mono (by rw [HZ0.out]; omega))); have HL1 := hide (HL0.out.below hb1 (by rw [HZ0.out]; omega)); have HZ1 := hide (show w.heap.size + 2 ≤ w1.heap.size by rw [← HZ0.out]; exact hb1.size); clear hb1 hs1 hr1)
    go_wp2
    refine bodyPost_ret (v := .tuple #[.agg #[.int .i64 0, .slice none 0 0], .bool false]) (by simp [results, Try.results31, go_sem, c0, c1]) rfl ⟨_, rfl, own_nil _ _ _, ?_⟩
    exact (HB1.out.setCell (by show w.heap.size ≤ w.heap.size + 1; omega) _).setCell (by show w.heap.size ≤ w.heap.size + 1; omega) _
  · have HK := hide hok
    by_cases hx0 : x = 0
    · subst hx0
      have HB := hide (rsB_no2 (n := n) (l := l))
      rw [rsN_no HB.out, rsL_no HB.out, HB.out]
      clear hok
      go_enter Try.func31, Try.ntmps31
      go_wp2_with (go_at_call 67; refine (spOne_c n v l _ _ (HL0.out.mono (by rw [HZ0.out]; omega)) hlen).mono ?_; rw [HK.out]; rintro e w1 ⟨rfl, hb1⟩; have hs1 := (hb1.block w.heap.size (by rw [HZ0.out]; omega)).trans HS0.out; have hr1 := (hb1.block (w.heap.size + 1) (by rw [HZ0.out]; omega)).trans HR0.out; have d0 := cells_at0 hs1; have d1 := cells_at1 hs1; have c0 := cells_at0 hr1; have c1 := cells_at1 hr1; have f0 := hp_free hr1 0; have f1 := hp_free hr1 1; have HS1 := hide hs1; have HR1 := hide hr1; have HB1 := hide (H0.out.trans (hb1.mono (by rw [HZ0.out]; omega))); have HL1 := hide (HL0.out.below hb1 (by rw [HZ0.out]; omega)); have HZ1 := hide (show w.heap.size + 2 ≤ w1.heap.size by rw [← HZ0.out]; exact hb1.size); clear hb1 hs1 hr1)
      go_wp2
      refine bodyPost_ret (v := .tuple #[.agg #[.int .i64 0, .slice none 0 0], .bool false]) (by simp [results, Try.results31, go_sem, c0, c1]) rfl ⟨_, rfl, own_nil _ _ _, ?_⟩
      exact (HB1.out.setCell (by show w.heap.size ≤ w.heap.size + 1; omega) _).setCell (by show w.heap.size ≤ w.heap.size + 1; omega) _
    · have HB := hide (rsB_yes hok hx0)
      have HGOOD := hide (rs_good hok hx0)
      rw [rsN_yes HB.out, rsL_yes HB.out, HB.out]
      have hx := okOne_lt hok
      obtain ⟨s, rfl⟩ := Int.eq_ofNat_of_zero_le hx.1
      have hs128 : s < 128 := by omega
      have hxb : ((s : Int) == 0) = false := by simpa using hx0
      have HSP := hide (okOne_sp hok)
      have HF := hide (show rsF l (s : Int) = lmTo l (fun _ => true) (rn s) l.length from rfl)
      have HPC := hide (pc_le s)
      generalize hF : rsF l (s : Int) = RF at HGOOD HF
      rw [Int.toNat_natCast] at HGOOD ⊢
      have HFL := hide hF
      clear hok hx hx0 hF
      go_enter Try.func31, Try.ntmps31
      go_wp2_with (go_at_call 67; refine (spOne_c n v l _ _ (HL0.out.mono (by rw [HZ0.out]; omega)) hlen).mono ?_; rw [HK.out]; rintro e w1 ⟨rfl, hb1⟩; have hs1 := (hb1.block w.heap.size (by rw [HZ0.out]; omega)).trans HS0.out; have hr1 := (hb1.block (w.heap.size + 1) (by rw [HZ0.out]; omega)).trans HR0.out; have d0 := cells_at0 hs1; have d1 := cells_at1 hs1; have c0 := cells_at0 hr1; have c1 := cells_at1 hr1; have f0 := hp_free hr1 0; have f1 := hp_free hr1 1; have HS1 := hide hs1; have HR1 := hide hr1; have HB1 := hide (H0.out.trans (hb1.mono (by rw [HZ0.out]; omega))); have HL1 := hide (HL0.out.below hb1 (by rw [HZ0.out]; omega)); have HZ1 := hide (show w.heap.size + 2 ≤ w1.heap.size by rw [← HZ0.out]; exact hb1.size); clear hb1 hs1 hr1)
      have HT0 := hide (hp_last w1 (.cells #[.int .i64 (pc s : Int), .slice none 0 0] 24))
      have HS2 := hide ((hp_old w1 (.cells #[.int .i64 (pc s : Int), .slice none 0 0] 24) w.heap.size (by have := HZ1.out; omega)).trans HS1.out)
      have HR2 := hide ((hp_old w1 (.cells #[.int .i64 (pc s : Int), .slice none 0 0] 24) (w.heap.size + 1) (by have := HZ1.out; omega)).trans HR1.out)
      have HB2 := hide (HB1.out.alloc (by have := HZ1.out; omega) (.cells #[.int .i64 (pc s : Int), .slice none 0 0] 24))
      have HL2 := hide (HL1.out.alloc (.cells #[.int .i64 (pc s : Int), .slice none 0 0] 24))
      have hd1 := cells_at1 HS2.out
      have hz2 : (w1.alloc (.cells #[.int .i64 (pc s : Int), .slice none 0 0] 24)).heap.size = w1.heap.size + 1 := by simp
      have HZ2 := hide hz2
      clear hz2 c0 c1 f0 f1 d0 d1
      go_wp2_with (first
        | (go_at_call 68; refine (spCount_c (s : Int) _ (by omega) (by omega)).mono ?_; rw [Int.toNat_natCast]; rintro e w2 ⟨rfl, rfl⟩)
        | (refine wpList_len sliceT rfl (.tmp _) rfl v rfl w.heap.size l HL2.out ?_))
      go_loopw [24] (fun iv wr => ∃ k : Nat, k ≤ l.length ∧ iv = .int .i64 k ∧ Hid (∃ sv, own 3 wr (w1.heap.size + 1) sv (setsTo (lmTo l (fun _ => true) (rn s) k) 128) ∧ wr.heap[w1.heap.size]? = some (.cells #[.int .i64 (pc s : Int), sv] 24)) ∧ Hid (wr.heap[w.heap.size + 1]? = some (.cells #[.int .i64 0, .slice none 0 0] 24)) ∧ Hid (Below w.heap.size w wr) ∧ Hid (ints w.heap.size wr v l) ∧ w1.heap.size + 1 ≤ wr.heap.size) (fun iv _ => l.length - (intOf iv).toNat)
      case atStart => exact ⟨0, Nat.zero_le _, rfl, ⟨_, by rw [show lmTo l (fun _ => true) (rn s) 0 = noSet from rfl, ← sets_none]; exact own_nil _ _ _, HT0.out⟩, HR2, HB2, HL2, by rw [HZ2.out]; exact Nat.le_refl _⟩
      case round =>
        obtain ⟨k, hk, rfl, HO, HRR, HBB, HLL, hsz⟩ := hrel
        clear HT0 HS2 HR2 HB2 HL2 HZ2 hd1
        by_cases hlt : k < l.length
        · have HX := hide (nth_cast HSP.out k hlt)
          have hy := okSp_lt128 HSP.out _ ((okSp_has HSP.out (nth l k)).2 ⟨k, hlt, rfl⟩)
          have HST := hide (show lmTo l (fun _ => true) (rn s) (k + 1) = upd (lmTo l (fun _ => true) (rn s) k) (rn s (nth l k)) true by rw [lmTo, if_pos rfl])
          generalize nth l k = y at HX hy HST
          have hand := i64_and y s (by omega) (by omega)
          have hys : y &&& s < 128 := Nat.and_lt_two_pow (n := 7) _ hs128
          have HRA := hide (rn_and s y)
          have hr128 := rn_lt128 s y hs128
          generalize rn s y = r at HST HRA hr128
          generalize y &&& s = ys at hand hys HRA
          generalize lmTo l (fun _ => true) (rn s) k = G at HO HST
          obtain ⟨sv, ho2, ht2⟩ := HO.out
          have HOO := hide ho2
          have HTT := hide ht2
          clear ho2 ht2 HO
          have hcv : wr.cell? ⟨w1.heap.size, 1, none⟩ = some sv := cells_at1 HTT.out
          go_wp2_with (refine wpList_at sliceT intS rfl (.tmp _) (.tmp _) rfl v rfl k rfl w.heap.size l HLL.out hlt ?_; intro ad hcell hblk; rw [HX.out] at hcell)
          refine wp_region_held (S := fun _ => True) (by kernel_rfl) ?_
          refine wpAnyH_take (i := 0) (v := .pointer (some ⟨w1.heap.size, 1, none⟩)) rfl (by kernel_rfl) (by kernel_rfl) (by kernel_rfl) (fun _ _ _ h => h) (.inl ⟨rfl, fun w' _ => by go_simp⟩) trivial ?_
          refine wpAnyH_take (i := 2) (v := .int .i64 (y : Int)) rfl (by kernel_rfl) (by kernel_rfl) (by kernel_rfl) (fun _ _ _ h => h) (.inl ⟨rfl, fun w' _ => by go_simp⟩) trivial ?_
          refine wpAnyH_take (i := 3) (v := .int .i64 (s : Int)) rfl (by kernel_rfl) (by kernel_rfl) (by kernel_rfl) (fun _ _ _ h => h) (.inl ⟨rfl, fun w' _ => by go_simp⟩) trivial ?_
          refine wpAnyH_take (i := 4) (v := .int .i64 (ys : Int)) rfl (by kernel_rfl) (by kernel_rfl) (by kernel_rfl) (fun _ _ _ h => h) (.inl ⟨rfl, fun w' _ => by simp [go_sem, Act.put, hand]⟩) trivial ?_
          refine wpAnyH_take (i := 5) (v := .int .i64 (s : Int)) rfl (by kernel_rfl) (by kernel_rfl) (by kernel_rfl) (fun _ _ _ h => h) (.inl ⟨rfl, fun w' _ => by go_simp⟩) trivial ?_
          simp only [Act.put, List.getElem_toArray, List.getElem_cons_zero, List.getElem_cons_succ, List.setIfInBounds_toArray, List.set_cons_zero, List.set_cons_succ]
          obtain ⟨aa, cc, hsv⟩ := HOO.out.shape
          refine anyH_op_call (i := 1) (j := 6) (by kernel_rfl) (by kernel_rfl) (by kernel_rfl) rfl rfl (by decide) sv (.int .i64 (r : Int)) rfl rfl rfl rfl rfl ?hq1 ?hq2 69 ent_spNumbered _ _ rfl #[.int .i64 (ys : Int), .int .i64 (s : Int)] rfl rfl (by have := spNumbered_c ys s wr.drew hys hs128; rw [HRA.out] at this; exact this) trivial ?_
          case hq1 => subst hsv; simp [go_sem, hcv]
          case hq2 => subst hsv; simp [go_sem, hcv]
          simp only [Act.put, List.getElem_toArray, List.getElem_cons_zero, List.getElem_cons_succ, List.setIfInBounds_toArray, List.set_cons_zero, List.set_cons_succ]
          have hoo : own 3 wr.drew (w1.heap.size + 1) sv (setsTo G 128) := HOO.out
          have hcall := spPut_c sv G r wr.drew (w1.heap.size + 1) hr128 hoo hsz
          refine anyH_call (i := 7) (by kernel_rfl) rfl rfl 48 ent_spPutN _ _ rfl #[sv, .int .i64 (r : Int)] rfl hcall ?_
          rintro e w2 ⟨v1, rfl, ho1, hb1⟩
          have hz1 : wr.heap.size ≤ w2.heap.size := hb1.size
          have ht1 : w2.heap[w1.heap.size]? = some (.cells #[.int .i64 (pc s : Int), sv] 24) := (hb1.block w1.heap.size (by show _ < wr.heap.size; omega)).trans HTT.out
          have hr1 : w2.heap[w.heap.size + 1]? = some (.cells #[.int .i64 0, .slice none 0 0] 24) := (hb1.block (w.heap.size + 1) (by show _ < wr.heap.size; have := HZ1.out; omega)).trans HRR.out
          have hbb : Below w.heap.size w w2 := HBB.out.trans ((Below.refl _ _).drew.trans (hb1.mono (by show w.heap.size ≤ wr.heap.size; have := HZ1.out; omega)))
          have hll : ints w.heap.size w2 v l := HLL.out.below ((Below.refl _ _).drew.trans (hb1.mono (by show w.heap.size ≤ wr.heap.size; have := HZ1.out; omega))) (Nat.le_refl _)
          have c1 := cells_at1 ht1
          have f1 := hp_free ht1 1
          refine ⟨v1, rfl, trivial, ?_⟩
          simp only [Act.put, List.getElem_toArray, List.getElem_cons_zero, List.getElem_cons_succ, List.setIfInBounds_toArray, List.set_cons_zero, List.set_cons_succ]
          refine anyH_op (i := 8) (by kernel_rfl) rfl rfl (.pointer (some ⟨w1.heap.size, 1, none⟩)) w2 ?hq3 trivial ?_
          case hq3 => go_simp
          simp only [Act.put, List.getElem_toArray, List.getElem_cons_zero, List.getElem_cons_succ, List.setIfInBounds_toArray, List.set_cons_zero, List.set_cons_succ]
          refine anyH_skip (i := 9) (by kernel_rfl) rfl rfl (w2.setCell ⟨w1.heap.size, 1, none⟩ v1) ?hq4 trivial ?_
          case hq4 =>
            obtain ⟨aa2, cc2, hv1⟩ := ho1.shape
            subst hv1
            subst hsv
            simp [go_sem, c1, f1]
          refine wpAnyH_done (by kernel_rfl) ?_ _
          simp only [Act.put, List.getElem_toArray, List.getElem_cons_zero, List.getElem_cons_succ]
          have HO3 := hide (ho1.setLow ⟨w1.heap.size, 1, none⟩ (by show w1.heap.size < _; omega) v1)
          have HT3 := hide (bareN ht1 v1)
          have HR3 := hide ((hp_setO w2 ⟨w1.heap.size, 1, none⟩ (w.heap.size + 1) v1 (by show w.heap.size + 1 ≠ w1.heap.size; have := HZ1.out; omega)).trans hr1)
          have HB3 := hide (hbb.setCell (p := ⟨w1.heap.size, 1, none⟩) (by show w.heap.size ≤ w1.heap.size; have := HZ1.out; omega) v1)
          have HL3 := hide (hll.setCell ⟨w1.heap.size, 1, none⟩ (by show w.heap.size ≤ w1.heap.size; have := HZ1.out; omega) v1)
          clear hoo ho1 hb1 ht1 hr1 hbb hll c1 f1 hcv
          go_wp2
          go_roundw
          case rel => exact ⟨k + 1, by omega, by go_num, ⟨v1, by rw [HST.out]; exact HO3.out, HT3.out⟩, HR3, HB3, HL3, by show w1.heap.size + 1 ≤ _; simp [World.setCell]; omega⟩
          case measure => simp [intOf]; omega
        · have HKE := hide (show k = l.length by omega)
          obtain ⟨sv, ho, ht⟩ := HO.out
          obtain ⟨aa, cc, hsv⟩ := ho.shape
          subst hsv
          have HTT := hide ht
          have HE := hide (show lmTo l (fun _ => true) (rn s) k = RF by rw [HF.out, HKE.out])
          rw [HE.out] at ho
          have HOO := hide ho
          have hd0 := cells_at0 ht
          have hd1 := cells_at1 ht
          have HLR := hide (setsTo_len RF 128)
          rw [HE.out] at hd1 HTT
          generalize hRE : setsTo RF 128 = R at HOO HGOOD HLR hd1 HTT
          have HRE := hide hRE
          clear hRE
          clear ho ht HO hk
          go_wp2_with fail
          refine (spIf_c (pc s : Int) (.slice aa R.length cc) R wr HOO.out.ints (by have := HLR.out; omega) HGOOD.out).mono ?_
          rintro e w4 ⟨rfl, hb4⟩
          have HO4 : Hid (own 3 w4 (w1.heap.size + 1) (.slice aa R.length cc) R) := hide (HOO.out.kept hb4)
          have hr4 := (hb4.block (w.heap.size + 1) (by have := HZ1.out; omega)).trans HRR.out
          have c0 := cells_at0 hr4
          have c1 := cells_at1 hr4
          have f0 := hp_free hr4 0
          have f1 := hp_free hr4 1
          have HB4 := hide (HBB.out.trans (hb4.mono HBB.out.size))
          clear hb4 hr4 hd0 hd1
          go_wp2
          refine bodyPost_ret (v := .tuple #[.agg #[.int .i64 (pc s : Int), .slice aa R.length cc], .bool true]) (by simp [results, Try.results31, go_sem, c0, c1]) rfl ⟨_, rfl, ?_, ?_⟩
          · have hz := HZ1.out
            have hfin := ((HO4.out.setLow ⟨w.heap.size + 1, 0, none⟩ (show w.heap.size + 1 < w1.heap.size + 1 by omega) (.int .i64 (pc s : Int))).setLow ⟨w.heap.size + 1, 1, none⟩ (show w.heap.size + 1 < w1.heap.size + 1 by omega) (.slice aa R.length cc))
            have hfin2 : own 3 _ w.heap.size (.slice aa R.length cc) R := hfin.mono (show w.heap.size ≤ w1.heap.size + 1 by omega)
            rw [HRE.out]; exact hfin2
          · exact (HB4.out.setCell (by show w.heap.size ≤ w.heap.size + 1; omega) _).setCell (by show w.heap.size ≤ w.heap.size + 1; omega) _

theorem zero_slots {w : World} {b : Nat} {T : TypeId} (h : w.heap[b]? = some (.cells #[.int .i64 0, .slice none 0 0] T)) : w.cell? ⟨b, 0, none⟩ = some (.int .i64 0) ∧ w.cell? ⟨b, 1, none⟩ = some (.slice none 0 0) ∧ w.frozen? ⟨b, 0, none⟩ = false ∧ w.frozen? ⟨b, 1, none⟩ = false :=
  ⟨cells_at0 h, cells_at1 h, hp_free h 0, hp_free h 1⟩

set_option maxHeartbeats 1000000 in
theorem implRestrictTo_c (n : Int) (v : Value) (l : List Int) (x : Int) (w : World) (hl : ints w.heap.size w v l) (hlen : l.length < 1000000000) :
    Calls Try.prog 32 #[.agg #[.int .i64 n, v], .int .i64 x] w fun e w' => ∃ v', e = .returned (.tuple #[.agg #[.int .i64 (rsN n l x), v'], .bool (rsB n l x)]) ∧ own 3 w' w.heap.size v' (rsL n l x) ∧ Below w.heap.size w w' := by
  have hr0 : ((w.alloc (.cells #[.int .i64 n, v] 24)).alloc (.cells #[.int .i64 0, .slice none 0 0] 24)).heap[w.heap.size + 1]? = some (.cells #[.int .i64 0, .slice none 0 0] 24) := by have := hp_last (w.alloc (.cells #[.int .i64 n, v] 24)) (.cells #[.int .i64 0, .slice none 0 0] 24); simpa using this
  have H0 := hide (((Below.refl w.heap.size w).alloc (Nat.le_refl _) (.cells #[.int .i64 n, v] 24)).alloc (by simp) (.cells #[.int .i64 0, .slice none 0 0] 24))
  have HZ0 := hide (show ((w.alloc (.cells #[.int .i64 n, v] 24)).alloc (.cells #[.int .i64 0, .slice none 0 0] 24)).heap.size = w.heap.size + 2 by simp)
  have HL0 := hide (((hl.alloc (.cells #[.int .i64 n, v] 24)).alloc (.cells #[.int .i64 0, .slice none 0 0] 24)).mono (show w.heap.size ≤ ((w.alloc (.cells #[.int .i64 n, v] 24)).alloc (.cells #[.int .i64 0, .slice none 0 0] 24)).heap.size by rw [HZ0.out]; omega))
  have HR0 := hide hr0
  clear hl hr0
  cases hok : okOne n l x
  · have HK := hide hok
    have HB := hide (rsB_no1 hok)
    rw [rsN_no HB.out, rsL_no HB.out, HB.out]
    clear hok
    go_enter Try.func32, Try.ntmps32
    go_wp2_with (first
      | (go_at_call 70; refine (familyAndOwnSet_c n v l x _ HL0.out hlen).mono ?_; rw [famVal3_no n l x HK.out]; rintro e w1 ⟨rfl, hb1⟩; have hz1 : w.heap.size + 2 ≤ w1.heap.size := (by have := hb1.size; rw [HZ0.out] at this; exact this); have hr1 : ((w1.alloc (.cells (fam 0 noSet) 64)).setRow w1.heap.size (fam 0 noSet)).heap[w.heap.size + 1]? = some (.cells #[.int .i64 0, .slice none 0 0] 24) := (hp_rowO _ _ _ _ (by omega)).trans ((hp_old _ _ _ (by omega)).trans ((hb1.block (w.heap.size + 1) (by rw [HZ0.out]; omega)).trans HR0.out)); obtain ⟨q0, q1, q2, q3⟩ := zero_slots hr1; have HB2 := hide (bl_row ((H0.out.trans (hb1.mono (by rw [HZ0.out]; omega))).alloc (by omega) (.cells (fam 0 noSet) 64)) (show w.heap.size ≤ w1.heap.size by omega) (fam 0 noSet)); clear hb1 hr1)
      | (refine wpList_alloc_fam zeroT rfl rfl _ (by first | (simp only [World.size_alloc]; rfl) | rfl) ?_)
      | (refine wpList_store_fam sizeT rfl (.tmp _) (.tmp _) rfl _ _ _ rfl rfl _ _ (famAt.new _ _ _ _) ?_))
    refine bodyPost_ret (v := .tuple #[.agg #[.int .i64 0, .slice none 0 0], .bool false]) (by simp [results, Try.results32, go_sem, q0, q1]) rfl ⟨_, rfl, own_nil _ _ _, ?_⟩
    exact (HB2.out.setCell (by show w.heap.size ≤ w.heap.size + 1; omega) _).setCell (by show w.heap.size ≤ w.heap.size + 1; omega) _
  · have HK := hide hok
    have hx := okOne_lt hok
    have HSP := hide (okOne_sp hok)
    by_cases hx0 : x = 0
    · subst hx0
      have HB := hide (rsB_no2 (n := n) (l := l))
      rw [rsN_no HB.out, rsL_no HB.out, HB.out]
      clear hok hx
      go_enter Try.func32, Try.ntmps32
      go_wp2_with (first
        | (go_at_call 70; refine (familyAndOwnSet_c n v l 0 _ HL0.out hlen).mono ?_; rw [famVal3_yes n l 0 HK.out]; rintro e w1 ⟨rfl, hb1⟩; have hz1 : w.heap.size + 2 ≤ w1.heap.size := (by have := hb1.size; rw [HZ0.out] at this; exact this); have hr1 : ((w1.alloc (.cells (fam 0 noSet) 64)).setRow w1.heap.size (fam n (marksTo l l.length))).heap[w.heap.size + 1]? = some (.cells #[.int .i64 0, .slice none 0 0] 24) := (hp_rowO _ _ _ _ (by omega)).trans ((hp_old _ _ _ (by omega)).trans ((hb1.block (w.heap.size + 1) (by rw [HZ0.out]; omega)).trans HR0.out)); obtain ⟨q0, q1, q2, q3⟩ := zero_slots hr1; have HRX := hide hr1; have HH := hide ((famAt.new 64 w1 0 noSet).row n (marksTo l l.length)); have HZX := hide (show ((w1.alloc (.cells (fam 0 noSet) 64)).setRow w1.heap.size (fam n (marksTo l l.length))).heap.size = w1.heap.size + 1 by simp [World.setRow]); have HB2 := hide (bl_row ((H0.out.trans (hb1.mono (by rw [HZ0.out]; omega))).alloc (by omega) (.cells (fam 0 noSet) 64)) (show w.heap.size ≤ w1.heap.size by omega) (fam n (marksTo l l.length))); clear hb1 hr1)
        | (refine wpList_alloc_fam zeroT rfl rfl _ (by first | (simp only [World.size_alloc]; rfl) | rfl) ?_)
        | (refine wpList_store_fam sizeT rfl (.tmp _) (.tmp _) rfl _ _ _ rfl rfl _ _ (famAt.new _ _ _ _) ?_))
      refine bodyPost_ret (v := .tuple #[.agg #[.int .i64 0, .slice none 0 0], .bool false]) (by simp [results, Try.results32, go_sem, q0, q1]) rfl ⟨_, rfl, own_nil _ _ _, ?_⟩
      exact (HB2.out.setCell (by show w.heap.size ≤ w.heap.size + 1; omega) _).setCell (by show w.heap.size ≤ w.heap.size + 1; omega) _
    · have HB := hide (rsB_yes hok hx0)
      rw [rsN_yes HB.out, rsL_yes HB.out, HB.out]
      obtain ⟨s, rfl⟩ := Int.eq_ofNat_of_zero_le hx.1
      have hs128 : s < 128 := by omega
      have hxb : ((s : Int) == 0) = false := by simpa using hx0
      have HF := hide (show imgTo (marksTo l l.length) (rn s) 128 = rsF l (s : Int) by rw [img_lm HSP.out]; rfl)
      rw [Int.toNat_natCast]
      generalize hF : rsF l (s : Int) = RF at HF
      clear hok hx hx0 hF
      go_enter Try.func32, Try.ntmps32
      go_wp2_with (first
        | (go_at_call 70; refine (familyAndOwnSet_c n v l (s : Int) _ HL0.out hlen).mono ?_; rw [famVal3_yes n l (s : Int) HK.out]; rintro e w1 ⟨rfl, hb1⟩; have hz1 : w.heap.size + 2 ≤ w1.heap.size := (by have := hb1.size; rw [HZ0.out] at this; exact this); have hr1 : ((w1.alloc (.cells (fam 0 noSet) 64)).setRow w1.heap.size (fam n (marksTo l l.length))).heap[w.heap.size + 1]? = some (.cells #[.int .i64 0, .slice none 0 0] 24) := (hp_rowO _ _ _ _ (by omega)).trans ((hp_old _ _ _ (by omega)).trans ((hb1.block (w.heap.size + 1) (by rw [HZ0.out]; omega)).trans HR0.out)); obtain ⟨q0, q1, q2, q3⟩ := zero_slots hr1; have HRX := hide hr1; have HH := hide ((famAt.new 64 w1 0 noSet).row n (marksTo l l.length)); have HZX := hide (show ((w1.alloc (.cells (fam 0 noSet) 64)).setRow w1.heap.size (fam n (marksTo l l.length))).heap.size = w1.heap.size + 1 by simp [World.setRow]); have HB2 := hide (bl_row ((H0.out.trans (hb1.mono (by rw [HZ0.out]; omega))).alloc (by omega) (.cells (fam 0 noSet) 64)) (show w.heap.size ≤ w1.heap.size by omega) (fam n (marksTo l l.length))); clear hb1 hr1)
        | (refine wpList_alloc_fam zeroT rfl rfl _ (by first | (simp only [World.size_alloc]; rfl) | rfl) ?_)
        | (refine wpList_store_fam sizeT rfl (.tmp _) (.tmp _) rfl _ _ _ rfl rfl _ _ (famAt.new _ _ _ _) ?_)
        | (refine wpList_load_fam rowT sizeT rfl (.tmp _) rfl _ rfl n _ HH.out ?_)
        | (go_at_call 71; refine (trace_c n (marksTo l l.length) s _ hs128).mono ?_; rw [HF.out]; rintro e w2 ⟨rfl, hb2⟩; have hz2 : w1.heap.size + 1 ≤ w2.heap.size := (by have := hb2.size; rw [HZX.out] at this; exact this); have HR2 := hide ((hb2.block (w.heap.size + 1) (by rw [HZX.out]; omega)).trans HRX.out); have HB3 := hide (HB2.out.trans (hb2.mono (by rw [HZX.out]; omega))); have HZ2 := hide (show w.heap.size + 3 ≤ w2.heap.size by omega); clear hb2 q0 q1 q2 q3)
        | (go_at_call 58; refine (space_c (pc s : Int) RF w2).mono ?_; rintro e w3 ⟨v3, rfl, ho3, hb3⟩; obtain ⟨aa, cc, hv⟩ := ho3.shape; subst hv; have HO3 := hide ho3; have hr3 := (hb3.block (w.heap.size + 1) (by have := HZ2.out; omega)).trans HR2.out; obtain ⟨q0, q1, q2, q3⟩ := zero_slots hr3; have HB4 := hide (HB3.out.trans (hb3.mono (by have := HZ2.out; omega))); clear hb3 hr3 ho3))
      refine bodyPost_ret (v := .tuple #[.agg #[.int .i64 (pc s : Int), .slice aa (setsTo RF 128).length cc], .bool true]) (by simp [results, Try.results32, go_sem, q0, q1]) rfl ⟨_, rfl, ?_, ?_⟩
      · have hz := HZ2.out
        exact ((HO3.out.setLow ⟨w.heap.size + 1, 0, none⟩ (show w.heap.size + 1 < w2.heap.size by omega) (.int .i64 (pc s : Int))).setLow ⟨w.heap.size + 1, 1, none⟩ (show w.heap.size + 1 < w2.heap.size by omega) (.slice aa (setsTo RF 128).length cc)).mono (by omega)
      · exact (HB4.out.setCell (by show w.heap.size ≤ w.heap.size + 1; omega) _).setCell (by show w.heap.size ≤ w.heap.size + 1; omega) _
end Go.Proofs.Ytceofjlhbomcaaa
