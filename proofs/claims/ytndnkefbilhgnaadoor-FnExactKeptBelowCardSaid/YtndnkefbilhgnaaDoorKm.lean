/- Contracts: CostOfWord, both. -/
import Derived.Test.YtndnkefbilhgnaaDoorKl
import Derived.Test.YtndnkefbilhgnaaDoorXw
namespace Go.Proofs.YtndnkefbilhgnaaDoor
open Go.RowKit
set_option maxRecDepth 100000
set_option linter.unusedSimpArgs false
attribute [local irreducible] p2 low memB risB
def fwB (n : Int) (l : List Int) (m : List Int) : Bool := decide (m.length = n.toNat) && wordB (marksTo l l.length) n.toNat m
def cwB (n : Int) (l : List Int) (T : List Tsk) (m : List Int) : Bool := gvB n l T && fwB n l m
def cwR (n : Int) (l : List Int) (T : List Tsk) (m : List Int) : Int := if cwB n l T m then mxW (coT T) (-10000) m m.length else 0
theorem cwR_no {n : Int} {l : List Int} {T : List Tsk} {m : List Int} (h : cwB n l T m = false) : cwR n l T m = 0 := by unfold cwR; rw [h]; rfl
theorem cwR_yes {n : Int} {l : List Int} {T : List Tsk} {m : List Int} (h : cwB n l T m = true) : cwR n l T m = mxW (coT T) (-10000) m m.length := by unfold cwR; rw [h]; rfl
theorem fw_wOk {n : Int} {l m : List Int} (h : fwB n l m = true) : m.length = n.toNat ∧ wOk n.toNat m := by
  unfold fwB at h
  rw [Bool.and_eq_true, decide_eq_true_eq] at h
  exact ⟨h.1, wordTo_len h.2⟩
/-- Both start values tell the same. -/
theorem mx_start {T : List Tsk} {n : Int} {m : List Int} (hta : taB T n = true) (hw : wOk T.length m) (hm : m.length = T.length) : mxW (coT T) (-9223372036854775808) m m.length = mxW (coT T) (-10000) m m.length := by
  refine mxW_least (fun j hj => ?_) (by omega) _ (by have := taB_is hta; omega) (Nat.le_refl _)
  have h1 := hw j hj
  have h2 := co_bd hta (setTo m j) (i := (m[j]?.getD 0).toNat) (by omega)
  omega
set_option maxHeartbeats 2000000 in
theorem implCostOfWord_c (n : Int) (v : Value) (l : List Int) (u : Value) (T : List Tsk) (y : Value) (m : List Int) (w : World) (hl : ints w.heap.size w v l) (hlen : l.length < 1000000000) (ht : tks w.heap.size w u T) (hs : T.length < 1000000000) (hm : ints w.heap.size w y m) (hml : m.length < 1000000000) (hT : tab w) :
    Calls Tryd.prog 24 #[.agg #[.int .i64 n, v], u, y] w fun e w' => e = .returned (.tuple #[.int .i64 (cwR n l T m), .bool (cwB n l T m)]) ∧ Below w.heap.size w w' := by
  have HL := hide ((hl.alloc (.cells #[.int .i64 n, v] 30)).mono (show w.heap.size ≤ (w.alloc (.cells #[.int .i64 n, v] 30)).heap.size by simp))
  have HTK := hide ((ht.alloc (.cells #[.int .i64 n, v] 30)).mono (show w.heap.size ≤ (w.alloc (.cells #[.int .i64 n, v] 30)).heap.size by simp))
  have HT := hide (hT.alloc (.cells #[.int .i64 n, v] 30))
  have HM := hide hm
  have H0 := hide ((Below.refl w.heap.size w).alloc (Nat.le_refl _) (.cells #[.int .i64 n, v] 30))
  have HZ := hide (show (w.alloc (.cells #[.int .i64 n, v] 30)).heap.size = w.heap.size + 1 by simp)
  have HV := hide (show cwB n l T m = (gvB n l T && fwB n l m) from rfl)
  have HNO := hide (fun h => cwR_no (n := n) (l := l) (T := T) (m := m) h)
  have HYES := hide (fun h => cwR_yes (n := n) (l := l) (T := T) (m := m) h)
  clear hl ht hT hm
  generalize cwB n l T m = ok at *
  generalize cwR n l T m = r at *
  cases hg : gvB n l T
  · rw [hg, Bool.false_and] at HV
    have HFC := hide (familyAndCosts_no n v l u T _ HL.out hlen HTK.out hs hg)
    clear hg
    go_enter Tryd.func24, Tryd.ntmps24
    go_wp2_with (first
      | (go_at_call 69; refine HFC.out.mono ?_; rintro e w1 ⟨rfl, hb⟩; have hz := hb.size; rw [HZ.out] at hz; have HB := hide (bl_row ((H0.out.trans (hb.mono (by rw [HZ.out]; omega))).alloc (by omega) (.cells (fam 0 noSet) 73)) (show w.heap.size ≤ w1.heap.size by omega) (fam 0 noSet)); clear hb)
      | (refine wpList_alloc_fam zeroT rfl rfl _ (by first | (simp only [World.size_alloc]; rfl) | rfl) ?_)
      | (refine wpList_store_fam sizeT rfl (.tmp _) (.tmp _) rfl _ _ _ rfl rfl _ _ (famAt.new _ _ _ _) ?_))
    go_ret2
    exact ⟨by rw [HV.out, HNO.out HV.out]; rfl, HB.out⟩
  · obtain ⟨hsp, hta⟩ := gv_in hg
    obtain ⟨hn1, hn7⟩ := okSp_n hsp
    have htl := (taB_is hta).2.1
    obtain ⟨N, rfl⟩ := Int.eq_ofNat_of_zero_le (show 0 ≤ n by omega)
    have HFC := hide (familyAndCosts_yes (N : Int) v l u T _ HL.out hlen HTK.out hs HT.out hg)
    rw [Int.toNat_natCast] at HFC
    rw [hg, Bool.true_and] at HV
    have HFW := hide (show fwB (N : Int) l m = (decide (m.length = N) && wordB (marksTo l l.length) N m) from rfl)
    have HWO := hide (fun h => fw_wOk (n := (N : Int)) (l := l) (m := m) h)
    have HMX := hide (fun h1 h2 => mx_start (T := T) (n := (N : Int)) (m := m) hta h1 h2)
    rw [Int.toNat_natCast] at HWO
    clear hg hsp hta
    generalize marksTo l l.length = F at HFC HFW
    have HIF := hide (fun w1 (h : Below w.heap.size w w1) => by have := isFullWord_c N F y m w1 ((HM.out.below h (Nat.le_refl _)).mono h.size) hml (by omega); rw [← HFW.out] at this; exact this)
    cases hfw : fwB (N : Int) l m
    · rw [hfw] at HV HIF
      clear hfw
      go_enter Tryd.func24, Tryd.ntmps24
      go_wp2_with (first
        | (go_at_call 69; refine HFC.out.mono ?_; rintro e w1 ⟨caps, rfl, hic, hb⟩; have hz := hb.size; rw [HZ.out] at hz; have hb2 := (Below.refl w1.heap.size w1).alloc (Nat.le_refl _) (.cells (fam 0 noSet) 73); have hb3 := bl_row hb2 (Nat.le_refl _) (fam (N : Int) F); have HIC := hide (hic.below hb3); have HH1 := hide ((famAt.new 73 w1 0 noSet).row (N : Int) F); have HB := hide (bl_row ((H0.out.trans (hb.mono (by rw [HZ.out]; omega))).alloc (by omega) (.cells (fam 0 noSet) 73)) (show w.heap.size ≤ w1.heap.size by omega) (fam (N : Int) F)); clear hb hb2 hb3 hic)
        | (refine wpList_alloc_fam zeroT rfl rfl _ (by first | (simp only [World.size_alloc]; rfl) | rfl) ?_)
        | (refine wpList_store_fam sizeT rfl (.tmp _) (.tmp _) rfl _ _ _ rfl rfl _ _ (famAt.new _ _ _ _) ?_)
        | (refine wpList_load_fam rowT sizeT rfl (.tmp _) rfl _ rfl _ _ HH1.out ?_)
        | (go_at_call 70; refine (HIF.out _ HB.out).mono ?_; rintro e w3 ⟨rfl, hb3⟩; have HB3 := hide (HB.out.trans (hb3.mono HB.out.size)); clear hb3))
      go_ret2
      exact ⟨by rw [HV.out, HNO.out HV.out]; rfl, HB3.out⟩
    · obtain ⟨hml2, hwo⟩ := HWO.out hfw
      have HWK := hide hwo
      have HR := hide (HMX.out (by rw [show T.length = N by omega]; exact hwo) (by omega))
      rw [hfw] at HV HIF
      clear hfw hwo hml2
      go_enter Tryd.func24, Tryd.ntmps24
      go_wp2_with (first
        | (go_at_call 69; refine HFC.out.mono ?_; rintro e w1 ⟨caps, rfl, hic, hb⟩; have hz := hb.size; rw [HZ.out] at hz; have hb2 := (Below.refl w1.heap.size w1).alloc (Nat.le_refl _) (.cells (fam 0 noSet) 73); have hb3 := bl_row hb2 (Nat.le_refl _) (fam (N : Int) F); have HIC := hide (hic.below hb3); have HH1 := hide ((famAt.new 73 w1 0 noSet).row (N : Int) F); have HB := hide (bl_row ((H0.out.trans (hb.mono (by rw [HZ.out]; omega))).alloc (by omega) (.cells (fam 0 noSet) 73)) (show w.heap.size ≤ w1.heap.size by omega) (fam (N : Int) F)); clear hb hb2 hb3 hic)
        | (refine wpList_alloc_fam zeroT rfl rfl _ (by first | (simp only [World.size_alloc]; rfl) | rfl) ?_)
        | (refine wpList_store_fam sizeT rfl (.tmp _) (.tmp _) rfl _ _ _ rfl rfl _ _ (famAt.new _ _ _ _) ?_)
        | (refine wpList_load_fam rowT sizeT rfl (.tmp _) rfl _ rfl _ _ HH1.out ?_)
        | (go_at_call 70; refine (HIF.out _ HB.out).mono ?_; rintro e w3 ⟨rfl, hb3⟩; have HB3 := hide (HB.out.trans (hb3.mono HB.out.size)); have HIC3 := hide (HIC.out.below hb3); clear hb3)
        | (go_at_call 71; refine (ofWord_c 106 caps (coT T) N y m _ (by omega) ent_costs1 HIC3.out ((HM.out.below HB3.out (Nat.le_refl _)).mono HB3.out.size) hml HWK.out).mono ?_; rw [HR.out]; rintro e w4 ⟨rfl, hb4⟩; have HB4 := hide (HB3.out.trans (hb4.mono HB3.out.size)); clear hb4))
      go_ret2
      exact ⟨by rw [HV.out, HYES.out HV.out]; rfl, HB4.out⟩
theorem fwB_no1 {n : Int} {l m : List Int} (h : ¬ m.length = n.toNat) : fwB n l m = false := by unfold fwB; rw [decide_eq_false h]; rfl
theorem any_word {F : Nat → Bool} {n : Nat} {m : List Int} : ∀ k, wordTo F n m k = true → wordTo anySet n m k = true
  | 0, _ => rfl
  | k + 1, h => by
    simp only [wordTo, stepB, Bool.and_eq_true] at h ⊢
    exact ⟨any_word k h.1, h.2.1, h.2.2.1, rfl⟩
theorem word_any {F : Nat → Bool} {n : Nat} {m : List Int} : ∀ k, wordTo anySet n m k = true → (∀ j, j < k → F (setTo m (j + 1)) = true) → wordTo F n m k = true
  | 0, _, _ => rfl
  | k + 1, h, hF => by
    have h2 := hF k (by omega)
    rw [setTo_next] at h2
    simp only [wordTo, stepB, Bool.and_eq_true] at h ⊢
    exact ⟨word_any k h.1 (fun j hj => hF j (by omega)), h.2.1, h.2.2.1, h2⟩
theorem word_in {F : Nat → Bool} {n : Nat} {m : List Int} : ∀ k j, wordTo F n m k = true → j < k → F (setTo m (j + 1)) = true
  | 0, j, _, h => by omega
  | k + 1, j, h, hj => by
    simp only [wordTo, stepB, Bool.and_eq_true] at h
    rcases Nat.lt_or_ge j k with h1 | h1
    · exact word_in k j h.1 h1
    · rw [show j = k by omega, setTo_next]; exact h.2.2.2
theorem fwB_no2 {n : Int} {l m : List Int} (hn : n.toNat ≤ 7) (h1 : 1 ≤ n.toNat) (hm : m.length = n.toNat) (h : okOrd m = false) : fwB n l m = false := by
  cases e : fwB n l m
  · rfl
  · unfold fwB at e
    rw [Bool.and_eq_true] at e
    have h2 := any_word _ e.2
    unfold okOrd at h
    rw [decide_eq_true (by omega), Bool.true_and, hm] at h
    rw [hm] at h2
    rw [h2] at h; cases h
theorem fwB_no3 {n : Int} {l m : List Int} {k : Nat} (hk : k < m.length) (h : marksTo l l.length (setTo m (k + 1)) = false) : fwB n l m = false := by
  cases e : fwB n l m
  · rfl
  · unfold fwB at e
    rw [Bool.and_eq_true] at e
    rw [word_in _ k e.2 hk] at h; cases h
theorem fwB_yes {n : Int} {l m : List Int} (hm : m.length = n.toNat) (h : okOrd m = true) (hF : ∀ k, k < m.length → marksTo l l.length (setTo m (k + 1)) = true) : fwB n l m = true := by
  unfold fwB
  rw [decide_eq_true hm, Bool.true_and]
  have := okOrd_word h
  rw [hm] at this
  unfold wordB
  rw [hm]
  exact word_any _ this (fun j hj => hF j (by omega))
theorem ord_wOk {m : List Int} (h : okOrd m = true) : wOk m.length m := wordTo_len (okOrd_word h)
set_option maxHeartbeats 2000000 in
theorem grWord_c (n : Int) (v : Value) (l : List Int) (y : Value) (m : List Int) (w : World) (base : Nat) (hl : ints w.heap.size w v l) (hlen : l.length < 1000000000) (hm : own 3 w base y m) (hml : m.length < 1000000000) (hsp : okSp n l = true) :
    Calls Tryd.prog 67 #[.agg #[.int .i64 n, v], y] w fun e w' => e = .returned (.bool (fwB n l m)) ∧ Below w.heap.size w w' := by
  obtain ⟨hn1, hn7⟩ := okSp_n hsp
  obtain ⟨N, rfl⟩ := Int.eq_ofNat_of_zero_le (show 0 ≤ n by omega)
  obtain ⟨ya, yc, hy⟩ := hm.shape
  subst hy
  have HL := hide (hl.alloc (.cells #[.int .i64 (N : Int), v] 30))
  have H0 := hide ((Below.refl w.heap.size w).alloc (Nat.le_refl _) (.cells #[.int .i64 (N : Int), v] 30))
  have HX := hide (hp_last w (.cells #[.int .i64 (N : Int), v] 30))
  have HZ := hide (show (w.alloc (.cells #[.int .i64 (N : Int), v] 30)).heap.size = w.heap.size + 1 by simp)
  have HO := hide (hm.alloc (.cells #[.int .i64 (N : Int), v] 30))
  have HI := hide (okSp_inc hsp)
  have HMK := hide (okSp_marks hsp)
  have c0 := cells_at0 HX.out
  clear hl hm hsp
  by_cases hml2 : m.length = N
  case neg =>
    have HV := hide (fwB_no1 (n := (N : Int)) (l := l) (m := m) (by rw [Int.toNat_natCast]; exact hml2))
    have hne : ((m.length : Int) != (N : Int)) = true := by simp; omega
    go_enter Tryd.func67, Tryd.ntmps67
    go_wp2
    go_ret
    exact ⟨ret_b (by rw [HV.out]), H0.out⟩
  have hne : ((m.length : Int) != (N : Int)) = false := by simp; omega
  have HML2 := hide hml2
  have HOC := hide (spOrder_c _ m _ base HO.out hml)
  cases hok : okOrd m
  · rw [hok] at HOC
    have HV := hide (fwB_no2 (n := (N : Int)) (l := l) (m := m) (by rw [Int.toNat_natCast]; omega) (by rw [Int.toNat_natCast]; omega) (by rw [Int.toNat_natCast]; exact hml2) hok)
    clear hok hml2
    go_enter Tryd.func67, Tryd.ntmps67
    go_wp2_with (go_at_call 85; refine HOC.out.mono ?_; rintro e w1 ⟨rfl, rfl⟩)
    go_ret
    exact ⟨ret_b (by rw [HV.out]), H0.out⟩
  · rw [hok] at HOC
    have HWK := hide (ord_wOk hok)
    have HST := hide (setTo_ltK (n := m.length) (by omega) (ord_wOk hok))
    have HNO := hide (fun k hk h => fwB_no3 (n := (N : Int)) (l := l) (m := m) (k := k) hk h)
    have HYES := hide (fun h => fwB_yes (n := (N : Int)) (l := l) (m := m) (by rw [Int.toNat_natCast]; exact hml2) hok h)
    clear hok hml2
    go_enter Tryd.func67, Tryd.ntmps67
    go_wp2_with (go_at_call 85; refine HOC.out.mono ?_; rintro e w1 ⟨rfl, rfl⟩)
    have hII := hide (HO.out.ints)
    generalize w.alloc (.cells #[.int .i64 (N : Int), v] 30) = W at HL H0 HX HZ hII c0 ⊢
    go_loopw [5, 20] (fun sv iv wr => ∃ k : Nat, k ≤ m.length ∧ iv = .int .i64 (k : Int) ∧ sv = .int .i64 (setTo m k : Int) ∧ Hid (∀ j, j < k → marksTo l l.length (setTo m (j + 1)) = true) ∧ Hid (Below W.heap.size W wr)) (fun _ iv _ => m.length - (intOf iv).toNat)
    case atStart => exact ⟨0, Nat.zero_le _, rfl, rfl, hide (fun j hj => by omega), Below.refl _ _⟩
    case round =>
      obtain ⟨k, hk2, rfl, rfl, HJ, HB⟩ := hrel
      have hz0 := HZ.out
      have hszw := HB.out.size
      have HSN := hide (setTo_next m k)
      have HLW := hide (hII.out.below HB.out (Nat.le_refl _))
      by_cases hlt : k < m.length
      · have hlt' : (k : Int) < (m.length : Int) := by omega
        have hs128 := HST.out k hk2
        have hs128b := HST.out (k + 1) hlt
        have hx := HWK.out k hlt
        obtain ⟨i, hi⟩ := Int.eq_ofNat_of_zero_le hx.1
        rw [hi, Int.toNat_natCast] at HSN
        have HXI := hide hi
        have hin : i < N := by have := HML2.out; omega
        clear hx hi
        have HBAD := hide (HNO.out k hlt)
        have HMORE := hide (fun (h : marksTo l l.length (setTo m (k + 1)) = true) => show ∀ j, j < k + 1 → marksTo l l.length (setTo m (j + 1)) = true from fun j hj => by
          rcases Nat.lt_or_ge j k with h1 | h1
          · exact HJ.out j h1
          · rw [show j = k by omega]; exact h)
        have HMM := hide (HMK.out (setTo m (k + 1)))
        generalize hs1 : setTo m (k + 1) = s1 at *
        generalize hs : setTo m k = s at *
        clear hs
        have HS1 := hide hs1
        clear hs1
        have hp1 := wrap_p2 i (by omega)
        have hp2 : IntKind.i64.wrap (2 ^ i) = (p2 i : Int) := by rw [IntWalk.i64_left]; exact hp1
        have hpk := p2_lt128 i (by omega)
        have hor := i64_or s (p2 i) (Nat.lt_trans hs128 (by decide)) (Nat.lt_trans hpk (by decide))
        rw [← HSN.out] at hor
        have hcc := (HB.out.block w.heap.size (by omega)).trans HX.out
        have d1 := cells_at1 hcc
        have HLS := hide ((HL.out.below HB.out (by omega)).mono (show w.heap.size ≤ wr.heap.size by omega))
        have HSH := hide (spHas_c v l (s1 : Int) wr HLS.out HI.out hlen)
        rw [← HMM.out] at HSH
        clear hcc
        cases hmk : marksTo l l.length s1
        · rw [hmk] at HSH
          have HV := hide (HBAD.out hmk)
          clear hmk
          go_wp2_with (first
            | (refine wpList_at sliceT intS rfl (.tmp 18) (.tmp _) rfl _ rfl k rfl W.heap.size m HLW.out hlt ?_; intro ad hcell hblk; rw [HXI.out] at hcell)
            | (go_at_call 98; refine HSH.out.mono ?_; rintro e w2 ⟨rfl, rfl⟩))
          go_ret
          exact ⟨ret_b (by rw [HV.out]), H0.out.trans (HB.out.mono (by omega))⟩
        · rw [hmk] at HSH
          have HP := hide (HMORE.out hmk)
          clear hmk
          go_wp2_with (first
            | (refine wpList_at sliceT intS rfl (.tmp 18) (.tmp _) rfl _ rfl k rfl W.heap.size m HLW.out hlt ?_; intro ad hcell hblk; rw [HXI.out] at hcell)
            | (go_at_call 98; refine HSH.out.mono ?_; rintro e w2 ⟨rfl, rfl⟩))
          go_roundw
          case rel => exact ⟨k + 1, by omega, by go_num, by rw [HS1.out], HP, HB⟩
          case measure => (simp [intOf] <;> omega)
      · have hlt' : ¬ ((k : Int) < (m.length : Int)) := by omega
        have HV := hide (HYES.out (fun j hj => HJ.out j (by omega)))
        go_wp2
        go_ret
        exact ⟨ret_b (by rw [HV.out]), H0.out.trans (HB.out.mono (by omega))⟩
set_option maxHeartbeats 2000000 in
theorem specCostOfWord_c (n : Int) (v : Value) (l : List Int) (u : Value) (T : List Tsk) (y : Value) (m : List Int) (w : World) (hl : ints w.heap.size w v l) (hlen : l.length < 1000000000) (ht : tks w.heap.size w u T) (hs : T.length < 1000000000) (base : Nat) (hm : own 3 w base y m) (hml : m.length < 1000000000) (_hT : tab w) :
    Calls Tryd.prog 22 #[.agg #[.int .i64 n, v], u, y] w fun e w' => e = .returned (.tuple #[.int .i64 (cwR n l T m), .bool (cwB n l T m)]) ∧ Below w.heap.size w w' := by
  have HL := hide (hl.alloc (.cells #[.int .i64 n, v] 30))
  have HTK := hide (ht.alloc (.cells #[.int .i64 n, v] 30))
  have HO := hide (hm.alloc (.cells #[.int .i64 n, v] 30))
  have H0 := hide ((Below.refl w.heap.size w).alloc (Nat.le_refl _) (.cells #[.int .i64 n, v] 30))
  have HX := hide (hp_last w (.cells #[.int .i64 n, v] 30))
  have HZ := hide (show (w.alloc (.cells #[.int .i64 n, v] 30)).heap.size = w.heap.size + 1 by simp)
  have HV := hide (show cwB n l T m = (gvB n l T && fwB n l m) from rfl)
  have HNO := hide (fun h => cwR_no (n := n) (l := l) (T := T) (m := m) h)
  have HYES := hide (fun h => cwR_yes (n := n) (l := l) (T := T) (m := m) h)
  have HG := hide (grGiven_c n v l u T (w.alloc (.cells #[.int .i64 n, v] 30)) (HL.out.mono (by rw [HZ.out]; omega)) hlen (HTK.out.mono (by rw [HZ.out]; omega)) hs)
  have hb0 := cells_at0 HX.out
  have hb1 := cells_at1 HX.out
  have HW := hide (fun (w1 : World) (h : Below (w.alloc (.cells #[.int .i64 n, v] 30)).heap.size (w.alloc (.cells #[.int .i64 n, v] 30)) w1) => show Below w.heap.size w w1 ∧ ints w1.heap.size w1 v l ∧ tks w1.heap.size w1 u T ∧ own 3 w1 base y m ∧ w1.cell? ⟨w.heap.size, 0, none⟩ = some (.int .i64 n) ∧ w1.cell? ⟨w.heap.size, 1, none⟩ = some v from by
    have hz := HZ.out
    have hsz := h.size
    have hbk := (h.block w.heap.size (by omega)).trans HX.out
    exact ⟨H0.out.trans (h.mono (by omega)), (HL.out.below h (by omega)).mono (by omega), (HTK.out.below h (by omega)).mono (by omega), HO.out.kept h, cells_at0 hbk, cells_at1 hbk⟩)
  clear hl ht hm
  generalize cwB n l T m = ok at *
  generalize cwR n l T m = r at *
  cases hg : gvB n l T
  · rw [hg, Bool.false_and] at HV
    rw [hg] at HG
    clear hg
    go_enter Tryd.func22, Tryd.ntmps22
    go_wp2_with (go_at_call 53; refine HG.out.mono ?_; rintro e w1 ⟨rfl, hb⟩; have HB := hide (H0.out.trans (hb.mono (by rw [HZ.out]; omega))); clear hb)
    go_ret2
    exact ⟨by rw [HV.out, HNO.out HV.out]; rfl, HB.out⟩
  · rw [hg, Bool.true_and] at HV
    rw [hg] at HG
    obtain ⟨hsp, hta⟩ := gv_in hg
    have HGW := hide (fun w1 h => grWord_c n v l y m w1 base (HW.out w1 h).2.1 hlen (HW.out w1 h).2.2.2.1 hml hsp)
    have HFW := hide (fun h => fw_wOk (n := n) (l := l) (m := m) h)
    have HTAB := hide hta
    have htl := (taB_is hta).2.1
    clear hg hsp hta
    cases hfw : fwB n l m
    · rw [hfw] at HV HGW
      clear hfw
      go_enter Tryd.func22, Tryd.ntmps22
      go_wp2_with (first
        | (go_at_call 53; refine HG.out.mono ?_; rintro e w1 ⟨rfl, hb⟩; have HB1 := hide hb; have c0 := (HW.out _ hb).2.2.2.2.1; have c1 := (HW.out _ hb).2.2.2.2.2; clear hb)
        | (go_at_call 67; refine (HGW.out _ HB1.out).mono ?_; rintro e w2 ⟨rfl, hb⟩; have HB2 := hide (HB1.out.trans (hb.mono HB1.out.size)); clear hb))
      go_ret2
      exact ⟨by rw [HV.out, HNO.out HV.out]; rfl, (HW.out _ HB2.out).1⟩
    · obtain ⟨hml2, hwo⟩ := HFW.out hfw
      have HWK := hide (show wOk T.length m by rw [show T.length = n.toNat by omega]; exact hwo)
      rw [hfw] at HV HGW
      clear hfw hwo hml2
      go_enter Tryd.func22, Tryd.ntmps22
      go_wp2_with (first
        | (go_at_call 53; refine HG.out.mono ?_; rintro e w1 ⟨rfl, hb⟩; have HB1 := hide hb; have c0 := (HW.out _ hb).2.2.2.2.1; have c1 := (HW.out _ hb).2.2.2.2.2; clear hb)
        | (go_at_call 67; refine (HGW.out _ HB1.out).mono ?_; rintro e w2 ⟨rfl, hb⟩; have HB2 := hide (HB1.out.trans (hb.mono HB1.out.size)); clear hb)
        | (go_at_call 68; refine (grOf_c u T n y m _ HTAB.out (HW.out _ HB2.out).2.2.1 (HW.out _ HB2.out).2.2.2.1.ints hml HWK.out).mono ?_; rintro e w3 ⟨rfl, hb⟩; have HB3 := hide (HB2.out.trans (hb.mono HB2.out.size)); clear hb))
      go_ret2
      exact ⟨by rw [HV.out, HYES.out HV.out]; rfl, (HW.out _ HB3.out).1⟩
theorem implCostOfWordO_c (n : Int) (v : Value) (l : List Int) (u : Value) (T : List Tsk) (y : Value) (m : List Int) (w : World) (hl : ints w.heap.size w v l) (hlen : l.length < 1000000000) (ht : tks w.heap.size w u T) (hs : T.length < 1000000000) (base : Nat) (hm : own 3 w base y m) (hml : m.length < 1000000000) (hT : tab w) :
    Calls Tryd.prog 24 #[.agg #[.int .i64 n, v], u, y] w fun e w' => e = .returned (.tuple #[.int .i64 (cwR n l T m), .bool (cwB n l T m)]) ∧ Below w.heap.size w w' :=
  implCostOfWord_c n v l u T y m w hl hlen ht hs hm.ints hml hT
end Go.Proofs.YtndnkefbilhgnaaDoor
