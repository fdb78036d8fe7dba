/- Contracts: whether tasks are ones: the program's and the specification's; AreTasks, both. -/
import Derived.Test.YtblglkgmnaklbaaDoorKf
import Derived.Test.YtblglkgmnaklbaaDoorFam
namespace Go.Proofs.YtblglkgmnaklbaaDoor
open Go.RowKit
set_option maxRecDepth 100000
set_option linter.unusedSimpArgs false
set_option maxHeartbeats 1000000 in
theorem isTask_c (t r b : Int) (w : World) : Calls Tryd.prog 89 #[.agg #[.int .i64 t, .int .i64 r, .int .i64 b]] w fun e w' => e = .returned (.bool (oneB t r b)) ∧ Below w.heap.size w w' := by
  have HB := hide ((Below.refl w.heap.size w).alloc (Nat.le_refl _) (.cells #[.int .i64 t, .int .i64 r, .int .i64 b] 67))
  by_cases h1 : 1 ≤ t
  case neg =>
    go_enter Tryd.func89, Tryd.ntmps89
    go_wp2
    go_ret
    exact ⟨ret_b (by symm; first | (rw [oneB_iff]; omega) | (rw [← Bool.not_eq_true, oneB_iff]; omega)), HB.out⟩
  by_cases h2 : t ≤ 9
  case neg =>
    go_enter Tryd.func89, Tryd.ntmps89
    go_wp2
    go_ret
    exact ⟨ret_b (by symm; first | (rw [oneB_iff]; omega) | (rw [← Bool.not_eq_true, oneB_iff]; omega)), HB.out⟩
  by_cases h3 : 0 ≤ r
  case neg =>
    go_enter Tryd.func89, Tryd.ntmps89
    go_wp2
    go_ret
    exact ⟨ret_b (by symm; first | (rw [oneB_iff]; omega) | (rw [← Bool.not_eq_true, oneB_iff]; omega)), HB.out⟩
  by_cases h4 : r ≤ 9
  case neg =>
    go_enter Tryd.func89, Tryd.ntmps89
    go_wp2
    go_ret
    exact ⟨ret_b (by symm; first | (rw [oneB_iff]; omega) | (rw [← Bool.not_eq_true, oneB_iff]; omega)), HB.out⟩
  by_cases h5 : -100 ≤ b
  case neg =>
    go_enter Tryd.func89, Tryd.ntmps89
    go_wp2
    go_ret
    exact ⟨ret_b (by symm; first | (rw [oneB_iff]; omega) | (rw [← Bool.not_eq_true, oneB_iff]; omega)), HB.out⟩
  by_cases h6 : b ≤ 100
  case neg =>
    go_enter Tryd.func89, Tryd.ntmps89
    go_wp2
    go_ret
    exact ⟨ret_b (by symm; first | (rw [oneB_iff]; omega) | (rw [← Bool.not_eq_true, oneB_iff]; omega)), HB.out⟩
  go_enter Tryd.func89, Tryd.ntmps89
  go_wp2
  go_ret
  exact ⟨ret_b (by symm; first | (rw [oneB_iff]; omega) | (rw [← Bool.not_eq_true, oneB_iff]; omega)), HB.out⟩
set_option maxHeartbeats 1000000 in
theorem implAreTasks_c (v : Value) (T : List Tsk) (n : Int) (w : World) (hl : tks w.heap.size w v T) (hs : T.length < 1000000000) :
    Calls Tryd.prog 54 #[v, .int .i64 n] w fun e w' => e = .returned (.bool (taB T n)) ∧ Below w.heap.size w w' := by
  have HL := hide hl
  have HSH := hide hl.shape
  clear hl
  by_cases hn : 1 ≤ n ∧ n ≤ 7
  case neg =>
    have HN := hide hn
    have HV := hide (taB_n (T := T) hn)
    clear hn
    go_enter Tryd.func54, Tryd.ntmps54
    go_wp2_with (first
      | (refine wpList_lenK kSl rfl (.tmp _) rfl v rfl T.length HSH.out ?_)
      | (go_at_call 67; refine (isItemCount_c _ _).mono ?_; rw [decide_eq_false HN.out]; rintro e w1 ⟨rfl, rfl⟩))
    go_ret
    exact ⟨ret_b (by rw [HV.out]), Below.refl _ _⟩
  by_cases hlen : (T.length : Int) = n
  case neg =>
    have HN := hide hn
    have HV := hide (taB_len (T := T) hlen)
    have hne : ((T.length : Int) != n) = true := by simp; exact hlen
    clear hn
    go_enter Tryd.func54, Tryd.ntmps54
    go_wp2_with (first
      | (refine wpList_lenK kSl rfl (.tmp _) rfl v rfl T.length HSH.out ?_)
      | (go_at_call 67; refine (isItemCount_c _ _).mono ?_; rw [decide_eq_true HN.out]; rintro e w1 ⟨rfl, rfl⟩))
    go_ret
    exact ⟨ret_b (by rw [HV.out]), Below.refl _ _⟩
  have HN := hide hn
  have HYES := hide (fun h => taB_yes (T := T) hn hlen h)
  have HNO := hide (fun k hk h => tkTo_bad (T := T) (k := k) hk h n)
  have hne : ((T.length : Int) != n) = false := by simp; exact hlen
  have HLEN := hide hlen
  clear hn hlen
  go_enter Tryd.func54, Tryd.ntmps54
  go_wp2_with (first
    | (refine wpList_lenK kSl rfl (.tmp _) rfl v rfl T.length HSH.out ?_)
    | (go_at_call 67; refine (isItemCount_c _ _).mono ?_; rw [decide_eq_true HN.out]; rintro e w1 ⟨rfl, rfl⟩))
  go_loopw [18] (fun i wr => ∃ k : Nat, k ≤ T.length ∧ i = .int .i64 (k : Int) ∧ Hid (tkTo T k = true) ∧ Hid (Below w.heap.size w wr)) (fun i _ => T.length - (intOf i).toNat)
  case atStart => exact ⟨0, Nat.zero_le _, rfl, rfl, Below.refl _ _⟩
  case round =>
    obtain ⟨k, hk, rfl, HJ, HB⟩ := hrel
    have HLW := hide (HL.out.below HB.out (Nat.le_refl _))
    by_cases hlt : k < T.length
    · have hlt' : (k : Int) < (T.length : Int) := by omega
      have HNX := hide (show tkTo T (k + 1) = (tkTo T k && oneB (tkT T k) (tkR T k) (tkB T k)) from rfl)
      have HBAD := hide (fun h => HNO.out k hlt h)
      generalize ht : tkT T k = t at HNX HBAD
      generalize hr : tkR T k = r at HNX HBAD
      generalize hb : tkB T k = b at HNX HBAD
      have HT := hide ht
      have HR := hide hr
      have HBB := hide hb
      clear ht hr hb
      have HIS := hide (fun w1 => isTask_c t r b w1)
      generalize oneB t r b = ok at HNX HBAD HIS
      cases ok
      all_goals
        go_wp2_with (first
          | (refine wpList_atK kSl kSz rfl (.tmp 16) (.tmp _) rfl v rfl k rfl w.heap.size T HLW.out hlt ?_; intro g f hg1 hg2 h0 h1 h2; rw [HT.out] at h0; rw [HR.out] at h1; rw [HBB.out] at h2; have H0 := hide h0; have H1 := hide h1; have H2 := hide h2; clear h0 h1 h2)
          | (refine wpList_load3 kRw kSz rfl (.tmp 20) rfl g f rfl _ _ _ H0.out H1.out H2.out ?_)
          | (go_at_call 89; refine (HIS.out _).mono ?_; rintro e w2 ⟨rfl, hb2⟩; have HB2 := hide ((HB.out.alloc HB.out.size (.cells #[.int .i64 t, .int .i64 r, .int .i64 b] 67)).trans (hb2.mono (by simp; have := HB.out.size; omega))); clear hb2))
      · go_ret
        exact ⟨ret_b (by rw [HBAD.out (by first | rfl | trivial)]), HB2.out⟩
      · go_roundw
        case rel => exact ⟨k + 1, by omega, by go_num, by rw [HNX.out, HJ.out]; rfl, HB2⟩
        case measure => (simp [intOf] <;> omega)
    · have HK := hide (show k = T.length by omega)
      have hlt' : ¬ ((k : Int) < (T.length : Int)) := by omega
      go_wp2
      go_ret
      exact ⟨ret_b (by rw [HYES.out (by rw [← HK.out]; exact HJ.out)]), HB.out⟩
set_option maxHeartbeats 4000000 in
theorem grTasks_c (v : Value) (T : List Tsk) (n : Int) (w : World) (hl : tks w.heap.size w v T) (hs : T.length < 1000000000) :
    Calls Tryd.prog 75 #[v, .int .i64 n] w fun e w' => e = .returned (.bool (taB T n)) ∧ Below w.heap.size w w' := by
  have HL := hide hl
  have HSH := hide hl.shape
  clear hl
  by_cases hn : 1 ≤ n ∧ n ≤ 7
  case neg =>
    have HN := hide hn
    have HV := hide (taB_n (T := T) hn)
    clear hn
    go_enter Tryd.func75, Tryd.ntmps75
    go_wp2_with (first
      | (refine wpList_lenK kSl rfl (.tmp _) rfl v rfl T.length HSH.out ?_)
      | (go_at_call 50; refine (spItems_c _ _).mono ?_; rw [decide_eq_false HN.out]; rintro e w1 ⟨rfl, rfl⟩))
    go_ret
    exact ⟨ret_b (by rw [HV.out]), Below.refl _ _⟩
  by_cases hlen : (T.length : Int) = n
  case neg =>
    have HN := hide hn
    have HV := hide (taB_len (T := T) hlen)
    have hne : ((T.length : Int) != n) = true := by simp; exact hlen
    clear hn
    go_enter Tryd.func75, Tryd.ntmps75
    go_wp2_with (first
      | (refine wpList_lenK kSl rfl (.tmp _) rfl v rfl T.length HSH.out ?_)
      | (go_at_call 50; refine (spItems_c _ _).mono ?_; rw [decide_eq_true HN.out]; rintro e w1 ⟨rfl, rfl⟩))
    go_ret
    exact ⟨ret_b (by rw [HV.out]), Below.refl _ _⟩
  have HN := hide hn
  have HYES := hide (fun h => taB_yes (T := T) hn hlen h)
  have HNO := hide (fun k hk h => tkTo_bad (T := T) (k := k) hk h n)
  have hne : ((T.length : Int) != n) = false := by simp; exact hlen
  have HLEN := hide hlen
  clear hn hlen
  go_enter Tryd.func75, Tryd.ntmps75
  go_wp2_with (first
    | (refine wpList_lenK kSl rfl (.tmp _) rfl v rfl T.length HSH.out ?_)
    | (go_at_call 50; refine (spItems_c _ _).mono ?_; rw [decide_eq_true HN.out]; rintro e w1 ⟨rfl, rfl⟩))
  go_loopw [18] (fun i wr => ∃ k : Nat, k ≤ T.length ∧ i = .int .i64 (k : Int) ∧ Hid (tkTo T k = true) ∧ Hid (Below w.heap.size w wr)) (fun i _ => T.length - (intOf i).toNat)
  case atStart => exact ⟨0, Nat.zero_le _, rfl, rfl, Below.refl _ _⟩
  case round =>
    obtain ⟨k, hk, rfl, HJ, HB⟩ := hrel
    have HLW := hide (HL.out.below HB.out (Nat.le_refl _))
    by_cases hlt : k < T.length
    · have hlt' : (k : Int) < (T.length : Int) := by omega
      have HNX := hide (show tkTo T (k + 1) = (tkTo T k && (decide (1 ≤ tkT T k ∧ tkT T k ≤ 9) && (decide (0 ≤ tkR T k ∧ tkR T k ≤ 9) && decide (-100 ≤ tkB T k ∧ tkB T k ≤ 100)))) from rfl)
      have HBAD := hide (fun h => HNO.out k hlt (show (decide (1 ≤ tkT T k ∧ tkT T k ≤ 9) && (decide (0 ≤ tkR T k ∧ tkR T k ≤ 9) && decide (-100 ≤ tkB T k ∧ tkB T k ≤ 100))) = false from h))
      generalize ht : tkT T k = t at HNX HBAD
      generalize hr : tkR T k = r at HNX HBAD
      generalize hb : tkB T k = b at HNX HBAD
      have HT := hide ht
      have HR := hide hr
      have HBB := hide hb
      clear ht hr hb
      generalize hx : decide (1 ≤ t ∧ t ≤ 9) = x at HNX HBAD
      generalize hy : decide (0 ≤ r ∧ r ≤ 9) = y at HNX HBAD
      generalize hz : decide (-100 ≤ b ∧ b ≤ 100) = z at HNX HBAD
      have HX := hide hx
      have HY := hide hy
      have HZ := hide hz
      clear hx hy hz
      have HB2 := hide (HB.out.alloc HB.out.size (.cells #[.int .i64 t, .int .i64 r, .int .i64 b] 67))
      cases x
      case false =>
        go_wp2_with (first
          | (refine wpList_atK kSl kSz rfl (.tmp 16) (.tmp _) rfl v rfl k rfl w.heap.size T HLW.out hlt ?_; intro g f hg1 hg2 h0 h1 h2; rw [HT.out] at h0; rw [HR.out] at h1; rw [HBB.out] at h2; have H0 := hide h0; have H1 := hide h1; have H2 := hide h2; clear h0 h1 h2)
          | (refine wpList_load3 kRw kSz rfl (.tmp 20) rfl g f rfl _ _ _ H0.out H1.out H2.out ?_)
          | (go_at_call 87; refine (l1In_c _ _ _ _).mono ?_; (first | rw [HX.out] | rw [HY.out] | rw [HZ.out]); rintro e w2 ⟨rfl, rfl⟩))
        go_ret
        exact ⟨ret_b (by rw [HBAD.out (by simp)]), HB2.out⟩
      cases y
      case false =>
        go_wp2_with (first
          | (refine wpList_atK kSl kSz rfl (.tmp 16) (.tmp _) rfl v rfl k rfl w.heap.size T HLW.out hlt ?_; intro g f hg1 hg2 h0 h1 h2; rw [HT.out] at h0; rw [HR.out] at h1; rw [HBB.out] at h2; have H0 := hide h0; have H1 := hide h1; have H2 := hide h2; clear h0 h1 h2)
          | (refine wpList_load3 kRw kSz rfl (.tmp 20) rfl g f rfl _ _ _ H0.out H1.out H2.out ?_)
          | (go_at_call 87; refine (l1In_c _ _ _ _).mono ?_; (first | rw [HX.out] | rw [HY.out] | rw [HZ.out]); rintro e w2 ⟨rfl, rfl⟩))
        go_ret
        exact ⟨ret_b (by rw [HBAD.out (by simp)]), HB2.out⟩
      cases z
      case false =>
        go_wp2_with (first
          | (refine wpList_atK kSl kSz rfl (.tmp 16) (.tmp _) rfl v rfl k rfl w.heap.size T HLW.out hlt ?_; intro g f hg1 hg2 h0 h1 h2; rw [HT.out] at h0; rw [HR.out] at h1; rw [HBB.out] at h2; have H0 := hide h0; have H1 := hide h1; have H2 := hide h2; clear h0 h1 h2)
          | (refine wpList_load3 kRw kSz rfl (.tmp 20) rfl g f rfl _ _ _ H0.out H1.out H2.out ?_)
          | (go_at_call 87; refine (l1In_c _ _ _ _).mono ?_; (first | rw [HX.out] | rw [HY.out] | rw [HZ.out]); rintro e w2 ⟨rfl, rfl⟩))
        go_ret
        exact ⟨ret_b (by rw [HBAD.out (by simp)]), HB2.out⟩
      go_wp2_with (first
        | (refine wpList_atK kSl kSz rfl (.tmp 16) (.tmp _) rfl v rfl k rfl w.heap.size T HLW.out hlt ?_; intro g f hg1 hg2 h0 h1 h2; rw [HT.out] at h0; rw [HR.out] at h1; rw [HBB.out] at h2; have H0 := hide h0; have H1 := hide h1; have H2 := hide h2; clear h0 h1 h2)
        | (refine wpList_load3 kRw kSz rfl (.tmp 20) rfl g f rfl _ _ _ H0.out H1.out H2.out ?_)
        | (go_at_call 87; refine (l1In_c _ _ _ _).mono ?_; (first | rw [HX.out] | rw [HY.out] | rw [HZ.out]); rintro e w2 ⟨rfl, rfl⟩))
      go_roundw
      case rel => exact ⟨k + 1, by omega, by go_num, by rw [HNX.out, HJ.out]; rfl, HB2⟩
      case measure => (simp [intOf] <;> omega)
    · have HK := hide (show k = T.length by omega)
      have hlt' : ¬ ((k : Int) < (T.length : Int)) := by omega
      go_wp2
      go_ret
      exact ⟨ret_b (by rw [HYES.out (by rw [← HK.out]; exact HJ.out)]), HB.out⟩
def gvB (n : Int) (l : List Int) (T : List Tsk) : Bool := okSp n l && taB T n
theorem grGiven_c (n : Int) (v : Value) (l : List Int) (u : Value) (T : List Tsk) (w : World) (hl : ints w.heap.size w v l) (hlen : l.length < 1000000000) (ht : tks w.heap.size w u T) (hs : T.length < 1000000000) :
    Calls Tryd.prog 39 #[.agg #[.int .i64 n, v], u] w fun e w' => e = .returned (.bool (gvB n l T)) ∧ Below w.heap.size w w' := by
  have HL := hide ((hl.alloc (.cells #[.int .i64 n, v] 29)).mono (show w.heap.size ≤ (w.alloc (.cells #[.int .i64 n, v] 29)).heap.size by simp))
  have HT := hide ((ht.alloc (.cells #[.int .i64 n, v] 29)).mono (show w.heap.size ≤ (w.alloc (.cells #[.int .i64 n, v] 29)).heap.size by simp))
  have H0 := hide ((Below.refl w.heap.size w).alloc (Nat.le_refl _) (.cells #[.int .i64 n, v] 29))
  have HS0 := hide (hp_last w (.cells #[.int .i64 n, v] 29))
  have HZ0 := hide (show (w.alloc (.cells #[.int .i64 n, v] 29)).heap.size = w.heap.size + 1 by simp)
  clear hl ht
  have HV := hide (show gvB n l T = (okSp n l && taB T n) from rfl)
  have HG := hide (spGood_c n v l _ HL.out hlen)
  rw [← ok_good] at HG
  have HTK := hide (fun w1 h => grTasks_c u T n w1 (HT.out.to h) hs)
  generalize okSp n l = ok at HV HG
  generalize taB T n = tk at HV HTK
  cases ok
  · go_enter Tryd.func39, Tryd.ntmps39
    go_wp2_with (go_at_call 32; refine HG.out.mono ?_; rintro e w1 ⟨rfl, hb1⟩; have HB1 := hide (H0.out.trans (hb1.mono (by rw [HZ0.out]; omega))); clear hb1)
    go_ret
    exact ⟨ret_b (by rw [HV.out]; rfl), HB1.out⟩
  · go_enter Tryd.func39, Tryd.ntmps39
    go_wp2_with (first
      | (go_at_call 32; refine HG.out.mono ?_; rintro e w1 ⟨rfl, hb1⟩; have HB0 := hide hb1; have c0 := cells_at0 ((hb1.block w.heap.size (by rw [HZ0.out]; omega)).trans HS0.out); have HB1 := hide (H0.out.trans (hb1.mono (by rw [HZ0.out]; omega))); clear hb1)
      | (go_at_call 75; refine (HTK.out _ HB0.out).mono ?_; rintro e w2 ⟨rfl, hb2⟩; have HB2 := hide (HB1.out.trans (hb2.mono HB1.out.size)); clear hb2))
    go_ret
    exact ⟨ret_b (by rw [HV.out]; rfl), HB2.out⟩
end Go.Proofs.YtblglkgmnaklbaaDoor
