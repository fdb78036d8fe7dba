/- Contracts: the specification's best question. -/
import Derived.Test.YtppojaekngeelaaDoorHz
import Derived.Test.YtppojaekngeelaaDoorIg
import Derived.Test.YtppojaekngeelaaDoorHt
namespace Go.Proofs.YtppojaekngeelaaDoor
open Go.RowKit
set_option maxRecDepth 100000
set_option linter.unusedSimpArgs false
attribute [local irreducible] p2 low memB risB famAt own
set_option maxHeartbeats 16000000 in
theorem best_c (m : Nat) (v : Value) (l : List Int) (g b1 b2 B : Nat) (hok : okSp (m : Int) l = true) (hlen : l.length < 1000000000) (h12 : b1 ≠ b2) (hg1 : g ≠ b1) (hg2 : g ≠ b2) (hB1 : B ≤ b1) (hB2 : B ≤ b2)
    (y z : Nat) (w : World) (W Q : List Int) (h1 : 1 ≤ cntS (leF (marksTo l l.length) y z)) (h0 : opN m (leF (marksTo l l.length) y z) ≠ 0) (hy : y < 2 ^ m) (hz : z < 2 ^ m) (ht : tbA 76 w g (m : Int) v b1 b2 (2 ^ (2 * m))) (hW : blk 3 w b1 W) (hQ : blk 3 w b2 Q) (htb : tbOk m (marksTo l l.length) W Q) (hl : ints B w v l) (hBs : B ≤ w.heap.size) :
    Calls Tryd.prog 46 #[.pointer (some ⟨g, 0, none⟩), .int .i64 (y : Int), .int .i64 (z : Int)] w fun e w' => ∃ W' Q', e = .returned (.int .i64 (viN gW m (leF (marksTo l l.length) y z) : Int)) ∧ blk 3 w' b1 W' ∧ blk 3 w' b2 Q' ∧ tbOk m (marksTo l l.length) W' Q' ∧ Blz b1 b2 w.heap.size w w' := by
  have hm := okSp_n hok
  have hm7 : m ≤ 7 := by omega
  have hlo := low_lt m hm7
  have hls := low_succ m
  have hp2 := p2_le m 7 hm7
  have HLOW := hide (show ∀ x, marksTo l l.length x = true → x ≤ low m from fun x hx => by have := marks_low hok x hx; rwa [Int.toNat_natCast] at this)
  have HLS := hide (fun y z w1 W1 Q1 => least_c m v l g b1 b2 B hok hlen h12 hg1 hg2 hB1 hB2 (cntS (leF (marksTo l l.length) y z)) y z w1 W1 Q1 (Nat.le_refl _))
  have HT := hide ht
  have HW := hide hW
  have HQ := hide hQ
  have HTB := hide htb
  have HL := hide hl
  have HCL := hide (closed_c m v l g b1 b2 (2 ^ (2 * m)) y z w ht (hl.mono hBs) hlen hok (by omega) (by omega))
  have HKN := hide (leF_known hm7 HLOW.out hy hz)
  have hF : ∀ x, leF (marksTo l l.length) y z x = true → x ≤ low m := fun x hx => HLOW.out x (leF_in hx)
  have hlm : low m < 2 ^ m := by omega
  have hI : kaL (setsTo (leF (marksTo l l.length) y z) 128) (low m) < 2 ^ m := kaP _ hlm _
  have hO : knL (setsTo (leF (marksTo l l.length) y z) 128) (low m) < 2 ^ m := knP _ hlm _
  have HOP := hide (fun k hk => op_in m (leF (marksTo l l.length) y z) k hk)
  have HLE := hide (fun w1 W1 Q1 => HLS.out y z w1 W1 Q1 h1 hy hz)
  clear ht hW hQ htb hl hok
  generalize hFd : leF (marksTo l l.length) y z = F at *
  generalize setsTo F 128 = L at *
  generalize hId : kaL L (low m) = I at *
  generalize hOd : knL L (low m) = J at *
  clear hId hOd
  have hO8 := opN_lt m hm7 F
  have hvW := vW_le hm7 hF
  have HVW := hide (fun k => vW_eq m F k)
  have HAW := hide (fun k b => vW_le hm7 (low_part (i := k) (b := b) hF))
  have HNX := hide (vmN_next (g := gW) hm7 hF h0)
  have HVI := hide (fun (i : Nat) (hi : (opN m F).testBit i = true) (hc : vcN gW m F i = (vmN gW m F : Int)) (hq : ∀ j, j < i → (opN m F).testBit j = true → vcN gW m F j ≠ (vmN gW m F : Int)) => vi_of (g := gW) hm7 hF hi hc hq)
  have hvm : viN gW m F < m := ((opN_bit m _ F).1 HNX.out.1).1
  have HC1 := hide (show ∀ k, k < m → (opN m F).testBit k = true → ∀ (w1 : World) (W1 Q1 : List Int), tbA 76 w1 g (m : Int) v b1 b2 (2 ^ (2 * m)) → blk 3 w1 b1 W1 → blk 3 w1 b2 Q1 → tbOk m (marksTo l l.length) W1 Q1 → ints B w1 v l → B ≤ w1.heap.size → Calls Tryd.prog 65 #[.pointer (some ⟨g, 0, none⟩), .int .i64 ((I ||| p2 k : Nat) : Int), .int .i64 (J : Int)] w1 fun e w' => ∃ W' Q', e = .returned (.tuple #[.int .i64 (vmN gW m (ptF F k true) : Int), .int .i64 (vmN gT m (ptF F k true) : Int)]) ∧ blk 3 w' b1 W' ∧ blk 3 w' b2 Q' ∧ tbOk m (marksTo l l.length) W' Q' ∧ Blz b1 b2 w1.heap.size w1 w' from fun k hk hb w1 W1 Q1 q1 q2 q3 q4 q5 q6 => by
    have hp := part_pos hb true
    have h := HLS.out (I ||| p2 k) J w1 W1 Q1 (by rw [pt1, HKN.out]; omega) (orP hI hk) hO q1 q2 q3 q4 q5 q6
    rw [pt1, HKN.out] at h
    exact h)
  have HC2 := hide (show ∀ k, k < m → (opN m F).testBit k = true → ∀ (w1 : World) (W1 Q1 : List Int), tbA 76 w1 g (m : Int) v b1 b2 (2 ^ (2 * m)) → blk 3 w1 b1 W1 → blk 3 w1 b2 Q1 → tbOk m (marksTo l l.length) W1 Q1 → ints B w1 v l → B ≤ w1.heap.size → Calls Tryd.prog 65 #[.pointer (some ⟨g, 0, none⟩), .int .i64 (I : Int), .int .i64 ((J ||| p2 k : Nat) : Int)] w1 fun e w' => ∃ W' Q', e = .returned (.tuple #[.int .i64 (vmN gW m (ptF F k false) : Int), .int .i64 (vmN gT m (ptF F k false) : Int)]) ∧ blk 3 w' b1 W' ∧ blk 3 w' b2 Q' ∧ tbOk m (marksTo l l.length) W' Q' ∧ Blz b1 b2 w1.heap.size w1 w' from fun k hk hb w1 W1 Q1 q1 q2 q3 q4 q5 q6 => by
    have hp := part_pos hb false
    have h := HLS.out I (J ||| p2 k) w1 W1 Q1 (by rw [pt2, HKN.out]; omega) hI (orP hO hk) q1 q2 q3 q4 q5 q6
    rw [pt2, HKN.out] at h
    exact h)
  have hor8 : I ||| J < 128 := or_lt128 _ _ (by omega) (by omega)
  have hoI := i64_or I J (by omega) (by omega)
  clear HLS HKN h0 h1 hF hO8 HLOW hFd
  generalize hNN : 2 ^ (2 * m) = N at *
  clear hNN
  generalize hMM : (2 ^ m : Nat) = M2 at *
  clear hMM
  generalize I ||| J = IJ at *
  generalize opN m F = O at *
  generalize viN gW m F = V at *
  go_enter Tryd.func46, Tryd.ntmps46
  go_wp2_with (first
    | (go_at_call 64; refine HCL.out.mono ?_; rintro e w1 ⟨u, rfl, ho1, hb1⟩; have hz1 := hb1.size; have HT1 := hide (tbB HT.out hb1 HT.out.lt); have HW1 := hide (blkB HW.out hb1 HW.out.lt); have HQ1 := hide (blkB HQ.out hb1 HQ.out.lt); have HL1 := hide (HL.out.below hb1 hBs); have HB1 := hide (Blz.of (b1 := b1) (b2 := b2) hb1); clear ho1 hb1)
    | (go_at_call 65; refine (HLE.out _ W Q HT1.out HW1.out HQ1.out HTB.out HL1.out (by omega)).mono ?_; rintro e w2 ⟨W2, Q2, rfl, hw2a, hq2a, htb2, hb2⟩; have hz2 := hb2.size; have HW2 := hide hw2a; have HQ2 := hide hq2a; have HTB2 := hide htb2; have HB2 := hide (HB1.out.trans (hb2.mono hz1)); clear hw2a hq2a htb2 hb2 HLE))
  go_loopw [12] (fun i wr => ∃ (k : Nat) (W2 Q2 : List Int), k ≤ V ∧ i = .int .i64 (k : Int) ∧ Hid (∀ j, j < k → O.testBit j = true → vcN gW m F j ≠ (vmN gW m F : Int)) ∧ Hid (blk 3 wr b1 W2) ∧ Hid (blk 3 wr b2 Q2) ∧ Hid (tbOk m (marksTo l l.length) W2 Q2) ∧ Hid (Blz b1 b2 w.heap.size w wr)) (fun i _ => m - (intOf i).toNat)
  case atStart => exact ⟨0, W2, Q2, Nat.zero_le _, rfl, hide (fun j hj => by omega), HW2, HQ2, HTB2, HB2⟩
  case round =>
    clear HW2 HQ2 HTB2 HB2 HT1 HW1 HQ1 HL1 HB1
    obtain ⟨k, W2, Q2, hk, rfl, HNO, HWr, HQr, HTBr, HBr⟩ := hrel
    have hsz := HBr.out.size
    have HTr := hide (HT.out.blz HBr.out HT.out.lt hg1 hg2)
    have HLr := hide (HL.out.below (HBr.out.to hBs hB1 hB2) (Nat.le_refl _))
    have hlt : k < m := by omega
    have HSI := hide (fun w1 => by have h := spIn_c (IJ : Int) (k : Int) w1 (by omega) (by omega) (by omega) (by omega); rw [Int.toNat_natCast, Int.toNat_natCast, HOP.out k hlt] at h; exact h)
    cases hb : O.testBit k
    · have hkV : k ≠ V := by intro e; rw [e, HNX.out.1] at hb; cases hb
      have HNO2 := hide (show ∀ j, j < k + 1 → O.testBit j = true → vcN gW m F j ≠ (vmN gW m F : Int) from fun j hj hjb => by
        rcases Nat.lt_or_ge j k with h | h
        · exact HNO.out j h hjb
        · rw [show j = k by omega, hb] at hjb; cases hjb)
      rw [hb] at HSI
      clear hb
      go_wp2_with (go_at_call 47; refine (HSI.out _).mono ?_; rintro e w' ⟨rfl, rfl⟩)
      go_roundw
      case rel => exact ⟨k + 1, W2, Q2, by omega, by go_num, HNO2, HWr, HQr, HTBr, HBr⟩
      case measure => (simp [intOf] <;> omega)
    · have HK1 := hide (HC1.out k hlt hb)
      have HK2 := hide (HC2.out k hlt hb)
      have q1 := HAW.out k true
      have q2 := HAW.out k false
      have q5 := HVW.out k
      have hp8 : p2 k < 128 := p2_lt128 k (by omega)
      have ho1 := i64_or I (p2 k) (Nat.lt_trans hI (by omega)) (Nat.lt_trans hp8 (by decide))
      have ho2 := i64_or J (p2 k) (Nat.lt_trans hO (by omega)) (Nat.lt_trans hp8 (by decide))
      have HNO2 := hide (show vcN gW m F k ≠ (vmN gW m F : Int) → k ≠ V ∧ ∀ j, j < k + 1 → O.testBit j = true → vcN gW m F j ≠ (vmN gW m F : Int) from fun hne => ⟨fun e => hne (by rw [e]; exact HNX.out.2.1.symm), fun j hj hjb => by
        rcases Nat.lt_or_ge j k with h | h
        · exact HNO.out j h hjb
        · rw [show j = k by omega]; exact hne⟩)
      have HVK := hide (fun (hc : vcN gW m F k = (vmN gW m F : Int)) => HVI.out k hb hc HNO.out)
      rw [hb] at HSI
      clear hb
      generalize vmN gW m (ptF F k true) = x1 at *
      generalize vmN gW m (ptF F k false) = x2 at *
      generalize vmN gT m (ptF F k true) = z1 at *
      generalize vmN gT m (ptF F k false) = z2 at *
      have hmx : mxH (x1 : Int) (x2 : Int) ≤ 128 ∧ 0 ≤ mxH (x1 : Int) (x2 : Int) := by unfold mxH; constructor <;> split <;> omega
      have hw1 : IntKind.i64.wrap (1 + mxH (x1 : Int) (x2 : Int)) = vcN gW m F k := by rw [q5]; exact IntWalk.i64_in _ (by omega)
      have hq1 := wrap_p2 k (by omega)
      have hq2 : IntKind.i64.wrap (2 ^ k) = (p2 k : Int) := by rw [IntWalk.i64_left]; exact hq1
      have HMX := hide (fun w1 => l1MostH_c (x1 : Int) (x2 : Int) w1)
      clear q1 q2 q5 HOP HC1 HC2 HVW HAW HVI
      generalize hI1 : I ||| p2 k = I1 at *
      generalize hJ1 : J ||| p2 k = J1 at *
      clear hI1 hJ1
      generalize p2 k = pk at *
      generalize vcN gW m F k = cw at *
      generalize mxH (x1 : Int) (x2 : Int) = mx at *
      generalize (vmN gW m F : Int) = a1 at *
      by_cases hcw : cw = a1
      · have e := HVK.out hcw
        subst e
        have hcb : (cw == a1) = true := by simp [hcw]
        go_wp2_with (first
          | (go_at_call 47; refine (HSI.out _).mono ?_; rintro e w' ⟨rfl, rfl⟩)
          | (go_at_call 65; refine (HK1.out _ W2 Q2 HTr.out HWr.out HQr.out HTBr.out HLr.out (by omega)).mono ?_; rintro e w3 ⟨W3, Q3, rfl, hw3a, hq3a, htb3, hb3⟩; have hz3 := hb3.size; have HW3 := hide hw3a; have HQ3 := hide hq3a; have HTB3 := hide htb3; have HB3 := hide (HBr.out.trans (hb3.mono hsz)); have HT3 := hide (HT.out.blz HB3.out HT.out.lt hg1 hg2); have HL3 := hide (HL.out.below (HB3.out.to hBs hB1 hB2) (Nat.le_refl _)); clear hw3a hq3a htb3 hb3 HK1)
          | (go_at_call 65; refine (HK2.out _ W3 Q3 HT3.out HW3.out HQ3.out HTB3.out HL3.out (by omega)).mono ?_; rintro e w4 ⟨W4, Q4, rfl, hw4a, hq4a, htb4, hb4⟩; have hz4 := hb4.size; have HW4 := hide hw4a; have HQ4 := hide hq4a; have HTB4 := hide htb4; have HB4 := hide (HB3.out.trans (hb4.mono (by omega))); clear hw4a hq4a htb4 hb4 HK2)
          | (go_at_call 66; refine (HMX.out _).mono ?_; rintro e w' ⟨rfl, rfl⟩))
        go_ret
        exact ⟨W4, Q4, rfl, HW4.out, HQ4.out, HTB4.out, HB4.out⟩
      · obtain ⟨hkV, hno2⟩ := HNO2.out hcw
        have HNO3 := hide hno2
        have hcb : (cw == a1) = false := by simp [hcw]
        clear hno2
        go_wp2_with (first
          | (go_at_call 47; refine (HSI.out _).mono ?_; rintro e w' ⟨rfl, rfl⟩)
          | (go_at_call 65; refine (HK1.out _ W2 Q2 HTr.out HWr.out HQr.out HTBr.out HLr.out (by omega)).mono ?_; rintro e w3 ⟨W3, Q3, rfl, hw3a, hq3a, htb3, hb3⟩; have hz3 := hb3.size; have HW3 := hide hw3a; have HQ3 := hide hq3a; have HTB3 := hide htb3; have HB3 := hide (HBr.out.trans (hb3.mono hsz)); have HT3 := hide (HT.out.blz HB3.out HT.out.lt hg1 hg2); have HL3 := hide (HL.out.below (HB3.out.to hBs hB1 hB2) (Nat.le_refl _)); clear hw3a hq3a htb3 hb3 HK1)
          | (go_at_call 65; refine (HK2.out _ W3 Q3 HT3.out HW3.out HQ3.out HTB3.out HL3.out (by omega)).mono ?_; rintro e w4 ⟨W4, Q4, rfl, hw4a, hq4a, htb4, hb4⟩; have hz4 := hb4.size; have HW4 := hide hw4a; have HQ4 := hide hq4a; have HTB4 := hide htb4; have HB4 := hide (HB3.out.trans (hb4.mono (by omega))); clear hw4a hq4a htb4 hb4 HK2)
          | (go_at_call 66; refine (HMX.out _).mono ?_; rintro e w' ⟨rfl, rfl⟩))
        go_roundw
        case rel => exact ⟨k + 1, W4, Q4, by omega, by go_num, HNO3, HW4, HQ4, HTB4, HB4⟩
        case measure => (simp [intOf] <;> omega)
end Go.Proofs.YtppojaekngeelaaDoor
/- Contracts: the best strategy, the program's. -/
namespace Go.Proofs.YtppojaekngeelaaDoor
open Go.RowKit
set_option maxRecDepth 100000
set_option linter.unusedSimpArgs false
theorem b113B : 0 + 113 ^ 7 < maxLen := by decide +kernel
attribute [local irreducible] p2 low memB risB famAt own mapAt mapPl
set_option maxHeartbeats 1000000 in
theorem bestStrategy_c (w : World) : Calls Tryd.prog 31 #[] w fun e w' => e = .returned (.agg #[.func (.func 49) #[] #[.pointer (some ⟨w.heap.size + 2, 0, none⟩)]]) ∧ w'.cell? ⟨w.heap.size + 2, 0, none⟩ = some (.map (some (w.heap.size + 1))) ∧ mapPl w' (w.heap.size + 1) 0 (.map []) ∧ w'.heap.size = w.heap.size + 3 ∧ Below w.heap.size w w' := by
  have hmm := @run_makeMap Tryd.prog
  go_enter Tryd.func31, Tryd.ntmps31
  go_wp2
  generalize hf : Value.func (.func 49) #[] #[.pointer (some ⟨w.heap.size + 1 + 1, 0, none⟩)] = fv
  have hm := mapPl_new (w.alloc (.cells #[fv] 60))
  have hz : (w.alloc (.cells #[fv] 60)).heap.size = w.heap.size + 1 := by simp
  rw [hz] at hm
  have hb3 := (Below.refl _ ((w.alloc (.cells #[fv] 60)).alloc (.map #[] 0))).alloc (Nat.le_refl _) (.cells #[.map (some (w.heap.size + 1))] 78)
  have hc := hp_last ((w.alloc (.cells #[fv] 60)).alloc (.map #[] 0)) (.cells #[.map (some (w.heap.size + 1))] 78)
  have hz2 : ((w.alloc (.cells #[fv] 60)).alloc (.map #[] 0)).heap.size = w.heap.size + 2 := by simp
  rw [hz2] at hc
  have h0 : ((((w.alloc (.cells #[fv] 60)).alloc (.map #[] 0)).alloc (.cells #[.map (some (w.heap.size + 1))] 78))).heap[w.heap.size]? = some (.cells #[fv] 60) := (hb3.block w.heap.size (by rw [hz2]; omega)).trans ((hp_old _ _ _ (by rw [hz]; omega)).trans (hp_last w _))
  refine bodyPost_ret (v := .agg #[fv]) (results_csT (cs := #[fv]) rowSt sizeSt rfl _ _ w.heap.size rfl h0) rfl ⟨by rw [← hf], (by rw [hp_cell hc]; rfl), hm.blx hb3, by simp, ?_⟩
  exact (((Below.refl w.heap.size w).alloc (Nat.le_refl _) _).alloc (by simp) _).alloc (by simp; omega) _
theorem wpList_fieldPl0 {ops : Array Oper} {rest : List Oper} {o : Oper} {a : Act} {w : World} {Q : Exit → Act → World → Prop} (hw : Region.wanted o (yielded ops a.tmps) = true) (x : Operand) (ho : o.op = .field 80 x 0) (p q : Int) (hx : a.eval x = .agg (plC p q))
    (h : wpList Tryd.prog ops Q rest (a.put o.dst (.int .i64 p)) w) : wpList Tryd.prog ops Q (o :: rest) a w := by
  refine wpList_of_wp hw fun _ hK => ?_
  have hf : (Instr.field 80 (.agg (plC p q)) 0).run Tryd.prog w = .ok (.int .i64 p) w := fieldPl0 p q w
  unfold Oper.wp
  simp [execOp, ho, hx, hf, Result.andThen]
  exact hK _ _ h
/-- One question of the best strategy: it leaves the map with more plans. -/
theorem best1_c (m b c n : Nat) (F : Nat → Bool) (D : DataW Unit) (w : World) (hm7 : m ≤ 7) (hgb : 3 ≠ b) (hF : ∀ x, F x = true → x ≤ low m) (hc : w.cell? ⟨c, 0, none⟩ = some (.map (some b))) (hcl : c < w.heap.size) (hM : mapPl w b n D) (hok : planOk m D) (hn : n + 113 ^ 7 < maxLen) (hT : tab w) :
    Calls Tryd.prog 49 #[.agg (fam (m : Int) F), .pointer (some ⟨c, 0, none⟩)] w fun e w' => ∃ n' D', e = .returned (.int .i64 (viN gW m F : Int)) ∧ mapPl w' b n' D' ∧ planOk m D' ∧ n' ≤ n + 113 ^ 7 ∧ Blx (some b) w.heap.size w w' := by
  have hbw := hM.lt
  have hb0 := (Below.refl w.heap.size w).alloc (Nat.le_refl _) (.cells (fam (m : Int) F) 45)
  have HF0 := hide (famAt.new 45 w (m : Int) F)
  have hcc : (w.alloc (.cells (fam (m : Int) F) 45)).cell? ⟨c, 0, none⟩ = some (.map (some b)) := (hb0.cell (p := ⟨c, 0, none⟩) (by show c < w.heap.size; omega)).trans hc
  have HPL := hide (planFor_c m b hm7 hgb 7 F (w.alloc (.cells (fam (m : Int) F) 45)) n D hF (pc_le _) (hM.blx hb0) hok hn (hT.below hb0))
  have HB0 := hide (Blx.of (o := some b) hb0)
  have hz0 : (w.alloc (.cells (fam (m : Int) F) 45)).heap.size = w.heap.size + 1 := by simp
  generalize 113 ^ 7 = U at *
  clear hM hT hb0 hok hF hc hn
  go_enter Tryd.func49, Tryd.ntmps49
  go_wp2_with (first
    | (refine wpList_load_fam rowT sizeT rfl (.tmp 2) rfl w.heap.size rfl (m : Int) F HF0.out ?_)
    | (go_at_call 50; refine HPL.out.mono ?_; rintro e w1 ⟨n1, D1, rfl, h1, h2, h3, h4⟩; have H1 := hide h1; have H2 := hide h2; have H4 := hide (HB0.out.trans (h4.mono (by rw [hz0]; omega))); clear h1 h2 h4)
    | (refine wpList_fieldPl0 rfl (.tmp 6) rfl _ _ rfl ?_))
  go_ret
  exact ⟨n1, D1, rfl, H1.out, H2.out, h3, H4.out⟩
section
variable {P : Program} {md : Region.Mode} {ops : Array Oper} {Q : Exit → Act → World → Prop} {S : World → Prop} {fuel : Nat} {listed : Array Bool} {a : Act} {w : World}
theorem anyH_callF {i : Nat} {o : Oper} (hr : Region.ready md ops listed = [i]) (hi : ops[i]? = some o) (hw : Region.wanted o (yielded ops a.tmps) = true) (k : FuncId) (caps : Array Value) (hk : enters P k) (x : Operand) (xs : Array Operand) (ts : Array TypeId)
    (ho : o.op = .call { callee := .value x, args := xs, argTypes := ts }) (hx : a.eval x = .func (.func k) #[] caps) (args : Array Value) (hal : xs.toList.map a.eval = args.toList) {R : Ending → World → Prop} (hc : Calls P k (args ++ caps) w R)
    (h : ∀ e w', R e w' → ∃ v, e = .returned v ∧ S w' ∧ wpAnyH P md ops Q S fuel (listed.setIfInBounds i true) (a.put o.dst v) w') : wpAnyH P md ops Q S (fuel + 1) listed a w := by
  have ha : xs.map a.eval = args := Array.toList_inj.1 (by simpa using hal)
  refine wpAnyH_all hr (by simp) fun j hj => ?_
  have hj' : j = i := by simpa using hj
  subst hj'
  unfold wpOp
  simp only [hi, hw, if_true]
  refine .inl ?_
  have he : execOp a.eval o = callFunc k (args ++ caps) := by
    unfold execOp
    simp only [ho, resolve, hx, ha, Deferred.ofValue, pure_bind, invoke, Array.empty_append]
  unfold Oper.wp
  rw [he, hk]
  refine hc.mono fun e w' hR => ?_
  obtain ⟨v, rfl, h1, h2⟩ := h e w' hR
  exact ⟨h1, h2⟩
end
def bqR (n : Int) (l : List Int) (y z : Int) : Int := if hqB n l y z then (viN gW n.toNat (hqF l y z) : Int) else 0
theorem ent_bestStrategy : enters Tryd.prog 31 := enters_of Tryd.func31 (by kernel_rfl) (by kernel_rfl)
theorem ent_best1 : enters Tryd.prog 49 := enters_of Tryd.func49 (by kernel_rfl) (by kernel_rfl)
theorem best_top (m : Nat) (v : Value) (l : List Int) (y z : Nat) (g b1 b2 B : Nat) (w : World) (hok : asB (m : Int) l (y : Int) (z : Int) = true) (h0 : opN m (leF (marksTo l l.length) y z) ≠ 0) (hlen : l.length < 1000000000) (h12 : b1 ≠ b2) (hg1 : g ≠ b1) (hg2 : g ≠ b2) (hB1 : B ≤ b1) (hB2 : B ≤ b2)
    (ht : tbA 76 w g (m : Int) v b1 b2 (2 ^ (2 * m))) (hW : blk 3 w b1 (List.replicate (2 ^ (2 * m)) 0)) (hQ : blk 3 w b2 (List.replicate (2 ^ (2 * m)) 0)) (hl : ints B w v l) (hBs : B ≤ w.heap.size) :
    Calls Tryd.prog 46 #[.pointer (some ⟨g, 0, none⟩), .int .i64 (y : Int), .int .i64 (z : Int)] w fun e w' => e = .returned (.int .i64 (viN gW m (leF (marksTo l l.length) y z) : Int)) ∧ Below B w w' := by
  obtain ⟨hsp, hy, hz, _⟩ := asOk_in (asB_ok hok)
  have hpos := asB_pos hok
  rw [Int.toNat_natCast, Int.toNat_natCast, lf_sets hsp] at hpos
  rw [Int.toNat_natCast] at hy hz
  have hlo := low_succ m
  refine (best_c m v l g b1 b2 B hsp hlen h12 hg1 hg2 hB1 hB2 y z w _ _ hpos h0 (by omega) (by omega) ht hW hQ (tbOk_new m _) hl hBs).mono ?_
  rintro e w' ⟨W', Q', he, _, _, _, hb⟩
  exact ⟨he, hb.to hBs hB1 hB2⟩
end Go.Proofs.YtppojaekngeelaaDoor
