/- Contracts: the least numbers of questions, the specification's. -/
import Derived.Test.YtppojaekngeelaaDoorHy
import Derived.Test.YtppojaekngeelaaDoorHj
namespace Go.Proofs.YtppojaekngeelaaDoor
open Go.RowKit
set_option maxRecDepth 100000
set_option linter.unusedSimpArgs false
theorem l1LeastZ_c (a b : Int) (w : World) : Calls Tryd.prog 82 #[.int .i64 a, .int .i64 b] w fun e w' => e = .returned (.int .i64 (mnH a b)) ∧ w = w' := by
  have HM := hide (show mnH a b = if a < b then a else b from rfl)
  by_cases h : a < b
  all_goals
    go_enter Tryd.func82, Tryd.ntmps82
    go_wp2
    go_ret
    exact ⟨ret_i (by rw [HM.out]; split <;> omega), rfl⟩
theorem orP {m I k : Nat} (h : I < 2 ^ m) (hk : k < m) : I ||| p2 k < 2 ^ m := Nat.or_lt_two_pow h (p2_lt k m hk)
theorem setT {T : TypeId} {w : World} {g : Nat} {n : Int} {v : Value} {b1 b2 N : Nat} (h : tbA T w g n v b1 b2 N) (b j : Nat) (hb : g ≠ b) (x : Value) : tbA T (w.setCell ⟨b, j, none⟩ x) g n v b1 b2 N := (hp_setO w ⟨b, j, none⟩ g x hb).trans h
theorem setB {I : TypeId} {w : World} {g : Nat} {m : List Int} (h : blk I w g m) (b j : Nat) (hb : g ≠ b) (x : Value) : blk I (w.setCell ⟨b, j, none⟩ x) g m := (hp_setO w ⟨b, j, none⟩ g x hb).trans h
theorem blkB {I : TypeId} {w w' : World} {g B : Nat} {m : List Int} (h : blk I w g m) (hb : Below B w w') (hB : g < B) : blk I w' g m := h.below hb hB
theorem tbB {T : TypeId} {w w' : World} {g : Nat} {n : Int} {v : Value} {b1 b2 N B : Nat} (h : tbA T w g n v b1 b2 N) (hb : Below B w w') (hB : g < B) : tbA T w' g n v b1 b2 N := (hb.block g hB).trans h
attribute [local irreducible] p2 low memB risB famAt own blk tbA
set_option maxHeartbeats 4000000 in
theorem closed_c (m : Nat) (v : Value) (l : List Int) (g b1 b2 N : Nat) (y z : Nat) (w : World) (ht : tbA 76 w g (m : Int) v b1 b2 N) (hl : ints w.heap.size w v l) (hlen : l.length < 1000000000) (hok : okSp (m : Int) l = true) (hy : y < 128) (hz : z < 128) :
    Calls Tryd.prog 64 #[.pointer (some ⟨g, 0, none⟩), .int .i64 (y : Int), .int .i64 (z : Int)] w fun e w' => ∃ u, e = .returned (.tuple #[u, .int .i64 (kaL (setsTo (leF (marksTo l l.length) y z) 128) (low m) : Int), .int .i64 (knL (setsTo (leF (marksTo l l.length) y z) 128) (low m) : Int)]) ∧ own 3 w' w.heap.size u (setsTo (leF (marksTo l l.length) y z) 128) ∧ Below w.heap.size w w' := by
  have HT := hide ht
  have HL := hide hl
  have hm := okSp_n hok
  have HR := hide (sp_r128 hok)
  have HAS := hide (fun w1 h => asLeft_c (m : Int) v l y z w1 h hlen HR.out hy hz)
  rw [lf_sets hok y z] at HAS
  have hLn := setsTo_len (leF (marksTo l l.length) y z) 128
  have HRG := hide (setsTo_range (leF (marksTo l l.length) y z) 128)
  generalize setsTo (leF (marksTo l l.length) y z) 128 = L at *
  have HKN := hide (fun u w1 (h : ints w1.heap.size w1 u L) => asKnown_c m v u L w1 h (by omega) (by omega) HRG.out)
  have c0 := HT.out.c0
  have c1 := HT.out.c1
  clear ht hl hok
  go_enter Tryd.func64, Tryd.ntmps64
  go_wp2_with (first
    | (go_at_call 44; refine (HAS.out _ HL.out).mono ?_; rintro e w2 ⟨v2, rfl, ho2, hb2⟩; have hz2 := hb2.size; have HO2 := hide ho2; have HT2 := hide (tbB HT.out hb2 HT.out.lt); have d0 := HT2.out.c0; have d1 := HT2.out.c1; have HB2 := hide hb2; clear ho2 hb2 c0 c1)
    | (go_at_call 62; refine (HKN.out _ _ HO2.out.ints).mono ?_; rintro e w3 ⟨rfl, hb3⟩; have HO3 := hide (HO2.out.kept hb3); have HB3 := hide (HB2.out.trans (hb3.mono hz2)); clear hb3))
  go_ret3
  exact ⟨_, rfl, HO3.out, HB3.out⟩
theorem pt1 (M : Nat → Bool) (I J k : Nat) : leF M (I ||| p2 k) J = ptF (leF M I J) k true := by unfold ptF; rw [if_pos rfl, leF_leF, Nat.or_zero]
theorem pt2 (M : Nat → Bool) (I J k : Nat) : leF M I (J ||| p2 k) = ptF (leF M I J) k false := by unfold ptF; rw [if_neg (by simp), leF_leF, Nat.or_zero]
theorem kaP (L : List Int) {a m : Nat} (h : a < 2 ^ m) : ∀ k, kaTo L a k < 2 ^ m
  | 0 => h
  | k + 1 => Nat.lt_of_le_of_lt Nat.and_le_left (kaP L h k)
theorem knP (L : List Int) {a m : Nat} (h : a < 2 ^ m) : ∀ k, knTo L a k < 2 ^ m
  | 0 => h
  | k + 1 => andNot_lt _ _ m (knP L h k)
theorem at_or {m i j : Nat} (hj : j < 2 ^ m) : i * 2 ^ m ||| j = i * 2 ^ m + j := by
  rw [Nat.mul_comm, Nat.two_pow_add_eq_or_of_lt hj]
theorem vW_eq (m : Nat) (F : Nat → Bool) (k : Nat) : vcN gW m F k = 1 + mxH (vmN gW m (ptF F k true) : Int) (vmN gW m (ptF F k false) : Int) := by
  unfold vcN gW mxH; split <;> omega
theorem vT_eq (m : Nat) (F : Nat → Bool) (k : Nat) : vcN gT m F k = (cntS F : Int) + (vmN gT m (ptF F k true) : Int) + (vmN gT m (ptF F k false) : Int) := by
  unfold vcN gT; omega
theorem vW_le {m : Nat} (hm7 : m ≤ 7) {F : Nat → Bool} (hF : ∀ x, F x = true → x ≤ low m) : vmN gW m F ≤ 128 := Nat.le_trans (wm_le m hm7 _ F hF (Nat.le_refl _)) (cntS_le F)
theorem vT_le {m : Nat} (hm7 : m ≤ 7) {F : Nat → Bool} (hF : ∀ x, F x = true → x ≤ low m) : vmN gT m F ≤ 16384 := by
  have h1 := tm_le m hm7 _ F hF (Nat.le_refl _)
  have h2 := cntS_le F
  exact Nat.le_trans h1 (Nat.mul_le_mul h2 h2)
set_option maxHeartbeats 16000000 in
theorem least_c (m : Nat) (v : Value) (l : List Int) (g b1 b2 B : Nat) (hok : okSp (m : Int) l = true) (hlen : l.length < 1000000000) (h12 : b1 ≠ b2) (hg1 : g ≠ b1) (hg2 : g ≠ b2) (hB1 : B ≤ b1) (hB2 : B ≤ b2) :
    ∀ (c y z : Nat) (w : World) (W Q : List Int), cntS (leF (marksTo l l.length) y z) ≤ c → 1 ≤ cntS (leF (marksTo l l.length) y z) → y < 2 ^ m → z < 2 ^ m → tbA 76 w g (m : Int) v b1 b2 (2 ^ (2 * m)) → blk 3 w b1 W → blk 3 w b2 Q → tbOk m (marksTo l l.length) W Q → ints B w v l → B ≤ w.heap.size →
      Calls Tryd.prog 65 #[.pointer (some ⟨g, 0, none⟩), .int .i64 (y : Int), .int .i64 (z : Int)] w fun e w' => ∃ W' Q', e = .returned (.tuple #[.int .i64 (vmN gW m (leF (marksTo l l.length) y z) : Int), .int .i64 (vmN gT m (leF (marksTo l l.length) y z) : Int)]) ∧ blk 3 w' b1 W' ∧ blk 3 w' b2 Q' ∧ tbOk m (marksTo l l.length) W' Q' ∧ Blz b1 b2 w.heap.size w w' := by
  have hm := okSp_n hok
  have hm7 : m ≤ 7 := by omega
  have hlo := low_lt m hm7
  have hls := low_succ m
  have hp2 := p2_le m 7 hm7
  have HOK := hide hok
  have HLOW := hide (show ∀ x, marksTo l l.length x = true → x ≤ low m from fun x hx => by have := marks_low hok x hx; rwa [Int.toNat_natCast] at this)
  intro c
  induction c with
  | zero => intro y z w W Q h1 h2; omega
  | succ c ih =>
    intro y z w W Q hc h1 hy hz ht hW hQ htb hl hBs
    have IH := hide ih
    have HT := hide ht
    have HW := hide hW
    have HQ := hide hQ
    have HTB := hide htb
    have HL := hide hl
    have HCL := hide (closed_c m v l g b1 b2 (2 ^ (2 * m)) y z w ht (hl.mono hBs) hlen hok (by omega) (by omega))
    have HKN := hide (leF_known hm7 HLOW.out hy hz)
    have hF : ∀ x, leF (marksTo l l.length) y z x = true → x ≤ low m := fun x hx => HLOW.out x (leF_in hx)
    have HFF := hide hF
    have hze := opN_zero hm7 hF
    have hlm : low m < 2 ^ m := by omega
    have hI : kaL (setsTo (leF (marksTo l l.length) y z) 128) (low m) < 2 ^ m := kaP _ hlm _
    have hO : knL (setsTo (leF (marksTo l l.length) y z) 128) (low m) < 2 ^ m := knP _ hlm _
    have HOP := hide (fun k hk => op_in m (leF (marksTo l l.length) y z) k hk)
    have hcn : cntS (leF (marksTo l l.length) y z) = (setsTo (leF (marksTo l l.length) y z) 128).length := rfl
    clear ih ht hW hQ htb hl hok
    generalize hFd : leF (marksTo l l.length) y z = F at *
    generalize setsTo F 128 = L at *
    generalize hId : kaL L (low m) = I at *
    generalize hOd : knL L (low m) = J at *
    clear hId hOd
    by_cases h0 : opN m F = 0
    · have hL1 : L.length = 1 := by have := hze.1 h0; omega
      have hLb : ((L.length : Int) == 1) = true := by rw [hL1]; rfl
      have hLi : (L.length : Int) = 1 := by omega
      rw [vmN_zero h0, vmN_zero h0]
      clear h0 hze hcn hc h1
      go_enter Tryd.func65, Tryd.ntmps65
      go_wp2_with (first
        | (go_at_call 64; refine HCL.out.mono ?_; rintro e w1 ⟨u, rfl, ho1, hb1⟩; have HB1 := hide hb1; have HO1 := hide ho1.ints; have HW1 := hide (blkB HW.out hb1 HW.out.lt); have HQ1 := hide (blkB HQ.out hb1 HQ.out.lt); clear ho1 hb1)
        | (refine wpList_len sliceT rfl (.tmp _) rfl _ rfl w1.heap.size L HO1.out ?_))
      go_ret2
      exact ⟨W, Q, rfl, HW1.out, HQ1.out, HTB.out, Blz.of HB1.out⟩
    · have hL1 : L.length ≠ 1 := by intro h; exact h0 (hze.2 (by omega))
      have hLb : ((L.length : Int) == 1) = false := by simp; omega
      have hLi : ¬ (L.length : Int) = 1 := by omega
      have hWl := HTB.out.1
      have hQl := HTB.out.2.1
      have hq := q_le hm7
      have hat := at_lt hI hO
      have HAT := hide (HTB.out.2.2 I J hI hO)
      have HSET := hide (fun W2 Q2 (h : tbOk m (marksTo l l.length) W2 Q2) => tbOk_set h hI hO)
      rw [HKN.out] at HAT HSET
      have hor := i64_or (I * 2 ^ m) J (by omega) (by omega)
      rw [at_or hO] at hor
      have hPc : ((I * 2 ^ m : Nat) : Int) = (I : Int) * 2 ^ m := by rw [Int.natCast_mul, Int.natCast_pow]; rfl
      have hs1 : IntKind.i64.wrap ((I : Int) * 2 ^ m) = ((I * 2 ^ m : Nat) : Int) := by rw [← hPc]; exact IntWalk.i64_in _ (by omega)
      have hs2 : wrap64 ((I : Int) * 2 ^ m) = ((I * 2 ^ m : Nat) : Int) := by rw [← hs1]; exact (IntWalk.i64_left _).symm
      have hs3 : IntKind.i64.wrap ((I : Int) * 2 ^ min m 64) = ((I * 2 ^ m : Nat) : Int) := by rw [Nat.min_eq_left (by omega)]; exact hs1
      clear hPc
      generalize hAT : I * 2 ^ m + J = AT at *
      generalize I * 2 ^ m = P at *
      clear hAT
      have hOlt : opN m F < 2 ^ m := op_lt F
      have hO8 := opN_lt m hm7 F
      generalize hNN : 2 ^ (2 * m) = N at *
      have HNN := hide hNN
      clear hNN
      generalize hMM : (2 ^ m : Nat) = M2 at *
      have HM2 := hide hMM
      clear hMM
      have HWC := hide (fun w1 (h : blk 3 w1 b1 W) => h.cell AT (by omega))
      by_cases hpos : 0 < W[AT]?.getD 0
      · obtain ⟨e1, e2⟩ := HAT.out hpos
        have HWI := hide (show ∀ w1, blk 3 w1 b1 W → ints w1.heap.size w1 (.slice (some ⟨b1, 0, none⟩) N N) W from fun w1 h => by have h2 := h.ints N; rw [hWl] at h2; exact h2)
        have HQI := hide (show ∀ w1, blk 3 w1 b2 Q → ints w1.heap.size w1 (.slice (some ⟨b2, 0, none⟩) N N) Q from fun w1 h => by have h2 := h.ints N; rw [hQl] at h2; exact h2)
        have hvW := vW_le hm7 hF
        have hvT := vT_le hm7 hF
        have HE1 := hide e1
        have HE2 := hide e2
        rw [HE1.out] at hpos HWC
        have hn1 : IntKind.i64.wrap ((vmN gW m F : Int) + 1 - 1) = (vmN gW m F : Int) := by rw [IntWalk.i64_in _ (by omega)]; omega
        have hm1 : IntKind.i64.wrap (vmN gW m F : Int) = (vmN gW m F : Int) := IntWalk.i64_in _ (by omega)
        have hm2 : IntKind.i64.wrap (vmN gT m F : Int) = (vmN gT m F : Int) := IntWalk.i64_in _ (by omega)
        have hn2 : IntKind.i64.wrap ((vmN gT m F : Int) + 1 - 1) = (vmN gT m F : Int) := by rw [IntWalk.i64_in _ (by omega)]; omega
        clear e1 e2 h0 hze hcn hc h1 hF hO8 hOlt
        generalize (vmN gW m F : Int) = a1 at *
        generalize (vmN gT m F : Int) = a2 at *
        go_enter Tryd.func65, Tryd.ntmps65
        go_wp2_with (first
          | (go_at_call 64; refine HCL.out.mono ?_; rintro e w1 ⟨u, rfl, ho1, hb1⟩; have hz1 := hb1.size; have HB1 := hide hb1; obtain ⟨ua, uc, hu⟩ := ho1.ints.shape; subst hu; have HO1 := hide ho1.ints; have HT1 := hide (tbB HT.out hb1 HT.out.lt); have HW1 := hide (blkB HW.out hb1 HW.out.lt); have HQ1 := hide (blkB HQ.out hb1 HQ.out.lt); have HL1 := hide (HL.out.below hb1 hBs); have d0 := HT1.out.c0; have d2 := HT1.out.c2; have d3 := HT1.out.c3; have cw := HWC.out w1 HW1.out; clear ho1 hb1)
          | (refine wpList_len sliceT rfl (.tmp _) rfl _ rfl w1.heap.size L HO1.out ?_)
          )
        clear d0 d2 d3 cw
        refine wp_region_old (by kernel_rfl) (by kernel_rfl) ?_
        go_big_quiet_step ((first | exact fun _ => rfl | exact fun _ => ⟨rfl, rfl⟩))
        go_big_quiet_step ((first | exact fun _ => rfl | exact fun _ => ⟨rfl, rfl⟩))
        go_big_quiet_step ((first | exact fun _ => rfl | exact fun _ => ⟨rfl, rfl⟩))
        refine q_load_cell rowS rfl (.tmp _) rfl ⟨g, 2, none⟩ rfl (.slice (some ⟨b1, 0, none⟩) N N) (fun w' h => (tbB HT1.out h HT1.out.lt).c2) ?_
        simp only [Act.put, List.setIfInBounds_toArray, List.set_cons_zero, List.set_cons_succ]
        go_big_quiet_step ((first | exact fun _ => rfl | exact fun _ => ⟨rfl, rfl⟩))
        refine q_at sliceT intS rfl (.tmp _) (.tmp _) rfl _ rfl _ rfl AT rfl w1.heap.size W w1 (HWI.out w1 HW1.out) (by omega) ?_
        intro ad1 hcell1 hblk1
        rw [HE1.out] at hcell1
        simp only [Act.put, List.setIfInBounds_toArray, List.set_cons_zero, List.set_cons_succ]
        refine q_load_cell rowI rfl (.tmp _) rfl ad1 rfl (.int .i64 (a1 + 1)) (fun w' h => (h.cell (p := ad1) hblk1).trans hcell1) ?_
        simp only [Act.put, List.setIfInBounds_toArray, List.set_cons_zero, List.set_cons_succ]
        refine q_valH rfl (.int .i64 a1) (fun w' => by simp [execOp, go_sem, hn1, hm1]) ?_
        simp only [Act.put, List.setIfInBounds_toArray, List.set_cons_zero, List.set_cons_succ]
        go_big_quiet_step ((first | exact fun _ => rfl | exact fun _ => ⟨rfl, rfl⟩))
        go_big_quiet_step ((first | exact fun _ => rfl | exact fun _ => ⟨rfl, rfl⟩))
        go_big_quiet_step ((first | exact fun _ => rfl | exact fun _ => ⟨rfl, rfl⟩))
        refine q_load_cell rowS rfl (.tmp _) rfl ⟨g, 3, none⟩ rfl (.slice (some ⟨b2, 0, none⟩) N N) (fun w' h => (tbB HT1.out h HT1.out.lt).c3) ?_
        simp only [Act.put, List.setIfInBounds_toArray, List.set_cons_zero, List.set_cons_succ]
        go_big_quiet_step ((first | exact fun _ => rfl | exact fun _ => ⟨rfl, rfl⟩))
        refine q_at sliceT intS rfl (.tmp _) (.tmp _) rfl _ rfl _ rfl AT rfl w1.heap.size Q w1 (HQI.out w1 HQ1.out) (by omega) ?_
        intro ad2 hcell2 hblk2
        rw [HE2.out] at hcell2
        simp only [Act.put, List.setIfInBounds_toArray, List.set_cons_zero, List.set_cons_succ]
        refine q_load_cell rowI rfl (.tmp _) rfl ad2 rfl (.int .i64 (a2 + 1)) (fun w' h => (h.cell (p := ad2) hblk2).trans hcell2) ?_
        simp only [Act.put, List.setIfInBounds_toArray, List.set_cons_zero, List.set_cons_succ]
        refine q_valH rfl (.int .i64 a2) (fun w' => by simp [execOp, go_sem, hn2, hm2]) ?_
        simp only [Act.put, List.setIfInBounds_toArray, List.set_cons_zero, List.set_cons_succ]
        repeat (first | go_big_quiet_skip | go_big_quiet_step ((first | exact fun _ => rfl | exact fun _ => ⟨rfl, rfl⟩)))
        refine wpQuiet_nil ?_
        intro w2 hb2
        have HW2 := hide (blkB HW1.out hb2 HW1.out.lt)
        have HQ2 := hide (blkB HQ1.out hb2 HQ1.out.lt)
        have HB2 := hide (HB1.out.trans (hb2.mono hz1))
        clear hb2 hcell1 hcell2 hblk1 hblk2
        go_wp2
        go_ret2
        exact ⟨W, Q, rfl, HW2.out, HQ2.out, HTB.out, Blz.of HB2.out⟩
      · have hvB : ∀ k, (opN m F).testBit k = true → vcN gW m F k < 1073741824 ∧ vcN gT m F k < 1073741824 := fun k hk => by
          have a1 := vW_le hm7 (low_part (i := k) (b := true) hF)
          have a2 := vW_le hm7 (low_part (i := k) (b := false) hF)
          have a3 := vT_le hm7 (low_part (i := k) (b := true) hF)
          have a4 := vT_le hm7 (low_part (i := k) (b := false) hF)
          have a5 := cntS_le F
          rw [vW_eq, vT_eq]
          unfold mxH
          constructor
          · split <;> omega
          · omega
        rw [← HM2.out] at hOlt
        have HEW := hide ((mv_end hOlt hO8 h0 (fun k hk => (hvB k hk).1)).trans (vmN_step (g := gW) hm7 hF h0).symm)
        have HET := hide ((mv_end (c := vcN gT m F) hOlt hO8 h0 (fun k hk => (hvB k hk).2)).trans ((show vcN gT m F (mnI (vcN gT m F) (opN m F)) = (vmN gT m F : Int) from (vmN_step (g := gT) hm7 hF h0).symm)))
        have hvW := vW_le hm7 hF
        have hvT := vT_le hm7 hF
        have hA1 : IntKind.i64.wrap ((vmN gW m F : Int) + 1) = (vmN gW m F : Int) + 1 := IntWalk.i64_in _ (by omega)
        have hA2 : IntKind.i64.wrap ((vmN gT m F : Int) + 1) = (vmN gT m F : Int) + 1 := IntWalk.i64_in _ (by omega)
        have HVW := hide (fun k => vW_eq m F k)
        have HVT := hide (fun k => vT_eq m F k)
        have HAW := hide (fun k b => vW_le hm7 (low_part (i := k) (b := b) hF))
        have HAQ := hide (fun k b => vT_le hm7 (low_part (i := k) (b := b) hF))
        have HPL := hide (fun k (hk : (opN m F).testBit k = true) b => (⟨part_pos hk b, part_less hk b⟩ : 0 < cntS (ptF F k b) ∧ cntS (ptF F k b) < cntS F))
        have HC1 := hide (show ∀ k, k < m → (opN m F).testBit k = true → ∀ (w1 : World) (W1 Q1 : List Int), tbA 76 w1 g (m : Int) v b1 b2 N → blk 3 w1 b1 W1 → blk 3 w1 b2 Q1 → tbOk m (marksTo l l.length) W1 Q1 → ints B w1 v l → B ≤ w1.heap.size → Calls Tryd.prog 65 #[.pointer (some ⟨g, 0, none⟩), .int .i64 ((I ||| p2 k : Nat) : Int), .int .i64 (J : Int)] w1 fun e w' => ∃ W' Q', e = .returned (.tuple #[.int .i64 (vmN gW m (ptF F k true) : Int), .int .i64 (vmN gT m (ptF F k true) : Int)]) ∧ blk 3 w' b1 W' ∧ blk 3 w' b2 Q' ∧ tbOk m (marksTo l l.length) W' Q' ∧ Blz b1 b2 w1.heap.size w1 w' from fun k hk hb w1 W1 Q1 q1 q2 q3 q4 q5 q6 => by
          have hp := HPL.out k hb true
          have hIk : I ||| p2 k < M2 := by rw [← HM2.out]; exact orP (by rw [HM2.out]; exact hI) hk
          have h := IH.out (I ||| p2 k) J w1 W1 Q1 (by rw [pt1, HKN.out]; omega) (by rw [pt1, HKN.out]; omega) hIk hO q1 q2 q3 q4 q5 q6
          rw [pt1, HKN.out] at h
          exact h)
        have HC2 := hide (show ∀ k, k < m → (opN m F).testBit k = true → ∀ (w1 : World) (W1 Q1 : List Int), tbA 76 w1 g (m : Int) v b1 b2 N → blk 3 w1 b1 W1 → blk 3 w1 b2 Q1 → tbOk m (marksTo l l.length) W1 Q1 → ints B w1 v l → B ≤ w1.heap.size → Calls Tryd.prog 65 #[.pointer (some ⟨g, 0, none⟩), .int .i64 (I : Int), .int .i64 ((J ||| p2 k : Nat) : Int)] w1 fun e w' => ∃ W' Q', e = .returned (.tuple #[.int .i64 (vmN gW m (ptF F k false) : Int), .int .i64 (vmN gT m (ptF F k false) : Int)]) ∧ blk 3 w' b1 W' ∧ blk 3 w' b2 Q' ∧ tbOk m (marksTo l l.length) W' Q' ∧ Blz b1 b2 w1.heap.size w1 w' from fun k hk hb w1 W1 Q1 q1 q2 q3 q4 q5 q6 => by
          have hp := HPL.out k hb false
          have hJk : J ||| p2 k < M2 := by rw [← HM2.out]; exact orP (by rw [HM2.out]; exact hO) hk
          have h := IH.out I (J ||| p2 k) w1 W1 Q1 (by rw [pt2, HKN.out]; omega) (by rw [pt2, HKN.out]; omega) hI hJk q1 q2 q3 q4 q5 q6
          rw [pt2, HKN.out] at h
          exact h)
        have hcl := cntS_le F
        have hor8 : I ||| J < 128 := or_lt128 _ _ (by omega) (by omega)
        have hoI := i64_or I J (by omega) (by omega)
        rw [hcn] at HVT hcl
        clear hvB IH HAT HPL h0 hze hc h1 hF hO8 hOlt hcn
        generalize I ||| J = IJ at *
        generalize opN m F = O at *
        generalize (vmN gW m F : Int) = a1 at *
        generalize (vmN gT m F : Int) = a2 at *
        generalize hwv : W[AT]?.getD 0 = wv at HWC hpos
        clear hwv
        go_enter Tryd.func65, Tryd.ntmps65
        go_wp2_with (first
          | (go_at_call 64; refine HCL.out.mono ?_; rintro e w1 ⟨u, rfl, ho1, hb1⟩; have hz1 := hb1.size; have HB1 := hide hb1; obtain ⟨ua, uc, hu⟩ := ho1.ints.shape; subst hu; have HO1 := hide ho1.ints; have HT1 := hide (tbB HT.out hb1 HT.out.lt); have HW1 := hide (blkB HW.out hb1 HW.out.lt); have HQ1 := hide (blkB HQ.out hb1 HQ.out.lt); have HL1 := hide (HL.out.below hb1 hBs); have d0 := HT1.out.c0; have d2 := HT1.out.c2; have d3 := HT1.out.c3; have cw := HWC.out w1 HW1.out; clear ho1 hb1)
          | (refine wpList_len sliceT rfl (.tmp _) rfl _ rfl w1.heap.size L HO1.out ?_)
          )
        clear d2 d3 cw d0 hpos hs1 hs2 hs3 hor
        go_loopw [12, 13, 14] (fun a b i wr => ∃ (k : Nat) (W2 Q2 : List Int), k ≤ m ∧ i = .int .i64 (k : Int) ∧ a = .int .i64 (mvTo (vcN gW m F) O k) ∧ b = .int .i64 (mvTo (vcN gT m F) O k) ∧ Hid (blk 3 wr b1 W2) ∧ Hid (blk 3 wr b2 Q2) ∧ Hid (tbOk m (marksTo l l.length) W2 Q2) ∧ Hid (Blz b1 b2 w.heap.size w wr)) (fun _ _ i _ => m - (intOf i).toNat)
        case atStart => exact ⟨0, W, Q, Nat.zero_le _, rfl, rfl, rfl, HW1, HQ1, HTB, Blz.of HB1.out⟩
        case round =>
          obtain ⟨k, W2, Q2, hk, rfl, rfl, rfl, HWr, HQr, HTBr, HBr⟩ := hrel
          have hsz := HBr.out.size
          have HTr := hide (HT.out.blz HBr.out HT.out.lt hg1 hg2)
          have HLr := hide (HL.out.below (HBr.out.to hBs hB1 hB2) (Nat.le_refl _))
          have d0 := HTr.out.c0
          by_cases hlt : k < m
          · have hlt' : (k : Int) < (m : Int) := by omega
            have HSI := hide (fun w1 => by have h := spIn_c (IJ : Int) (k : Int) w1 (by omega) (by omega) (by omega) (by omega); rw [Int.toNat_natCast, Int.toNat_natCast, HOP.out k hlt] at h; exact h)
            cases hb : O.testBit k
            · have HM := hide (mv_no (c := vcN gW m F) hb)
              have HMT := hide (mv_no (c := vcN gT m F) hb)
              rw [hb] at HSI
              clear hb
              go_wp2_with (go_at_call 47; refine (HSI.out _).mono ?_; rintro e w' ⟨rfl, rfl⟩)
              go_roundw
              case rel => exact ⟨k + 1, W2, Q2, by omega, by go_num, by rw [HM.out], by rw [HMT.out], HWr, HQr, HTBr, HBr⟩
              case measure => (simp [intOf] <;> omega)
            · have HM := hide (mv_yes (c := vcN gW m F) hb)
              have HMT := hide (mv_yes (c := vcN gT m F) hb)
              have HK1 := hide (HC1.out k hlt hb)
              have HK2 := hide (HC2.out k hlt hb)
              have q1 := HAW.out k true
              have q2 := HAW.out k false
              have q3 := HAQ.out k true
              have q4 := HAQ.out k false
              have q5 := HVW.out k
              have q6 := HVT.out k
              have hp8 : p2 k < 128 := p2_lt128 k (by omega)
              have ho1 := i64_or I (p2 k) (Nat.lt_trans hI (by omega)) (Nat.lt_trans hp8 (by decide))
              have ho2 := i64_or J (p2 k) (Nat.lt_trans hO (by omega)) (Nat.lt_trans hp8 (by decide))
              rw [hb] at HSI
              clear hb
              generalize vmN gW m (ptF F k true) = x1 at *
              generalize vmN gW m (ptF F k false) = x2 at *
              generalize vmN gT m (ptF F k true) = z1 at *
              generalize vmN gT m (ptF F k false) = z2 at *
              have hmx : mxH (x1 : Int) (x2 : Int) ≤ 128 ∧ 0 ≤ mxH (x1 : Int) (x2 : Int) := by unfold mxH; constructor <;> split <;> omega
              have hw1 : IntKind.i64.wrap (1 + mxH (x1 : Int) (x2 : Int)) = vcN gW m F k := by rw [q5]; exact IntWalk.i64_in _ (by omega)
              have hw2 : IntKind.i64.wrap ((L.length : Int) + (z1 : Int)) = (L.length : Int) + (z1 : Int) := IntWalk.i64_in _ (by omega)
              have hw3 : IntKind.i64.wrap ((L.length : Int) + (z1 : Int) + (z2 : Int)) = vcN gT m F k := by rw [q6]; exact IntWalk.i64_in _ (by omega)
              have hq1 := wrap_p2 k (by omega)
              have hq2 : IntKind.i64.wrap (2 ^ k) = (p2 k : Int) := by rw [IntWalk.i64_left]; exact hq1
              have HMX := hide (fun w1 => l1MostH_c (x1 : Int) (x2 : Int) w1)
              have HLW := hide (fun w1 => by have h := l1LeastZ_c (mvTo (vcN gW m F) O k) (vcN gW m F k) w1; rw [← HM.out] at h; exact h)
              have HLQ := hide (fun w1 => by have h := l1LeastZ_c (mvTo (vcN gT m F) O k) (vcN gT m F k) w1; rw [← HMT.out] at h; exact h)
              clear q1 q2 q3 q4 q5 q6 HM HMT HOP
              generalize hI1 : I ||| p2 k = I1 at *
              generalize hJ1 : J ||| p2 k = J1 at *
              clear hI1 hJ1
              generalize p2 k = pk at *
              generalize vcN gW m F k = cw at *
              generalize vcN gT m F k = ct at *
              generalize mxH (x1 : Int) (x2 : Int) = mx at *
              generalize hX1 : mvTo (vcN gW m F) O (k + 1) = X1 at HLW
              generalize hY1 : mvTo (vcN gT m F) O (k + 1) = Y1 at HLQ
              generalize mvTo (vcN gW m F) O k = X at *
              generalize mvTo (vcN gT m F) O k = Y at *
              have HX1 := hide hX1
              have HY1 := hide hY1
              clear hX1 hY1
              go_wp2_with (first
                | (go_at_call 47; refine (HSI.out _).mono ?_; rintro e w' ⟨rfl, rfl⟩)
                | (go_at_call 65; refine (HK1.out _ W2 Q2 HTr.out HWr.out HQr.out HTBr.out HLr.out (by omega)).mono ?_; rintro e w3 ⟨W3, Q3, rfl, hw3a, hq3a, htb3, hb3⟩; have hz3 := hb3.size; have HW3 := hide hw3a; have HQ3 := hide hq3a; have HTB3 := hide htb3; have HB3 := hide (HBr.out.trans (hb3.mono hsz)); have HT3 := hide (HT.out.blz HB3.out HT.out.lt hg1 hg2); have HL3 := hide (HL.out.below (HB3.out.to hBs hB1 hB2) (Nat.le_refl _)); clear hw3a hq3a htb3 hb3 HK1)
                | (go_at_call 65; refine (HK2.out _ W3 Q3 HT3.out HW3.out HQ3.out HTB3.out HL3.out (by omega)).mono ?_; rintro e w4 ⟨W4, Q4, rfl, hw4a, hq4a, htb4, hb4⟩; have hz4 := hb4.size; have HW4 := hide hw4a; have HQ4 := hide hq4a; have HTB4 := hide htb4; have HB4 := hide (HB3.out.trans (hb4.mono (by omega))); clear hw4a hq4a htb4 hb4 HK2)
                | (go_at_call 66; refine (HMX.out _).mono ?_; rintro e w' ⟨rfl, rfl⟩)
                | (go_at_call 82; refine (HLW.out _).mono ?_; rintro e w' ⟨rfl, rfl⟩; clear HLW)
                | (refine wpList_len sliceT rfl (.tmp _) rfl _ rfl w1.heap.size L HO1.out ?_)
                | (go_at_call 82; refine (HLQ.out _).mono ?_; rintro e w' ⟨rfl, rfl⟩))
              go_roundw
              case rel => exact ⟨k + 1, W4, Q4, by omega, by go_num, by rw [HX1.out], by rw [HY1.out], HW4, HQ4, HTB4, HB4⟩
              case measure => (simp [intOf] <;> omega)
          · have hke : k = m := by omega
            have e1 : mvTo (vcN gW m F) O k = a1 := by rw [hke]; exact HEW.out
            have e2 : mvTo (vcN gT m F) O k = a2 := by rw [hke]; exact HET.out
            have hlt' : ¬ ((k : Int) < (m : Int)) := by omega
            rw [e1, e2]
            have hW2l : AT < W2.length := by rw [HTBr.out.1, HNN.out]; exact hat
            have hQ2l : AT < Q2.length := by rw [HTBr.out.2.1, HNN.out]; exact hat
            have hatI : (AT : Int) < (N : Int) := by omega
            have d2 := HTr.out.c2
            have f1 := HWr.out.cell AT hW2l
            have f2 := HWr.out.free AT
            have HT5 := hide (setT HTr.out b1 AT hg1 (.int .i64 (a1 + 1)))
            have HW5 := hide (HWr.out.set AT (a1 + 1))
            have HQ5 := hide (setB HQr.out b1 AT (by omega) (.int .i64 (a1 + 1)))
            have g0 := HT5.out.c0
            have g3 := HT5.out.c3
            have f3 := HQ5.out.cell AT hQ2l
            have f4 := HQ5.out.free AT
            have HSS := hide (HSET.out W2 Q2 HTBr.out)
            clear hke e1 e2
            go_wp2
            go_ret2
            have HFIN := hide (show blk 3 ((wr.setCell ⟨b1, AT, none⟩ (.int .i64 (a1 + 1))).setCell ⟨b2, AT, none⟩ (.int .i64 (a2 + 1))) b1 (W2.set AT (a1 + 1)) ∧ blk 3 ((wr.setCell ⟨b1, AT, none⟩ (.int .i64 (a1 + 1))).setCell ⟨b2, AT, none⟩ (.int .i64 (a2 + 1))) b2 (Q2.set AT (a2 + 1)) ∧ tbOk m (marksTo l l.length) (W2.set AT (a1 + 1)) (Q2.set AT (a2 + 1)) ∧ Blz b1 b2 w.heap.size w ((wr.setCell ⟨b1, AT, none⟩ (.int .i64 (a1 + 1))).setCell ⟨b2, AT, none⟩ (.int .i64 (a2 + 1))) from ⟨setB HW5.out b2 AT h12 _, HQ5.out.set AT (a2 + 1), HSS.out, (HBr.out.set b1 AT (.inl rfl) _).set b2 AT (.inr rfl) _⟩)
            first
              | exact ⟨rfl, W2.set AT (a1 + 1), HFIN.out.1, Q2.set AT (a2 + 1), HFIN.out.2.1, HFIN.out.2.2.1, HFIN.out.2.2.2⟩
              | exact ⟨W2.set AT (a1 + 1), Q2.set AT (a2 + 1), rfl, HFIN.out⟩
end Go.Proofs.YtppojaekngeelaaDoor
