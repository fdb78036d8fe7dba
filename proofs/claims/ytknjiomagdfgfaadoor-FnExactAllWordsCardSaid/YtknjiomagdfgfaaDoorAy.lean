/- Contracts: AllWords: the specification's way. -/
import Derived.Test.YtknjiomagdfgfaaDoorAw
import Derived.Test.YtknjiomagdfgfaaDoorAx
import Derived.Test.YtknjiomagdfgfaaDoorRh
namespace Go.Proofs.YtknjiomagdfgfaaDoor
open Go.RowKit
set_option maxRecDepth 100000
set_option linter.unusedSimpArgs false
theorem awR_small (n : Int) (l : List Int) : small2 (awR n l) := by
  cases h : okAw n l
  · rw [awR_no h]; exact small2_nil
  · rw [awR_yes h]
    simp only [okAw, Bool.and_eq_true, decide_eq_true_eq] at h
    have hn := okSp_n h.1
    have hsp := okSp_spc h.1
    refine small2_of _ 7 (fun r hr => by rw [aw_row _ _ r hr]; omega) ?_ ?_
    all_goals
      rw [aw_rank (by omega) hsp.lt n.toNat 0 hsp.zero (by rw [show pc 0 = 0 by decide]; omega), List.length_map, List.length_range]
      omega
theorem ent_l1OwnA : enters Tryd.prog 93 := enters_of Tryd.func93 (by kernel_rfl) (by kernel_rfl)
theorem ent_woAllA : enters Tryd.prog 61 := enters_of Tryd.func61 (by kernel_rfl) (by kernel_rfl)
theorem p2_geA (N x : Nat) (h : N ≤ x) : 2 ^ N ≤ p2 x := p2_le N x h
theorem p2s_ge (s x : Nat) : p2 x ≤ p2s s x := Nat.right_le_or
attribute [local irreducible] p2 low memB risB
theorem map_cons_app (word : List Int) (x : Int) (A : List (List Int)) : (A.map fun m => x :: m).map (word ++ ·) = A.map ((word ++ [x]) ++ ·) := by
  rw [List.map_map]
  refine List.map_congr_left fun r _ => ?_
  simp
set_option maxHeartbeats 4000000 in
theorem woAll_c (N : Nat) (v : Value) (l : List Int) (hlen : l.length < 1000000000) (hok : okSp (N : Int) l = true) : ∀ k (wv : Value) (word : List Int) (s : Nat) (w : World),
    ints w.heap.size w v l → ints w.heap.size w wv word → word.length + k = N → marksTo l l.length s = true → pc s + k = N →
    Calls Tryd.prog 61 #[.agg #[.int .i64 (N : Int), v], wv, .int .i64 (s : Int)] w fun e w' => ∃ v', e = .returned v' ∧ own2 22 3 w' w.heap.size v' ((awL (marksTo l l.length) N k s).map (word ++ ·)) ∧ Below w.heap.size w w' := by
  have hn := okSp_n hok
  have hN1 : 1 ≤ N := by omega
  have hN7 : N ≤ 7 := by omega
  have hsp := okSp_spc hok
  rw [Int.toNat_natCast] at hsp
  have hp2 := p2_le N 7 hN7
  intro k
  induction k with
  | zero =>
    intro wv word s w hl hw hwl hs hpc
    have HW := hide ((hw.alloc (.cells #[.int .i64 (N : Int), v] 28)).mono (show w.heap.size ≤ (w.alloc (.cells #[.int .i64 (N : Int), v] 28)).heap.size by simp))
    have HB0 := hide ((Below.refl w.heap.size w).alloc (Nat.le_refl _) (.cells #[.int .i64 (N : Int), v] 28))
    have HZ0 := hide (show (w.alloc (.cells #[.int .i64 (N : Int), v] 28)).heap.size = w.heap.size + 1 by simp)
    have c0 := cells_at0 (hp_last w (.cells #[.int .i64 (N : Int), v] 28))
    have hb : ((word.length : Int) == (N : Int)) = true := by simp; omega
    clear hl hw hs hpc
    go_enter Tryd.func61, Tryd.ntmps61
    go_wp2_with (first
      | (refine wpList_len sliceT rfl (.tmp _) rfl wv rfl _ word HW.out ?_)
      | (go_at_call 93; refine (l1Own_c wv word _ HW.out (by omega)).mono ?_; rintro e w1 ⟨v1, rfl, ho1, hb1⟩; obtain ⟨a1, c1, hv1⟩ := ho1.shape; subst hv1; have hz1 := hb1.size; rw [HZ0.out] at hz1; have HO1 := hide (ho1.mono (show w.heap.size ≤ _ by rw [HZ0.out]; omega)); have HB1 := hide (HB0.out.trans (hb1.mono (by rw [HZ0.out]; omega))); clear ho1 hb1))
    go_ret
    refine ⟨_, rfl, ?_, HB1.out.alloc (by omega) _⟩
    have h := own2_one (T := 22) HO1.out (show w.heap.size ≤ w1.heap.size by omega)
    simpa [awL] using h
  | succ k ih =>
    intro wv word s w hl hw hwl hs hpc
    have hs2 := hsp.lt s hs
    have hs128 : s < 128 := by omega
    have HIH := hide (fun wv word s w h1 h2 h3 h4 h5 => ih wv word s w h1 h2 h3 h4 h5)
    have HAW := hide (show awL (marksTo l l.length) N (k + 1) s = awTo (marksTo l l.length) (awL (marksTo l l.length) N k) s N from rfl)
    have HOUT := hide (show itemsOf (outerSp l s) N = outerOf (marksTo l l.length) N s from (outer_same _ l N s hN7 hs2 (fun y _ => okSp_marks hok y)).symm)
    have HOB := hide (fun i => outer_bit (marksTo l l.length) N s i)
    have hol := outer_lt (marksTo l l.length) N s hN7
    have HPC := hide (fun i (hi : i < 7) (hb : s.testBit i = false) => pc_orW s hs128 i hi hb)
    have HLE := hide (fun x => awTo_len (F := marksTo l l.length) (A := awL (marksTo l l.length) N k) (s := s) (c := 823543) (fun x hx hb => by
      rcases Nat.lt_or_ge x N with h | h
      · exact aw_len hN7 hsp.lt k (p2s s x) hx (by rw [show pc (p2s s x) = pc s + 1 from pc_orW s hs128 x (by omega) hb]; omega)
      · have h1 := hsp.lt _ hx
        have h2 := p2s_ge s x
        have h3 := p2_geA N x h
        omega) x)
    have HLA := hide (fun s h1 h2 => aw_len (F := marksTo l l.length) (n := N) hN7 hsp.lt k s h1 h2)
    have HSPO := hide (fun (w' : World) (h : ints w'.heap.size w' v l) => by
      have := spOuter_c (N : Int) v l (s : Int) w' h (okSp_inc hok) hlen (by omega) (by omega) (by omega) (by omega)
      rw [Int.toNat_natCast, Int.toNat_natCast, HOUT.out] at this
      exact this)
    have HL0 := hide (hl.alloc (.cells #[.int .i64 (N : Int), v] 28))
    have HW0 := hide (hw.alloc (.cells #[.int .i64 (N : Int), v] 28))
    have HB0 := hide ((Below.refl w.heap.size w).alloc (Nat.le_refl _) (.cells #[.int .i64 (N : Int), v] 28))
    have HS0 := hide (hp_last w (.cells #[.int .i64 (N : Int), v] 28))
    have HZ0 := hide (show (w.alloc (.cells #[.int .i64 (N : Int), v] 28)).heap.size = w.heap.size + 1 by simp)
    have c0 := cells_at0 HS0.out
    have c1 := cells_at1 HS0.out
    have hb : ((word.length : Int) == (N : Int)) = false := by simp; omega
    clear hl hw ih hol
    rw [HAW.out]
    have hyl := outer_lt (marksTo l l.length) N s hN7
    generalize outerOf (marksTo l l.length) N s = y at HSPO HOB hyl
    clear HOUT HAW
    generalize marksTo l l.length = F at hs hsp HIH HOB HPC HLE HLA ⊢
    go_enter Tryd.func61, Tryd.ntmps61
    go_wp2_with (first
      | (refine wpList_len sliceT rfl (.tmp _) rfl wv rfl _ word HW0.out ?_)
      | (go_at_call 94; refine (HSPO.out _ (HL0.out.mono (by rw [HZ0.out]; omega))).mono ?_; rintro e w1 ⟨rfl, hb1⟩; have hz1 := hb1.size; rw [HZ0.out] at hz1; have HB1 := hide (HB0.out.trans (hb1.mono (by rw [HZ0.out]; omega))); have HS1 := hide ((hb1.block w.heap.size (by rw [HZ0.out]; omega)).trans HS0.out); have HL1 := hide (HL0.out.below hb1 (by rw [HZ0.out]; omega)); have HW1 := hide (HW0.out.below hb1 (by rw [HZ0.out]; omega)); clear hb1))
    clear HL0 HW0 HB0 HS0 c0 c1 HSPO
    go_loopw [7, 9] (fun o i wr => ∃ x : Nat, x ≤ N ∧ i = .int .i64 (x : Int) ∧ Hid (own2 22 3 wr (w.heap.size + 1) o ((awTo F (awL F N k) s x).map (word ++ ·))) ∧ Hid (Below (w.heap.size + 1) w1 wr)) (fun _ i _ => N - (intOf i).toNat)
    case atStart => exact ⟨0, Nat.zero_le _, rfl, own2_nil _ _ _ _, Below.refl _ _⟩
    case round =>
      obtain ⟨x, hx, rfl, HO, HB⟩ := hrel
      have hsz := HB.out.size
      have HLR := hide (HL1.out.below HB.out (by omega))
      have HWR := hide (HW1.out.below HB.out (by omega))
      have HSR := hide ((HB.out.block w.heap.size (by omega)).trans HS1.out)
      have c0 := cells_at0 HSR.out
      have c1 := cells_at1 HSR.out
      have hwl7 : word.length ≤ 7 := by omega
      by_cases hxN : x < N
      · have HNX := hide (show awTo F (awL F N k) s (x + 1) = awTo F (awL F N k) s x ++ if (!s.testBit x && F (p2s s x)) = true then (awL F N k (p2s s x)).map (fun m => (x : Int) :: m) else [] from rfl)
        have hob := HOB.out x
        rw [decide_eq_true hxN, Bool.true_and] at hob
        have hlx := HLE.out x
        have hcx : x * 823543 ≤ 5764801 := by omega
        have HIN := hide (fun w' => by have := spIn_c (y : Int) (x : Int) w' (by omega) (by omega) (by omega) (by omega); rw [Int.toNat_natCast, Int.toNat_natCast] at this; exact this)
        rw [← hob] at HNX
        generalize hA : awTo F (awL F N k) s x = A at HO HNX hlx
        clear hA
        cases hyb : y.testBit x
        · rw [hyb] at HNX HIN
          clear hyb hob
          have HE := hide (show awTo F (awL F N k) s (x + 1) = A by rw [HNX.out]; simp)
          go_wp2_with (go_at_call 55; refine (HIN.out _).mono ?_; rintro e w2 ⟨rfl, rfl⟩)
          go_roundw
          case rel => exact ⟨x + 1, by omega, by go_num, by rw [HE.out]; exact HO, HB⟩
          case measure => (simp [intOf] <;> omega)
        · rw [hyb] at HNX HIN hob
          have hob2 := hob.symm
          rw [Bool.and_eq_true, Bool.not_eq_true'] at hob2
          have HE := hide (show awTo F (awL F N k) s (x + 1) = A ++ (awL F N k (p2s s x)).map (fun m => (x : Int) :: m) by rw [HNX.out]; simp)
          have HFX := hide hob2.2
          have hpx : pc (p2s s x) + k = N := by rw [show pc (p2s s x) = pc s + 1 from HPC.out x (by omega) hob2.1]; omega
          have HLM := hide (HLA.out _ hob2.2 hpx)
          have HIX := hide (fun wv word w h1 h2 h3 => HIH.out wv word (p2s s x) w h1 h2 h3 hob2.2 hpx)
          have hpi := wrap_p2 x (by omega)
          have hpi2 : IntKind.i64.wrap (2 ^ x) = (p2 x : Int) := by rw [IntWalk.i64_left]; exact hpi
          have hpl := p2_lt128 x (by omega)
          have hor := i64_or s (p2 x) (by omega) (by omega)
          rw [show s ||| p2 x = p2s s x from rfl] at hor
          generalize hM : awL F N k (p2s s x) = M at HE HLM HIX
          generalize p2s s x = q at hor HIX
          generalize hAm : A.map (word ++ ·) = A2 at HO
          have HAM := hide hAm
          have hA2 : A2.length ≤ 5764801 := by rw [← hAm, List.length_map]; omega
          obtain ⟨oa, oc, hso⟩ := HO.out.shape
          subst hso
          clear hyb hob hob2 hM hAm hcx hpx
          go_wp2_with (go_at_call 55; refine (HIN.out _).mono ?_; rintro e w2 ⟨rfl, rfl⟩)
          refine wp_region_held (S := fun w' => Below (w.heap.size + 1) wr w') (by kernel_rfl) ?_
          have hS : Below (w.heap.size + 1) wr wr.drew := (Below.refl _ _).drew
          refine wpAnyH_take (i := 0) (v := .slice oa A2.length oc) rfl (by kernel_rfl) (by kernel_rfl) (by kernel_rfl) (fun _ _ _ h => h) (.inl ⟨rfl, fun w' _ => by go_simp⟩) hS ?_
          refine wpAnyH_take (i := 1) rfl (by kernel_rfl) (by kernel_rfl) (by kernel_rfl) (fun _ _ _ h => h) (yields_load_two rowSp sizeSp rfl (.tmp _) rfl w.heap.size rfl (.int .i64 (N : Int)) v (fun w' h => (h.cell (p := ⟨w.heap.size, 0, none⟩) (by show w.heap.size < w.heap.size + 1; omega)).trans c0) (fun w' h => (h.cell (p := ⟨w.heap.size, 1, none⟩) (by show w.heap.size < w.heap.size + 1; omega)).trans c1)) hS ?_
          refine wpAnyH_take (i := 2) (v := wv) rfl (by kernel_rfl) (by kernel_rfl) (by kernel_rfl) (fun _ _ _ h => h) (.inl ⟨rfl, fun w' _ => by go_simp⟩) hS ?_
          refine wpAnyH_take (i := 4) (v := .int .i64 (x : Int)) rfl (by kernel_rfl) (by kernel_rfl) (by kernel_rfl) (fun _ _ _ h => h) (.inl ⟨rfl, fun w' _ => by go_simp⟩) hS ?_
          refine wpAnyH_take (i := 7) (v := .int .i64 (s : Int)) rfl (by kernel_rfl) (by kernel_rfl) (by kernel_rfl) (fun _ _ _ h => h) (.inl ⟨rfl, fun w' _ => by go_simp⟩) hS ?_
          refine wpAnyH_take (i := 8) (v := .int .i64 (x : Int)) rfl (by kernel_rfl) (by kernel_rfl) (by kernel_rfl) (fun _ _ _ h => h) (.inl ⟨rfl, fun w' _ => by go_simp⟩) hS ?_
          simp only [Act.put, List.getElem_toArray, List.getElem_cons_zero, List.getElem_cons_succ, List.setIfInBounds_toArray, List.set_cons_zero, List.set_cons_succ]
          refine wpAnyH_take (i := 9) (v := .int .i64 (p2 x : Int)) rfl (by kernel_rfl) (by kernel_rfl) (by kernel_rfl) (fun _ _ _ h => h) (.inl ⟨rfl, fun w' _ => by go_simp⟩) hS ?_
          simp only [Act.put, List.getElem_toArray, List.getElem_cons_zero, List.getElem_cons_succ, List.setIfInBounds_toArray, List.set_cons_zero, List.set_cons_succ]
          refine wpAnyH_take (i := 10) (v := .int .i64 (q : Int)) rfl (by kernel_rfl) (by kernel_rfl) (by kernel_rfl) (fun _ _ _ h => h) (.inl ⟨rfl, fun w' _ => by go_simp⟩) hS ?_
          simp only [Act.put, List.getElem_toArray, List.getElem_cons_zero, List.getElem_cons_succ, List.setIfInBounds_toArray, List.set_cons_zero, List.set_cons_succ]
          refine anyH_call_alloc (i := 3) (j := 5) (by kernel_rfl) (by kernel_rfl) (by kernel_rfl) rfl rfl (by decide) (fun u v => rfl) rfl (fun _ => rfl) rfl (fun _ => rfl) (.int .i64 (x : Int)) 3 (fun w' => by simp [go_sem]) (fun v w' => by simp [go_sem])
            93 ent_l1OwnA _ _ rfl #[wv] rfl (fun _ => rfl) 3 word (fun w' hb => l1Own_c wv word w' (((show ints w.heap.size wr.drew wv word from HWR.out).below hb (show w.heap.size ≤ wr.heap.size by omega)).mono (Nat.le_trans (show w.heap.size ≤ wr.drew.heap.size by show w.heap.size ≤ wr.heap.size; omega) hb.size)) (by omega)) (fun w' hb => hS.trans (hb.mono (show w.heap.size + 1 ≤ wr.heap.size by omega))) ?_
          intro v33 g w3 ho33 hcg hb3
          have hS3 := hS.trans (hb3.mono (show w.heap.size + 1 ≤ wr.heap.size by omega))
          have hz3 : wr.heap.size ≤ w3.heap.size := hb3.size
          simp only [Act.put, List.getElem_toArray, List.getElem_cons_zero, List.getElem_cons_succ, List.setIfInBounds_toArray, List.set_cons_zero, List.set_cons_succ]
          refine anyH_oneX (i := 6) (by kernel_rfl) rfl rfl ?_
          intro Q1 hQ1
          refine wpList_append1 sliceT intI rfl (.tmp 33) (.tmp 35) rfl wr.heap.size _ word rfl ho33 g (x : Int) rfl hcg (by omega) (by omega) ?_
          intro v36 w4 ho36 hb4
          have hz4 : w3.heap.size ≤ w4.heap.size := hb4.size
          have hS4 := hS3.trans (hb4.mono (show w.heap.size + 1 ≤ wr.heap.size by omega))
          refine wpList_nil ?_
          refine hQ1 _ _ hS4 ?_
          simp only [Act.put, List.getElem_toArray, List.getElem_cons_zero, List.getElem_cons_succ, List.setIfInBounds_toArray, List.set_cons_zero, List.set_cons_succ]
          have hb04 : Below wr.heap.size wr w4 := ((Below.refl _ _).drew.trans (show Below wr.heap.size wr.drew w3 from hb3)).trans hb4
          refine anyH_call (i := 11) (by kernel_rfl) rfl rfl 61 ent_woAllA _ _ rfl #[.agg #[.int .i64 (N : Int), v], v36, .int .i64 (q : Int)] rfl (HIX.out v36 (word ++ [(x : Int)]) w4 ((HLR.out.below hb04 (by omega)).mono (by omega)) ho36.ints (by simp; omega)) ?_
          rintro e w5 ⟨v41, rfl, ho41, hb5⟩
          have hz5 : w4.heap.size ≤ w5.heap.size := hb5.size
          have hS5 := hS4.trans (hb5.mono (show w.heap.size + 1 ≤ w4.heap.size by omega))
          refine ⟨_, rfl, hS5, ?_⟩
          simp only [Act.put, List.getElem_toArray, List.getElem_cons_zero, List.getElem_cons_succ, List.setIfInBounds_toArray, List.set_cons_zero, List.set_cons_succ]
          refine anyH_oneX (i := 12) (by kernel_rfl) rfl rfl ?_
          intro Q2 hQ2
          have hlm := HLM.out
          refine wpList_append2N sliceT2 rowI2 (by decide) rfl (.tmp 30) (.tmp 41) rfl (w.heap.size + 1) _ A2 rfl wr HO.out (hb04.trans (hb5.mono (by omega))) v41 _ rfl (ho41.mono (show wr.heap.size ≤ w4.heap.size by omega)) (by omega) (by rw [List.length_map]; omega) ?_
          intro v42 w6 ho42 hb6
          have hS6 := hS5.trans hb6
          refine wpList_nil ?_
          refine hQ2 _ _ hS6 ?_
          simp only [Act.put, List.getElem_toArray, List.getElem_cons_zero, List.getElem_cons_succ, List.setIfInBounds_toArray, List.set_cons_zero, List.set_cons_succ]
          refine anyH_op (i := 13) (by kernel_rfl) rfl rfl v42 w6 (by simp [go_sem]) hS6 ?_
          refine wpAnyH_done (by kernel_rfl) ?_ _
          simp only [Act.put, List.getElem_toArray, List.getElem_cons_zero, List.getElem_cons_succ, List.setIfInBounds_toArray, List.set_cons_zero, List.set_cons_succ]
          have HO6 := hide ho42
          have HB6 := hide (HB.out.trans hS6)
          clear hS hS3 hS4 hS5 hS6 hb3 hb4 hb5 hb6 ho33 ho36 ho41 ho42 hcg hb04 hQ1 hQ2
          go_wp2
          go_roundw
          case rel => exact ⟨x + 1, by omega, by go_num, hide (by rw [HE.out, List.map_append, HAM.out, map_cons_app]; exact HO6.out), HB6⟩
          case measure => (simp [intOf] <;> omega)
      · have hxe : x = N := by omega
        have hx2 : ¬ ((x : Int) < (N : Int)) := by omega
        subst hxe
        go_wp2
        go_ret
        exact ⟨_, rfl, HO.out.mono (by omega), HB1.out.trans (HB.out.mono (by omega))⟩
end Go.Proofs.YtknjiomagdfgfaaDoor
