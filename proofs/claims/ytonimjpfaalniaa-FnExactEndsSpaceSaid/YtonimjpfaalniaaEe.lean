/- Contracts: EndsSpace, the specification's. -/
import Derived.Test.YtonimjpfaalniaaEd
namespace Go.Proofs.Ytonimjpfaalniaa
open Go.RowKit
set_option maxRecDepth 100000
set_option linter.unusedSimpArgs false
theorem ent_l1AllE : enters Try.prog 80 := enters_of Try.func80 (by kernel_rfl) (by kernel_rfl)
theorem lsT_ints {w : World} {g m : Nat} {f : Nat → Nat} (h : blk 3 w g (lsT m f)) : ints w.heap.size w (.slice (some ⟨g, 0, none⟩) m m) (lsT m f) := by
  have := h.ints m
  rwa [lsT_len] at this
theorem spIn_n (s i : Nat) (w : World) (hs : s < 128) (hi : i < 7) : Calls Try.prog 81 #[.int .i64 (s : Int), .int .i64 (i : Int)] w fun e w' => e = .returned (.bool (s.testBit i)) ∧ w = w' := by
  have := spIn_c (s : Int) i w (by omega) (by omega) (by omega) (by omega)
  rw [Int.toNat_natCast, Int.toNat_natCast] at this
  exact this
theorem bareE {w : World} {b : Nat} {T : TypeId} {x y : Value} (h : w.heap[b]? = some (.cells #[x, y] T)) (u : Value) : (w.setCell ⟨b, 1, none⟩ u).heap[b]? = some (.cells #[x, u] T) := by
  rw [hp_set _ _ _ _ _ _ h]; rfl
theorem liF_less {L : List (List Int)} {k X : Nat} (h : ∀ i, liF L k i < 128) (hX : X < 7) (e : pa L k = X) (i : Nat) : liF L (k + 1) i < 128 := by
  rw [liF_succ, e]
  split
  · exact Nat.or_lt_two_pow (n := 7) (h i) (p2_lt128 X hX)
  · exact h i
theorem anyH_twoE {P : Program} {ops : Array Oper} {Q : Exit → Act → World → Prop} {md : Region.Mode} {S : World → Prop} {fuel : Nat} {listed : Array Bool} {a : Act} {w : World} {i l : Nat} {oi ol : Oper} (hr : Region.ready md ops listed = [i, l]) (hri : Region.ready md ops (listed.setIfInBounds i true) = [l]) (hrl : Region.ready md ops (listed.setIfInBounds l true) = [i])
    (hi : ops[i]? = some oi) (hl0 : ops[l]? = some ol) (v y : Value) (hl1 : (listed.setIfInBounds l true).setIfInBounds i true = (listed.setIfInBounds i true).setIfInBounds l true) (hc : (a.put ol.dst y).put oi.dst v = (a.put oi.dst v).put ol.dst y)
    (hwi : Region.wanted oi (yielded ops a.tmps) = true) (hwi2 : Region.wanted oi (yielded ops (a.put ol.dst y).tmps) = true) (hwl : Region.wanted ol (yielded ops a.tmps) = true) (hwl2 : Region.wanted ol (yielded ops (a.put oi.dst v).tmps) = true)
    (hrun : (execOp a.eval oi).run P w = .ok (.value v) w) (hrun2 : (execOp (a.put ol.dst y).eval oi).run P w = .ok (.value v) w) (hrunl : (execOp a.eval ol).run P w = .ok (.value y) w) (hrunl2 : (execOp (a.put oi.dst v).eval ol).run P w = .ok (.value y) w) (hS : S w)
    (h : wpAnyH P md ops Q S fuel ((listed.setIfInBounds i true).setIfInBounds l true) ((a.put oi.dst v).put ol.dst y) w) : wpAnyH P md ops Q S (fuel + 1 + 1) listed a w := by
  refine wpAnyH_all hr (by simp) fun x hx => ?_
  rcases (show x = i ∨ x = l by simpa using hx) with rfl | rfl
  · exact wpOp_op hi hwi v w hrun ⟨hS, anyH_op hri hl0 hwl2 y w hrunl2 hS h⟩
  · refine wpOp_op hl0 hwl y w hrunl ⟨hS, anyH_op hrl hi hwi2 v w hrun2 hS ?_⟩
    rw [hc, hl1]; exact h
attribute [local irreducible] p2 low memB risB lsT liF cloN cuF
set_option maxHeartbeats 4000000 in
theorem specEndsSpace_c (n : Int) (u : Value) (L : List (List Int)) (w : World) (hl : rows w.heap.size w u L) (hs : small2 L) :
    Calls Try.prog 51 #[.int .i64 n, u] w fun e w' => ∃ v', e = .returned (.tuple #[.agg #[.int .i64 (osN n L), v'], .bool (osB n L)]) ∧ own 3 w' w.heap.size v' (esL n L) ∧ Below w.heap.size w w' := by
  have HR0 := hide (hp_last w (.cells #[.int .i64 0, .slice none 0 0] 28))
  have H0 := hide ((Below.refl w.heap.size w).alloc (Nat.le_refl _) (.cells #[.int .i64 0, .slice none 0 0] 28))
  have HL0 := hide (hl.alloc (.cells #[.int .i64 0, .slice none 0 0] 28))
  have HZ0 := hide (show (w.alloc (.cells #[.int .i64 0, .slice none 0 0] 28)).heap.size = w.heap.size + 1 by simp)
  have HSM := hide hs
  have hll := hs.1
  obtain ⟨q0, q1, q2, q3⟩ := zero_slotsQ HR0.out
  clear hl hs
  by_cases hn : 1 ≤ n ∧ n ≤ 7
  · obtain ⟨m, rfl⟩ := Int.eq_ofNat_of_zero_le (show 0 ≤ n by omega)
    have HN := hide hn
    by_cases h40 : 40 < L.length
    · have HBX := hide (osNL_no (osB_no2 (n := (m : Int)) (L := L) (by unfold prA; rw [decide_eq_false (by omega)]; rfl)))
      have hgt : (40 : Int) < (L.length : Int) := by omega
      have z0 := q0
      have z1 := q1
      have HBZ := H0
      clear hn
      go_enter Try.func51, Try.ntmps51
      go_wp2_with (first
        | (go_at_call 79; refine (spItems_c _ _).mono ?_; rw [decide_eq_true HN.out]; rintro e w1 ⟨rfl, rfl⟩)
        | (refine wpList_len2 sliceT2 rfl (.tmp _) rfl u rfl w.heap.size L HL0.out ?_))
      refine bodyPost_ret (v := .tuple #[.agg #[.int .i64 0, .slice none 0 0], .bool false]) (by simp [results, Try.results51, go_sem, z0, z1]) rfl ⟨_, by rw [HBX.out.1, HBX.out.2.2], by rw [esL_no HBX.out.2.2]; exact own_nil _ _ _, ?_⟩
      first | exact HBZ.out | exact (HBZ.out.setCell (by show w.heap.size ≤ w.heap.size; omega) _).setCell (by show w.heap.size ≤ w.heap.size; omega) _
    · have hgt : ¬ ((40 : Int) < (L.length : Int)) := by omega
      have HPA := hide (show prA (m : Int) L = prTo (m : Int) L L.length by unfold prA; rw [decide_eq_true (by omega)]; rfl)
      have hm7 : m ≤ 7 := by omega
      have hm1 : 1 ≤ m := by omega
      have hsub : IntKind.i64.wrap ((m : Int) - 1) = (m : Int) - 1 := IntWalk.i64_in _ (by omega)
      clear hn
      go_enter Try.func51, Try.ntmps51
      go_wp2_with (first
        | (go_at_call 79; refine (spItems_c _ _).mono ?_; rw [decide_eq_true HN.out]; rintro e w1 ⟨rfl, rfl⟩)
        | (refine wpList_len2 sliceT2 rfl (.tmp _) rfl u rfl w.heap.size L HL0.out ?_)
        | (refine wpList_makeInts sliceT intI rfl (.tmp _) (.tmp _) rfl m rfl rfl (by omega) ?_; intro W1 hz1 hk1 hb1; rw [lsT_zero] at hk1; rw [HZ0.out] at hz1 hk1 hb1 ⊢; have HK1 := hide hk1; have HT1 := hide hb1; clear hk1 hb1)
        | (refine wpList_len2 sliceT2 rfl (.tmp _) rfl u rfl w.heap.size L (HL0.out.below HT1.out (by omega)) ?_))
      have HR1 := hide ((HT1.out.block w.heap.size (by omega)).trans HR0.out)
      have H1 := hide (H0.out.trans (HT1.out.mono (by omega)))
      have HL1 := hide (HL0.out.below HT1.out (by omega))
      clear HR0 H0 HL0 HZ0 HT1 q0 q1 q2 q3
      go_loopw [34] (fun i wr => ∃ k : Nat, k ≤ L.length ∧ i = .int .i64 (k : Int) ∧ Hid (prTo (m : Int) L k = true) ∧ Hid (∀ i, liF L k i < 128) ∧ Hid (blk 3 wr (w.heap.size + 1) (lsT m (liF L k))) ∧ Hid (Below (w.heap.size + 1) W1 wr)) (fun i _ => L.length - (intOf i).toNat)
      case atStart => exact ⟨0, Nat.zero_le _, rfl, rfl, hide (by intro i; unfold liF; omega), by unfold liF; exact HK1, Below.refl _ _⟩
      case round =>
        obtain ⟨k, hk, rfl, HJ, HLF, HK, HB⟩ := hrel
        have hsz := HB.out.size
        have HLW := hide (HL1.out.below HB.out (by omega))
        have hsz2 : w.heap.size + 1 ≤ wr.heap.size := by omega
        by_cases hlt : k < L.length
        · have HNX := hide (show prTo (m : Int) L (k + 1) = (prTo (m : Int) L k && pairB (m : Int) (L[k]?.getD [])) from rfl)
          have HFA := hide (fun h => osNL_no (osB_no2 (n := (m : Int)) (L := L) (by rw [HPA.out]; exact prTo_false (k := k) h L.length hlt)))
          generalize hr : L[k]?.getD [] = r at HNX HFA
          have HR := hide hr
          have hrl := HSM.out.row k hlt
          rw [hr] at hrl
          clear hr
          go_wp2_with (refine wpList_at2 sliceT2 rowS2 rfl (.tmp _) (.tmp _) rfl u rfl _ rfl k rfl w.heap.size L HLW.out hlt ?_; intro ad uu hcell hblk hu; rw [HR.out] at hu; have HU0 := hide hu; have HU := hide (hu.mono (show w.heap.size ≤ wr.heap.size by omega)); obtain ⟨sa, sc, hsu⟩ := hu.shape; have HSU := hide (show ∃ b c, uu = .slice b r.length c from ⟨sa, sc, hsu⟩); clear hu hsu)
          refine wp_region_old (by kernel_rfl) (by kernel_rfl) ?_
          go_big_quiet_step ((first | exact fun _ => rfl | exact fun _ => ⟨rfl, rfl⟩))
          refine q_len sliceT rfl (.tmp _) rfl uu rfl r.length HSU.out ?_
          simp only [Act.put, List.setIfInBounds_toArray, List.set_cons_zero, List.set_cons_succ]
          by_cases h2 : r.length = 2
          · have hb2 : ((r.length : Int) != 2) = false := by rw [h2]; rfl
            generalize hx : r[0]?.getD 0 = x
            generalize hy : r[1]?.getD 0 = y
            have HX := hide hx
            have HY := hide hy
            have HPB := hide (show pairB (m : Int) r = (allTo 0 ((m : Int) - 1) r r.length && !(x == y)) by rw [pair_spec h2]; unfold r0 r1; rw [hx, hy])
            clear hx hy
            go_big_quiet_step ((first | exact fun _ => rfl | exact fun _ => ⟨rfl, rfl⟩))
            go_big_quiet_step ((first | exact fun _ => rfl | exact fun _ => ⟨rfl, rfl⟩))
            go_big_quiet_step ((first | exact fun _ => rfl | exact fun _ => ⟨rfl, rfl⟩))
            go_big_quiet_step ((first | exact fun _ => rfl | exact fun _ => ⟨rfl, rfl⟩))
            go_big_quiet_step ((first | exact fun _ => rfl | exact fun _ => ⟨rfl, rfl⟩))
            generalize hq : allTo 0 ((m : Int) - 1) r r.length = q at HPB
            have HQ := hide hq
            clear hq
            refine q_pure rfl 80 ent_l1AllE _ _ rfl #[uu, .int .i64 0, .int .i64 ((m : Int) - 1)] rfl (.bool q) (fun w' hb => by have := l1All_c uu r 0 ((m : Int) - 1) w' ((HU.out.below hb (Nat.le_refl _)).mono hb.size) (by omega); rw [HQ.out] at this; exact this) ?_
            simp only [Act.put, List.setIfInBounds_toArray, List.set_cons_zero, List.set_cons_succ]
            cases q
            · skip
              repeat (first | go_big_quiet_skip | go_big_quiet_step ((first | exact fun _ => rfl | exact fun _ => ⟨rfl, rfl⟩)))
              refine wpQuiet_nil ?_
              intro w2 hb2
              have HW2 := hide (HB.out.trans (hb2.mono hsz2))
              have HT2 := hide hb2
              clear hb2
              have HBX := hide (HFA.out (by rw [HPB.out]; rfl))
              have hr2 := (HW2.out.block w.heap.size (by omega)).trans HR1.out
              obtain ⟨z0, z1, z2, z3⟩ := zero_slotsQ hr2
              have HBZ := hide (H1.out.trans (HW2.out.mono (by omega)))
              clear hr2
              go_wp2
              refine bodyPost_ret (v := .tuple #[.agg #[.int .i64 0, .slice none 0 0], .bool false]) (by simp [results, Try.results51, go_sem, z0, z1]) rfl ⟨_, by rw [HBX.out.1, HBX.out.2.2], by rw [esL_no HBX.out.2.2]; exact own_nil _ _ _, ?_⟩
              first | exact HBZ.out | exact (HBZ.out.setCell (by show w.heap.size ≤ w.heap.size; omega) _).setCell (by show w.heap.size ≤ w.heap.size; omega) _
            · skip
              go_big_quiet_step ((first | exact fun _ => rfl | exact fun _ => ⟨rfl, rfl⟩))
              go_big_quiet_step ((first | exact fun _ => rfl | exact fun _ => ⟨rfl, rfl⟩))
              go_big_quiet_step ((first | exact fun _ => rfl | exact fun _ => ⟨rfl, rfl⟩))
              go_big_quiet_step ((first | exact fun _ => rfl | exact fun _ => ⟨rfl, rfl⟩))
              refine q_at sliceT intS rfl _ _ rfl uu rfl _ rfl 0 rfl wr.heap.size r wr HU.out (by omega) ?_
              intro ad0 hcell0 hblk0
              rw [HX.out] at hcell0
              simp only [Act.put, List.setIfInBounds_toArray, List.set_cons_zero, List.set_cons_succ]
              refine q_load_cell rowI rfl (.tmp _) rfl ad0 rfl (.int .i64 x) (fun w' h => (h.cell (by omega)).trans hcell0) ?_
              simp only [Act.put, List.setIfInBounds_toArray, List.set_cons_zero, List.set_cons_succ]
              go_big_quiet_step ((first | exact fun _ => rfl | exact fun _ => ⟨rfl, rfl⟩))
              refine q_at sliceT intS rfl _ _ rfl uu rfl _ rfl 1 rfl wr.heap.size r wr HU.out (by omega) ?_
              intro ad1 hcell1 hblk1
              rw [HY.out] at hcell1
              simp only [Act.put, List.setIfInBounds_toArray, List.set_cons_zero, List.set_cons_succ]
              refine q_load_cell rowI rfl (.tmp _) rfl ad1 rfl (.int .i64 y) (fun w' h => (h.cell (by omega)).trans hcell1) ?_
              simp only [Act.put, List.setIfInBounds_toArray, List.set_cons_zero, List.set_cons_succ]
              cases hxy : (x == y)
              · rw [hxy] at HPB
                repeat (first | go_big_quiet_skip | go_big_quiet_step ((first | exact fun _ => rfl | exact fun _ => ⟨rfl, rfl⟩)))
                refine wpQuiet_nil ?_
                intro w2 hb2
                have HW2 := hide (HB.out.trans (hb2.mono hsz2))
                have HT2 := hide hb2
                clear hb2
                obtain ⟨_, g1, g2, g3, g4, g5⟩ := pairB_in (show pairB (m : Int) r = true by rw [HPB.out]; rfl)
                rw [show r0 r = x from HX.out] at g1 g2 g5
                rw [show r1 r = y from HY.out] at g3 g4 g5
                obtain ⟨X, rfl⟩ := Int.eq_ofNat_of_zero_le g1
                obtain ⟨Y, rfl⟩ := Int.eq_ofNat_of_zero_le g3
                have hX : X < m := by omega
                have hY : Y < m := by omega
                have HPX := hide (show pa L k = X by show (r0 (L[k]?.getD [])).toNat = _; rw [HR.out, show r0 r = (X : Int) from HX.out, Int.toNat_natCast])
                have HPY := hide (show pb L k = Y by show (r1 (L[k]?.getD [])).toNat = _; rw [HR.out, show r1 r = (Y : Int) from HY.out, Int.toNat_natCast])
                obtain ⟨bb, of, cc, hv, hbb, hcs⟩ : ∃ b of c, uu = .slice (some ⟨b, of, none⟩) 2 c ∧ b < w.heap.size ∧ (wr.cell? ⟨b, of + 0, none⟩ = some (.int .i64 (X : Int)) ∧ wr.cell? ⟨b, of + 1, none⟩ = some (.int .i64 (Y : Int))) := by
                  rcases HU0.out with ⟨h0, _⟩ | ⟨b, o, c, h3, h4, h5, h6⟩
                  · rw [h0] at h2; cases h2
                  · refine ⟨b, o, c, by rw [h3, h2], h4, ?_, ?_⟩
                    · rw [h6 0 (by omega), HX.out]
                    · rw [h6 1 (by omega), HY.out]
                have hpx := wrap_p2 X (by omega)
                have hpx2 : IntKind.i64.wrap (2 ^ X) = (p2 X : Int) := by rw [IntWalk.i64_left]; exact hpx
                have hk2 : blk 3 w2.drew (w.heap.size + 1) (lsT m (liF L k)) := show blk 3 w2 (w.heap.size + 1) (lsT m (liF L k)) from HK.out.below HT2.out (show w.heap.size + 1 < wr.heap.size by omega)
                have hlf := HLF.out Y
                have hlx : p2 X < 128 := p2_lt128 X (by omega)
                have hst : (lsT m (liF L k)).set Y ((liF L k Y ||| p2 X : Nat) : Int) = lsT m (liF L (k + 1)) := lsT_set _ _ _ _ fun i _ => by rw [liF_succ, HPX.out, HPY.out]; split <;> simp_all
                have hg5 : w2.drew.cell? ⟨w.heap.size + 1, Y, none⟩ = some (.int .i64 (liF L k Y : Int)) := by rw [hk2.cell Y (by rw [lsT_len]; exact hY), lsT_at _ hY]
                have HL2 := hide (fun i => liF_less (X := X) HLF.out (by omega) HPX.out i)
                generalize liF L k Y = fy at hlf hst hg5
                have hor := i64_or fy (p2 X) (Nat.lt_trans hlf (by decide)) (Nat.lt_trans hlx (by decide))
                have hfr := hk2.free Y
                subst hv
                clear hcell
                go_wp2
                refine wp_region_held (S := Below (w.heap.size + 1) wr) (by kernel_rfl) ?_
                have hS0 : Below (w.heap.size + 1) wr w2.drew := (HT2.out.mono hsz2).drew
                change wpAnyH _ _ _ _ _ _ _ _ w2.drew
                generalize w2.drew = C0 at hS0 hk2 hg5 hfr ⊢
                refine wpAnyH_take (i := 0) (v := .slice (some ⟨w.heap.size + 1, 0, none⟩) m m) rfl (by kernel_rfl) (by kernel_rfl) (by kernel_rfl) (fun _ _ _ h => h) (.inl ⟨rfl, fun w' _ => by go_simp⟩) hS0 ?_
                simp only [Act.put, List.getElem_toArray, List.getElem_cons_zero, List.getElem_cons_succ, List.setIfInBounds_toArray, List.set_cons_zero, List.set_cons_succ]
                refine wpAnyH_take (i := 1) (v := .slice (some ⟨bb, of, none⟩) 2 cc) rfl (by kernel_rfl) (by kernel_rfl) (by kernel_rfl) (fun _ _ _ h => h) (.inl ⟨rfl, fun w' _ => by go_simp⟩) hS0 ?_
                simp only [Act.put, List.getElem_toArray, List.getElem_cons_zero, List.getElem_cons_succ, List.setIfInBounds_toArray, List.set_cons_zero, List.set_cons_succ]
                refine wpAnyH_take (i := 2) rfl (by kernel_rfl) (by kernel_rfl) (by kernel_rfl) (fun _ _ _ h => h) (yields_atE sliceT intS rfl (.tmp _) _ rfl bb of 2 cc 1 rfl rfl (by omega)) hS0 ?_
                simp only [Act.put, List.getElem_toArray, List.getElem_cons_zero, List.getElem_cons_succ, List.setIfInBounds_toArray, List.set_cons_zero, List.set_cons_succ]
                refine wpAnyH_take (i := 3) rfl (by kernel_rfl) (by kernel_rfl) (by kernel_rfl) (fun _ _ _ h => h) (yields_load_cell rowI rfl (.tmp _) rfl ⟨bb, of + 1, none⟩ rfl (.int .i64 (Y : Int)) (fun w' h => (h.cell (p := ⟨bb, of + 1, none⟩) (by show bb < w.heap.size + 1; omega)).trans hcs.2)) hS0 ?_
                simp only [Act.put, List.getElem_toArray, List.getElem_cons_zero, List.getElem_cons_succ, List.setIfInBounds_toArray, List.set_cons_zero, List.set_cons_succ]
                refine wpAnyH_take (i := 4) rfl (by kernel_rfl) (by kernel_rfl) (by kernel_rfl) (fun _ _ _ h => h) (yields_atE sliceT intS rfl (.tmp _) (.tmp _) rfl (w.heap.size + 1) 0 m m Y rfl rfl hY) hS0 ?_
                simp only [Act.put, List.getElem_toArray, List.getElem_cons_zero, List.getElem_cons_succ, List.setIfInBounds_toArray, List.set_cons_zero, List.set_cons_succ]
                refine wpAnyH_take (i := 6) (v := .slice (some ⟨bb, of, none⟩) 2 cc) rfl (by kernel_rfl) (by kernel_rfl) (by kernel_rfl) (fun _ _ _ h => h) (.inl ⟨rfl, fun w' _ => by go_simp⟩) hS0 ?_
                simp only [Act.put, List.getElem_toArray, List.getElem_cons_zero, List.getElem_cons_succ, List.setIfInBounds_toArray, List.set_cons_zero, List.set_cons_succ]
                refine wpAnyH_take (i := 7) rfl (by kernel_rfl) (by kernel_rfl) (by kernel_rfl) (fun _ _ _ h => h) (yields_atE sliceT intS rfl (.tmp _) _ rfl bb of 2 cc 0 rfl rfl (by omega)) hS0 ?_
                simp only [Act.put, List.getElem_toArray, List.getElem_cons_zero, List.getElem_cons_succ, List.setIfInBounds_toArray, List.set_cons_zero, List.set_cons_succ]
                refine wpAnyH_take (i := 8) rfl (by kernel_rfl) (by kernel_rfl) (by kernel_rfl) (fun _ _ _ h => h) (yields_load_cell rowI rfl (.tmp _) rfl ⟨bb, of + 0, none⟩ rfl (.int .i64 (X : Int)) (fun w' h => (h.cell (p := ⟨bb, of + 0, none⟩) (by show bb < w.heap.size + 1; omega)).trans hcs.1)) hS0 ?_
                simp only [Act.put, List.getElem_toArray, List.getElem_cons_zero, List.getElem_cons_succ, List.setIfInBounds_toArray, List.set_cons_zero, List.set_cons_succ]
                refine wpAnyH_take (i := 9) (v := .int .i64 (p2 X : Int)) rfl (by kernel_rfl) (by kernel_rfl) (by kernel_rfl) (fun _ _ _ h => h) (.inl ⟨rfl, fun w' _ => by go_simp⟩) hS0 ?_
                simp only [Act.put, List.getElem_toArray, List.getElem_cons_zero, List.getElem_cons_succ, List.setIfInBounds_toArray, List.set_cons_zero, List.set_cons_succ]
                refine anyH_op (i := 5) (by kernel_rfl) rfl rfl (.int .i64 (fy : Int)) C0 (by simp [go_sem, Act.put, hg5]) hS0 ?_
                simp only [Act.put, List.getElem_toArray, List.getElem_cons_zero, List.getElem_cons_succ, List.setIfInBounds_toArray, List.set_cons_zero, List.set_cons_succ]
                refine anyH_op (i := 10) (by kernel_rfl) rfl rfl (.int .i64 ((fy ||| p2 X : Nat) : Int)) C0 (by simp [go_sem, Act.put, hor]) hS0 ?_
                simp only [Act.put, List.getElem_toArray, List.getElem_cons_zero, List.getElem_cons_succ, List.setIfInBounds_toArray, List.set_cons_zero, List.set_cons_succ]
                refine wpAnyH_take (i := 11) rfl (by kernel_rfl) (by kernel_rfl) (by kernel_rfl) (fun _ _ _ h => h) (yields_atE sliceT intS rfl (.tmp _) (.tmp _) rfl (w.heap.size + 1) 0 m m Y rfl rfl hY) hS0 ?_
                simp only [Act.put, List.getElem_toArray, List.getElem_cons_zero, List.getElem_cons_succ, List.setIfInBounds_toArray, List.set_cons_zero, List.set_cons_succ]
                have hS1 : Below (w.heap.size + 1) wr (C0.setCell ⟨w.heap.size + 1, Y, none⟩ (.int .i64 ((fy ||| p2 X : Nat) : Int))) := hS0.setCell (by show w.heap.size + 1 ≤ w.heap.size + 1; omega) _
                refine anyH_skip (i := 12) (by kernel_rfl) rfl rfl (C0.setCell ⟨w.heap.size + 1, Y, none⟩ (.int .i64 ((fy ||| p2 X : Nat) : Int))) (by simp [go_sem, Act.put, hg5, hfr]) hS1 ?_
                refine wpAnyH_done (by kernel_rfl) ?_ _
                simp only [Act.put, List.getElem_toArray, List.getElem_cons_zero, List.getElem_cons_succ, List.setIfInBounds_toArray, List.set_cons_zero, List.set_cons_succ]
                have hk3 := hk2.set Y ((fy ||| p2 X : Nat) : Int)
                rw [hst] at hk3
                have HK3 := hide hk3
                have HB3 := hide (HB.out.trans hS1)
                clear hS0 hS1 hk2 hk3 hg5 hfr hcs hst hor
                go_wp2
                go_roundw
                case rel => exact ⟨k + 1, by omega, by go_num, hide (by rw [HNX.out, HJ.out, HPB.out]; rfl), HL2, HK3, HB3⟩
                case measure => (simp [intOf] <;> omega)
              · rw [hxy] at HPB
                repeat (first | go_big_quiet_skip | go_big_quiet_step ((first | exact fun _ => rfl | exact fun _ => ⟨rfl, rfl⟩)))
                refine wpQuiet_nil ?_
                intro w2 hb2
                have HW2 := hide (HB.out.trans (hb2.mono hsz2))
                have HT2 := hide hb2
                clear hb2
                have HBX := hide (HFA.out (by rw [HPB.out]; rfl))
                have hr2 := (HW2.out.block w.heap.size (by omega)).trans HR1.out
                obtain ⟨z0, z1, z2, z3⟩ := zero_slotsQ hr2
                have HBZ := hide (H1.out.trans (HW2.out.mono (by omega)))
                clear hr2
                go_wp2
                refine bodyPost_ret (v := .tuple #[.agg #[.int .i64 0, .slice none 0 0], .bool false]) (by simp [results, Try.results51, go_sem, z0, z1]) rfl ⟨_, by rw [HBX.out.1, HBX.out.2.2], by rw [esL_no HBX.out.2.2]; exact own_nil _ _ _, ?_⟩
                first | exact HBZ.out | exact (HBZ.out.setCell (by show w.heap.size ≤ w.heap.size; omega) _).setCell (by show w.heap.size ≤ w.heap.size; omega) _
          · have hb2 : ((r.length : Int) != 2) = true := by simp; omega
            have HPB := hide (show pairB (m : Int) r = false by simp [pairB, h2])
            repeat (first | go_big_quiet_skip | go_big_quiet_step ((first | exact fun _ => rfl | exact fun _ => ⟨rfl, rfl⟩)))
            refine wpQuiet_nil ?_
            intro w2 hb2
            have HW2 := hide (HB.out.trans (hb2.mono hsz2))
            have HT2 := hide hb2
            clear hb2
            have HBX := hide (HFA.out HPB.out)
            have hr2 := (HW2.out.block w.heap.size (by omega)).trans HR1.out
            obtain ⟨z0, z1, z2, z3⟩ := zero_slotsQ hr2
            have HBZ := hide (H1.out.trans (HW2.out.mono (by omega)))
            clear hr2
            go_wp2
            refine bodyPost_ret (v := .tuple #[.agg #[.int .i64 0, .slice none 0 0], .bool false]) (by simp [results, Try.results51, go_sem, z0, z1]) rfl ⟨_, by rw [HBX.out.1, HBX.out.2.2], by rw [esL_no HBX.out.2.2]; exact own_nil _ _ _, ?_⟩
            first | exact HBZ.out | exact (HBZ.out.setCell (by show w.heap.size ≤ w.heap.size; omega) _).setCell (by show w.heap.size ≤ w.heap.size; omega) _
        · have HK0 := hide (show k = L.length by omega)
          have HA := hide (show prA (m : Int) L = true by rw [HPA.out, ← HK0.out]; exact HJ.out)
          have hlt' : ¬ ((k : Int) < (L.length : Int)) := by omega
          have HK1 := hide (show blk 3 wr (w.heap.size + 1) (lsT m (cloN L 0)) by rw [show cloN L 0 = liF L L.length by unfold cloN; rfl, ← HK0.out]; exact HK.out)
          have HCT := hide (fun k => cloN_to HA.out k)
          have h128 := p2_le m 7 hm7
          clear HK HLF HJ HLW
          go_wp2_with fail
          go_loopw [9] (fun c wq => ∃ k : Nat, k ≤ m ∧ c = .int .i64 (k : Int) ∧ Hid (blk 3 wq (w.heap.size + 1) (lsT m (cloN L k))) ∧ Hid (Below (w.heap.size + 1) W1 wq)) (fun c _ => m - (intOf c).toNat)
          case atStart => exact ⟨0, Nat.zero_le _, rfl, HK1, HB⟩
          case round =>
            obtain ⟨q, hq, rfl, HQ, HBQ⟩ := hrel
            clear HK1 HB
            have hszq := HBQ.out.size
            by_cases hlq : q < m
            · have hlqi : (q : Int) < (m : Int) := by omega
              have HF := hide (fun i => Nat.lt_of_lt_of_le ((HCT.out q).lt i) h128)
              have HNX := hide (show cloN L (q + 1) = cloStep (cloN L q) q by rw [cloN])
              generalize cloN L q = f at HQ HF HNX
              have HQ0 := hide (show blk 3 wr (w.heap.size + 1) (lsT m (cuF f q 0)) by rw [cuF_zero]; exact HQ.out)
              clear HQ
              go_wp2_with fail
              go_loopw [78] (fun c wa => ∃ a : Nat, a ≤ m ∧ c = .int .i64 (a : Int) ∧ Hid (blk 3 wa (w.heap.size + 1) (lsT m (cuF f q a))) ∧ Hid (Below (w.heap.size + 1) W1 wa)) (fun c _ => m - (intOf c).toNat)
              case atStart => exact ⟨0, Nat.zero_le _, rfl, HQ0, HBQ⟩
              case round =>
                obtain ⟨a, ha, rfl, HA1, HBA⟩ := hrel
                clear HQ0 HBQ
                have hsza := HBA.out.size
                by_cases hla : a < m
                · have hlai : (a : Int) < (m : Int) := by omega
                  have HI := hide (lsT_ints HA1.out)
                  have HC0 := hide (cuF_cur f q a)
                  have HC1 := hide (cuF_self f q a)
                  have hfa := HF.out a
                  have HCA := hide (fun w' => by have := spIn_c (f a : Int) q w' (by omega) (by omega) (by omega) (by omega); rw [Int.toNat_natCast, Int.toNat_natCast] at this; exact this)
                  cases hb : (f a).testBit q
                  · have HST := hide (cuF_no hb)
                    rw [hb] at HCA
                    clear hb
                    go_wp2_with (first
                      | (refine wpList_at sliceT intS rfl (.tmp 81) (.tmp _) rfl (.slice (some ⟨w.heap.size + 1, 0, none⟩) m m) rfl a rfl wr.heap.size (lsT m (cuF f q a)) HI.out (by rw [lsT_len]; exact hla) ?_; intro ad hcell hblk; rw [lsT_at _ hla, HC0.out] at hcell)
                      | (go_at_call 81; refine (HCA.out _).mono ?_; rintro e w3 ⟨rfl, rfl⟩))
                    go_roundw
                    case rel => exact ⟨a + 1, by omega, by go_num, by rw [HST.out]; exact HA1, HBA⟩
                    case measure => (simp [intOf] <;> omega)
                  · have HST := hide (fun i => cuF_yes hb i)
                    rw [hb] at HCA
                    clear hb
                    go_wp2_with (first
                      | (refine wpList_at sliceT intS rfl (.tmp 81) (.tmp _) rfl (.slice (some ⟨w.heap.size + 1, 0, none⟩) m m) rfl a rfl wr.heap.size (lsT m (cuF f q a)) HI.out (by rw [lsT_len]; exact hla) ?_; intro ad hcell hblk; rw [lsT_at _ hla, HC0.out] at hcell)
                      | (go_at_call 81; refine (HCA.out _).mono ?_; rintro e w3 ⟨rfl, rfl⟩))
                    have hk2 : blk 3 wr.drew (w.heap.size + 1) (lsT m (cuF f q a)) := HA1.out
                    have hst : (lsT m (cuF f q a)).set a ((f a ||| f q : Nat) : Int) = lsT m (cuF f q (a + 1)) := lsT_set _ _ _ _ fun i _ => HST.out i
                    have hg1 : wr.drew.cell? ⟨w.heap.size + 1, a, none⟩ = some (.int .i64 (f a : Int)) := by rw [hk2.cell a (by rw [lsT_len]; exact hla), lsT_at _ hla, HC0.out]
                    have hg2 : wr.drew.cell? ⟨w.heap.size + 1, q, none⟩ = some (.int .i64 (f q : Int)) := by rw [hk2.cell q (by rw [lsT_len]; exact hlq), lsT_at _ hlq, HC1.out]
                    have hfq := HF.out q
                    generalize f a = fa at hfa hst hg1
                    generalize f q = fq at hfq hst hg2
                    have hor := i64_or fa fq (Nat.lt_trans hfa (by decide)) (Nat.lt_trans hfq (by decide))
                    have hfr := hk2.free a
                    have hB0 : Below (w.heap.size + 1) W1 wr.drew := HBA.out.drew
                    clear hcell
                    refine wp_region_held (S := fun _ => True) (by kernel_rfl) ?_
                    change wpAnyH _ _ _ _ _ _ _ _ wr.drew
                    generalize wr.drew = C0 at hk2 hg1 hg2 hfr hB0 ⊢
                    refine wpAnyH_take (i := 0) (v := .slice (some ⟨w.heap.size + 1, 0, none⟩) m m) rfl (by kernel_rfl) (by kernel_rfl) (by kernel_rfl) (fun _ _ _ h => h) (.inl ⟨rfl, fun w' _ => by go_simp⟩) trivial ?_
                    refine wpAnyH_take (i := 1) (v := .int .i64 (a : Int)) rfl (by kernel_rfl) (by kernel_rfl) (by kernel_rfl) (fun _ _ _ h => h) (.inl ⟨rfl, fun w' _ => by go_simp⟩) trivial ?_
                    refine wpAnyH_take (i := 4) (v := .slice (some ⟨w.heap.size + 1, 0, none⟩) m m) rfl (by kernel_rfl) (by kernel_rfl) (by kernel_rfl) (fun _ _ _ h => h) (.inl ⟨rfl, fun w' _ => by go_simp⟩) trivial ?_
                    refine wpAnyH_take (i := 5) (v := .int .i64 (q : Int)) rfl (by kernel_rfl) (by kernel_rfl) (by kernel_rfl) (fun _ _ _ h => h) (.inl ⟨rfl, fun w' _ => by go_simp⟩) trivial ?_
                    simp only [Act.put, List.getElem_toArray, List.getElem_cons_zero, List.getElem_cons_succ, List.setIfInBounds_toArray, List.set_cons_zero, List.set_cons_succ]
                    refine wpAnyH_take (i := 2) rfl (by kernel_rfl) (by kernel_rfl) (by kernel_rfl) (fun _ _ _ h => h) (yields_atE sliceT intS rfl (.tmp _) (.tmp _) rfl (w.heap.size + 1) 0 m m a rfl rfl hla) trivial ?_
                    refine wpAnyH_take (i := 6) rfl (by kernel_rfl) (by kernel_rfl) (by kernel_rfl) (fun _ _ _ h => h) (yields_atE sliceT intS rfl (.tmp _) (.tmp _) rfl (w.heap.size + 1) 0 m m q rfl rfl hlq) trivial ?_
                    simp only [Act.put, List.getElem_toArray, List.getElem_cons_zero, List.getElem_cons_succ, List.setIfInBounds_toArray, List.set_cons_zero, List.set_cons_succ]
                    refine anyH_twoE (i := 3) (l := 7) (by kernel_rfl) (by kernel_rfl) (by kernel_rfl) rfl rfl (.int .i64 (fa : Int)) (.int .i64 (fq : Int)) rfl rfl rfl rfl rfl rfl ?hq1 ?hq2 ?hq3 ?hq4 trivial ?_
                    case hq1 => simp [go_sem, hg1]
                    case hq2 => simp [go_sem, Act.put, hg1]
                    case hq3 => simp [go_sem, hg2]
                    case hq4 => simp [go_sem, Act.put, hg2]
                    simp only [Act.put, List.getElem_toArray, List.getElem_cons_zero, List.getElem_cons_succ, List.setIfInBounds_toArray, List.set_cons_zero, List.set_cons_succ]
                    refine anyH_op (i := 8) (by kernel_rfl) rfl rfl (.int .i64 ((fa ||| fq : Nat) : Int)) C0 (by simp [go_sem, Act.put, hor]) trivial ?_
                    simp only [Act.put, List.getElem_toArray, List.getElem_cons_zero, List.getElem_cons_succ, List.setIfInBounds_toArray, List.set_cons_zero, List.set_cons_succ]
                    refine wpAnyH_take (i := 9) rfl (by kernel_rfl) (by kernel_rfl) (by kernel_rfl) (fun _ _ _ h => h) (yields_atE sliceT intS rfl (.tmp _) (.tmp _) rfl (w.heap.size + 1) 0 m m a rfl rfl hla) trivial ?_
                    refine anyH_skip (i := 10) (by kernel_rfl) rfl rfl (C0.setCell ⟨w.heap.size + 1, a, none⟩ (.int .i64 ((fa ||| fq : Nat) : Int))) (by simp [go_sem, Act.put, hg1, hfr]) trivial ?_
                    refine wpAnyH_done (by kernel_rfl) ?_ _
                    simp only [Act.put, List.getElem_toArray, List.getElem_cons_zero, List.getElem_cons_succ, List.setIfInBounds_toArray, List.set_cons_zero, List.set_cons_succ]
                    have hk3 := hk2.set a ((fa ||| fq : Nat) : Int)
                    rw [hst] at hk3
                    have HK3 := hide hk3
                    have HB3 := hide (hB0.setCell (p := ⟨w.heap.size + 1, a, none⟩) (by show w.heap.size + 1 ≤ w.heap.size + 1; omega) (.int .i64 ((fa ||| fq : Nat) : Int)))
                    clear hk2 hk3 hg1 hg2 hfr hst hor hB0
                    go_wp2
                    go_roundw
                    case rel => exact ⟨a + 1, by omega, by go_num, HK3, HB3⟩
                    case measure => (simp [intOf] <;> omega)
                · have HAE := hide (show a = m by omega)
                  have hlai : ¬ ((a : Int) < (m : Int)) := by omega
                  go_wp2
                  go_roundw
                  case rel => exact ⟨q + 1, by omega, by go_num, by have h := HA1; rw [HAE.out] at h; rw [HNX.out, ← cuF_done]; exact h, HBA⟩
                  case measure => (simp [intOf] <;> omega)
            · have HQE := hide (show q = m by omega)
              have hlqi : ¬ ((q : Int) < (m : Int)) := by omega
              have HM0 := hide (show blk 3 wr (w.heap.size + 1) (lsT m (cloN L m)) by have h := HQ.out; rw [HQE.out] at h; exact h)
              have HF := hide (fun i => Nat.lt_of_lt_of_le ((HCT.out m).lt i) h128)
              have HES := hide (es_none hm1 hm7 HA.out)
              have HSS := hide (fun h => es_sets (L := L) hm7 h)
              generalize cloN L m = f at HM0 HF HES HSS
              clear HQ HCT
              go_wp2_with fail
              have HI := hide (lsT_ints HM0.out)
              go_loop [100] (fun c => ∃ i : Nat, i ≤ m ∧ c = .int .i64 (i : Int) ∧ ∀ j, j < i → (f j).testBit j = false) (fun c => m - (intOf c).toNat)
              case atStart => exact ⟨0, Nat.zero_le _, rfl, fun j hj => by omega⟩
              case round =>
                obtain ⟨i, hi, rfl, HJ0⟩ := hrel
                have HJ := hide HJ0
                clear HJ0
                by_cases hli : i < m
                · have hlii : (i : Int) < (m : Int) := by omega
                  have hfi := HF.out i
                  have HCA := hide (fun w' => by have := spIn_c (f i : Int) i w' (by omega) (by omega) (by omega) (by omega); rw [Int.toNat_natCast, Int.toNat_natCast] at this; exact this)
                  cases hb : (f i).testBit i
                  · rw [hb] at HCA
                    have HNB := hide hb
                    clear hb
                    go_wp2_with (first
                      | (refine wpList_at sliceT intS rfl (.tmp 98) (.tmp _) rfl (.slice (some ⟨w.heap.size + 1, 0, none⟩) m m) rfl i rfl wr.heap.size (lsT m f) HI.out (by rw [lsT_len]; exact hli) ?_; intro ad hcell hblk; rw [lsT_at _ hli] at hcell)
                      | (go_at_call 81; refine (HCA.out _).mono ?_; rintro e w3 ⟨rfl, rfl⟩))
                    go_round
                    case rel => exact ⟨i + 1, by omega, by go_num, fun j hj => by
                      rcases Nat.lt_or_ge j i with h | h
                      · exact HJ.out j h
                      · have : j = i := by omega
                        subst this; exact HNB.out⟩
                    case measure => (simp [intOf] <;> omega)
                  · rw [hb] at HCA
                    have HBX := hide (osNL_no (n := (m : Int)) (L := L) (by
                      cases e : osB (m : Int) L
                      · rfl
                      · have := HES.out.1 e i hli
                        rw [hb] at this; cases this))
                    have hr2 := (HBQ.out.block w.heap.size (by omega)).trans HR1.out
                    obtain ⟨z0, z1, z2, z3⟩ := zero_slotsQ hr2
                    have HBZ := hide (H1.out.trans (HBQ.out.mono (by omega)))
                    clear hr2 hb
                    go_wp2_with (first
                      | (refine wpList_at sliceT intS rfl (.tmp 98) (.tmp _) rfl (.slice (some ⟨w.heap.size + 1, 0, none⟩) m m) rfl i rfl wr.heap.size (lsT m f) HI.out (by rw [lsT_len]; exact hli) ?_; intro ad hcell hblk; rw [lsT_at _ hli] at hcell)
                      | (go_at_call 81; refine (HCA.out _).mono ?_; rintro e w3 ⟨rfl, rfl⟩))
                    refine bodyPost_ret (v := .tuple #[.agg #[.int .i64 0, .slice none 0 0], .bool false]) (by simp [results, Try.results51, go_sem, z0, z1]) rfl ⟨_, by rw [HBX.out.1, HBX.out.2.2], by rw [esL_no HBX.out.2.2]; exact own_nil _ _ _, ?_⟩
                    first | exact HBZ.out | exact (HBZ.out.setCell (by show w.heap.size ≤ w.heap.size; omega) _).setCell (by show w.heap.size ≤ w.heap.size; omega) _
                · have HIE := hide (show i = m by omega)
                  have hlii : ¬ ((i : Int) < (m : Int)) := by omega
                  have HOB := hide (HES.out.2 (fun j hj => HJ.out j (by rw [HIE.out]; exact hj)))
                  have HOL := hide (HSS.out HOB.out)
                  have HBX := hide (osNL_yes HOB.out)
                  have hp := wrap_p2 m hm7
                  have hp2 : IntKind.i64.wrap (2 ^ m) = (p2 m : Int) := by rw [IntWalk.i64_left]; exact hp
                  have hp3 := wrap_low m hm7
                  have hp4 : ((p2 m : Int) - 1) = (low m : Int) := by have := low_succ m; unfold p2; omega
                  have hlo := low_lt m hm7
                  have HLS := hide (show low m + 1 = p2 m by rw [low_succ]; unfold p2; rfl)
                  have h128b := p2_le128 m hm7
                  have HTX := hide (hp_last wr (.cells #[.int .i64 (m : Int), .slice none 0 0] 28))
                  have HBT := hide ((Below.refl wr.heap.size wr).alloc (Nat.le_refl _) (.cells #[.int .i64 (m : Int), .slice none 0 0] 28))
                  have HZT := hide (show (wr.alloc (.cells #[.int .i64 (m : Int), .slice none 0 0] 28)).heap.size = wr.heap.size + 1 by simp)
                  go_wp2_with fail
                  generalize (wr.alloc (.cells #[.int .i64 (m : Int), .slice none 0 0] 28)) = W2 at HTX HBT HZT ⊢
                  have HM1 := hide (show blk 3 W2 (w.heap.size + 1) (lsT m f) from HM0.out.below HBT.out (show w.heap.size + 1 < wr.heap.size by omega))
                  have HBV := hide (HBQ.out.trans (HBT.out.mono (show w.heap.size + 1 ≤ wr.heap.size by omega)))
                  obtain ⟨B, hBe⟩ : ∃ B, B = wr.heap.size := ⟨_, rfl⟩
                  have hBs : w.heap.size + 2 ≤ B := by omega
                  rw [← hBe] at HTX HZT ⊢
                  clear hBe HBT HM0 HI HBQ HES HSS HJ
                  generalize hG : fitB m f = G at HOL
                  have HG := hide hG
                  clear hG hp hp2 hp3 hp4
                  go_loopw [15] (fun c w3 => ∃ a : Nat, a ≤ p2 m ∧ c = .int .i64 (a : Int) ∧ Hid (∃ sv, own 3 w3 (B + 1) sv (setsTo G a) ∧ w3.heap[B]? = some (.cells #[.int .i64 (m : Int), sv] 28)) ∧ Hid (Below B W2 w3)) (fun c _ => p2 m - (intOf c).toNat)
                  case atStart => exact ⟨0, Nat.zero_le _, rfl, ⟨_, own_nil _ _ _, HTX.out⟩, Below.refl _ _⟩
                  case round =>
                    obtain ⟨a, ha, rfl, HO, HBB⟩ := hrel
                    have hz3 := HBB.out.size
                    rw [HZT.out] at hz3
                    by_cases hla : a < p2 m
                    · have hle : ((a : Int) ≤ (low m : Int)) := by have := HLS.out; omega
                      have hle2 : a ≤ low m := by have := HLS.out; omega
                      have HST := hide (show setsTo G (a + 1) = (if G a then setsTo G a ++ [(a : Int)] else setsTo G a) from rfl)
                      have HKD := hide (show G a = allN (okO m f (andNot (low m) a)) m by rw [← HG.out]; rfl)
                      have han := i64_andNot (low m) a (by omega)
                      have hs2 : andNot (low m) a < 128 := Nat.lt_of_lt_of_le (andNot_lt (low m) a m (by have := low_succ m; omega)) h128
                      have HLA := hide (setsTo_len G a)
                      have HI := hide (lsT_ints (HM1.out.below HBB.out (show w.heap.size + 1 < B by omega)))
                      generalize andNot (low m) a = R at HKD han hs2
                      generalize setsTo G a = S1 at HO HST HLA
                      obtain ⟨sv, ho3, ht3⟩ := HO.out
                      have HO3 := hide ho3
                      have HT3 := hide ht3
                      clear HO ho3 ht3
                      go_wp2_with fail
                      go_loop [125, 17] (fun c t => ∃ i : Nat, i ≤ m ∧ c = .int .i64 (i : Int) ∧ t = .bool (allN (okO m f R) i)) (fun c _ => m - (intOf c).toNat)
                      case atStart => exact ⟨0, Nat.zero_le _, rfl, rfl⟩
                      case round =>
                        obtain ⟨i, hi, rfl, rfl⟩ := hrel
                        by_cases hli : i < m
                        · have hlii : (i : Int) < (m : Int) := by omega
                          have HNI := hide (show allN (okO m f R) (i + 1) = (allN (okO m f R) i && allN (okQ m f R i) m) from rfl)
                          generalize allN (okO m f R) i = x1 at HNI ⊢
                          go_wp2_with fail
                          go_loop [130, 17] (fun c t => ∃ j : Nat, j ≤ m ∧ c = .int .i64 (j : Int) ∧ t = .bool (x1 && allN (okQ m f R i) j)) (fun c _ => m - (intOf c).toNat)
                          case atStart => exact ⟨0, Nat.zero_le _, rfl, by rw [allN, Bool.and_true]⟩
                          case round =>
                            obtain ⟨j, hj, rfl, rfl⟩ := hrel
                            by_cases hlj : j < m
                            · have hlji : (j : Int) < (m : Int) := by omega
                              have HNJ := hide (show (x1 && allN (okQ m f R i) (j + 1)) = ((x1 && allN (okQ m f R i) j) && allN (okP f R i j) m) by rw [allN, ← Bool.and_assoc]; rfl)
                              generalize (x1 && allN (okQ m f R i) j) = x2 at HNJ ⊢
                              go_wp2_with fail
                              go_loop [135, 17] (fun c t => ∃ k : Nat, k ≤ m ∧ c = .int .i64 (k : Int) ∧ t = .bool (x2 && allN (okP f R i j) k)) (fun c _ => m - (intOf c).toNat)
                              case atStart => exact ⟨0, Nat.zero_le _, rfl, by rw [allN, Bool.and_true]⟩
                              case round =>
                                obtain ⟨k, hk, rfl, rfl⟩ := hrel
                                by_cases hlk : k < m
                                · have hlki : (k : Int) < (m : Int) := by omega
                                  have hfk := HF.out k
                                  have hfj := HF.out j
                                  have HNK := hide (show (x2 && allN (okP f R i j) (k + 1)) = ((x2 && allN (okP f R i j) k) && !((((R.testBit i && R.testBit j) && (f k).testBit i) && (f j).testBit k) && !R.testBit k)) by rw [allN, ← Bool.and_assoc]; rfl)
                                  generalize (x2 && allN (okP f R i j) k) = x3 at HNK ⊢
                                  have H1 := hide (fun w' => spIn_n R i w' hs2 (Nat.lt_of_lt_of_le hli hm7))
                                  have H2 := hide (fun w' => spIn_n R j w' hs2 (Nat.lt_of_lt_of_le hlj hm7))
                                  have H3 := hide (fun w' => spIn_n (f k) i w' hfk (Nat.lt_of_lt_of_le hli hm7))
                                  have H4 := hide (fun w' => spIn_n (f j) k w' hfj (Nat.lt_of_lt_of_le hlk hm7))
                                  have H5 := hide (fun w' => spIn_n R k w' hs2 (Nat.lt_of_lt_of_le hlk hm7))
                                  generalize R.testBit i = b1 at HNK H1
                                  generalize R.testBit j = b2 at HNK H2
                                  generalize (f k).testBit i = b3 at HNK H3
                                  generalize (f j).testBit k = b4 at HNK H4
                                  generalize R.testBit k = b5 at HNK H5
                                  cases b1
                                  · skip
                                    go_wp2_with (first
                                      | (refine wpList_at sliceT intS rfl (.tmp 147) (.tmp _) rfl (.slice (some ⟨w.heap.size + 1, 0, none⟩) m m) rfl k rfl wr.heap.size (lsT m f) HI.out (by rw [lsT_len]; exact hlk) ?_; intro adk hck hbk; rw [lsT_at _ hlk] at hck)
                                      | (refine wpList_at sliceT intS rfl (.tmp 155) (.tmp _) rfl (.slice (some ⟨w.heap.size + 1, 0, none⟩) m m) rfl j rfl wr.heap.size (lsT m f) HI.out (by rw [lsT_len]; exact hlj) ?_; intro adj hcj hbj; rw [lsT_at _ hlj] at hcj)
                                      | (go_at_call 81; refine (H1.out _).mono ?_; rintro e w3 ⟨rfl, rfl⟩; clear H1)
                                      | (go_at_call 81; refine (H2.out _).mono ?_; rintro e w3 ⟨rfl, rfl⟩; clear H2)
                                      | (go_at_call 81; refine (H3.out _).mono ?_; rintro e w3 ⟨rfl, rfl⟩; clear H3)
                                      | (go_at_call 81; refine (H4.out _).mono ?_; rintro e w3 ⟨rfl, rfl⟩; clear H4)
                                      | (go_at_call 81; refine (H5.out _).mono ?_; rintro e w3 ⟨rfl, rfl⟩; clear H5))
                                    go_round
                                    case rel => exact ⟨k + 1, hlk, by go_num, by rw [HNK.out]; simp⟩
                                    case measure => (first | (simp [intOf]; exact Nat.sub_lt_sub_left hlk (Nat.lt_succ_self k)) | (simp [intOf] <;> omega))
                                  · cases b2
                                    · skip
                                      go_wp2_with (first
                                        | (refine wpList_at sliceT intS rfl (.tmp 147) (.tmp _) rfl (.slice (some ⟨w.heap.size + 1, 0, none⟩) m m) rfl k rfl wr.heap.size (lsT m f) HI.out (by rw [lsT_len]; exact hlk) ?_; intro adk hck hbk; rw [lsT_at _ hlk] at hck)
                                        | (refine wpList_at sliceT intS rfl (.tmp 155) (.tmp _) rfl (.slice (some ⟨w.heap.size + 1, 0, none⟩) m m) rfl j rfl wr.heap.size (lsT m f) HI.out (by rw [lsT_len]; exact hlj) ?_; intro adj hcj hbj; rw [lsT_at _ hlj] at hcj)
                                        | (go_at_call 81; refine (H1.out _).mono ?_; rintro e w3 ⟨rfl, rfl⟩; clear H1)
                                        | (go_at_call 81; refine (H2.out _).mono ?_; rintro e w3 ⟨rfl, rfl⟩; clear H2)
                                        | (go_at_call 81; refine (H3.out _).mono ?_; rintro e w3 ⟨rfl, rfl⟩; clear H3)
                                        | (go_at_call 81; refine (H4.out _).mono ?_; rintro e w3 ⟨rfl, rfl⟩; clear H4)
                                        | (go_at_call 81; refine (H5.out _).mono ?_; rintro e w3 ⟨rfl, rfl⟩; clear H5))
                                      go_round
                                      case rel => exact ⟨k + 1, hlk, by go_num, by rw [HNK.out]; simp⟩
                                      case measure => (first | (simp [intOf]; exact Nat.sub_lt_sub_left hlk (Nat.lt_succ_self k)) | (simp [intOf] <;> omega))
                                    · cases b3
                                      · skip
                                        go_wp2_with (first
                                          | (refine wpList_at sliceT intS rfl (.tmp 147) (.tmp _) rfl (.slice (some ⟨w.heap.size + 1, 0, none⟩) m m) rfl k rfl wr.heap.size (lsT m f) HI.out (by rw [lsT_len]; exact hlk) ?_; intro adk hck hbk; rw [lsT_at _ hlk] at hck)
                                          | (refine wpList_at sliceT intS rfl (.tmp 155) (.tmp _) rfl (.slice (some ⟨w.heap.size + 1, 0, none⟩) m m) rfl j rfl wr.heap.size (lsT m f) HI.out (by rw [lsT_len]; exact hlj) ?_; intro adj hcj hbj; rw [lsT_at _ hlj] at hcj)
                                          | (go_at_call 81; refine (H1.out _).mono ?_; rintro e w3 ⟨rfl, rfl⟩; clear H1)
                                          | (go_at_call 81; refine (H2.out _).mono ?_; rintro e w3 ⟨rfl, rfl⟩; clear H2)
                                          | (go_at_call 81; refine (H3.out _).mono ?_; rintro e w3 ⟨rfl, rfl⟩; clear H3)
                                          | (go_at_call 81; refine (H4.out _).mono ?_; rintro e w3 ⟨rfl, rfl⟩; clear H4)
                                          | (go_at_call 81; refine (H5.out _).mono ?_; rintro e w3 ⟨rfl, rfl⟩; clear H5))
                                        go_round
                                        case rel => exact ⟨k + 1, hlk, by go_num, by rw [HNK.out]; simp⟩
                                        case measure => (first | (simp [intOf]; exact Nat.sub_lt_sub_left hlk (Nat.lt_succ_self k)) | (simp [intOf] <;> omega))
                                      · cases b4
                                        · skip
                                          go_wp2_with (first
                                            | (refine wpList_at sliceT intS rfl (.tmp 147) (.tmp _) rfl (.slice (some ⟨w.heap.size + 1, 0, none⟩) m m) rfl k rfl wr.heap.size (lsT m f) HI.out (by rw [lsT_len]; exact hlk) ?_; intro adk hck hbk; rw [lsT_at _ hlk] at hck)
                                            | (refine wpList_at sliceT intS rfl (.tmp 155) (.tmp _) rfl (.slice (some ⟨w.heap.size + 1, 0, none⟩) m m) rfl j rfl wr.heap.size (lsT m f) HI.out (by rw [lsT_len]; exact hlj) ?_; intro adj hcj hbj; rw [lsT_at _ hlj] at hcj)
                                            | (go_at_call 81; refine (H1.out _).mono ?_; rintro e w3 ⟨rfl, rfl⟩; clear H1)
                                            | (go_at_call 81; refine (H2.out _).mono ?_; rintro e w3 ⟨rfl, rfl⟩; clear H2)
                                            | (go_at_call 81; refine (H3.out _).mono ?_; rintro e w3 ⟨rfl, rfl⟩; clear H3)
                                            | (go_at_call 81; refine (H4.out _).mono ?_; rintro e w3 ⟨rfl, rfl⟩; clear H4)
                                            | (go_at_call 81; refine (H5.out _).mono ?_; rintro e w3 ⟨rfl, rfl⟩; clear H5))
                                          go_round
                                          case rel => exact ⟨k + 1, hlk, by go_num, by rw [HNK.out]; simp⟩
                                          case measure => (first | (simp [intOf]; exact Nat.sub_lt_sub_left hlk (Nat.lt_succ_self k)) | (simp [intOf] <;> omega))
                                        · cases b5
                                          · skip
                                            go_wp2_with (first
                                              | (refine wpList_at sliceT intS rfl (.tmp 147) (.tmp _) rfl (.slice (some ⟨w.heap.size + 1, 0, none⟩) m m) rfl k rfl wr.heap.size (lsT m f) HI.out (by rw [lsT_len]; exact hlk) ?_; intro adk hck hbk; rw [lsT_at _ hlk] at hck)
                                              | (refine wpList_at sliceT intS rfl (.tmp 155) (.tmp _) rfl (.slice (some ⟨w.heap.size + 1, 0, none⟩) m m) rfl j rfl wr.heap.size (lsT m f) HI.out (by rw [lsT_len]; exact hlj) ?_; intro adj hcj hbj; rw [lsT_at _ hlj] at hcj)
                                              | (go_at_call 81; refine (H1.out _).mono ?_; rintro e w3 ⟨rfl, rfl⟩; clear H1)
                                              | (go_at_call 81; refine (H2.out _).mono ?_; rintro e w3 ⟨rfl, rfl⟩; clear H2)
                                              | (go_at_call 81; refine (H3.out _).mono ?_; rintro e w3 ⟨rfl, rfl⟩; clear H3)
                                              | (go_at_call 81; refine (H4.out _).mono ?_; rintro e w3 ⟨rfl, rfl⟩; clear H4)
                                              | (go_at_call 81; refine (H5.out _).mono ?_; rintro e w3 ⟨rfl, rfl⟩; clear H5))
                                            go_round
                                            case rel => exact ⟨k + 1, hlk, by go_num, by rw [HNK.out]; simp⟩
                                            case measure => (first | (simp [intOf]; exact Nat.sub_lt_sub_left hlk (Nat.lt_succ_self k)) | (simp [intOf] <;> omega))
                                          · skip
                                            go_wp2_with (first
                                              | (refine wpList_at sliceT intS rfl (.tmp 147) (.tmp _) rfl (.slice (some ⟨w.heap.size + 1, 0, none⟩) m m) rfl k rfl wr.heap.size (lsT m f) HI.out (by rw [lsT_len]; exact hlk) ?_; intro adk hck hbk; rw [lsT_at _ hlk] at hck)
                                              | (refine wpList_at sliceT intS rfl (.tmp 155) (.tmp _) rfl (.slice (some ⟨w.heap.size + 1, 0, none⟩) m m) rfl j rfl wr.heap.size (lsT m f) HI.out (by rw [lsT_len]; exact hlj) ?_; intro adj hcj hbj; rw [lsT_at _ hlj] at hcj)
                                              | (go_at_call 81; refine (H1.out _).mono ?_; rintro e w3 ⟨rfl, rfl⟩; clear H1)
                                              | (go_at_call 81; refine (H2.out _).mono ?_; rintro e w3 ⟨rfl, rfl⟩; clear H2)
                                              | (go_at_call 81; refine (H3.out _).mono ?_; rintro e w3 ⟨rfl, rfl⟩; clear H3)
                                              | (go_at_call 81; refine (H4.out _).mono ?_; rintro e w3 ⟨rfl, rfl⟩; clear H4)
                                              | (go_at_call 81; refine (H5.out _).mono ?_; rintro e w3 ⟨rfl, rfl⟩; clear H5))
                                            go_round
                                            case rel => exact ⟨k + 1, hlk, by go_num, by rw [HNK.out]; simp⟩
                                            case measure => (first | (simp [intOf]; exact Nat.sub_lt_sub_left hlk (Nat.lt_succ_self k)) | (simp [intOf] <;> omega))
                                · have HKE := hide (show k = m by omega)
                                  have hlki : ¬ ((k : Int) < (m : Int)) := by omega
                                  go_wp2
                                  go_round
                                  case rel => exact ⟨j + 1, by omega, by go_num, by rw [HNJ.out, HKE.out]⟩
                                  case measure => (simp [intOf] <;> omega)
                            · have HJE := hide (show j = m by omega)
                              have hlji : ¬ ((j : Int) < (m : Int)) := by omega
                              go_wp2
                              go_round
                              case rel => exact ⟨i + 1, by omega, by go_num, by rw [HNI.out, HJE.out]⟩
                              case measure => (simp [intOf] <;> omega)
                        · have HIE2 := hide (show i = m by omega)
                          have hlii : ¬ ((i : Int) < (m : Int)) := by omega
                          have hc1 := cells_at1 HT3.out
                          have hl4 := HLA.out
                          have HKD2 := hide (show allN (okO m f R) i = G a by rw [HKD.out, HIE2.out])
                          generalize allN (okO m f R) i = x1 at HKD2 ⊢
                          cases x1
                          · have HG0 := hide (show setsTo G (a + 1) = S1 by rw [HST.out, ← HKD2.out]; rfl)
                            go_wp2
                            go_roundw
                            case rel => exact ⟨a + 1, by omega, by go_num, ⟨sv, by rw [HG0.out]; exact HO3.out, HT3.out⟩, HBB⟩
                            case measure => (simp [intOf] <;> omega)
                          · have HG1 := hide (show setsTo G (a + 1) = S1 ++ [(a : Int)] by rw [HST.out, ← HKD2.out]; rfl)
                            obtain ⟨aa, cc, hsv⟩ := HO3.out.shape
                            subst hsv
                            go_wp2_with (at_builtin; refine wpList_append1 sliceT intI rfl _ _ rfl (B + 1) _ _ rfl (HO3.out.alloc _) _ (a : Int) rfl (by simp [go_sem]) (by simp; omega) (by omega) ?_; intro v5 w5 ho5 hb5; obtain ⟨a5, c5, hv5⟩ := ho5.shape; subst hv5; have HB5 := hide (((Below.refl _ _).alloc (by omega) _).trans hb5); have HO5 := hide ho5; clear ho5 hb5; have ht5 := (HB5.out.block B (by omega)).trans HT3.out; have f5 := hp_free ht5 1; have k5 := cells_at1 ht5; have HT5 := hide ht5; clear ht5; have hb6 := HBB.out.trans (HB5.out.mono (by omega)); have HB6 := hide hb6; clear hb6)
                            go_roundw
                            case rel => exact ⟨a + 1, by omega, by go_num, ⟨_, by have h := HO5.out.setLow ⟨B, 1, none⟩ (by show B < B + 1; omega) (.slice a5 (S1.length + 1) c5); rw [List.length_append, List.length_singleton] at h; rw [HG1.out]; exact h, bareE HT5.out _⟩, HB6.out.setCell (by show B ≤ B; omega) _⟩
                            case measure => (simp [intOf] <;> omega)
                    · have HAE := hide (show a = p2 m by omega)
                      have hle : ¬ ((a : Int) ≤ (low m : Int)) := by have := HLS.out; omega
                      obtain ⟨sv, ho3, ht3⟩ := HO.out
                      rw [HAE.out] at ho3
                      obtain ⟨aa, cc, hsv⟩ := ho3.shape
                      subst hsv
                      have hd0 := cells_at0 ht3
                      have hd1 := cells_at1 ht3
                      have HO3 := hide ho3
                      have hr3 := (HBB.out.block w.heap.size (by omega)).trans ((HBV.out.block w.heap.size (by omega)).trans HR1.out)
                      obtain ⟨q0, q1, q2, q3⟩ := zero_slotsQ hr3
                      have HB3 := hide ((H1.out.trans (HBV.out.mono (by omega))).trans (HBB.out.mono (by omega)))
                      clear HO ho3 ht3 hr3
                      go_wp2
                      refine bodyPost_ret (v := .tuple #[.agg #[.int .i64 (m : Int), .slice aa (setsTo G (p2 m)).length cc], .bool true]) (by simp [results, Try.results51, go_sem, q0, q1]) rfl ⟨_, by rw [HBX.out.1, HBX.out.2.2], ?_, ?_⟩
                      · rw [HOL.out]
                        have hfin := ((HO3.out.setLow ⟨w.heap.size, 0, none⟩ (show w.heap.size < B + 1 by omega) (.int .i64 (m : Int))).setLow ⟨w.heap.size, 1, none⟩ (show w.heap.size < B + 1 by omega) (.slice aa (setsTo G (p2 m)).length cc))
                        exact hfin.mono (by omega)
                      · exact (HB3.out.setCell (Nat.le_refl _) _).setCell (Nat.le_refl _) _
  · have HN := hide hn
    have HBX := hide (osNL_no (osB_no1 (L := L) hn))
    have z0 := q0
    have z1 := q1
    have HBZ := H0
    clear hn
    go_enter Try.func51, Try.ntmps51
    go_wp2_with (first
      | (go_at_call 79; refine (spItems_c _ _).mono ?_; rw [decide_eq_false HN.out]; rintro e w1 ⟨rfl, rfl⟩))
    refine bodyPost_ret (v := .tuple #[.agg #[.int .i64 0, .slice none 0 0], .bool false]) (by simp [results, Try.results51, go_sem, z0, z1]) rfl ⟨_, by rw [HBX.out.1, HBX.out.2.2], by rw [esL_no HBX.out.2.2]; exact own_nil _ _ _, ?_⟩
    first | exact HBZ.out | exact (HBZ.out.setCell (by show w.heap.size ≤ w.heap.size; omega) _).setCell (by show w.heap.size ≤ w.heap.size; omega) _
end Go.Proofs.Ytonimjpfaalniaa
