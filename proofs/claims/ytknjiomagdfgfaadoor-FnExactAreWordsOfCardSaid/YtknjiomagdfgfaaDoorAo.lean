/- Contracts: AreWordsOf, the program's. -/
import Derived.Test.YtknjiomagdfgfaaDoorAn
namespace Go.Proofs.YtknjiomagdfgfaaDoor
open Go.RowKit
set_option maxRecDepth 100000
set_option linter.unusedSimpArgs false
section
variable {P : Program}
theorem wpList_index128 {A B : TypeId} (hA : P.underlying A = some (.array 128 B)) (hB : (P.info? B).map (·.size) = some 1) (hr : (P.underlying B).map TypeDesc.isRow = some false)
    {ops : Array Oper} {rest : List Oper} {o : Oper} {a : Act} {w : World} {Q : Exit → Act → World → Prop} (hw : Region.wanted o (yielded ops a.tmps) = true) (x y : Operand) (ho : o.op = .index A x y)
    (m : List Int) (hm : m.length = 128) (hx : a.eval x = .agg (rowV m)) (i : Nat) (hy : a.eval y = .int .i64 (i : Int)) (hi : i < 128)
    (h : wpList P ops Q rest (a.put o.dst (.int .i64 (m[i]?.getD 0))) w) : wpList P ops Q (o :: rest) a w := by
  have hB' : (sizeOf B).run P w = .ok 1 w := by
    cases hq : P.info? B with
    | none => simp [hq] at hB
    | some j =>
      have : j.size = 1 := by simpa [hq] using hB
      simp [sizeOf, typeInfo, hq, this]
  have hg : (rowV m)[i]? = some (.int .i64 (m[i]?.getD 0)) := by
    unfold rowV
    have hi2 : i < m.length := by omega
    simp [hi2]
  have hag : (isAgg B).run P w = .ok false w := by
    unfold isAgg
    cases hq : P.underlying B with
    | none => simp [hq] at hr
    | some d =>
      rw [Sem.run_bind, run_underlying hq w]
      cases d <;> simp_all [TypeDesc.isRow]
  have hrun : (Instr.index A (.agg (rowV m)) (.int .i64 (i : Int))).run P w = .ok (.int .i64 (m[i]?.getD 0)) w := by
    unfold Instr.index part
    have h1 : (0 : Int) ≤ (i : Int) ∧ (i : Int) < ((128 : Nat) : Int) := by omega
    simp only [asIntOf, Sem.run_bind, Sem.run_pure, Result.andThen_ok, run_underlying hA w, if_pos h1, hB', hag, Int.toNat_natCast, Nat.mul_one, hg]
    simp
  refine wpList_of_wp hw fun K hK => ?_
  unfold Oper.wp execOp
  simp only [ho, hx, hy, Sem.run_bind, Sem.run_pure, hrun, Result.andThen_ok]
  exact hK _ _ h
end
theorem arrC2 : Tryd.prog.underlying 68 = some (.array 128 3) := by kernel_rfl
attribute [local irreducible] p2 low memB risB
set_option maxHeartbeats 4000000 in
theorem implAreWordsOf_c (n : Int) (v : Value) (l : List Int) (u : Value) (L : List (List Int)) (w : World) (hl : ints w.heap.size w v l) (hlen : l.length < 1000000000) (hu : rows w.heap.size w u L) (hs : small2 L) (hT : tab w) (hwf : ∀ j, j < L.length → i64s (L[j]?.getD [])) :
    Calls Tryd.prog 37 #[.agg #[.int .i64 n, v], u] w fun e w' => e = .returned (.tuple #[.bool (arB n l L), .bool (arOk n l L)]) ∧ Below w.heap.size w w' := by
  have HL := hide ((hl.alloc (.cells #[.int .i64 n, v] 28)).mono (show w.heap.size ≤ (w.alloc (.cells #[.int .i64 n, v] 28)).heap.size by simp))
  have H0 := hide ((Below.refl w.heap.size w).alloc (Nat.le_refl _) (.cells #[.int .i64 n, v] 28))
  have HZ0 := hide (show (w.alloc (.cells #[.int .i64 n, v] 28)).heap.size = w.heap.size + 1 by simp)
  have HU := hide hu
  have HS := hide hs
  have HWF := hide hwf
  have HT := hide hT
  clear hl hu hs hwf hT
  cases hok : okSp n l
  · have HK := hide hok
    have HX := hide (ar_no (n := n) (l := l) (L := L) (by unfold arOk; rw [hok]; rfl))
    rw [HX.out.1, HX.out.2]
    clear hok
    go_enter Tryd.func37, Tryd.ntmps37
    go_wp2_with (first
      | (go_at_call 56; refine (familyOf_c n v l _ HL.out hlen).mono ?_; rw [famVal_no n l HK.out]; rintro e w1 ⟨rfl, hb1⟩; have hz1 := hb1.size; rw [HZ0.out] at hz1; have HB1 := hide (bl_row ((H0.out.trans (hb1.mono (by rw [HZ0.out]; omega))).alloc (by omega) (.cells (fam 0 noSet) 63)) (show w.heap.size ≤ w1.heap.size by omega) (fam 0 noSet)); clear hb1)
      | (refine wpList_alloc_fam zeroT rfl rfl _ (by first | (simp only [World.size_alloc]; rfl) | rfl) ?_)
      | (refine wpList_store_fam sizeT rfl (.tmp _) (.tmp _) rfl _ _ _ rfl rfl _ _ (famAt.new _ _ _ _) ?_))
    refine bodyPost_ret (v := .tuple #[.bool false, .bool false]) (by simp [results, Tryd.results37, go_sem]) rfl ⟨rfl, HB1.out⟩
  · have HK := hide hok
    have hn := okSp_n hok
    obtain ⟨N, rfl⟩ := Int.eq_ofNat_of_zero_le (show 0 ≤ n by omega)
    have hN1 : 1 ≤ N := by omega
    have hN7 : N ≤ 7 := by omega
    have HSC := hide (okSp_spc hok)
    rw [Int.toNat_natCast] at HSC
    by_cases h200 : 200 < L.length
    · have HX := hide (ar_no (n := (N : Int)) (l := l) (L := L) (by unfold arOk; rw [decide_eq_false (by omega), Bool.and_false]))
      have hgt : (200 : Int) < (L.length : Int) := by omega
      rw [HX.out.1, HX.out.2]
      clear hok hn
      go_enter Tryd.func37, Tryd.ntmps37
      go_wp2_with (first
        | (go_at_call 56; refine (familyOf_c (N : Int) v l _ HL.out hlen).mono ?_; rw [famVal_yes (N : Int) l HK.out]; rintro e w1 ⟨rfl, hb1⟩; have hz1 := hb1.size; rw [HZ0.out] at hz1; have HH := hide ((famAt.new 63 w1 0 noSet).row (N : Int) (marksTo l l.length)); have HT1 := hide (((HT.out.belowB HT.out (H0.out.trans (hb1.mono (by rw [HZ0.out]; omega))) (Nat.le_refl _)).alloc (.cells (fam 0 noSet) 63)).setRow w1.heap.size (by have := HT.out.1; omega) (fam (N : Int) (marksTo l l.length))); have HB1 := hide (bl_row ((H0.out.trans (hb1.mono (by rw [HZ0.out]; omega))).alloc (by omega) (.cells (fam 0 noSet) 63)) (show w.heap.size ≤ w1.heap.size by omega) (fam (N : Int) (marksTo l l.length))); clear hb1)
        | (refine wpList_alloc_fam zeroT rfl rfl _ (by first | (simp only [World.size_alloc]; rfl) | rfl) ?_)
        | (refine wpList_store_fam sizeT rfl (.tmp _) (.tmp _) rfl _ _ _ rfl rfl _ _ (famAt.new _ _ _ _) ?_)
        | (refine wpList_len2 sliceT2 rfl (.tmp _) rfl u rfl w.heap.size L (HU.out.below HB1.out (Nat.le_refl _)) ?_))
      refine bodyPost_ret (v := .tuple #[.bool false, .bool false]) (by simp [results, Tryd.results37, go_sem]) rfl ⟨rfl, HB1.out⟩
    · have hgt : ¬ ((200 : Int) < (L.length : Int)) := by omega
      have HX := hide (ar_yes (n := (N : Int)) (l := l) (L := L) (by unfold arOk; rw [hok, decide_eq_true (by omega)]; rfl))
      rw [Int.toNat_natCast] at HX
      rw [HX.out.1, HX.out.2]
      have HWS := hide (fun w1 h => wordSetOf_c N u L w1 h HS.out (by omega) hN1 hN7 HWF.out)
      have HTF := hide (fun b N2 B D0 w1 h1 h2 h3 => takeFullWords_c N (marksTo l l.length) b N2 B D0 w1 h1 hN7 h2 h3)
      have HC0 := hide (cRow_get (cnt (marksTo l l.length) N) 0 (by omega))
      clear hok hn
      cases hlb : lenB N L L.length
      · have HFB := hide (show fulB (N : Int) l L L.length = false from by
          cases hf : fulB (N : Int) l L L.length
          · rfl
          · have h1 := (fulB_iff (N : Int) l L L.length).1 hf
            rw [(lenB_iff N L L.length).2 fun j hj => by have := (okFu_wd (h1 j hj)).2; omega] at hlb
            cases hlb)
        rw [hlb] at HWS
        rw [HFB.out, Bool.false_and]
        clear hlb
        go_enter Tryd.func37, Tryd.ntmps37
        go_wp2_with (first
          | (go_at_call 56; refine (familyOf_c (N : Int) v l _ HL.out hlen).mono ?_; rw [famVal_yes (N : Int) l HK.out]; rintro e w1 ⟨rfl, hb1⟩; have hz1 := hb1.size; rw [HZ0.out] at hz1; have HH := hide ((famAt.new 63 w1 0 noSet).row (N : Int) (marksTo l l.length)); have HT1 := hide (((HT.out.belowB HT.out (H0.out.trans (hb1.mono (by rw [HZ0.out]; omega))) (Nat.le_refl _)).alloc (.cells (fam 0 noSet) 63)).setRow w1.heap.size (by have := HT.out.1; omega) (fam (N : Int) (marksTo l l.length))); have HB1 := hide (bl_row ((H0.out.trans (hb1.mono (by rw [HZ0.out]; omega))).alloc (by omega) (.cells (fam 0 noSet) 63)) (show w.heap.size ≤ w1.heap.size by omega) (fam (N : Int) (marksTo l l.length))); clear hb1)
          | (refine wpList_alloc_fam zeroT rfl rfl _ (by first | (simp only [World.size_alloc]; rfl) | rfl) ?_)
          | (refine wpList_store_fam sizeT rfl (.tmp _) (.tmp _) rfl _ _ _ rfl rfl _ _ (famAt.new _ _ _ _) ?_)
          | (refine wpList_len2 sliceT2 rfl (.tmp _) rfl u rfl w.heap.size L (HU.out.below HB1.out (Nat.le_refl _)) ?_; have hg0 := HH.out.get0)
          | (go_at_call 63; refine (HWS.out _ ((HU.out.below HB1.out (Nat.le_refl _)).mono HB1.out.size)).mono ?_; rintro e w3 ⟨v3, rfl, _, hb3⟩; have HB3 := hide (HB1.out.trans (hb3.mono HB1.out.size)); clear hb3))
        refine bodyPost_ret (v := .tuple #[.bool false, .bool true]) (by simp [results, Tryd.results37, go_sem]) rfl ⟨rfl, HB3.out⟩
      · have HLB := hide hlb
        rw [hlb] at HWS
        clear hlb
        have HAP := hide (fun (w : World) (b c t : Nat) (D : DataW Unit) ho ht hh => ar_prog (w := w) (b := b) (c := c) (D := D) (t := t) HK.out (by omega) HLB.out HWF.out ho ht hh)
        cases hf : fulB (N : Int) l L L.length
        · have HF := hide hf
          clear hf
          go_enter Tryd.func37, Tryd.ntmps37
          go_wp2_with (first
            | (go_at_call 56; refine (familyOf_c (N : Int) v l _ HL.out hlen).mono ?_; rw [famVal_yes (N : Int) l HK.out]; rintro e w1 ⟨rfl, hb1⟩; have hz1 := hb1.size; rw [HZ0.out] at hz1; have HH := hide ((famAt.new 63 w1 0 noSet).row (N : Int) (marksTo l l.length)); have HT1 := hide (((HT.out.belowB HT.out (H0.out.trans (hb1.mono (by rw [HZ0.out]; omega))) (Nat.le_refl _)).alloc (.cells (fam 0 noSet) 63)).setRow w1.heap.size (by have := HT.out.1; omega) (fam (N : Int) (marksTo l l.length))); have HB1 := hide (bl_row ((H0.out.trans (hb1.mono (by rw [HZ0.out]; omega))).alloc (by omega) (.cells (fam 0 noSet) 63)) (show w.heap.size ≤ w1.heap.size by omega) (fam (N : Int) (marksTo l l.length))); clear hb1)
            | (refine wpList_alloc_fam zeroT rfl rfl _ (by first | (simp only [World.size_alloc]; rfl) | rfl) ?_)
            | (refine wpList_store_fam sizeT rfl (.tmp _) (.tmp _) rfl _ _ _ rfl rfl _ _ (famAt.new _ _ _ _) ?_)
            | (refine wpList_len2 sliceT2 rfl (.tmp _) rfl u rfl w.heap.size L (HU.out.below HB1.out (Nat.le_refl _)) ?_; have hg0 := HH.out.get0)
            | (go_at_call 63; refine (HWS.out _ ((HU.out.below HB1.out (Nat.le_refl _)).mono HB1.out.size)).mono ?_; rintro e w3 ⟨v3, rfl, ho3, hb3⟩; obtain ⟨b3, hv3, hbb3, how3⟩ := ho3 (by first | rfl | trivial); subst hv3; have HOW3 := hide how3; have hz3 := hb3.size; have HH3 := hide (HH.out.below hb3 HH.out.lt); have HT3 := hide (HT1.out.belowB HT1.out hb3 (Nat.le_refl _)); have HB3 := hide (HB1.out.trans (hb3.mono HB1.out.size)); have hlf := HH.out.lt; clear ho3 hb3 how3)
            | (refine wpList_load_fam rowT sizeT rfl (.tmp 6) rfl _ rfl (N : Int) (marksTo l l.length) HH3.out ?_)
            | (go_at_call 64; refine (HTF.out b3 200 b3 (mapD L L.length) _ HOW3.out (by omega) (Nat.le_refl _)).mono ?_; rintro e w4 ⟨t4, D4, rfl, hts, how4, hhas, hb4⟩; have hap := HAP.out _ _ _ _ _ how4 hts hhas; have hse : ((Maps.size D4 : Int) == 0) = false := (by simp; exact hap.2 HF.out); have HOW4 := hide how4; have HH4 := hide (show famAt 63 w4 w1.heap.size (N : Int) (marksTo l l.length) from (hb4.block w1.heap.size (by omega)).trans HH3.out); have HT4 := hide (HT3.out.belowB HT1.out hb4 hbb3); have HB4 := hide (HB3.out.trans (hb4.mono (by have := HB1.out.size; omega))); clear hts hhas how4 hb4)
            | (at_len; refine wpList_len_own _ rfl _ 80 rfl 102 4 mapU _ b3 200 D4 rfl HOW4.out ?_))
          refine bodyPost_ret (v := .tuple #[.bool false, .bool true]) (by simp [results, Tryd.results37, go_sem]) rfl ⟨rfl, HB4.out⟩
        · have HF := hide hf
          clear hf
          go_enter Tryd.func37, Tryd.ntmps37
          go_wp2_with (first
            | (go_at_call 56; refine (familyOf_c (N : Int) v l _ HL.out hlen).mono ?_; rw [famVal_yes (N : Int) l HK.out]; rintro e w1 ⟨rfl, hb1⟩; have hz1 := hb1.size; rw [HZ0.out] at hz1; have HH := hide ((famAt.new 63 w1 0 noSet).row (N : Int) (marksTo l l.length)); have HT1 := hide (((HT.out.belowB HT.out (H0.out.trans (hb1.mono (by rw [HZ0.out]; omega))) (Nat.le_refl _)).alloc (.cells (fam 0 noSet) 63)).setRow w1.heap.size (by have := HT.out.1; omega) (fam (N : Int) (marksTo l l.length))); have HB1 := hide (bl_row ((H0.out.trans (hb1.mono (by rw [HZ0.out]; omega))).alloc (by omega) (.cells (fam 0 noSet) 63)) (show w.heap.size ≤ w1.heap.size by omega) (fam (N : Int) (marksTo l l.length))); clear hb1)
            | (refine wpList_alloc_fam zeroT rfl rfl _ (by first | (simp only [World.size_alloc]; rfl) | rfl) ?_)
            | (refine wpList_store_fam sizeT rfl (.tmp _) (.tmp _) rfl _ _ _ rfl rfl _ _ (famAt.new _ _ _ _) ?_)
            | (refine wpList_len2 sliceT2 rfl (.tmp _) rfl u rfl w.heap.size L (HU.out.below HB1.out (Nat.le_refl _)) ?_; have hg0 := HH.out.get0)
            | (go_at_call 63; refine (HWS.out _ ((HU.out.below HB1.out (Nat.le_refl _)).mono HB1.out.size)).mono ?_; rintro e w3 ⟨v3, rfl, ho3, hb3⟩; obtain ⟨b3, hv3, hbb3, how3⟩ := ho3 (by first | rfl | trivial); subst hv3; have HOW3 := hide how3; have hz3 := hb3.size; have HH3 := hide (HH.out.below hb3 HH.out.lt); have HT3 := hide (HT1.out.belowB HT1.out hb3 (Nat.le_refl _)); have HB3 := hide (HB1.out.trans (hb3.mono HB1.out.size)); have hlf := HH.out.lt; clear ho3 hb3 how3)
            | (refine wpList_load_fam rowT sizeT rfl (.tmp 6) rfl _ rfl (N : Int) (marksTo l l.length) HH3.out ?_)
            | (go_at_call 64; refine (HTF.out b3 200 b3 (mapD L L.length) _ HOW3.out (by omega) (Nat.le_refl _)).mono ?_; rintro e w4 ⟨t4, D4, rfl, hts, how4, hhas, hb4⟩; have hap := HAP.out _ _ _ _ _ how4 hts hhas; obtain ⟨hse0, htd⟩ := hap.1 HF.out; have hse : ((Maps.size D4 : Int) == 0) = true := (by simp; exact hse0); have HOW4 := hide how4; have HH4 := hide (show famAt 63 w4 w1.heap.size (N : Int) (marksTo l l.length) from (hb4.block w1.heap.size (by omega)).trans HH3.out); have HT4 := hide (HT3.out.belowB HT1.out hb4 hbb3); have HB4 := hide (HB3.out.trans (hb4.mono (by have := HB1.out.size; omega))); clear hts hhas how4 hb4)
            | (at_len; refine wpList_len_own _ rfl _ 80 rfl 102 4 mapU _ b3 200 D4 rfl HOW4.out ?_)
            | (refine wpList_load_fam rowT sizeT rfl (.tmp 6) rfl _ rfl (N : Int) (marksTo l l.length) HH4.out ?_)
            | (go_at_call 53; refine (wordCounts_c N (marksTo l l.length) _ hN1 hN7 HSC.out.lt HT4.out).mono ?_; rintro e w5 ⟨rfl, hb5⟩; have HB5 := hide (HB4.out.trans (hb5.mono HB4.out.size)); clear hb5)
            | (refine wpList_index128 arrC2 intS (by kernel_rfl) rfl (.tmp _) (.const _) rfl (cRow (cnt (marksTo l l.length) N)) (cRow_len _) rfl 0 rfl (by omega) ?_; rw [HC0.out]))
          refine bodyPost_ret (v := .tuple #[.bool (((difL L L.length).length : Int) == (cnt (marksTo l l.length) N 0 : Int)), .bool true]) (by simp [results, Tryd.results37, go_sem]) rfl ⟨by rw [Bool.true_and, cast_eq_dec], HB5.out⟩
end Go.Proofs.YtknjiomagdfgfaaDoor
