/- Contracts: SpaceOfWords: the lists are words; the program's. -/
import Derived.Test.YtbcohlnimmoifaaWl
namespace Go.Proofs.Ytbcohlnimmoifaa
open Go.RowKit
set_option maxRecDepth 100000
section
variable {P : Program}
theorem wpList_at2C {t I : TypeId} (ht : P.underlying t = some (.slice I)) (hI : (P.info? I).map (·.size) = some 1) {ops : Array Oper} {rest : List Oper} {o : Oper} {a : Act} {w : World} {Q : Exit → Act → World → Prop} (hw : Region.wanted o (yielded ops a.tmps) = true)
    (x y : Operand) (ho : o.op = .indexAddr t x y) (v : Value) (hx : a.eval x = v) (i : Int) (hy : a.eval y = .int .i64 i) (k : Nat) (hik : i = (k : Int)) (B : Nat) (L : List (List Int)) (hl : rowsC B w v L) (hk : k < L.length)
    (h : ∀ (ad : Addr) (u : Value), w.cell? ad = some u → ad.block < B → intsC B w u (L[k]?.getD []) → wpList P ops Q rest (a.put o.dst (.pointer (some ad))) w) : wpList P ops Q (o :: rest) a w := by
  subst hik
  rcases hl with ⟨rfl, _⟩ | ⟨b, of, c, rfl, h2, h3, h4⟩
  · simp at hk
  have he : P.underlying t = some (.slice (P.elem t)) := by
    rw [ht]; simp [Program.elem, ht]
  have hE : P.elem t = I := by simp [Program.elem, ht]
  have hs : (sizeOf I).run P w = .ok 1 w := by
    cases hq : P.info? I with
    | none => simp [hq] at hI
    | some j =>
      have : j.size = 1 := by simpa [hq] using hI
      simp [sizeOf, typeInfo, hq, this]
  have hr : (Instr.indexAt t (.slice (some ⟨b, of, none⟩) L.length c) (.int .i64 (k : Int))).run P w = .ok (.pointer (some ⟨b, of + k, none⟩)) w := by
    rw [run_indexAt_slice (h := he), if_pos (by omega), hE, hs]
    simp [Addr.add]
  obtain ⟨u, hu, hi⟩ := h4 k hk
  refine wpList_of_wp hw fun K hK => ?_
  unfold Oper.wp execOp
  simp only [ho, hx, hy, Sem.run_bind, Sem.run_pure, hr, Result.andThen_ok]
  exact hK _ _ (h ⟨b, of + k, none⟩ u hu h2 hi)
end
attribute [local irreducible] p2 low memB risB
theorem sw_no3 {L : List (List Int)} (h : wlB L = false) : swN L = 0 ∧ swL L = [] ∧ wlB L = false := ⟨(sw_no h).1, (sw_no h).2, h⟩
theorem sw_yes3 {L : List (List Int)} (h : wlB L = true) : swN L = ((L[0]?.getD []).length : Int) ∧ swL L = setsTo (unionsF (swC L L.length)) 128 ∧ wlB L = true := ⟨(sw_yes h).1, (sw_yes h).2, h⟩
theorem swC_rg (L : List (List Int)) (k : Nat) : ∀ j, j < (swC L k).length → 0 ≤ (swC L k)[j]?.getD 0 ∧ (swC L k)[j]?.getD 0 < 128 := fun j hj => by
  have := swC_in L k j hj; omega
set_option maxHeartbeats 4000000 in
theorem implSpaceOfWords_c (u : Value) (L : List (List Int)) (w : World) (hl : rows w.heap.size w u L) (hs : small2 L) :
    Calls Try.prog 20 #[u] w fun e w' => ∃ v', e = .returned (.tuple #[.agg #[.int .i64 (swN L), v'], .bool (wlB L)]) ∧ own 3 w' w.heap.size v' (swL L) ∧ Below w.heap.size w w' := by
  have HR0 := hide (hp_last w (.cells #[.int .i64 0, .slice none 0 0] 30))
  have H0 := hide ((Below.refl w.heap.size w).alloc (Nat.le_refl _) (.cells #[.int .i64 0, .slice none 0 0] 30))
  have HL0 := hide (hl.alloc (.cells #[.int .i64 0, .slice none 0 0] 30))
  have HZ0 := hide (show (w.alloc (.cells #[.int .i64 0, .slice none 0 0] 30)).heap.size = w.heap.size + 1 by simp)
  have HSM := hide hs
  have hll := hs.1
  obtain ⟨q0, q1, q2, q3⟩ := zero_slotsQ HR0.out
  clear hl hs
  by_cases hn0 : L.length = 0
  · have HBX := hide (sw_no3 (L := L) (by unfold wlB; rw [decide_eq_false (by omega), Bool.false_and]))
    have hb0 : ((L.length : Int) == 0) = true := by rw [hn0]; rfl
    have z0 := q0
    have z1 := q1
    have HBZ := H0
    go_enter Try.func20, Try.ntmps20
    go_wp2_with (refine wpList_len2 sliceT2 rfl (.tmp _) rfl u rfl w.heap.size L HL0.out ?_)
    refine bodyPost_ret (v := .tuple #[.agg #[.int .i64 0, .slice none 0 0], .bool false]) (by simp [results, Try.results20, go_sem, z0, z1]) rfl ⟨_, by rw [HBX.out.1, HBX.out.2.2], by rw [HBX.out.2.1]; exact own_nil _ _ _, ?_⟩
    first | exact HBZ.out | exact (HBZ.out.setCell (by show w.heap.size ≤ w.heap.size; omega) _).setCell (by show w.heap.size ≤ w.heap.size; omega) _
  have hb0 : ((L.length : Int) == 0) = false := beq_eq_false_iff_ne.2 (by omega)
  by_cases h200 : 200 < L.length
  · have HBX := hide (sw_no3 (L := L) (by unfold wlB; rw [decide_eq_false (by omega), Bool.false_and]))
    have hgt : (200 : Int) < (L.length : Int) := by omega
    have z0 := q0
    have z1 := q1
    have HBZ := H0
    go_enter Try.func20, Try.ntmps20
    go_wp2_with (refine wpList_len2 sliceT2 rfl (.tmp _) rfl u rfl w.heap.size L HL0.out ?_)
    refine bodyPost_ret (v := .tuple #[.agg #[.int .i64 0, .slice none 0 0], .bool false]) (by simp [results, Try.results20, go_sem, z0, z1]) rfl ⟨_, by rw [HBX.out.1, HBX.out.2.2], by rw [HBX.out.2.1]; exact own_nil _ _ _, ?_⟩
    first | exact HBZ.out | exact (HBZ.out.setCell (by show w.heap.size ≤ w.heap.size; omega) _).setCell (by show w.heap.size ≤ w.heap.size; omega) _
  have hgt : ¬ ((200 : Int) < (L.length : Int)) := by omega
  have hpos : 0 < L.length := by omega
  have HW := hide (show wlB L = wlTo L L.length by unfold wlB; rw [decide_eq_true (by omega), Bool.true_and])
  generalize hz : L[0]?.getD [] = z
  have HZ := hide hz
  have HR00 := hide (HSM.out.row 0 hpos)
  rw [HZ.out] at HR00
  clear hz
  go_enter Try.func20, Try.ntmps20
  go_wp2_with (first
    | (refine wpList_len2 sliceT2 rfl (.tmp _) rfl u rfl w.heap.size L HL0.out ?_)
    | (refine wpList_at2 sliceT2 rowS2 rfl (.tmp 19) _ rfl u rfl 0 rfl 0 rfl w.heap.size L HL0.out hpos ?_; intro ad0 u0 hcell0 hblk0 hu0; rw [HZ.out] at hu0; have HU0 := hide hu0; clear hu0)
    | (refine wpList_len sliceT rfl (.tmp 21) rfl _ rfl w.heap.size z HU0.out ?_))
  generalize (w.alloc (.cells #[.int .i64 0, .slice none 0 0] 30)) = W at HR0 H0 HL0 HZ0 q0 q1 q2 q3 ⊢
  clear q0 q1 q2 q3
  go_loopw [5, 25] (fun s i wr => ∃ k : Nat, k ≤ L.length ∧ i = .int .i64 (k : Int) ∧ Hid (own 3 wr (w.heap.size + 1) s (swC L k)) ∧ Hid (wlTo L k = true) ∧ Hid (Below (w.heap.size + 1) W wr)) (fun _ i _ => L.length - (intOf i).toNat)
  case atStart => exact ⟨0, Nat.zero_le _, rfl, own_nil _ _ _, rfl, Below.refl _ _⟩
  case round =>
    obtain ⟨k, hk, rfl, HO, HJ, HB⟩ := hrel
    have hsz := HB.out.size
    rw [HZ0.out] at hsz
    have HLW := hide ((HL0.out.below HB.out (by omega)).mono (show w.heap.size ≤ wr.heap.size by omega))
    have HCL := hide (swC_len L k)
    by_cases hlt : k < L.length
    · have HNX := hide (show wlTo L (k + 1) = (wlTo L k && (decide ((L[k]?.getD []).length = (L[0]?.getD []).length) && okOrd (L[k]?.getD []))) from rfl)
      have HSC := hide (show swC L (k + 1) = swC L k ++ chS (L[k]?.getD []) from rfl)
      have HFA := hide (fun h => sw_no3 (L := L) (by rw [HW.out]; exact wlTo_false (L := L) (k := k) h L.length hlt))
      have HRK := hide (HSM.out.row k hlt)
      have HCN := hide (show okOrd (L[k]?.getD []) = true → chN (L[k]?.getD []) = ((L[k]?.getD []).length : Int) ∧ chL (L[k]?.getD []) = chS (L[k]?.getD []) from fun h => ⟨chN_yes h, chL_yes h⟩)
      rw [HZ.out] at HNX
      have HCS := hide (show (chS (L[k]?.getD [])).length ≤ 128 from setsTo_len _ 128)
      generalize hr : L[k]?.getD [] = r at HNX HRK HSC HCN HCS
      have HR := hide hr
      generalize swC L k = S0 at HO HCL HSC
      clear hr
      obtain ⟨sa, sc, hsv⟩ := HO.out.shape
      subst hsv
      cases hok : okOrd r
      · have HOK := hide hok
        have HBX := hide (HFA.out (by rw [HNX.out, hok]; simp))
        clear hok
        go_wp2_with (first
          | (refine wpList_at2 sliceT2 rowS2 rfl (.tmp _) (.tmp _) rfl u rfl _ rfl k rfl wr.heap.size L HLW.out hlt ?_; intro ad uu hcell hblk hu; rw [HR.out] at hu; have HU := hide hu; clear hu)
          | (go_at_call 38; refine (implChainSpaceI_c _ r wr HU.out (by have := HRK.out; omega)).mono ?_; rw [HOK.out]; rintro e w1 ⟨v1, rfl, ho1, hb1⟩; obtain ⟨a1, c1, hv1⟩ := ho1.shape; subst hv1; have hz1 := hb1.size; have HB1 := hide (HB.out.trans (hb1.mono (by omega))); clear ho1 hb1; have HT := hide (hp_last w1 (.cells #[.int .i64 (chN r), .slice a1 (chL r).length c1] 30)); have hr2 := (hp_old w1 (.cells #[.int .i64 (chN r), .slice a1 (chL r).length c1] 30) w.heap.size (by omega)).trans ((HB1.out.block w.heap.size (by omega)).trans HR0.out); obtain ⟨z0, z1, z2, z3⟩ := zero_slotsQ hr2; have HBZ := hide ((H0.out.trans (HB1.out.mono (by omega))).alloc (by omega) (.cells #[.int .i64 (chN r), .slice a1 (chL r).length c1] 30)); clear hr2; have t0 := cells_at0 HT.out))
        refine bodyPost_ret (v := .tuple #[.agg #[.int .i64 0, .slice none 0 0], .bool false]) (by simp [results, Try.results20, go_sem, z0, z1]) rfl ⟨_, by rw [HBX.out.1, HBX.out.2.2], by rw [HBX.out.2.1]; exact own_nil _ _ _, ?_⟩
        first | exact HBZ.out | exact (HBZ.out.setCell (by show w.heap.size ≤ w.heap.size; omega) _).setCell (by show w.heap.size ≤ w.heap.size; omega) _
      · have HOK := hide hok
        have HCC := hide (HCN.out hok)
        by_cases he : r.length = z.length
        · have hne : ((r.length : Int) != (z.length : Int)) = false := by rw [he]; simp
          have HNN := hide (show wlTo L (k + 1) = true by rw [HNX.out, HJ.out, hok, decide_eq_true he]; rfl)
          have hcl1 := HCL.out
          have hcs1 := HCS.out
          clear hok
          go_wp2_with (first
            | (refine wpList_at2 sliceT2 rowS2 rfl (.tmp _) (.tmp _) rfl u rfl _ rfl k rfl wr.heap.size L HLW.out hlt ?_; intro ad uu hcell hblk hu; rw [HR.out] at hu; have HU := hide hu; clear hu)
            | (go_at_call 38; refine (implChainSpaceI_c _ r wr HU.out (by have := HRK.out; omega)).mono ?_; rw [HOK.out, HCC.out.1, HCC.out.2, he]; rintro e w1 ⟨v1, rfl, ho1, hb1⟩; obtain ⟨a1, c1, hv1⟩ := ho1.shape; subst hv1; have hz1 := hb1.size; have HB1 := hide (HB.out.trans (hb1.mono (by omega))); have HO1 := hide (ho1.alloc (.cells #[.int .i64 (z.length : Int), .slice a1 (chS r).length c1] 30)); have HS1 := hide ((HO.out.kept hb1).alloc (.cells #[.int .i64 (z.length : Int), .slice a1 (chS r).length c1] 30)); clear ho1 hb1; have HT := hide (hp_last w1 (.cells #[.int .i64 (z.length : Int), .slice a1 (chS r).length c1] 30)); have hr2 := (hp_old w1 (.cells #[.int .i64 (z.length : Int), .slice a1 (chS r).length c1] 30) w.heap.size (by omega)).trans ((HB1.out.block w.heap.size (by omega)).trans HR0.out); obtain ⟨z0, z1, z2, z3⟩ := zero_slotsQ hr2; have HB2 := hide (HB1.out.alloc (by omega) (.cells #[.int .i64 (z.length : Int), .slice a1 (chS r).length c1] 30)); have HBZ := hide (H0.out.trans (HB2.out.mono (by omega))); clear hr2; have t0 := cells_at0 HT.out; have t1 := cells_at1 HT.out; have hz2 : (w1.alloc (.cells #[.int .i64 (z.length : Int), .slice a1 (chS r).length c1] 30)).heap.size = w1.heap.size + 1 := by simp)
            | (at_builtin; go_loud (refine wpList_appendN sliceT intI rfl (.tmp 43) (.tmp 45) rfl (w.heap.size + 1) _ _ rfl HS1.out _ (chS r) (w1.heap.size + 1) rfl (HO1.out.ints.mono (by omega)) (by omega) (by omega) ?_); intro v3 w3 ho3 hb3; have HO3 := hide ho3; have HB3 := hide (HB2.out.trans hb3); clear ho3 hb3))
          go_roundw
          case rel => exact ⟨k + 1, by omega, by go_num, by rw [HSC.out]; exact HO3, HNN, HB3⟩
          case measure => (simp [intOf] <;> omega)
        · have hne : ((r.length : Int) != (z.length : Int)) = true := by simp; omega
          have HBX := hide (HFA.out (by rw [HNX.out, decide_eq_false he]; simp))
          clear hok
          go_wp2_with (first
            | (refine wpList_at2 sliceT2 rowS2 rfl (.tmp _) (.tmp _) rfl u rfl _ rfl k rfl wr.heap.size L HLW.out hlt ?_; intro ad uu hcell hblk hu; rw [HR.out] at hu; have HU := hide hu; clear hu)
            | (go_at_call 38; refine (implChainSpaceI_c _ r wr HU.out (by have := HRK.out; omega)).mono ?_; rw [HOK.out, HCC.out.1, HCC.out.2]; rintro e w1 ⟨v1, rfl, ho1, hb1⟩; obtain ⟨a1, c1, hv1⟩ := ho1.shape; subst hv1; have hz1 := hb1.size; have HB1 := hide (HB.out.trans (hb1.mono (by omega))); have HO1 := hide (ho1.alloc (.cells #[.int .i64 (r.length : Int), .slice a1 (chS r).length c1] 30)); have HS1 := hide ((HO.out.kept hb1).alloc (.cells #[.int .i64 (r.length : Int), .slice a1 (chS r).length c1] 30)); clear ho1 hb1; have HT := hide (hp_last w1 (.cells #[.int .i64 (r.length : Int), .slice a1 (chS r).length c1] 30)); have hr2 := (hp_old w1 (.cells #[.int .i64 (r.length : Int), .slice a1 (chS r).length c1] 30) w.heap.size (by omega)).trans ((HB1.out.block w.heap.size (by omega)).trans HR0.out); obtain ⟨z0, z1, z2, z3⟩ := zero_slotsQ hr2; have HB2 := hide (HB1.out.alloc (by omega) (.cells #[.int .i64 (r.length : Int), .slice a1 (chS r).length c1] 30)); have HBZ := hide (H0.out.trans (HB2.out.mono (by omega))); clear hr2; have t0 := cells_at0 HT.out; have t1 := cells_at1 HT.out; have hz2 : (w1.alloc (.cells #[.int .i64 (r.length : Int), .slice a1 (chS r).length c1] 30)).heap.size = w1.heap.size + 1 := by simp))
          refine bodyPost_ret (v := .tuple #[.agg #[.int .i64 0, .slice none 0 0], .bool false]) (by simp [results, Try.results20, go_sem, z0, z1]) rfl ⟨_, by rw [HBX.out.1, HBX.out.2.2], by rw [HBX.out.2.1]; exact own_nil _ _ _, ?_⟩
          first | exact HBZ.out | exact (HBZ.out.setCell (by show w.heap.size ≤ w.heap.size; omega) _).setCell (by show w.heap.size ≤ w.heap.size; omega) _
    · have HK := hide (show k = L.length by omega)
      have hlt' : ¬ ((k : Int) < (L.length : Int)) := by omega
      have HBX := hide (sw_yes3 (L := L) (by rw [HW.out, ← HK.out]; exact HJ.out))
      have HRG := hide (swC_rg L k)
      have HKE := hide (show swC L L.length = swC L k by rw [HK.out])
      have hcl1 := HCL.out
      generalize swC L k = S0 at HO HCL HRG hcl1 HKE
      go_wp2_with (first
        | (go_at_call 39; refine (unionsOf_c (z.length : Int) _ S0 wr (HO.out.ints) HRG.out (by omega)).mono ?_; rintro e w5 ⟨rfl, hb5⟩; have HB5 := hide (HB.out.trans (hb5.mono (by omega))); have hz5 := hb5.size; clear hb5)
        | (go_at_call 40; refine (space_c (z.length : Int) (unionsF S0) w5).mono ?_; rintro e w6 ⟨v6, rfl, ho6, hb6⟩; obtain ⟨a6, c6, hv6⟩ := ho6.shape; subst hv6; have HB6 := hide (HB5.out.trans (hb6.mono (by omega))); have HO6 := hide ho6; have hr6 := (HB6.out.block w.heap.size (by omega)).trans HR0.out; obtain ⟨z0, z1, z2, z3⟩ := zero_slotsQ hr6; have HBZ := hide (H0.out.trans (HB6.out.mono (by omega))); clear hr6 ho6 hb6))
      generalize hRE : setsTo (unionsF S0) 128 = R at HO6 ⊢
      have HRE := hide hRE
      clear hRE
      refine bodyPost_ret (v := .tuple #[.agg #[.int .i64 (z.length : Int), .slice a6 R.length c6], .bool true]) (by simp [results, Try.results20, go_sem, z0, z1]) rfl ⟨_, by rw [HBX.out.1, HBX.out.2.2, HZ.out], ?_, ?_⟩
      · rw [HBX.out.2.1, HKE.out, HRE.out]
        have hfin := ((HO6.out.setLow ⟨w.heap.size, 0, none⟩ (show w.heap.size < w5.heap.size by omega) (.int .i64 (z.length : Int))).setLow ⟨w.heap.size, 1, none⟩ (show w.heap.size < w5.heap.size by omega) (.slice a6 R.length c6))
        exact hfin.mono (by omega)
      · exact (HBZ.out.setCell (Nat.le_refl _) _).setCell (Nat.le_refl _) _
end Go.Proofs.Ytbcohlnimmoifaa
