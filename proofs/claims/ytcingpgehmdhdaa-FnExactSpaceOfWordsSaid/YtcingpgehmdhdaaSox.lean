/- Contracts: SpaceOfWords, the specification's. -/
import Derived.Test.YtcingpgehmdhdaaSow
import Derived.Test.YtcingpgehmdhdaaAny
namespace Go.Proofs.Ytcingpgehmdhdaa
open Go.RowKit
set_option maxRecDepth 100000
section
variable {P : Program}
theorem exec_at0 {t I : TypeId} (ht : P.underlying t = some (.slice I)) {o : Oper} {a : Act} (x y : Operand) (ho : o.op = .indexAddr t x y)
    (b of c n : Nat) (hx : a.eval x = .slice (some ⟨b, of, none⟩) n c) (hy : a.eval y = .int .i64 0) (hn : 0 < n) (hI : (P.info? I).map (·.size) = some 1) (w : World) : (execOp a.eval o).run P w = .ok (.value (.pointer (some ⟨b, of, none⟩))) w := by
  have he : P.underlying t = some (.slice (P.elem t)) := by
    rw [ht]; simp [Program.elem, ht]
  have hE : P.elem t = I := by simp [Program.elem, ht]
  have hs : (sizeOf I).run P w = .ok 1 w := by
    cases hq : P.info? I with
    | none => simp [hq] at hI
    | some j =>
      have : j.size = 1 := by simpa [hq] using hI
      simp [sizeOf, typeInfo, hq, this]
  have hr : (Instr.indexAt t (.slice (some ⟨b, of, none⟩) n c) (.int .i64 0)).run P w = .ok (.pointer (some ⟨b, of, none⟩)) w := by
    rw [run_indexAt_slice (h := he), if_pos (by omega), hE, hs]
    simp [Addr.add]
  unfold execOp
  simp only [ho, hx, hy, Sem.run_bind, Sem.run_pure, hr, Result.andThen_ok]
theorem exec_len0 {t I : TypeId} (ht : P.underlying t = some (.slice I)) {o : Oper} {a : Act} (x : Operand) (ho : o.op = .call { callee := .builtin .len, args := #[x], argTypes := #[t] })
    (p : Option Addr) (n c : Nat) (hx : a.eval x = .slice p n c) (w : World) : (execOp a.eval o).run P w = .ok (.value (.int .i64 (n : Int))) w := by
  have he : P.underlying t = some (.slice (P.elem t)) := by
    rw [ht]; simp [Program.elem, ht]
  have hr : (Builtin.len_ #[t] o.type #[.slice p n c]).run P w = .ok (.int .i64 (n : Int)) w := by
    rw [run_len_slice (h := he)]
    simp [goInt]
  unfold execOp
  simp only [ho, resolve, invoke, Sem.run_bind, Sem.run_pure, Result.andThen_ok, List.map_toArray, List.map_cons, List.map_nil, hx, BigFrame.builtin_len, hr]
end
theorem ent_spUnionsW : enters Try.prog 25 := enters_of Try.func25 (by kernel_rfl) (by kernel_rfl)
theorem rowSS : (Try.prog.underlying 24).map TypeDesc.isRow = some false := by kernel_rfl
theorem swM_rg (L : List (List Int)) (k : Nat) : ∀ j, j < (setsTo (swM L k) 128).length → nth (setsTo (swM L k) 128) j < 128 ∧ (setsTo (swM L k) 128)[j]?.getD 0 = (nth (setsTo (swM L k) 128) j : Int) := fun j hj => by
  have := setsTo_range (swM L k) 128 j hj
  unfold nth; omega
attribute [local irreducible] p2 low memB risB
set_option maxHeartbeats 4000000 in
theorem specSpaceOfWords_c (u : Value) (L : List (List Int)) (w : World) (hl : rowsC w.heap.size w u L) (hs : small2 L) :
    Calls Try.prog 7 #[u] w fun e w' => ∃ v', e = .returned (.tuple #[.agg #[.int .i64 (swN L), v'], .bool (wlB L)]) ∧ own 3 w' w.heap.size v' (swL L) ∧ Below w.heap.size w w' := by
  have HR0 := hide (hp_last w (.cells #[.int .i64 0, .slice none 0 0] 26))
  have HB0 := hide ((Below.refl w.heap.size w).alloc (Nat.le_refl _) (.cells #[.int .i64 0, .slice none 0 0] 26))
  have H0 := HB0
  have HZ0 := hide (show (w.alloc (.cells #[.int .i64 0, .slice none 0 0] 26)).heap.size = w.heap.size + 1 by simp)
  have HL0 := hide ((hl.below HB0.out (Nat.le_refl _)).mono (show w.heap.size ≤ (w.alloc (.cells #[.int .i64 0, .slice none 0 0] 26)).heap.size by rw [HZ0.out]; omega))
  have HLB := hide (hl.below HB0.out (Nat.le_refl _))
  have HSM := hide hs
  have hll := hs.1
  obtain ⟨q0, q1, q2, q3⟩ := zero_slotsQ HR0.out
  clear hl hs
  cases hwl : wlB L
  · have HWL := hide hwl
    have HBX := hide (sw_no3 hwl)
    clear hwl
    rw [← HWL.out]
    go_enter Try.func7, Try.ntmps7
    go_wp2_with (go_at_call 22; refine (woLists_c u L _ HL0.out HSM.out).mono ?_; rw [HWL.out]; rintro e w' ⟨rfl, rfl⟩)
    refine bodyPost_ret (v := .tuple #[.agg #[.int .i64 0, .slice none 0 0], .bool false]) (by simp [results, Try.results7, go_sem, q0, q1]) rfl ⟨_, by rw [HBX.out.1, HBX.out.2.2], by rw [HBX.out.2.1]; exact own_nil _ _ _, ?_⟩
    first | exact H0.out | exact (H0.out.setCell (by show w.heap.size ≤ w.heap.size; omega) _).setCell (by show w.heap.size ≤ w.heap.size; omega) _
  have HWL := hide hwl
  have HBX := hide (sw_yes3 hwl)
  have hn := hwl
  unfold wlB at hn
  rw [Bool.and_eq_true, decide_eq_true_eq] at hn
  have HW := hide hn.2
  have hpos : 0 < L.length := by omega
  have h200 : L.length ≤ 200 := hn.1.2
  clear hn hwl
  rw [HBX.out.1, HBX.out.2.1]
  go_enter Try.func7, Try.ntmps7
  go_wp2_with (first
    | (go_at_call 22; refine (woLists_c u L _ HL0.out HSM.out).mono ?_; rw [HWL.out]; rintro e w' ⟨rfl, rfl⟩)
    | (refine wpList_len2 sliceT2 rfl (.tmp _) rfl u rfl _ L HL0.out.plain ?_))
  generalize (w.alloc (.cells #[.int .i64 0, .slice none 0 0] 26)) = W at HR0 H0 HB0 HL0 HLB HZ0 q0 q1 q2 q3 ⊢
  clear q0 q1 q2 q3 HL0 HB0
  go_loopw [4, 15] (fun s i wr => ∃ k : Nat, k ≤ L.length ∧ i = .int .i64 (k : Int) ∧ Hid (own 3 wr (w.heap.size + 1) s (setsTo (swM L k) 128)) ∧ Hid (Below (w.heap.size + 1) W wr)) (fun _ i _ => L.length - (intOf i).toNat)
  case atStart => exact ⟨0, Nat.zero_le _, rfl, own_nil _ _ _, Below.refl _ _⟩
  case round =>
    obtain ⟨k, hk, rfl, HO, HB⟩ := hrel
    have hsz := HB.out.size
    rw [HZ0.out] at hsz
    have HLW := hide (HLB.out.below HB.out (by omega))
    by_cases hlt : k < L.length
    · have hok := ((wlTo_iff L L.length).1 HW.out k hlt).2
      have HOK := hide hok
      have HSM2 := hide (show swM L (k + 1) = addTo (swM L k) (chS (L[k]?.getD [])) (chS (L[k]?.getD [])).length from rfl)
      have HCI := hide (chS_in (L[k]?.getD []))
      have HCE := hide (show setsTo (chF (L[k]?.getD []) (L[k]?.getD []).length) 128 = chS (L[k]?.getD []) from rfl)
      have HCL := hide (show (chS (L[k]?.getD [])).length ≤ 128 from setsTo_len _ 128)
      clear hok
      generalize hr : L[k]?.getD [] = r at HOK HSM2 HCI HCE HCL
      have HR := hide hr
      clear hr
      generalize chS r = S at HSM2 HCI HCE HCL
      generalize swM L k = G at HO HSM2
      go_wp2_with (first
        | (refine wpList_at2C sliceT2 rowS2 rfl (.tmp _) (.tmp _) rfl u rfl _ rfl k rfl w.heap.size L HLW.out hlt ?_; intro ad uu hcell hblk hu; rw [HR.out] at hu; have HU := hide hu; clear hu)
        | (go_at_call 23; refine (spChain_c _ r wr (HU.out.plain.mono (by omega)) HOK.out).mono ?_; rw [HCE.out]; rintro e w1 ⟨v1, rfl, ho1, hb1⟩; obtain ⟨a1, c1, hv1⟩ := ho1.shape; subst hv1; have hz1 := hb1.size; have HB1 := hide (HB.out.trans (hb1.mono (by omega))); have HO1 := hide (HO.out.kept hb1); have HC1 := hide ho1; clear ho1 hb1)
        | (refine wpList_len sliceT rfl (.tmp _) rfl _ rfl _ S HC1.out.ints ?_))
      go_loopw [4, 22] (fun s j w2 => ∃ d : Nat, d ≤ S.length ∧ j = .int .i64 (d : Int) ∧ Hid (own 3 w2 (w.heap.size + 1) s (setsTo (addTo G S d) 128)) ∧ Hid (own 3 w2 wr.heap.size (.slice a1 S.length c1) S) ∧ Hid (Below (w.heap.size + 1) W w2)) (fun _ j _ => S.length - (intOf j).toNat)
      case atStart => exact ⟨0, Nat.zero_le _, rfl, HO1, HC1, HB1⟩
      case round =>
        clear HO HB HLW HB1 HO1 HC1 hz1
        obtain ⟨d, hd, rfl, HO, HC, HB⟩ := hrel
        have hs2 := HB.out.size
        rw [HZ0.out] at hs2
        have hcl := HCL.out
        by_cases hdl : d < S.length
        · have hy := HCI.out d hdl
          have HY := hide hy.2
          have hy1 := hy.1
          have HA := hide (show addTo G S (d + 1) = upd (addTo G S d) (nth S d) true from rfl)
          generalize nth S d = y at HY hy1 HA
          generalize addTo G S d = F at HO HA
          clear hy
          go_wp2_with (first
            | (refine wpList_at sliceT intS rfl (.tmp _) (.tmp _) rfl _ rfl d rfl _ S HC.out.ints hdl ?_; intro ad2 hcell2 hblk2; rw [HY.out] at hcell2)
            | (go_at_call 24; refine (spPut_c _ F y _ (w.heap.size + 1) hy1 HO.out (by omega)).mono ?_; rw [← HA.out]; rintro e w3 ⟨v3, rfl, ho3, hb3⟩; have HO3 := hide ho3; have HC3 := hide (HC.out.kept hb3); have HB3 := hide (HB.out.trans (hb3.mono (by omega))); clear ho3 hb3))
          go_roundw
          case rel => exact ⟨d + 1, by omega, by go_num, HO3, HC3, HB3⟩
          case measure => (simp [intOf] <;> omega)
        · have hde : d = S.length := by omega
          have hdl2 : ¬ ((d : Int) < (S.length : Int)) := by omega
          subst hde
          rw [← HSM2.out] at HO
          go_wp2
          go_roundw
          case rel => exact ⟨k + 1, by omega, by go_num, HO, HB⟩
          case measure => (simp [intOf] <;> omega)
    · have hlt' : ¬ ((k : Int) < (L.length : Int)) := by omega
      have hkl : k = L.length := by omega
      subst hkl
      clear hk
      have HSA := hide (sw_same L L.length)
      have HRG := hide (swM_rg L L.length)
      have hml := setsTo_len (swM L L.length) 128
      obtain ⟨sa, sc, hsv⟩ := HO.out.shape
      generalize setsTo (swM L L.length) 128 = M at HO HSA HRG hml hsv
      subst hsv
      have hS3 := HLW.out
      rcases hS3 with ⟨rfl, _⟩ | ⟨b, o, c, rfl, hb1, hb2, h4⟩
      · simp at hpos
      obtain ⟨u0, hu0, hi0, p0, c0, rfl, _⟩ := h4 0 hpos
      generalize hzz : L[0]?.getD [] = z at hi0 hu0 HBX ⊢
      have HHB := hide hb1
      clear h4 hi0 hb2
      have hrr := (HB.out.block w.heap.size (by omega)).trans HR0.out
      have HRR := hide hrr
      clear hrr
      go_wp2
      refine wp_region_held (S := fun w' => w'.cell? ⟨b, o + 0, none⟩ = some (.slice p0 z.length c0)) (by kernel_rfl) ?_
      have hS : wr.drew.cell? ⟨b, o + 0, none⟩ = some (.slice p0 z.length c0) := hu0
      refine wpAnyH_take (i := 0) (v := .slice (some ⟨b, o, none⟩) L.length c) rfl (by kernel_rfl) (by kernel_rfl) (by kernel_rfl) (fun _ _ _ h => h) (.inl ⟨rfl, fun w' _ => by go_simp⟩) hS ?_
      refine wpAnyH_take (i := 4) (v := .slice sa M.length sc) rfl (by kernel_rfl) (by kernel_rfl) (by kernel_rfl) (fun _ _ _ h => h) (.inl ⟨rfl, fun w' _ => by go_simp⟩) hS ?_
      refine wpAnyH_take (i := 1) (v := .pointer (some ⟨b, o, none⟩)) rfl (by kernel_rfl) (by kernel_rfl) (by kernel_rfl) (fun _ _ _ h => h) (.inl ⟨rfl, fun w' _ => exec_at0 sliceT2 _ _ rfl b o c L.length rfl rfl hpos rowS2 w'⟩) hS ?_
      refine wpAnyH_take (i := 2) rfl (by kernel_rfl) (by kernel_rfl) (by kernel_rfl) (fun _ _ _ h => h) (yields_load_cell rowSS rfl (.tmp _) rfl ⟨b, o, none⟩ rfl (.slice p0 z.length c0) (fun w' h => h)) hS ?_
      refine wpAnyH_take (i := 3) (v := .int .i64 (z.length : Int)) rfl (by kernel_rfl) (by kernel_rfl) (by kernel_rfl) (fun _ _ _ h => h) (.inl ⟨rfl, fun w' _ => exec_len0 sliceT _ rfl p0 z.length c0 rfl w'⟩) hS ?_
      simp only [Act.put, List.getElem_toArray, List.getElem_cons_zero, List.getElem_cons_succ, List.setIfInBounds_toArray, List.set_cons_zero, List.set_cons_succ]
      refine anyH_call (i := 5) (by kernel_rfl) rfl rfl 25 ent_spUnionsW _ _ rfl #[.slice sa M.length sc] rfl (spUnionsI_c _ M wr.drew (HO.out.kept (Below.refl _ _).drew).ints HRG.out (by omega)) ?_
      rw [HSA.out]
      rintro e w5 ⟨v5, rfl, ho5, hb5⟩
      have hz5 : wr.heap.size ≤ w5.heap.size := hb5.size
      have hS5 : w5.cell? ⟨b, o + 0, none⟩ = some (.slice p0 z.length c0) := (hb5.cell (p := ⟨b, o + 0, none⟩) (by show b < wr.heap.size; have := HHB.out; omega)).trans hS
      have hr5 := (hb5.block w.heap.size (by show w.heap.size < wr.heap.size; omega)).trans HRR.out
      obtain ⟨q0, q1, q2, q3⟩ := zero_slotsQ hr5
      obtain ⟨aa, cc, hv⟩ := ho5.shape
      subst hv
      generalize hRE : setsTo (unionsF (swC L L.length)) 128 = R at ho5 ⊢
      have HO5 := hide ho5
      have HB5 := hide (H0.out.trans ((HB.out.mono (by omega)).trans ((Below.refl _ _).drew.trans (hb5.mono (by show w.heap.size ≤ wr.heap.size; omega)))))
      refine ⟨_, rfl, hS5, ?_⟩
      simp only [Act.put, List.getElem_toArray, List.getElem_cons_zero, List.getElem_cons_succ, List.setIfInBounds_toArray, List.set_cons_zero, List.set_cons_succ]
      refine wpAnyH_take (i := 6) (v := .agg #[.int .i64 (z.length : Int), .slice aa R.length cc]) rfl (by kernel_rfl) (by kernel_rfl) (by kernel_rfl) (fun _ _ _ h => h) (.inl ⟨rfl, fun w' _ => by go_simp⟩) hS5 ?_
      simp only [Act.put, List.getElem_toArray, List.getElem_cons_zero, List.getElem_cons_succ, List.setIfInBounds_toArray, List.set_cons_zero, List.set_cons_succ]
      have hSF : ((w5.setCell ⟨w.heap.size, 0, none⟩ (.int .i64 (z.length : Int))).setCell ⟨w.heap.size, 1, none⟩ (.slice aa R.length cc)).cell? ⟨b, o + 0, none⟩ = some (.slice p0 z.length c0) :=
        ((((Below.refl w.heap.size w5).setCell (p := ⟨w.heap.size, 0, none⟩) (Nat.le_refl _) (.int .i64 (z.length : Int))).setCell (p := ⟨w.heap.size, 1, none⟩) (Nat.le_refl _) (.slice aa R.length cc)).cell (p := ⟨b, o + 0, none⟩) HHB.out).trans hS5
      refine anyH_skip (i := 7) (by kernel_rfl) rfl rfl ((w5.setCell ⟨w.heap.size, 0, none⟩ (.int .i64 (z.length : Int))).setCell ⟨w.heap.size, 1, none⟩ (.slice aa R.length cc)) ?hq2 hSF ?_
      case hq2 => simp [go_sem, q0, q1, q2, q3]
      refine anyH_op (i := 8) (by kernel_rfl) rfl rfl (.bool true) _ ?hq3 hSF ?_
      case hq3 => simp [go_sem]
      refine wpAnyH_done (by kernel_rfl) ?_ _
      simp only [Act.put, List.getElem_toArray, List.getElem_cons_zero, List.getElem_cons_succ, List.setIfInBounds_toArray, List.set_cons_zero, List.set_cons_succ]
      clear hS hS5 hSF hb5 hr5 ho5 hu0
      go_wp2
      refine bodyPost_ret (v := .tuple #[.agg #[.int .i64 (z.length : Int), .slice aa R.length cc], .bool true]) (by simp [results, Try.results7, go_sem, q0, q1]) rfl ⟨_, by rw [hzz], ?_, ?_⟩
      · rw [hRE]
        have hfin := ((HO5.out.setLow ⟨w.heap.size, 0, none⟩ (show w.heap.size < wr.heap.size by omega) (.int .i64 (z.length : Int))).setLow ⟨w.heap.size, 1, none⟩ (show w.heap.size < wr.heap.size by omega) (.slice aa R.length cc))
        exact hfin.mono (show w.heap.size ≤ wr.heap.size by omega)
      · exact (HB5.out.setCell (Nat.le_refl _) _).setCell (Nat.le_refl _) _
end Go.Proofs.Ytcingpgehmdhdaa
