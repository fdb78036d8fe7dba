/- Contracts of the laws' functions for slices of slices: comparison, marks, whether they are held. -/
import Derived.Test.YtblglkgmnaklbaaDoorRo
import Derived.Test.YtblglkgmnaklbaaDoorHar
namespace Go.Proofs.YtblglkgmnaklbaaDoor
open Go.RowKit
set_option maxRecDepth 100000
section
variable {P : Program} {ops : Array Oper} {rest : List Oper} {o : Oper} {a : Act} {C : World → Prop} {Q : Act → Prop}
theorem q_at2 {t I : TypeId} (ht : P.underlying t = some (.slice I)) (hI : (P.info? I).map (·.size) = some 1) (hw : Region.wanted o (yielded ops a.tmps) = true)
    (x y : Operand) (ho : o.op = .indexAddr t x y) (v : Value) (hx : a.eval x = v) (i : Int) (hy : a.eval y = .int .i64 i) (k : Nat) (hik : i = (k : Int)) (B : Nat) (L : List (List Int)) (w0 : World) (hl : rows B w0 v L) (hk : k < L.length)
    (h : ∀ (ad : Addr) (u : Value), w0.cell? ad = some u → ad.block < B → ints B w0 u (L[k]?.getD []) → wpQuiet P ops C Q rest (a.put o.dst (.pointer (some ad)))) : wpQuiet P ops C Q (o :: rest) a := by
  subst hik
  rcases hl with ⟨rfl, _⟩ | ⟨b, of, c, rfl, h2, h3, h4⟩
  · simp at hk
  have he : P.underlying t = some (.slice (P.elem t)) := by
    rw [ht]; simp [Program.elem, ht]
  have hE : P.elem t = I := by simp [Program.elem, ht]
  obtain ⟨u, hu, hi⟩ := h4 k hk
  refine BigFrame.wpQuiet_want hw fun K hK => ⟨_, fun w hC => ?_, hK _ (h ⟨b, of + k, none⟩ u hu h2 hi)⟩
  have hr : (Instr.indexAt t (.slice (some ⟨b, of, none⟩) L.length c) (.int .i64 (k : Int))).run P w = .ok (.pointer (some ⟨b, of + k, none⟩)) w := by
    rw [run_indexAt_slice (h := he), if_pos (by omega), hE, run_sizeOf' hI]
    simp [Addr.add]
  unfold Oper.quietAt execOp
  simp only [ho, hx, hy, Sem.run_bind, Sem.run_pure, hr, Result.andThen_ok]
  exact ⟨rfl, rfl⟩
end
theorem q_callB {P : Program} {ops : Array Oper} {rest : List Oper} {o : Oper} {a : Act} {w : World} {Q : Act → Prop} (hw : Region.wanted o (yielded ops a.tmps) = true) (k : FuncId) (hk : enters P k) (xs : Array Operand) (ts : Array TypeId)
    (ho : o.op = .call { callee := .value (.func k), args := xs, argTypes := ts }) (args : Array Value) (hal : xs.toList.map a.eval = args.toList) (v : Value)
    (hc : ∀ w', Below w.heap.size w w' → Calls P k args w' fun e w'' => e = .returned v ∧ Below w'.heap.size w' w'')
    (h : wpQuiet P ops (fun w' => Below w.heap.size w w') Q rest (a.put o.dst v)) : wpQuiet P ops (fun w' => Below w.heap.size w w') Q (o :: rest) a :=
  q_call hw k hk xs ts ho args (Array.toList_inj.1 (by simpa using hal)) v hc h
theorem sliceT2 : Tryd.prog.underlying 26 = some (.slice 22) := by kernel_rfl
theorem rowI2 : (Tryd.prog.info? 22).map (fun i => (i.zero, i.size, i.bytes)) = some (some (.slice none 0 0), 1, 24) := by kernel_rfl
theorem rowS2 : (Tryd.prog.info? 22).map (·.size) = some 1 := by kernel_rfl
theorem ent_eqIntS : enters Tryd.prog 28 := enters_of Tryd.func28 (by kernel_rfl) (by kernel_rfl)
def small2 (L : List (List Int)) : Prop := L.length < 2000000 ∧ tot L < 2000000
theorem small2.row {L : List (List Int)} (h : small2 L) (k : Nat) (hk : k < L.length) : (L[k]?.getD []).length < 2000000 := by
  have := row_le L k hk
  have := h.2
  omega
theorem small2_nil : small2 [] := ⟨by simp, by simp [tot, totTo]⟩
theorem totTo_le (L : List (List Int)) (c : Nat) (h : ∀ r ∈ L, r.length ≤ c) : ∀ k, k ≤ L.length → totTo L k ≤ k * c
  | 0, _ => by simp [totTo]
  | k + 1, hk => by
    have h1 := totTo_le L c h k (by omega)
    have h2 := h (L[k]) (List.getElem_mem (by omega))
    rw [totTo, Nat.add_mul, Nat.one_mul, List.getElem?_eq_getElem (by omega), Option.getD_some]
    omega
theorem small2_of (L : List (List Int)) (c : Nat) (h : ∀ r ∈ L, r.length ≤ c) (hl : L.length < 1000000) (hc : L.length * c < 1000000) : small2 L :=
  ⟨by omega, by have := totTo_le L c h L.length (Nat.le_refl _); unfold tot; omega⟩
set_option maxHeartbeats 1000000 in
theorem eqIntSS_same_c (va vb : Value) (L : List (List Int)) (w : World) (ha : rows w.heap.size w va L) (hb : rows w.heap.size w vb L) (hs : small2 L) :
    Calls Tryd.prog 11 #[va, vb] w fun e w' => e = .returned (.bool true) ∧ Below w.heap.size w w' := by
  have HA := hide ha
  have HB := hide hb
  have HS := hide hs
  have hll := hs.1
  clear ha hb hs
  go_enter Tryd.func11, Tryd.ntmps11
  go_wp2_with (first
    | (refine wpList_len2 sliceT2 rfl (.tmp 6) rfl va rfl w.heap.size L HA.out ?_)
    | (refine wpList_len2 sliceT2 rfl (.tmp 8) rfl vb rfl w.heap.size L HB.out ?_))
  go_loopw [5] (fun i wr => ∃ k : Nat, k ≤ L.length ∧ i = .int .i64 (k : Int) ∧ Hid (Below w.heap.size w wr)) (fun i _ => L.length - (intOf i).toNat)
  case atStart => exact ⟨0, Nat.zero_le _, rfl, Below.refl _ _⟩
  case round =>
    obtain ⟨k, hk, rfl, HW⟩ := hrel
    have HAW := hide ((HA.out.below HW.out (Nat.le_refl _)).mono HW.out.size)
    have HBW := hide ((HB.out.below HW.out (Nat.le_refl _)).mono HW.out.size)
    have hsz := HW.out.size
    by_cases hlt : k < L.length
    · have hrw := HS.out.row k hlt
      go_wp2_with (refine wpList_len2 sliceT2 rfl (.tmp _) rfl va rfl wr.heap.size L HAW.out ?_)
      refine wp_region_old (by kernel_rfl) (by kernel_rfl) ?_
      go_big_quiet_step ((first | exact fun _ => rfl | exact fun _ => ⟨rfl, rfl⟩))
      go_big_quiet_step ((first | exact fun _ => rfl | exact fun _ => ⟨rfl, rfl⟩))
      refine q_at2 sliceT2 rowS2 rfl (.tmp _) (.tmp _) rfl va rfl _ rfl k rfl wr.heap.size L wr HAW.out hlt ?_
      intro ad u hcell hblk hu
      have HU := hide hu
      clear hu
      simp only [Act.put, List.setIfInBounds_toArray, List.set_cons_zero, List.set_cons_succ]
      refine q_load_cell rowS rfl (.tmp _) rfl ad rfl u (fun w' h => (h.cell (by omega)).trans hcell) ?_
      simp only [Act.put, List.setIfInBounds_toArray, List.set_cons_zero, List.set_cons_succ]
      go_big_quiet_step ((first | exact fun _ => rfl | exact fun _ => ⟨rfl, rfl⟩))
      go_big_quiet_step ((first | exact fun _ => rfl | exact fun _ => ⟨rfl, rfl⟩))
      refine q_at2 sliceT2 rowS2 rfl (.tmp _) (.tmp _) rfl vb rfl _ rfl k rfl wr.heap.size L wr HBW.out hlt ?_
      intro ad2 u2 hcell2 hblk2 hu2
      have HU2 := hide hu2
      clear hu2
      simp only [Act.put, List.setIfInBounds_toArray, List.set_cons_zero, List.set_cons_succ]
      refine q_load_cell rowS rfl (.tmp _) rfl ad2 rfl u2 (fun w' h => (h.cell (by omega)).trans hcell2) ?_
      simp only [Act.put, List.setIfInBounds_toArray, List.set_cons_zero, List.set_cons_succ]
      refine q_callB rfl 28 ent_eqIntS _ _ rfl #[u, u2] rfl (.bool true) (fun w' hb => eqIntS_same_c u u2 _ w' ((HU.out.below hb (Nat.le_refl _)).mono hb.size) ((HU2.out.below hb (Nat.le_refl _)).mono hb.size) (by omega)) ?_
      simp only [Act.put, List.setIfInBounds_toArray, List.set_cons_zero, List.set_cons_succ]
      go_big_quiet_step ((first | exact fun _ => rfl | exact fun _ => ⟨rfl, rfl⟩))
      refine wpQuiet_nil ?_
      intro w2 hb2
      clear hcell hcell2
      have HW2 := hide (HW.out.trans (hb2.mono hsz))
      clear hb2
      go_wp2
      go_roundw
      case rel => exact ⟨k + 1, by omega, by go_num, HW2⟩
      case measure => simp [intOf]; omega
    · have hlt' : ¬ ((k : Int) < (L.length : Int)) := by omega
      go_wp2_with (refine wpList_len2 sliceT2 rfl (.tmp _) rfl va rfl wr.heap.size L HAW.out ?_)
      go_ret
      exact ⟨rfl, HW.out⟩

set_option maxHeartbeats 1000000 in
theorem markIntSS_c (v : Value) (L : List (List Int)) (k0 : Nat) (w : World) (base : Nat) (hl : own2 22 3 w base v L) (hs : small2 L) (hk0 : k0 < 1000000) (hbase : base ≤ w.heap.size) :
    Calls Tryd.prog 14 #[v, .int .i64 (k0 : Int)] w fun e w' => e = .returned (.int .i64 ((k0 : Int) + (tot L : Int))) ∧ own2 22 3 w' base v (marksR k0 L) ∧ Below base w w' := by
  have HL := hide hl
  have HS := hide hs
  have hll := hs.1
  have htt := hs.2
  clear hl hs
  go_enter Tryd.func14, Tryd.ntmps14
  go_wp2_with fail
  go_loopw [1, 5] (fun kk i wr => ∃ k : Nat, k ≤ L.length ∧ i = .int .i64 (k : Int) ∧ kk = .int .i64 ((k0 : Int) + (totTo L k : Int)) ∧ Hid (Below base w wr) ∧ Hid (∃ M, own2 22 3 wr base v M ∧ M.length = L.length ∧ (∀ j, j < k → M[j]?.getD [] = upFrom ((k0 : Int) + (totTo L j : Int)) (L[j]?.getD []).length) ∧ ∀ j, k ≤ j → M[j]?.getD [] = L[j]?.getD [])) (fun _ i _ => L.length - (intOf i).toNat)
  case atStart => exact ⟨0, Nat.zero_le _, rfl, by simp [totTo], Below.refl _ _, ⟨L, HL.out, rfl, fun j hj => by omega, fun _ _ => rfl⟩⟩
  case round =>
    obtain ⟨k, hk, rfl, rfl, HB, HM⟩ := hrel
    obtain ⟨M, hm, hml, hm1, hm2⟩ := HM.out
    have HMM := hide hm
    have HML := hide hml
    have HM1 := hide hm1
    have HM2 := hide hm2
    have HMR := hide hm.rows
    have hsz := HB.out.size
    have htk := totTo_mono L k L.length hk
    have htd : totTo L L.length = tot L := rfl
    have HTN := hide (show totTo L (k + 1) = totTo L k + (L[k]?.getD []).length from rfl)
    clear HM hm hm1 hm2
    by_cases hlt : k < L.length
    · have hrl := row_le L k hlt
      have hlt2 : k < M.length := by omega
      have hltm : (k : Int) < (M.length : Int) := by omega
      obtain ⟨b, c, u, hv, hcell, hu, hset⟩ := HMM.out.row k hlt2
      rw [HM2.out k (Nat.le_refl _)] at hu
      have HV := hide hv
      have HU := hide hu
      have HSET := hide hset
      generalize hlk : L[k]?.getD [] = r at hrl hu HU HTN
      generalize htt2 : totTo L k = T at htk hrl HTN
      have HLK := hide hlk
      have HTT := hide htt2
      clear hv hu hset hml hlk htt2
      go_wp2_with (first
        | (refine wpList_len2 sliceT2 rfl (.tmp _) rfl v rfl wr.heap.size M HMR.out ?_)
        | (refine wpList_atB sliceT2 rowS2 rfl (.tmp _) (.tmp _) rfl b M.length c (Eq.trans rfl HV.out) _ rfl k rfl hlt2 ?_)
        | (go_at_call 29; refine (markIntS_c u r ((k0 : Int) + (T : Int)) wr base HU.out (by omega) (by omega) (by omega)).mono ?_; rintro e w2 ⟨rfl, ho2, hb2⟩; have HO2 := hide ho2; have HB2 := hide hb2; clear ho2 hb2))
      go_roundw
      case rel =>
        refine ⟨k + 1, by omega, by go_num, by rw [HTN.out]; go_num, HB.out.trans (HB2.out.below base HU.out.base (by omega)), ⟨M.set k (upFrom ((k0 : Int) + (T : Int)) r.length), HSET.out _ _ HO2.out HB2.out, by rw [List.length_set]; exact HML.out, fun j hj => ?_, fun j hj => ?_⟩⟩
        · rcases Nat.lt_or_ge j k with h | h
          · rw [List.getElem?_set_ne (by omega)]; exact HM1.out j h
          · have : j = k := by omega
            subst this
            rw [List.getElem?_set_self hlt2, HTT.out, HLK.out]; rfl
        · rw [List.getElem?_set_ne (by omega)]; exact HM2.out j (by omega)
      case measure => simp [intOf]; omega
    · have HK := hide (show k = L.length by omega)
      have hlt' : ¬ ((k : Int) < (M.length : Int)) := by omega
      clear hml
      go_wp2_with (refine wpList_len2 sliceT2 rfl (.tmp _) rfl v rfl wr.heap.size M HMR.out ?_)
      go_ret
      refine ⟨ret_i (by rw [HK.out]; rfl), ?_, HB.out⟩
      have e : M = marksR k0 L := rows_eq (by rw [HML.out, marksR_len]) fun j hj => by
        rw [marksR_len] at hj
        rw [marksR_at _ _ _ hj]
        exact HM1.out j (by rw [HK.out]; exact hj)
      rw [← e]; exact HMM.out

set_option maxHeartbeats 1000000 in
theorem heldIntSS_c (v : Value) (L : List (List Int)) (k0 : Nat) (w : World) (hl : rows w.heap.size w v (marksR k0 L)) (hs : small2 L) (hk0 : k0 < 1000000) :
    Calls Tryd.prog 15 #[v, .int .i64 (k0 : Int)] w fun e w' => e = .returned (.int .i64 ((k0 : Int) + (tot L : Int))) ∧ w = w' := by
  have HL := hide hl
  have HS := hide hs
  have hll := hs.1
  have htt := hs.2
  have hml : (marksR k0 L).length = L.length := marksR_len _ _
  have HAT := hide (marksR_at (k0 : Int) L)
  clear hl hs
  generalize marksR k0 L = M at HL hml HAT
  go_enter Tryd.func15, Tryd.ntmps15
  go_wp2_with fail
  go_loop [1, 5] (fun kk i => ∃ k : Nat, k ≤ L.length ∧ i = .int .i64 (k : Int) ∧ kk = .int .i64 ((k0 : Int) + (totTo L k : Int))) (fun _ i => L.length - (intOf i).toNat)
  case atStart => exact ⟨0, Nat.zero_le _, rfl, by simp [totTo]⟩
  case round =>
    obtain ⟨k, hk, rfl, rfl⟩ := hrel
    have htk := totTo_mono L k L.length hk
    have htd : totTo L L.length = tot L := rfl
    have HTN := hide (show totTo L (k + 1) = totTo L k + (L[k]?.getD []).length from rfl)
    have HML := hide hml
    by_cases hlt : k < L.length
    · have hrl := row_le L k hlt
      have hlt2 : k < M.length := by omega
      have hltm : (k : Int) < (M.length : Int) := by omega
      have HR := hide (HAT.out k hlt)
      generalize (L[k]?.getD []).length = r at hrl HTN HR
      generalize totTo L k = T at htk hrl HTN HR
      have hnn : ¬ ((k0 : Int) + (T : Int) + (r : Int) < 0) := by omega
      clear hml
      go_wp2_with (first
        | (refine wpList_len2 sliceT2 rfl (.tmp _) rfl v rfl w.heap.size M HL.out ?_)
        | (refine wpList_at2 sliceT2 rowS2 rfl (.tmp _) (.tmp _) rfl v rfl _ rfl k rfl w.heap.size M HL.out hlt2 ?_; intro ad u hcell hblk hu; rw [HR.out] at hu; have HU := hide hu; clear hu)
        | (go_at_call 30; refine (heldIntS_c u r ((k0 : Int) + (T : Int)) w HU.out (by omega) (by omega) (by omega)).mono ?_; rintro e w2 ⟨rfl, rfl⟩))
      go_round
      case rel => exact ⟨k + 1, by omega, by go_num, by rw [HTN.out]; go_num⟩
      case measure => simp [intOf]; omega
    · have HK := hide (show k = L.length by omega)
      have hlt' : ¬ ((k : Int) < (M.length : Int)) := by omega
      clear hml
      go_wp2_with (refine wpList_len2 sliceT2 rfl (.tmp _) rfl v rfl w.heap.size M HL.out ?_)
      go_ret
      exact ⟨ret_i (by rw [HK.out]; rfl), rfl⟩
theorem markIntSS1_c (v : Value) (L : List (List Int)) (w : World) (base : Nat) (hl : own2 22 3 w base v L) (hs : small2 L) (hbase : base ≤ w.heap.size) :
    Calls Tryd.prog 14 #[v, .int .i64 1] w fun e w' => e = .returned (.int .i64 (1 + (tot L : Int))) ∧ own2 22 3 w' base v (marksR 1 L) ∧ Below base w w' :=
  markIntSS_c v L 1 w base hl hs (by omega) hbase
theorem heldIntSS1_c (v : Value) (L : List (List Int)) (w : World) (hl : rows w.heap.size w v (marksR 1 L)) (hs : small2 L) :
    Calls Tryd.prog 15 #[v, .int .i64 1] w fun e w' => e = .returned (.int .i64 (1 + (tot L : Int))) ∧ w = w' :=
  heldIntSS_c v L 1 w hl hs (by omega)
end Go.Proofs.YtblglkgmnaklbaaDoor
