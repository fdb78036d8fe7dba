/- Contracts: EndsSpace, the program's. -/
import Derived.Test.YtonimjpfaalniaaEa
import Derived.Test.YtonimjpfaalniaaAx
namespace Go.Proofs.Ytonimjpfaalniaa
open Go.RowKit
set_option maxRecDepth 100000
set_option linter.unusedSimpArgs false
def esL (n : Int) (L : List (List Int)) : List Int := if osB n L then setsTo (prOut (osL n L) (osL n (turnL L)) (osL n L).length) 128 else []
theorem esL_no {n : Int} {L : List (List Int)} (h : osB n L = false) : esL n L = [] := by simp [esL, h]
theorem esL_len (n : Int) (L : List (List Int)) : (esL n L).length < 1000000000 := by
  unfold esL
  split
  · have := setsTo_len (prOut (osL n L) (osL n (turnL L)) (osL n L).length) 128; omega
  · simp
theorem os_in {n : Int} {L : List (List Int)} (h : osB n L = true) : 1 ≤ n ∧ n ≤ 7 ∧ prA n L = true ∧ spaceB (osF n.toNat L) n.toNat = true := by
  unfold osB ordOk at h
  simp only [Bool.and_eq_true, decide_eq_true_eq] at h
  exact ⟨h.1.1, h.1.2, h.2.1, h.2.2⟩
theorem os_ok {n : Int} {L : List (List Int)} (h : osB n L = true) : okSp n (osL n L) = true := by
  obtain ⟨h1, h7, _, h4⟩ := os_in h
  rw [(osNL_yes h).2.1]
  obtain ⟨m, rfl⟩ := Int.eq_ofNat_of_zero_le (show 0 ≤ n by omega)
  rw [Int.toNat_natCast] at h4 ⊢
  have := okSp_sets m (osF m L) (by omega) (by omega) fun x hx => (osF_iff.1 hx).1
  rw [h4] at this
  exact this
theorem es_both {n : Int} {L : List (List Int)} (h : osB n L = true) : osB n (turnL L) = true := by
  obtain ⟨h1, h7, h3, _⟩ := os_in h
  obtain ⟨m, rfl⟩ := Int.eq_ofNat_of_zero_le (show 0 ≤ n by omega)
  rw [os_turn (by omega) (by omega) h3]; exact h
theorem es_us {n : Int} {L : List (List Int)} (h : osB n L = true) : usB (osN n L) (osL n L) (osN n (turnL L)) (osL n (turnL L)) = true ∧ usN (osN n L) (osL n L) (osN n (turnL L)) (osL n (turnL L)) = osN n L ∧ usL (osN n L) (osL n L) (osN n (turnL L)) (osL n (turnL L)) = esL n L := by
  have h2 := es_both h
  have e1 := (osNL_yes h).1
  have e2 := (osNL_yes h2).1
  have k : usB (osN n L) (osL n L) (osN n (turnL L)) (osL n (turnL L)) = true := by
    rw [e1, e2]; exact usB_yes (os_ok h) (os_ok h2) rfl
  exact ⟨k, usN_yes k, by rw [usL_yes k, esL, if_pos h]⟩
theorem turn_small {n : Int} {L : List (List Int)} (h : prA n L = true) : small2 (turnL L) := by
  have hl := (prA_in h).1
  refine small2_of _ 2 (fun r hr => ?_) (by rw [turn_len]; omega) (by rw [turn_len]; omega)
  unfold turnL at hr
  rw [List.mem_map] at hr
  obtain ⟨_, _, rfl⟩ := hr
  simp
theorem own_pairE (I : TypeId) (w : World) (x y : Int) : own I (w.alloc (.cells #[.int .i64 x, .int .i64 y] I)) w.heap.size (.slice (some ⟨w.heap.size, 0, none⟩) 2 2) [x, y] :=
  ⟨by simp, .inr ⟨w.heap.size, 2, #[.int .i64 x, .int .i64 y], rfl, Nat.le_refl _, hp_last _ _, Nat.le_refl _, by unfold maxLen; omega, by simp, by simp⟩⟩
theorem yields_atE {P : Program} {ops : Array Oper} {S : World → Prop} {a : Act} {t I : TypeId} (ht : P.underlying t = some (.slice I)) (hI : (P.info? I).map (·.size) = some 1) {o : Oper} (hw : Region.wanted o (yielded ops a.tmps) = true) (x y : Operand) (ho : o.op = .indexAddr t x y)
    (b of n c k : Nat) (hx : a.eval x = .slice (some ⟨b, of, none⟩) n c) (hy : a.eval y = .int .i64 (k : Int)) (hk : k < n) : YieldsIf P ops S o (.pointer (some ⟨b, of + k, none⟩)) a := by
  have he : P.underlying t = some (.slice (P.elem t)) := by
    rw [ht]; simp [Program.elem, ht]
  have hE : P.elem t = I := by simp [Program.elem, ht]
  refine .inl ⟨hw, fun w _ => ?_⟩
  have hr : (Instr.indexAt t (.slice (some ⟨b, of, none⟩) n c) (.int .i64 (k : Int))).run P w = .ok (.pointer (some ⟨b, of + k, none⟩)) w := by
    rw [run_indexAt_slice (h := he), if_pos (by omega), hE, run_sizeOf' hI]
    simp [Addr.add]
  unfold execOp
  simp only [ho, hx, hy, Sem.run_bind, Sem.run_pure, hr, Result.andThen_ok]
theorem turn_take (L : List (List Int)) (k : Nat) (hk : k < L.length) : turnL (L.take (k + 1)) = turnL (L.take k) ++ [[r1 (L[k]?.getD []), r0 (L[k]?.getD [])]] := by
  unfold turnL
  rw [List.take_add_one, List.map_append, List.getElem?_eq_getElem hk]
  rfl
attribute [local irreducible] p2 low memB risB
set_option maxHeartbeats 4000000 in
theorem turnedPairs_c (n : Int) (u : Value) (L : List (List Int)) (w : World) (hl : rows w.heap.size w u L) (hA : prA n L = true) :
    Calls Try.prog 93 #[u] w fun e w' => ∃ v, e = .returned v ∧ own2 22 3 w' w.heap.size v (turnL L) ∧ Below w.heap.size w w' := by
  have HL := hide hl
  have hll := (prA_in hA).1
  have HP := hide (fun j hj => (pairB_in ((prA_in hA).2 j hj)).1)
  clear hl hA
  go_enter Try.func93, Try.ntmps93
  go_wp2_with (refine wpList_len2 sliceT2 rfl (.tmp _) rfl u rfl w.heap.size L HL.out ?_)
  go_loopw [3, 8] (fun t i wr => ∃ k : Nat, k ≤ L.length ∧ i = .int .i64 (k : Int) ∧ Hid (own2 22 3 wr w.heap.size t (turnL (L.take k))) ∧ Hid (Below w.heap.size w wr)) (fun _ i _ => L.length - (intOf i).toNat)
  case atStart => exact ⟨0, Nat.zero_le _, rfl, own2_nil _ _ _ _, Below.refl _ _⟩
  case round =>
    obtain ⟨k, hk, rfl, HO, HB⟩ := hrel
    have hsz := HB.out.size
    have HLW := hide (HL.out.below HB.out (Nat.le_refl _))
    obtain ⟨oa, oc, hso⟩ := HO.out.shape
    by_cases hlt : k < L.length
    · have HNX := hide (turn_take L k hlt)
      have h2 := HP.out k hlt
      have hol : (turnL (L.take k)).length = k := by rw [turn_len, List.length_take]; omega
      rw [hol] at hso
      subst hso
      generalize turnL (L.take k) = A at HO HNX hol
      generalize hr : L[k]?.getD [] = r at h2 HNX
      have HR := hide hr
      generalize hx : r0 r = x at HNX
      generalize hy : r1 r = y at HNX
      have HX := hide (show r[0]?.getD 0 = x from hx)
      have HY := hide (show r[1]?.getD 0 = y from hy)
      clear hr hx hy
      go_wp2_with (refine wpList_at2 sliceT2 rowS2 rfl (.tmp _) (.tmp _) rfl u rfl _ rfl k rfl w.heap.size L HLW.out hlt ?_; intro ad uu hcell hblk hu; rw [HR.out] at hu; have HU := hide hu; clear hu)
      obtain ⟨bb, of, cc, hv, hbb, hcs⟩ : ∃ b of c, uu = .slice (some ⟨b, of, none⟩) 2 c ∧ b < w.heap.size ∧ (wr.cell? ⟨b, of + 0, none⟩ = some (.int .i64 x) ∧ wr.cell? ⟨b, of + 1, none⟩ = some (.int .i64 y)) := by
        rcases HU.out with ⟨h0, _⟩ | ⟨b, o, c, h3, h4, h5, h6⟩
        · rw [h0] at h2; cases h2
        · refine ⟨b, o, c, by rw [h3, h2], h4, ?_, ?_⟩
          · rw [h6 0 (by omega), HX.out]
          · rw [h6 1 (by omega), HY.out]
      subst hv
      clear hcell
      refine wp_region_held (S := Below w.heap.size wr) (by kernel_rfl) ?_
      have hT0 : Below wr.heap.size wr { wr with drawn := wr.drawn + 1 } := (Below.refl _ _).drew
      generalize ({ wr with drawn := wr.drawn + 1 } : World) = C0 at hT0 ⊢
      have hS0 := hT0.mono hsz
      have hz0 : wr.heap.size ≤ C0.heap.size := hT0.size
      refine wpAnyH_take (i := 0) (v := .slice oa k oc) rfl (by kernel_rfl) (by kernel_rfl) (by kernel_rfl) (fun _ _ _ h => h) (.inl ⟨rfl, fun w' _ => by go_simp⟩) hS0 ?_
      simp only [Act.put, List.getElem_toArray, List.getElem_cons_zero, List.getElem_cons_succ, List.setIfInBounds_toArray, List.set_cons_zero, List.set_cons_succ]
      refine wpAnyH_take (i := 1) (v := .slice (some ⟨bb, of, none⟩) 2 cc) rfl (by kernel_rfl) (by kernel_rfl) (by kernel_rfl) (fun _ _ _ h => h) (.inl ⟨rfl, fun w' _ => by go_simp⟩) hS0 ?_
      simp only [Act.put, List.getElem_toArray, List.getElem_cons_zero, List.getElem_cons_succ, List.setIfInBounds_toArray, List.set_cons_zero, List.set_cons_succ]
      refine wpAnyH_take (i := 2) rfl (by kernel_rfl) (by kernel_rfl) (by kernel_rfl) (fun _ _ _ h => h) (yields_atE sliceT intS rfl (.tmp _) _ rfl bb of 2 cc 1 rfl rfl (by omega)) hS0 ?_
      simp only [Act.put, List.getElem_toArray, List.getElem_cons_zero, List.getElem_cons_succ, List.setIfInBounds_toArray, List.set_cons_zero, List.set_cons_succ]
      refine wpAnyH_take (i := 3) rfl (by kernel_rfl) (by kernel_rfl) (by kernel_rfl) (fun _ _ _ h => h) (yields_load_cell rowI rfl (.tmp _) rfl ⟨bb, of + 1, none⟩ rfl (.int .i64 y) (fun w' h => (h.cell (p := ⟨bb, of + 1, none⟩) hbb).trans hcs.2)) hS0 ?_
      simp only [Act.put, List.getElem_toArray, List.getElem_cons_zero, List.getElem_cons_succ, List.setIfInBounds_toArray, List.set_cons_zero, List.set_cons_succ]
      refine wpAnyH_take (i := 4) (v := .slice (some ⟨bb, of, none⟩) 2 cc) rfl (by kernel_rfl) (by kernel_rfl) (by kernel_rfl) (fun _ _ _ h => h) (.inl ⟨rfl, fun w' _ => by go_simp⟩) hS0 ?_
      simp only [Act.put, List.getElem_toArray, List.getElem_cons_zero, List.getElem_cons_succ, List.setIfInBounds_toArray, List.set_cons_zero, List.set_cons_succ]
      refine wpAnyH_take (i := 5) rfl (by kernel_rfl) (by kernel_rfl) (by kernel_rfl) (fun _ _ _ h => h) (yields_atE sliceT intS rfl (.tmp _) _ rfl bb of 2 cc 0 rfl rfl (by omega)) hS0 ?_
      simp only [Act.put, List.getElem_toArray, List.getElem_cons_zero, List.getElem_cons_succ, List.setIfInBounds_toArray, List.set_cons_zero, List.set_cons_succ]
      refine wpAnyH_take (i := 6) rfl (by kernel_rfl) (by kernel_rfl) (by kernel_rfl) (fun _ _ _ h => h) (yields_load_cell rowI rfl (.tmp _) rfl ⟨bb, of + 0, none⟩ rfl (.int .i64 x) (fun w' h => (h.cell (p := ⟨bb, of + 0, none⟩) hbb).trans hcs.1)) hS0 ?_
      simp only [Act.put, List.getElem_toArray, List.getElem_cons_zero, List.getElem_cons_succ, List.setIfInBounds_toArray, List.set_cons_zero, List.set_cons_succ]
      obtain ⟨B, hBe⟩ : ∃ B, B = C0.heap.size := ⟨_, rfl⟩
      have hpw := own_pairE 3 C0 y x
      rw [← hBe] at hpw
      have hT1 : Below wr.heap.size wr (C0.alloc (.cells #[.int .i64 y, .int .i64 x] 3)) := hT0.alloc hz0 _
      refine anyH_op (i := 7) (by kernel_rfl) rfl rfl (.slice (some ⟨B, 0, none⟩) 2 2) (C0.alloc (.cells #[.int .i64 y, .int .i64 x] 3)) (by simp [go_sem, hBe]) (hT1.mono hsz) ?_
      have hz1 : (C0.alloc (.cells #[.int .i64 y, .int .i64 x] 3)).heap.size = B + 1 := by simp [hBe]
      generalize C0.alloc (.cells #[.int .i64 y, .int .i64 x] 3) = C1 at hpw hT1 hz1 ⊢
      simp only [Act.put, List.getElem_toArray, List.getElem_cons_zero, List.getElem_cons_succ, List.setIfInBounds_toArray, List.set_cons_zero, List.set_cons_succ]
      have how := own2_one (T := 22) hpw (by omega)
      have hT2 : Below wr.heap.size wr (C1.alloc (.cells #[.slice (some ⟨B, 0, none⟩) 2 2] 22)) := hT1.alloc hT1.size _
      obtain ⟨B2, hBe2⟩ : ∃ B2, B2 = C1.heap.size := ⟨_, rfl⟩
      rw [← hBe2] at how
      refine anyH_op (i := 8) (by kernel_rfl) rfl rfl (.slice (some ⟨B2, 0, none⟩) 1 1) (C1.alloc (.cells #[.slice (some ⟨B, 0, none⟩) 2 2] 22)) (by simp [go_sem, hBe2]) (hT2.mono hsz) ?_
      generalize C1.alloc (.cells #[.slice (some ⟨B, 0, none⟩) 2 2] 22) = C2 at how hT2 ⊢
      simp only [Act.put, List.getElem_toArray, List.getElem_cons_zero, List.getElem_cons_succ, List.setIfInBounds_toArray, List.set_cons_zero, List.set_cons_succ]
      refine anyH_oneX (i := 9) (by kernel_rfl) rfl rfl ?_
      intro Q1 hQ1
      refine wpList_append2N sliceT2 rowI2 (by decide) rfl (.tmp _) (.tmp _) rfl w.heap.size (.slice oa A.length oc) A (show _ = Value.slice oa A.length oc by rw [hol]; rfl) wr (by rw [hol]; exact HO.out) hT2 _ [[y, x]] rfl (how.mono (by omega)) hsz (by rw [hol]; simp; omega) ?_
      intro v3 C3 ho3 hb3
      refine wpList_nil ?_
      have hS3 : Below w.heap.size wr C3 := (hT2.mono hsz).trans hb3
      refine hQ1 _ _ hS3 ?_
      simp only [Act.put, List.getElem_toArray, List.getElem_cons_zero, List.getElem_cons_succ, List.setIfInBounds_toArray, List.set_cons_zero, List.set_cons_succ]
      refine anyH_op (i := 10) (by kernel_rfl) rfl rfl v3 C3 (by simp [go_sem]) hS3 ?_
      refine wpAnyH_done (by kernel_rfl) ?_ _
      simp only [Act.put, List.getElem_toArray, List.getElem_cons_zero, List.getElem_cons_succ, List.setIfInBounds_toArray, List.set_cons_zero, List.set_cons_succ]
      have HO3 := hide ho3
      have HB3 := hide (HB.out.trans hS3)
      clear hS0 hT0 hT1 hT2 hS3 hb3 ho3 hpw how hQ1
      go_wp2
      go_roundw
      case rel => exact ⟨k + 1, by omega, by go_num, by rw [HNX.out]; exact HO3.out, HB3⟩
      case measure => (simp [intOf] <;> omega)
    · have HK := hide (show L.take k = L by rw [show k = L.length by omega]; exact List.take_length)
      have hlt' : ¬ ((k : Int) < (L.length : Int)) := by omega
      clear hso
      go_wp2
      go_ret
      exact ⟨_, rfl, by have h := HO.out; rw [HK.out] at h; exact h, HB.out⟩
end Go.Proofs.Ytonimjpfaalniaa
