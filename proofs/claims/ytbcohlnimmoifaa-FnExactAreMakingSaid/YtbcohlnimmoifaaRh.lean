/- Contracts of the laws' functions for slices of slices: comparison, marks, whether they are held. -/
import Derived.Test.YtbcohlnimmoifaaRo
import Derived.Test.YtbcohlnimmoifaaHar
namespace Go.Proofs.Ytbcohlnimmoifaa
open Go.RowKit
set_option maxRecDepth 100000
section
variable {P : Program} {ops : Array Oper} {rest : List Oper} {o : Oper} {a : Act} {C : World → Prop} {Q : Act → Prop}
theorem q_at2 {t I : TypeId} (ht : P.underlying t = some (.slice I)) (hI : (P.info? I).map (·.size) = some 1) (hw : Region.wanted o (yielded ops a.tmps) = true)
    (x y : Operand) (ho : o.op = .indexAddr t x y) (v : Value) (hx : a.eval x = v) (i : Int) (hy : a.eval y = .int .i64 i) (k : Nat) (hik : i = (k : Int)) (B : Nat) (L : List (List Int)) (w0 : World) (hl : rows B w0 v L) (hk : k < L.length)
    (h : ∀ (ad : Addr) (u : Value), w0.cell? ad = some u → ad.block < B → ints B w0 u (L[k]?.getD []) → wpQuiet P ops C Q rest (a.put o.dst (.pointer (some ad)))) : wpQuiet P ops C Q (o :: rest) a := by
  subst hik
  rcases hl with ⟨rfl, _⟩ | ⟨b, of, c, rfl, h2, h3, h4⟩
  · simp at hk
  have he : P.underlying t = some (.slice (P.elem t)) := by
    rw [ht]; simp [Program.elem, ht]
  have hE : P.elem t = I := by simp [Program.elem, ht]
  obtain ⟨u, hu, hi⟩ := h4 k hk
  refine BigFrame.wpQuiet_want hw fun K hK => ⟨_, fun w hC => ?_, hK _ (h ⟨b, of + k, none⟩ u hu h2 hi)⟩
  have hr : (Instr.indexAt t (.slice (some ⟨b, of, none⟩) L.length c) (.int .i64 (k : Int))).run P w = .ok (.pointer (some ⟨b, of + k, none⟩)) w := by
    rw [run_indexAt_slice (h := he), if_pos (by omega), hE, run_sizeOf' hI]
    simp [Addr.add]
  unfold Oper.quietAt execOp
  simp only [ho, hx, hy, Sem.run_bind, Sem.run_pure, hr, Result.andThen_ok]
  exact ⟨rfl, rfl⟩
end
theorem q_callB {P : Program} {ops : Array Oper} {rest : List Oper} {o : Oper} {a : Act} {w : World} {Q : Act → Prop} (hw : Region.wanted o (yielded ops a.tmps) = true) (k : FuncId) (hk : enters P k) (xs : Array Operand) (ts : Array TypeId)
    (ho : o.op = .call { callee := .value (.func k), args := xs, argTypes := ts }) (args : Array Value) (hal : xs.toList.map a.eval = args.toList) (v : Value)
    (hc : ∀ w', Below w.heap.size w w' → Calls P k args w' fun e w'' => e = .returned v ∧ Below w'.heap.size w' w'')
    (h : wpQuiet P ops (fun w' => Below w.heap.size w w') Q rest (a.put o.dst v)) : wpQuiet P ops (fun w' => Below w.heap.size w w') Q (o :: rest) a :=
  q_call hw k hk xs ts ho args (Array.toList_inj.1 (by simpa using hal)) v hc h
theorem sliceT2 : Try.prog.underlying 25 = some (.slice 22) := by kernel_rfl
theorem rowI2 : (Try.prog.info? 22).map (fun i => (i.zero, i.size, i.bytes)) = some (some (.slice none 0 0), 1, 24) := by kernel_rfl
theorem rowS2 : (Try.prog.info? 22).map (·.size) = some 1 := by kernel_rfl
theorem ent_eqIntS : enters Try.prog 23 := enters_of Try.func23 (by kernel_rfl) (by kernel_rfl)
def small2 (L : List (List Int)) : Prop := L.length < 2000000 ∧ tot L < 2000000
theorem small2.row {L : List (List Int)} (h : small2 L) (k : Nat) (hk : k < L.length) : (L[k]?.getD []).length < 2000000 := by
  have := row_le L k hk
  have := h.2
  omega
theorem small2_nil : small2 [] := ⟨by simp, by simp [tot, totTo]⟩
theorem totTo_le (L : List (List Int)) (c : Nat) (h : ∀ r ∈ L, r.length ≤ c) : ∀ k, k ≤ L.length → totTo L k ≤ k * c
  | 0, _ => by simp [totTo]
  | k + 1, hk => by
    have h1 := totTo_le L c h k (by omega)
    have h2 := h (L[k]) (List.getElem_mem (by omega))
    rw [totTo, Nat.add_mul, Nat.one_mul, List.getElem?_eq_getElem (by omega), Option.getD_some]
    omega
theorem small2_of (L : List (List Int)) (c : Nat) (h : ∀ r ∈ L, r.length ≤ c) (hl : L.length < 1000000) (hc : L.length * c < 1000000) : small2 L :=
  ⟨by omega, by have := totTo_le L c h L.length (Nat.le_refl _); unfold tot; omega⟩
set_option maxHeartbeats 1000000 in
theorem eqIntSS_same_c (va vb : Value) (L : List (List Int)) (w : World) (ha : rows w.heap.size w va L) (hb : rows w.heap.size w vb L) (hs : small2 L) :
    Calls Try.prog 11 #[va, vb] w fun e w' => e = .returned (.bool true) ∧ Below w.heap.size w w' := by
  have HA := hide ha
  have HB := hide hb
  have HS := hide hs
  have hll := hs.1
  clear ha hb hs
  go_enter Try.func11, Try.ntmps11
  go_wp2_with (first
    | (refine wpList_len2 sliceT2 rfl (.tmp 6) rfl va rfl w.heap.size L HA.out ?_)
    | (refine wpList_len2 sliceT2 rfl (.tmp 8) rfl vb rfl w.heap.size L HB.out ?_))
  go_loopw [5] (fun i wr => ∃ k : Nat, k ≤ L.length ∧ i = .int .i64 (k : Int) ∧ Hid (Below w.heap.size w wr)) (fun i _ => L.length - (intOf i).toNat)
  case atStart => exact ⟨0, Nat.zero_le _, rfl, Below.refl _ _⟩
  case round =>
    obtain ⟨k, hk, rfl, HW⟩ := hrel
    have HAW := hide ((HA.out.below HW.out (Nat.le_refl _)).mono HW.out.size)
    have HBW := hide ((HB.out.below HW.out (Nat.le_refl _)).mono HW.out.size)
    have hsz := HW.out.size
    by_cases hlt : k < L.length
    · have hrw := HS.out.row k hlt
      go_wp2_with (refine wpList_len2 sliceT2 rfl (.tmp _) rfl va rfl wr.heap.size L HAW.out ?_)
      refine wp_region_old (by kernel_rfl) (by kernel_rfl) ?_
      go_big_quiet_step ((first | exact fun _ => rfl | exact fun _ => ⟨rfl, rfl⟩))
      go_big_quiet_step ((first | exact fun _ => rfl | exact fun _ => ⟨rfl, rfl⟩))
      refine q_at2 sliceT2 rowS2 rfl (.tmp _) (.tmp _) rfl va rfl _ rfl k rfl wr.heap.size L wr HAW.out hlt ?_
      intro ad u hcell hblk hu
      have HU := hide hu
      clear hu
      simp only [Act.put, List.setIfInBounds_toArray, List.set_cons_zero, List.set_cons_succ]
      refine q_load_cell rowS rfl (.tmp _) rfl ad rfl u (fun w' h => (h.cell (by omega)).trans hcell) ?_
      simp only [Act.put, List.setIfInBounds_toArray, List.set_cons_zero, List.set_cons_succ]
      go_big_quiet_step ((first | exact fun _ => rfl | exact fun _ => ⟨rfl, rfl⟩))
      go_big_quiet_step ((first | exact fun _ => rfl | exact fun _ => ⟨rfl, rfl⟩))
      refine q_at2 sliceT2 rowS2 rfl (.tmp _) (.tmp _) rfl vb rfl _ rfl k rfl wr.heap.size L wr HBW.out hlt ?_
      intro ad2 u2 hcell2 hblk2 hu2
      have HU2 := hide hu2
      clear hu2
      simp only [Act.put, List.setIfInBounds_toArray, List.set_cons_zero, List.set_cons_succ]
      refine q_load_cell rowS rfl (.tmp _) rfl ad2 rfl u2 (fun w' h => (h.cell (by omega)).trans hcell2) ?_
      simp only [Act.put, List.setIfInBounds_toArray, List.set_cons_zero, List.set_cons_succ]
      refine q_callB rfl 23 ent_eqIntS _ _ rfl #[u, u2] rfl (.bool true) (fun w' hb => eqIntS_same_c u u2 _ w' ((HU.out.below hb (Nat.le_refl _)).mono hb.size) ((HU2.out.below hb (Nat.le_refl _)).mono hb.size) (by omega)) ?_
      simp only [Act.put, List.setIfInBounds_toArray, List.set_cons_zero, List.set_cons_succ]
      go_big_quiet_step ((first | exact fun _ => rfl | exact fun _ => ⟨rfl, rfl⟩))
      refine wpQuiet_nil ?_
      intro w2 hb2
      clear hcell hcell2
      have HW2 := hide (HW.out.trans (hb2.mono hsz))
      clear hb2
      go_wp2
      go_roundw
      case rel => exact ⟨k + 1, by omega, by go_num, HW2⟩
      case measure => simp [intOf]; omega
    · have hlt' : ¬ ((k : Int) < (L.length : Int)) := by omega
      go_wp2_with (refine wpList_len2 sliceT2 rfl (.tmp _) rfl va rfl wr.heap.size L HAW.out ?_)
      go_ret
      exact ⟨rfl, HW.out⟩

end Go.Proofs.Ytbcohlnimmoifaa
