/- The laws' functions on tasks: sizes, copies, equality, marks; and how tasks come in. -/
import Derived.Test.YtblglkgmnaklbaaDoorKd
import Derived.ProofKit
import Derived.OpenShut
import Derived.Deep.Slices
namespace Go.Proofs.YtblglkgmnaklbaaDoor
open Go.RowKit Go.ChangeShapes Go.WideShapes
set_option maxRecDepth 100000
set_option linter.unusedSimpArgs false
theorem kSlL : Tryd.prog.underlying 36 = some (.slice 69) := by kernel_rfl
theorem kSzL : (Tryd.prog.info? 69).map (·.size) = some 3 := by kernel_rfl
theorem kRwL : (Tryd.prog.underlying 69).map TypeDesc.isRow = some true := by kernel_rfl
theorem ent_eqTask : enters Tryd.prog 44 := enters_of Tryd.func44 (by kernel_rfl) (by kernel_rfl)
theorem szTaskS_c (v : Value) (T : List Tsk) (left : Int) (w : World) (hl : tks w.heap.size w v T) (hlen : T.length ≤ 9223372036854775807) (h1 : 0 ≤ left) (h2 : left ≤ 1048576) :
    Calls Tryd.prog 16 #[v, .int .i64 left] w fun e w' => e = .returned (.int .i64 (szOf left T.length)) ∧ w = w' := by
  have HSH := hide hl.shape
  clear hl
  by_cases h : left < (T.length : Int)
  all_goals
    have hw : IntKind.i64.wrap (left - (T.length : Int)) = left - (T.length : Int) := IntWalk.i64_in _ (by omega)
    have hneg : (left - (T.length : Int) < 0) = (left < (T.length : Int)) := by apply propext; omega
    go_enter Tryd.func16, Tryd.ntmps16
    go_wp2_with (refine wpList_lenK kSlL rfl (.tmp _) rfl v rfl T.length HSH.out ?_)
    go_ret
    exact ⟨ret_i (by unfold szOf; split <;> (first | rfl | omega)), rfl⟩
theorem toTask_c (t r b : Int) (w : World) : Calls Tryd.prog 41 #[.agg #[.int .i64 t, .int .i64 r, .int .i64 b]] w fun e w' => e = .returned (.agg #[.int .i64 t, .int .i64 r, .int .i64 b]) ∧ Below w.heap.size w w' := by
  go_enter Tryd.func41, Tryd.ntmps41
  go_wp2
  refine bodyPost_ret (v := .agg #[.int .i64 t, .int .i64 r, .int .i64 b]) (by simp [results, Tryd.results41, go_sem]) rfl ⟨rfl, ?_⟩
  repeat (first
    | exact Below.refl _ _
    | refine Below.alloc ?_ (by simp <;> omega) _
    | refine Below.setCell ?_ (by simp <;> omega) _)
section
variable {P : Program}
theorem wpList_ptrK {t I : TypeId} (ht : P.underlying t = some (.slice I)) (hI : (P.info? I).map (·.size) = some 3) {ops : Array Oper} {rest : List Oper} {o : Oper} {a : Act} {w : World} {Q : Exit → Act → World → Prop} (hw : Region.wanted o (yielded ops a.tmps) = true)
    (x y : Operand) (ho : o.op = .indexAddr t x y) (b n c k : Nat) (hx : a.eval x = .slice (some ⟨b, 0, none⟩) n c) (hy : a.eval y = .int .i64 (k : Int)) (hk : k < n)
    (h : wpList P ops Q rest (a.put o.dst (.pointer (some ⟨b, 3 * k, none⟩))) w) : wpList P ops Q (o :: rest) a w := by
  have hr := run_atK w ht hI b 0 n c k hk
  rw [Nat.zero_add] at hr
  refine wpList_of_wp hw fun K hK => ?_
  unfold Oper.wp execOp
  simp only [ho, hx, hy, Sem.run_bind, Sem.run_pure, hr, Result.andThen_ok]
  exact hK _ _ h
end
theorem wpList_makeK {ops : Array Oper} {rest : List Oper} {o : Oper} {a : Act} {w : World} {Q : Exit → Act → World → Prop}
    (hw : Region.wanted o (yielded ops a.tmps) = true) (x y : Operand) (ho : o.op = .makeSlice 40 x y) (T : List Tsk) (hx : a.eval x = .int .i64 (T.length : Int)) (hy : a.eval y = .int .i64 (T.length : Int)) (hn : T.length < 1000000000)
    (h : ∀ w' : World, w'.heap.size = w.heap.size + 1 → w'.heap[w.heap.size]? = some (.cells (tkFill T 0).toArray 67) → Below w.heap.size w w' → wpList Tryd.prog ops Q rest (a.put o.dst (.slice (some ⟨w.heap.size, 0, none⟩) T.length T.length)) w') : wpList Tryd.prog ops Q (o :: rest) a w := by
  obtain ⟨i0, hi, hz0, hz1, hz2⟩ := info_parts kIn
  have hr := run_make (P := Tryd.prog) w 40 67 i0 (.agg #[.int .i64 0, .int .i64 0, .int .i64 0]) kSl hi hz0 .i64 .i64 T.length T.length (by omega) (Int.le_refl _) (by rw [hz2]; omega) (by omega)
  simp only [Int.toNat_natCast] at hr
  refine wpList_of_wp hw fun K hK => ?_
  unfold Oper.wp execOp
  simp only [ho, hx, hy, Sem.run_bind, Sem.run_pure, hr, Result.andThen_ok]
  refine hK _ _ (h _ (by simp) ?_ ((Below.refl _ _).alloc (Nat.le_refl _) _))
  rw [hp_last]
  congr 2
  apply Array.toList_inj.1
  rw [hz1]
  exact fill_made T
theorem ownK_lit {w : World} {g : Nat} {T : List Tsk} (h : w.heap[g]? = some (.cells (tkCells T).toArray 67)) (hl : T.length ≤ maxLen) : ownK w g (.slice (some ⟨g, 0, none⟩) T.length T.length) T := by
  refine ⟨by rw [tkCells_len]; omega, .inr ⟨g, T.length, (tkCells T).toArray, rfl, Nat.le_refl _, h, Nat.le_refl _, hl, by simp [tkCells_len]; omega, ?_⟩⟩
  rw [List.take_of_length_le (by simp [tkCells_len]; omega)]
set_option maxHeartbeats 1000000 in
theorem toTaskS_c (v : Value) (T : List Tsk) (w : World) (hl : tks w.heap.size w v T) (hs : T.length < 2000000) :
    Calls Tryd.prog 18 #[v] w fun e w' => ∃ v', e = .returned v' ∧ ownK w' w.heap.size v' T ∧ Below w.heap.size w w' := by
  have HL := hide hl
  have HSH := hide hl.shape
  clear hl
  go_enter Tryd.func18, Tryd.ntmps18
  go_wp2_with (first
    | (refine wpList_lenK kSlL rfl (.tmp _) rfl v rfl T.length HSH.out ?_)
    | (refine wpList_makeK rfl (.tmp _) (.tmp _) rfl T rfl rfl (by omega) ?_; intro w1 hz1 hb1 hw1; have HH1 := hide hb1; have HW1 := hide hw1; clear hb1 hw1))
  go_loopw [4] (fun i wr => ∃ k : Nat, k ≤ T.length ∧ i = .int .i64 (k : Int) ∧ Hid (wr.heap[w.heap.size]? = some (.cells (tkFill T k).toArray 67)) ∧ Hid (Below w.heap.size w wr) ∧ w.heap.size + 1 ≤ wr.heap.size) (fun i _ => T.length - (intOf i).toNat)
  case atStart => exact ⟨0, Nat.zero_le _, rfl, HH1, HW1, by omega⟩
  case round =>
    obtain ⟨k, hk, rfl, HH, HB, hsz⟩ := hrel
    have HLW := hide (HL.out.below HB.out (Nat.le_refl _))
    by_cases hlt : k < T.length
    · have hlt' : (k : Int) < (T.length : Int) := by omega
      have HFS := hide (fill_set T k)
      generalize ht : tkT T k = t at HFS
      generalize hr : tkR T k = r at HFS
      generalize hb : tkB T k = b at HFS
      have HT := hide ht
      have HR := hide hr
      have HBB := hide hb
      clear ht hr hb
      go_wp2_with (first
        | (refine wpList_lenK kSlL rfl (.tmp _) rfl v rfl T.length HSH.out ?_)
        | (refine wpList_atK kSlL kSzL rfl (.tmp 16) (.tmp _) rfl v rfl k rfl w.heap.size T HLW.out hlt ?_; intro g f hg1 hg2 h0 h1 h2; rw [HT.out] at h0; rw [HR.out] at h1; rw [HBB.out] at h2; have H0 := hide h0; have H1 := hide h1; have H2 := hide h2; clear h0 h1 h2)
        | (refine wpList_load3 kRwL kSzL rfl (.tmp _) rfl g f rfl _ _ _ H0.out H1.out H2.out ?_)
        | (go_at_call 41; refine (toTask_c t r b _).mono ?_; rintro e w2 ⟨rfl, hb2⟩; have HB2 := hide hb2; have HH2 := hide ((hb2.block w.heap.size (by omega)).trans HH.out); have hz2 := hb2.size; have HTH := hide (show w2.there w.heap.size (3 * k) 3 from fun j hj => ⟨by rw [hp_cell HH2.out]; simp [tkFill_len]; omega, hp_free HH2.out _⟩); clear hb2)
        | (refine wpList_ptrK kSl kSz rfl (.tmp _) (.tmp _) rfl w.heap.size T.length T.length k rfl rfl hlt ?_)
        | (refine wpList_store_mid rfl 67 (.tmp _) (.tmp _) rfl w.heap.size (3 * k) #[.int .i64 t, .int .i64 r, .int .i64 b] rfl rfl HTH.out kSz (by simp [Value.oneCell']) ?_))
      have hst := hp_set _ _ (3 * k + 2) _ _ (.int .i64 b) (hp_set _ _ (3 * k + 1) _ _ (.int .i64 r) (hp_set _ _ (3 * k) _ _ (.int .i64 t) HH2.out))
      have HST := hide hst
      clear hst
      go_roundw
      case rel => exact ⟨k + 1, by omega, by go_num, hide (by
        have h := HST.out
        rw [← HFS.out]
        simpa [World.setCells] using h), hide (by
        have h := (((HB.out.trans (HB2.out.mono (by omega))).setCell (p := ⟨w.heap.size, 3 * k, none⟩) (Nat.le_refl _) (.int .i64 t)).setCell (p := ⟨w.heap.size, 3 * k + 1, none⟩) (Nat.le_refl _) (.int .i64 r)).setCell (p := ⟨w.heap.size, 3 * k + 1 + 1, none⟩) (Nat.le_refl _) (.int .i64 b)
        exact h), by simp [World.setCells, World.setCell]; omega⟩
      case measure => (simp [intOf] <;> omega)
    · have HK := hide (show k = T.length by omega)
      have hlt' : ¬ ((k : Int) < (T.length : Int)) := by omega
      go_wp2_with (refine wpList_lenK kSlL rfl (.tmp _) rfl v rfl T.length HSH.out ?_)
      go_ret
      refine ⟨_, rfl, ?_, HB.out⟩
      have h := HH.out
      rw [HK.out, tkFill_all] at h
      exact ownK_lit h (by unfold maxLen; omega)
theorem eqTask_c (t r b : Int) (w : World) : Calls Tryd.prog 44 #[.agg #[.int .i64 t, .int .i64 r, .int .i64 b], .agg #[.int .i64 t, .int .i64 r, .int .i64 b]] w fun e w' => e = .returned (.bool true) ∧ Below w.heap.size w w' := by
  have HB := hide (((Below.refl w.heap.size w).alloc (Nat.le_refl _) (.cells #[.int .i64 t, .int .i64 r, .int .i64 b] 67)).alloc (by simp) (.cells #[.int .i64 t, .int .i64 r, .int .i64 b] 67))
  go_enter Tryd.func44, Tryd.ntmps44
  go_wp2
  go_ret
  exact ⟨rfl, HB.out⟩
set_option maxHeartbeats 1000000 in
theorem eqTaskS_same_c (va vb : Value) (T : List Tsk) (w : World) (ha : tks w.heap.size w va T) (hb : tks w.heap.size w vb T) (hs : T.length < 2000000) :
    Calls Tryd.prog 20 #[va, vb] w fun e w' => e = .returned (.bool true) ∧ Below w.heap.size w w' := by
  have HA := hide ha
  have HB := hide hb
  have HSA := hide ha.shape
  have HSB := hide hb.shape
  clear ha hb
  go_enter Tryd.func20, Tryd.ntmps20
  go_wp2_with (first
    | (refine wpList_lenK kSl rfl (.tmp 6) rfl va rfl T.length HSA.out ?_)
    | (refine wpList_lenK kSl rfl (.tmp 8) rfl vb rfl T.length HSB.out ?_))
  go_loopw [5] (fun i wr => ∃ k : Nat, k ≤ T.length ∧ i = .int .i64 (k : Int) ∧ Hid (Below w.heap.size w wr)) (fun i _ => T.length - (intOf i).toNat)
  case atStart => exact ⟨0, Nat.zero_le _, rfl, Below.refl _ _⟩
  case round =>
    obtain ⟨k, hk, rfl, HW⟩ := hrel
    have HAW := hide (HA.out.below HW.out (Nat.le_refl _))
    have HBW := hide (HB.out.below HW.out (Nat.le_refl _))
    have hsz := HW.out.size
    by_cases hlt : k < T.length
    · have hlt' : (k : Int) < (T.length : Int) := by omega
      go_wp2_with (refine wpList_lenK kSl rfl (.tmp 12) rfl va rfl T.length HSA.out ?_)
      refine wp_region_old (by kernel_rfl) (by kernel_rfl) ?_
      go_big_quiet_step ((first | exact fun _ => rfl | exact fun _ => ⟨rfl, rfl⟩))
      go_big_quiet_step ((first | exact fun _ => rfl | exact fun _ => ⟨rfl, rfl⟩))
      refine q_atK kSl kSz rfl (.tmp _) (.tmp _) rfl va rfl k rfl w.heap.size T wr HAW.out hlt ?_
      intro g1 f1 hg1 hz1 h10 h11 h12
      simp only [Act.put, List.setIfInBounds_toArray, List.set_cons_zero, List.set_cons_succ]
      refine q_load3 kRw kSz rfl (.tmp _) rfl g1 f1 rfl _ _ _ (fun w' h => (h.cell (p := ⟨g1, f1, none⟩) hz1).trans h10) (fun w' h => (h.cell (p := ⟨g1, f1 + 1, none⟩) hz1).trans h11) (fun w' h => (h.cell (p := ⟨g1, f1 + 2, none⟩) hz1).trans h12) ?_
      simp only [Act.put, List.setIfInBounds_toArray, List.set_cons_zero, List.set_cons_succ]
      go_big_quiet_step ((first | exact fun _ => rfl | exact fun _ => ⟨rfl, rfl⟩))
      go_big_quiet_step ((first | exact fun _ => rfl | exact fun _ => ⟨rfl, rfl⟩))
      refine q_atK kSl kSz rfl (.tmp _) (.tmp _) rfl vb rfl k rfl w.heap.size T wr HBW.out hlt ?_
      intro g2 f2 hg2 hz2 h20 h21 h22
      simp only [Act.put, List.setIfInBounds_toArray, List.set_cons_zero, List.set_cons_succ]
      refine q_load3 kRw kSz rfl (.tmp _) rfl g2 f2 rfl _ _ _ (fun w' h => (h.cell (p := ⟨g2, f2, none⟩) hz2).trans h20) (fun w' h => (h.cell (p := ⟨g2, f2 + 1, none⟩) hz2).trans h21) (fun w' h => (h.cell (p := ⟨g2, f2 + 2, none⟩) hz2).trans h22) ?_
      simp only [Act.put, List.setIfInBounds_toArray, List.set_cons_zero, List.set_cons_succ]
      clear h10 h11 h12 h20 h21 h22
      refine q_belowN rfl 44 ent_eqTask _ _ rfl #[.agg #[.int .i64 (tkT T k), .int .i64 (tkR T k), .int .i64 (tkB T k)], .agg #[.int .i64 (tkT T k), .int .i64 (tkR T k), .int .i64 (tkB T k)]] rfl (.bool true) (fun w' _ => eqTask_c _ _ _ w') ?_
      simp only [Act.put, List.setIfInBounds_toArray, List.set_cons_zero, List.set_cons_succ]
      go_big_quiet_step ((first | exact fun _ => rfl | exact fun _ => ⟨rfl, rfl⟩))
      refine wpQuiet_nil ?_
      intro w2 hb2
      have HB2 := hide (HW.out.trans (hb2.mono hsz))
      clear hb2
      go_wp2
      go_roundw
      case rel => exact ⟨k + 1, by omega, by go_num, HB2⟩
      case measure => (simp [intOf] <;> omega)
    · have hlt' : ¬ ((k : Int) < (T.length : Int)) := by omega
      go_wp2_with (refine wpList_lenK kSl rfl (.tmp 12) rfl va rfl T.length HSA.out ?_)
      go_ret
      exact ⟨rfl, HW.out⟩
end Go.Proofs.YtblglkgmnaklbaaDoor
