/- Contracts: a word with two items exchanged, the program's and the specification's. -/
import Derived.Test.YtagahoaogfogkaaXw
import Derived.Test.YtagahoaogfogkaaHar
namespace Go.Proofs.Ytagahoaogfogkaa
open Go.RowKit
set_option maxRecDepth 100000
attribute [local irreducible] p2 low memB risB
section
variable {P : Program} {ops : Array Oper} {Q : Exit → Act → World → Prop} {md : Region.Mode} {S : World → Prop} {a : Act} {w : World}
theorem wpOp_value {i : Nat} {o : Oper} (hi : ops[i]? = some o) (hw : Region.wanted o (yielded ops a.tmps) = true) (v : Value) (w' : World)
    (hrun : (execOp a.eval o).run P w = .ok (.value v) w') {K : Act → World → Prop} (h : K (a.put o.dst v) w') : wpOp P ops Q i K a w := by
  unfold wpOp
  simp only [hi, hw, if_true]
  refine .inl ?_
  unfold Oper.wp
  rw [hrun]
  exact h
/-- The address of an element of a slice that is known. -/
theorem yields_at {t I : TypeId} (ht : P.underlying t = some (.slice I)) (hI : (P.info? I).map (·.size) = some 1) {o : Oper} (hw : Region.wanted o (yielded ops a.tmps) = true) (x y : Operand) (ho : o.op = .indexAddr t x y)
    (g len c : Nat) (hx : a.eval x = .slice (some ⟨g, 0, none⟩) len c) (i : Int) (hy : a.eval y = .int .i64 i) (k : Nat) (hik : i = (k : Int)) (hk : k < len) : YieldsIf P ops S o (.pointer (some ⟨g, k, none⟩)) a := by
  refine .inl ⟨hw, fun w _ => ?_⟩
  subst hik
  have he : P.underlying t = some (.slice (P.elem t)) := by
    rw [ht]; simp [Program.elem, ht]
  have hE : P.elem t = I := by simp [Program.elem, ht]
  have hr : (Instr.indexAt t (.slice (some ⟨g, 0, none⟩) len c) (.int .i64 (k : Int))).run P w = .ok (.pointer (some ⟨g, k, none⟩)) w := by
    rw [run_indexAt_slice (h := he), if_pos (by omega), hE, run_sizeOf' hI]
    simp [Addr.add]
    intro h0; omega
  unfold execOp
  simp only [ho, hx, hy, Sem.run_bind, Sem.run_pure, hr, Result.andThen_ok]
end

def swL (l : List Int) (k : Nat) : List Int := (l.set k (l[k + 1]?.getD 0)).set (k + 1) (l[k]?.getD 0)
theorem swL_len (l : List Int) (k : Nat) : (swL l k).length = l.length := by simp [swL]

set_option maxHeartbeats 1000000 in
theorem swapped_c (v : Value) (l : List Int) (k : Nat) (w : World) (hl : ints w.heap.size w v l) (hlen : l.length < 1000000000) (hk : k + 1 < l.length) :
    Calls Try.prog 63 #[v, .int .i64 (k : Int)] w fun e w' => ∃ v', e = .returned v' ∧ own 3 w' w.heap.size v' (swL l k) ∧ Below w.heap.size w w' := by
  have HL := hide (hl.alloc (.cells #[] 3))
  have HE := hide (own_empty 3 w)
  have H0 := hide ((Below.refl w.heap.size w).alloc (Nat.le_refl _) (.cells #[] 3))
  have HSW := hide (show swL l k = (l.set k (l[k + 1]?.getD 0)).set (k + 1) (l[k]?.getD 0) from rfl)
  clear hl
  go_enter Try.func63, Try.ntmps63
  go_wp2_with (at_builtin; refine wpList_appendN sliceT intI rfl _ _ rfl w.heap.size _ [] rfl HE.out v l w.heap.size rfl HL.out (by simp) (by simp; omega) ?_; intro v' w' ho' hb'; have HO := hide ho'; have HB := hide (H0.out.trans hb'); clear ho' hb')
  have ho : own 3 w' w.heap.size v' l := by simpa using HO.out
  rcases ho.2 with ⟨hv, h0⟩ | ⟨g, cap, cur, hv, hg1, hg2, hcap, hg3, hg4, hg5⟩
  · omega
  subst hv
  generalize hx : l[k]?.getD 0 = x at HSW
  generalize hy : l[k + 1]?.getD 0 = y at HSW
  have c0 : w'.cell? ⟨g, k, none⟩ = some (.int .i64 x) := by rw [← hx]; exact (ho.cell rfl k (by omega)).1
  have f0 : w'.frozen? ⟨g, k, none⟩ = false := (ho.cell rfl k (by omega)).2
  have c1 : w'.cell? ⟨g, k + 1, none⟩ = some (.int .i64 y) := by rw [← hy]; exact (ho.cell rfl (k + 1) (by omega)).1
  have f1 : w'.frozen? ⟨g, k + 1, none⟩ = false := (ho.cell rfl (k + 1) (by omega)).2
  have c1' : (w'.setCell ⟨g, k, none⟩ (.int .i64 y)).cell? ⟨g, k + 1, none⟩ = some (.int .i64 y) := by
    have h1 := ho.set (g := g) rfl k y
    have h2 := (h1.cell rfl (k + 1) (by simp; omega)).1
    rw [h2, List.getElem?_set_ne (by omega), hy]
  have f1' : (w'.setCell ⟨g, k, none⟩ (.int .i64 y)).frozen? ⟨g, k + 1, none⟩ = false := by
    have h1 := ho.set (g := g) rfl k y
    exact (h1.cell rfl (k + 1) (by simp; omega)).2
  have HFIN := hide (show own 3 ((w'.setCell ⟨g, k, none⟩ (.int .i64 y)).setCell ⟨g, k + 1, none⟩ (.int .i64 x)) w.heap.size (.slice (some ⟨g, 0, none⟩) l.length cap) (swL l k) by
    rw [HSW.out]
    have h1 := (ho.set (g := g) rfl k y).set (g := g) rfl (k + 1) x
    exact h1)
  have HBF := hide ((HB.out.drew.setCell (p := ⟨g, k, none⟩) hg1 (.int .i64 y)).setCell (p := ⟨g, k + 1, none⟩) hg1 (.int .i64 x))
  have hki : ((k : Int) + 1).toNat = k + 1 := by omega
  have hkw : IntKind.i64.wrap ((k : Int) + 1) = (k : Int) + 1 := IntWalk.i64_in _ (by omega)
  clear hg2 hg3 hg4 hg5 ho HO hx hy
  refine wp_region_held (S := fun _ => True) (by kernel_rfl) ?_
  refine wpAnyH_take (i := 0) (v := .slice (some ⟨g, 0, none⟩) l.length cap) rfl (by kernel_rfl) (by kernel_rfl) (by kernel_rfl) (fun _ _ _ h => h) (.inl ⟨rfl, fun w' _ => by go_simp⟩) trivial ?_
  refine wpAnyH_take (i := 1) (v := .int .i64 (k : Int)) rfl (by kernel_rfl) (by kernel_rfl) (by kernel_rfl) (fun _ _ _ h => h) (.inl ⟨rfl, fun w' _ => by go_simp⟩) trivial ?_
  refine wpAnyH_take (i := 2) (v := .slice (some ⟨g, 0, none⟩) l.length cap) rfl (by kernel_rfl) (by kernel_rfl) (by kernel_rfl) (fun _ _ _ h => h) (.inl ⟨rfl, fun w' _ => by go_simp⟩) trivial ?_
  refine wpAnyH_take (i := 3) (v := .int .i64 (k : Int)) rfl (by kernel_rfl) (by kernel_rfl) (by kernel_rfl) (fun _ _ _ h => h) (.inl ⟨rfl, fun w' _ => by go_simp⟩) trivial ?_
  refine wpAnyH_take (i := 4) (v := .int .i64 ((k : Int) + 1)) rfl (by kernel_rfl) (by kernel_rfl) (by kernel_rfl) (fun _ _ _ h => h) (.inl ⟨rfl, fun w' _ => by simp [go_sem, Act.put, hkw]⟩) trivial ?_
  refine wpAnyH_take (i := 5) (v := .slice (some ⟨g, 0, none⟩) l.length cap) rfl (by kernel_rfl) (by kernel_rfl) (by kernel_rfl) (fun _ _ _ h => h) (.inl ⟨rfl, fun w' _ => by go_simp⟩) trivial ?_
  refine wpAnyH_take (i := 6) (v := .int .i64 (k : Int)) rfl (by kernel_rfl) (by kernel_rfl) (by kernel_rfl) (fun _ _ _ h => h) (.inl ⟨rfl, fun w' _ => by go_simp⟩) trivial ?_
  refine wpAnyH_take (i := 7) (v := .int .i64 ((k : Int) + 1)) rfl (by kernel_rfl) (by kernel_rfl) (by kernel_rfl) (fun _ _ _ h => h) (.inl ⟨rfl, fun w' _ => by simp [go_sem, Act.put, hkw]⟩) trivial ?_
  simp only [Act.put, List.getElem_toArray, List.getElem_cons_zero, List.getElem_cons_succ, List.setIfInBounds_toArray, List.set_cons_zero, List.set_cons_succ]
  refine wpAnyH_take (i := 8) (v := .pointer (some ⟨g, k + 1, none⟩)) rfl (by kernel_rfl) (by kernel_rfl) (by kernel_rfl) (fun _ _ _ h => h) (yields_at sliceT intS rfl (.tmp _) (.tmp _) rfl g l.length cap rfl _ rfl (k + 1) (by simp) (by omega)) trivial ?_
  refine wpAnyH_take (i := 10) (v := .slice (some ⟨g, 0, none⟩) l.length cap) rfl (by kernel_rfl) (by kernel_rfl) (by kernel_rfl) (fun _ _ _ h => h) (.inl ⟨rfl, fun w' _ => by go_simp⟩) trivial ?_
  refine wpAnyH_take (i := 11) (v := .int .i64 (k : Int)) rfl (by kernel_rfl) (by kernel_rfl) (by kernel_rfl) (fun _ _ _ h => h) (.inl ⟨rfl, fun w' _ => by go_simp⟩) trivial ?_
  simp only [Act.put, List.getElem_toArray, List.getElem_cons_zero, List.getElem_cons_succ, List.setIfInBounds_toArray, List.set_cons_zero, List.set_cons_succ]
  refine wpAnyH_take (i := 12) (v := .pointer (some ⟨g, k, none⟩)) rfl (by kernel_rfl) (by kernel_rfl) (by kernel_rfl) (fun _ _ _ h => h) (yields_at sliceT intS rfl (.tmp _) (.tmp _) rfl g l.length cap rfl _ rfl (k) rfl (by omega)) trivial ?_
  simp only [Act.put, List.getElem_toArray, List.getElem_cons_zero, List.getElem_cons_succ, List.setIfInBounds_toArray, List.set_cons_zero, List.set_cons_succ]
  refine wpAnyH_all (rs := [9, 13]) (by kernel_rfl) (by simp) fun i hi => ?_
  have hi2 : i = 9 ∨ i = 13 := by simpa using hi
  rcases hi2 with rfl | rfl
  · refine wpOp_value rfl rfl (.int .i64 y) w'.drew ?h1 ⟨trivial, ?_⟩
    case h1 => simp [go_sem, c1]
    simp only [Act.put, List.getElem_toArray, List.getElem_cons_zero, List.getElem_cons_succ, List.setIfInBounds_toArray, List.set_cons_zero, List.set_cons_succ]
    refine anyH_op (i := 13) (by kernel_rfl) rfl rfl (.int .i64 x) w'.drew ?h2 trivial ?_
    case h2 => simp [go_sem, c0]
    simp only [Act.put, List.getElem_toArray, List.getElem_cons_zero, List.getElem_cons_succ, List.setIfInBounds_toArray, List.set_cons_zero, List.set_cons_succ]
    refine wpAnyH_take (i := 14) (v := .pointer (some ⟨g, k, none⟩)) rfl (by kernel_rfl) (by kernel_rfl) (by kernel_rfl) (fun _ _ _ h => h) (yields_at sliceT intS rfl (.tmp _) (.tmp _) rfl g l.length cap rfl _ rfl (k) rfl (by omega)) trivial ?_
    simp only [Act.put, List.getElem_toArray, List.getElem_cons_zero, List.getElem_cons_succ, List.setIfInBounds_toArray, List.set_cons_zero, List.set_cons_succ]
    refine anyH_skip (i := 15) (by kernel_rfl) rfl rfl (w'.drew.setCell ⟨g, k, none⟩ (.int .i64 y)) (by simp [go_sem, c0, f0]) trivial ?_
    refine wpAnyH_take (i := 16) (v := .pointer (some ⟨g, k + 1, none⟩)) rfl (by kernel_rfl) (by kernel_rfl) (by kernel_rfl) (fun _ _ _ h => h) (yields_at sliceT intS rfl (.tmp _) (.tmp _) rfl g l.length cap rfl _ rfl (k + 1) (by simp) (by omega)) trivial ?_
    simp only [Act.put, List.getElem_toArray, List.getElem_cons_zero, List.getElem_cons_succ, List.setIfInBounds_toArray, List.set_cons_zero, List.set_cons_succ]
    refine anyH_skip (i := 17) (by kernel_rfl) rfl rfl ((w'.drew.setCell ⟨g, k, none⟩ (.int .i64 y)).setCell ⟨g, k + 1, none⟩ (.int .i64 x)) (by simp [go_sem, c1', f1']) trivial ?_
    refine wpAnyH_done (by kernel_rfl) ?_ _
    simp only [Act.put, List.getElem_toArray, List.getElem_cons_zero, List.getElem_cons_succ]
    go_wp2
    go_ret
    exact ⟨_, rfl, HFIN.out, HBF.out⟩
  · refine wpOp_value rfl rfl (.int .i64 x) w'.drew ?h3 ⟨trivial, ?_⟩
    case h3 => simp [go_sem, c0]
    simp only [Act.put, List.getElem_toArray, List.getElem_cons_zero, List.getElem_cons_succ, List.setIfInBounds_toArray, List.set_cons_zero, List.set_cons_succ]
    refine anyH_op (i := 9) (by kernel_rfl) rfl rfl (.int .i64 y) w'.drew ?h4 trivial ?_
    case h4 => simp [go_sem, c1]
    simp only [Act.put, List.getElem_toArray, List.getElem_cons_zero, List.getElem_cons_succ, List.setIfInBounds_toArray, List.set_cons_zero, List.set_cons_succ]
    refine wpAnyH_take (i := 14) (v := .pointer (some ⟨g, k, none⟩)) rfl (by kernel_rfl) (by kernel_rfl) (by kernel_rfl) (fun _ _ _ h => h) (yields_at sliceT intS rfl (.tmp _) (.tmp _) rfl g l.length cap rfl _ rfl (k) rfl (by omega)) trivial ?_
    simp only [Act.put, List.getElem_toArray, List.getElem_cons_zero, List.getElem_cons_succ, List.setIfInBounds_toArray, List.set_cons_zero, List.set_cons_succ]
    refine anyH_skip (i := 15) (by kernel_rfl) rfl rfl (w'.drew.setCell ⟨g, k, none⟩ (.int .i64 y)) (by simp [go_sem, c0, f0]) trivial ?_
    refine wpAnyH_take (i := 16) (v := .pointer (some ⟨g, k + 1, none⟩)) rfl (by kernel_rfl) (by kernel_rfl) (by kernel_rfl) (fun _ _ _ h => h) (yields_at sliceT intS rfl (.tmp _) (.tmp _) rfl g l.length cap rfl _ rfl (k + 1) (by simp) (by omega)) trivial ?_
    simp only [Act.put, List.getElem_toArray, List.getElem_cons_zero, List.getElem_cons_succ, List.setIfInBounds_toArray, List.set_cons_zero, List.set_cons_succ]
    refine anyH_skip (i := 17) (by kernel_rfl) rfl rfl ((w'.drew.setCell ⟨g, k, none⟩ (.int .i64 y)).setCell ⟨g, k + 1, none⟩ (.int .i64 x)) (by simp [go_sem, c1', f1']) trivial ?_
    refine wpAnyH_done (by kernel_rfl) ?_ _
    simp only [Act.put, List.getElem_toArray, List.getElem_cons_zero, List.getElem_cons_succ]
    go_wp2
    go_ret
    exact ⟨_, rfl, HFIN.out, HBF.out⟩
set_option maxHeartbeats 1000000 in
theorem woSwap_c (n : Int) (v : Value) (l : List Int) (u : Value) (m : List Int) (k : Nat) (w : World) (hl : ints w.heap.size w v l) (hlen : l.length < 1000000000) (hinc : inc l) (hm : ints w.heap.size w u m) (hml : m.length < 1000000000) (hk : k + 1 < m.length) (h0 : 0 ≤ n) (h7 : n ≤ 7) :
    Calls Try.prog 59 #[.agg #[.int .i64 n, v], u, .int .i64 (k : Int)] w fun e w' => ∃ v', e = .returned (.tuple #[v', .bool (wordB (fun x => memB l (x : Int)) n.toNat (swL m k))]) ∧ own 3 w' w.heap.size v' (swL m k) ∧ Below w.heap.size w w' := by
  have HL := hide ((hl.alloc (.cells #[.int .i64 n, v] 26)).mono (show w.heap.size ≤ (w.alloc (.cells #[.int .i64 n, v] 26)).heap.size by simp))
  have HM := hide ((hm.alloc (.cells #[.int .i64 n, v] 26)).mono (show w.heap.size ≤ (w.alloc (.cells #[.int .i64 n, v] 26)).heap.size by simp))
  have H0 := hide ((Below.refl w.heap.size w).alloc (Nat.le_refl _) (.cells #[.int .i64 n, v] 26))
  have HS0 := hide (hp_last w (.cells #[.int .i64 n, v] 26))
  have HZ := hide (show w.heap.size + 1 ≤ (w.alloc (.cells #[.int .i64 n, v] 26)).heap.size by simp)
  have HI := hide hinc
  have HSW := hide (show swL m k = (m.set k (m[k + 1]?.getD 0)).set (k + 1) (m[k]?.getD 0) from rfl)
  have HSL := hide (swL_len m k)
  clear hl hm hinc
  go_enter Try.func59, Try.ntmps59
  go_wp2_with fail
  refine (l1Own_c u m _ HM.out hml).mono ?_
  generalize hW : (w.alloc (.cells #[.int .i64 n, v] 26)) = W at HL HM H0 HS0 HZ ⊢
  clear hW
  rintro e w1 ⟨v1, rfl, ho1, hb1⟩
  have HO := hide ho1
  have HI1 := hide ho1.ints
  have HBA := hide hb1
  have hz1 := hb1.size
  have hz0 := HZ.out
  clear ho1 hb1 HM
  generalize hx : m[k]?.getD 0 = x at HSW
  generalize hy : m[k + 1]?.getD 0 = y at HSW
  have HX := hide hx
  have HY := hide hy
  clear hx hy
  go_wp2_with fail
  refine wp_region_old (by kernel_rfl) (by kernel_rfl) ?_
  go_big_quiet_step ((first | exact fun _ => rfl | exact fun _ => ⟨rfl, rfl⟩))
  go_big_quiet_step ((first | exact fun _ => rfl | exact fun _ => ⟨rfl, rfl⟩))
  refine q_at sliceT intS rfl (.tmp _) (.tmp _) rfl v1 rfl (k : Int) rfl k rfl _ m w1 HI1.out (by omega) ?_
  intro ad hcell hblk
  rw [HX.out] at hcell
  simp only [Act.put, List.setIfInBounds_toArray, List.set_cons_zero, List.set_cons_succ]
  refine q_load_cell rowI rfl (.tmp _) rfl ad rfl (.int .i64 x) (fun w' h => (h.cell (by omega)).trans hcell) ?_
  simp only [Act.put, List.setIfInBounds_toArray, List.set_cons_zero, List.set_cons_succ]
  go_big_quiet_step ((first | exact fun _ => rfl | exact fun _ => ⟨rfl, rfl⟩))
  go_big_quiet_step ((first | exact fun _ => rfl | exact fun _ => ⟨rfl, rfl⟩))
  go_big_quiet_step ((first | exact fun _ => rfl | exact fun _ => ⟨rfl, rfl⟩))
  refine q_at sliceT intS rfl (.tmp _) (.tmp _) rfl v1 rfl ((k : Int) + 1) rfl (k + 1) (by simp) _ m w1 HI1.out (by omega) ?_
  intro ad2 hcell2 hblk2
  rw [HY.out] at hcell2
  simp only [Act.put, List.setIfInBounds_toArray, List.set_cons_zero, List.set_cons_succ]
  refine q_load_cell rowI rfl (.tmp _) rfl ad2 rfl (.int .i64 y) (fun w' h => (h.cell (by omega)).trans hcell2) ?_
  simp only [Act.put, List.setIfInBounds_toArray, List.set_cons_zero, List.set_cons_succ]
  go_big_quiet_step ((first | exact fun _ => rfl | exact fun _ => ⟨rfl, rfl⟩))
  go_big_quiet_step ((first | exact fun _ => rfl | exact fun _ => ⟨rfl, rfl⟩))
  refine wpQuiet_nil ?_
  intro w2 hb2
  have HO2 := hide (HO.out.kept hb2)
  have HBA2 := hide (HBA.out.trans (hb2.mono hz1))
  have hz2 := hb2.size
  have HWB : Hid (∀ g, v1.ownBlock = some g → W.heap.size ≤ g) := HO.out.base
  clear hb2 hcell hcell2 hblk hblk2 HI1 HO HBA
  have hkw : IntKind.i64.wrap ((k : Int) + 1) = (k : Int) + 1 := IntWalk.i64_in _ (by omega)
  have hml2 : k + 1 < (m.set k y).length := by simp; omega
  go_wp2_with (first
    | (refine wpList_atOwn sliceT intS rfl (.tmp 24) (.tmp 25) rfl v1 rfl k rfl k rfl W.heap.size m HO2.out (by omega) ?_; intro g hg; have hc := (HO2.out.cell hg k (by omega)).1; have hf := (HO2.out.cell hg k (by omega)).2; have HO3 := hide (HO2.out.set hg k y); have HG := hide hg; have HBB := hide (HBA2.out.setCell (p := ⟨g, k, none⟩) (HWB.out g hg) (.int .i64 y)); clear hg)
    | (refine wpList_atOwn sliceT intS rfl (.tmp 28) (.tmp 30) rfl v1 rfl ((k : Int) + 1) rfl (k + 1) (by simp) W.heap.size (m.set k y) HO3.out hml2 ?_; intro g2 hg2; obtain rfl : g = g2 := (by have h1 := HG.out; rw [hg2] at h1; exact (Option.some.inj h1).symm); have hc2 := (HO3.out.cell hg2 (k + 1) hml2).1; have hf2 := (HO3.out.cell hg2 (k + 1) hml2).2; have HO4 := hide (HO3.out.set hg2 (k + 1) x); have HBC := hide (HBB.out.setCell (p := ⟨g, k + 1, none⟩) (HWB.out g hg2) (.int .i64 x)); have hs4 := (HBC.out.block w.heap.size (by omega)).trans HS0.out; have d0 := cells_at0 hs4; have d1 := cells_at1 hs4; have HZ4 := hide HBC.out.size; clear hg2 hs4)
    | (go_at_call 95; rw [← HSW.out] at HO4; refine (woSet_c n v v1 (swL m k) l _ ((HL.out.below HBC.out (Nat.le_refl _)).mono HZ4.out) HI.out hlen HO4.out.ints (by rw [HSL.out]; exact hml) (by omega) (by omega)).mono ?_; rintro e w5 ⟨rfl, hb5⟩; have HO5 := hide ((HO4.out.kept hb5).mono (show w.heap.size ≤ W.heap.size by omega)); have HB5 := hide (H0.out.trans ((HBC.out.trans (hb5.mono HZ4.out)).mono (by omega))); clear hb5))
  go_ret2
  exact ⟨_, rfl, HO5.out, HB5.out⟩
def swIn (m : List Int) (k : Int) : Bool := decide (0 ≤ k ∧ k ≤ (m.length : Int) - 2)
def swB (n : Int) (l m : List Int) (k : Int) : Bool := okWd n l m && (swIn m k && wordB (marksTo l l.length) n.toNat (swL m k.toNat))
def swR (n : Int) (l m : List Int) (k : Int) : List Int := if swB n l m k then swL m k.toNat else []
theorem swB_no1 {n : Int} {l m : List Int} {k : Int} (h : okWd n l m = false) : swB n l m k = false := by simp [swB, h]
theorem swB_no2 {n : Int} {l m : List Int} {k : Int} (h : swIn m k = false) : swB n l m k = false := by simp [swB, h]
theorem swB_eq {n : Int} {l m : List Int} {k : Int} (h : okWd n l m = true) (h2 : swIn m k = true) : swB n l m k = wordB (marksTo l l.length) n.toNat (swL m k.toNat) := by simp [swB, h, h2]
theorem swR_no {n : Int} {l m : List Int} {k : Int} (h : swB n l m k = false) : swR n l m k = [] := by simp [swR, h]
theorem swR_yes {n : Int} {l m : List Int} {k : Int} (h : swB n l m k = true) : swR n l m k = swL m k.toNat := by simp [swR, h]
theorem swR_len (n : Int) (l m : List Int) (k : Int) : (swR n l m k).length < 1000000000 := by
  cases h : okWd n l m
  · rw [swR_no (swB_no1 h)]; simp
  · unfold swR
    split
    · have h2 := okWd_sp h
      rw [okWd_yes h2] at h
      have h4 := word_short h
      have h6 := okSp_n h2
      rw [swL_len]
      omega
    · simp

end Go.Proofs.Ytagahoaogfogkaa
