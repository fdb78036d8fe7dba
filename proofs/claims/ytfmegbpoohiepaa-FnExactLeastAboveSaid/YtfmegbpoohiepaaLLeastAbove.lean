/- The program's LeastAbove answers as the specification's does, at every argument, and leaves its arguments as they are: no condition. -/
import Derived.Test.YtfmegbpoohiepaaRows
import Derived.Test.YtfmegbpoohiepaaLs
import Derived.ProofKit
import Derived.OpenShut
import Derived.Lib.SmallJoins
namespace Go.Proofs.Ytfmegbpoohiepaa.FLeastAbove
open Go.ChangeShapes Go.WideShapes Go.ChangeAt Go.RowKit Go.Joins
set_option linter.unusedVariables false
set_option maxRecDepth 100000

set_option maxHeartbeats 1000000 in
theorem law_c (n : Int) (v : Value) (l : List Int) (x : Int) (w : World) (hl : ints w.heap.size w v l) (hlen : l.length ≤ 9223372036854775807) :
    Calls Try.prog 3 #[.agg #[.int .i64 n, v], .int .i64 x] w fun e w' => e = .returned (.bool true) ∧ Below w.heap.size w w' := by
  have HL := hide ((hl.alloc (.cells #[.int .i64 n, v] 24)).mono (show w.heap.size ≤ (w.alloc (.cells #[.int .i64 n, v] 24)).heap.size by simp))
  have HL0 := hide hl
  have HB0 := hide ((Below.refl w.heap.size w).alloc (Nat.le_refl _) (.cells #[.int .i64 n, v] 24))
  clear hl
  by_cases hbig : (1048576 : Int) < (l.length : Int)
  · have hz : szOf 1048576 l.length = -1 := by unfold szOf; simp; omega
    go_enter Try.func3, Try.ntmps3
    go_wp2_with (go_at_call 4; refine (szSpace_c n v l _ _ HL.out hlen (by omega) (by omega)).mono ?_; rw [hz]; rintro e w1 ⟨rfl, hb1⟩)
    go_ret
    exact ⟨rfl, HB0.out.trans (hb1.mono (by simp))⟩
  · have hz : ¬ szOf 1048576 l.length < 0 := by unfold szOf; simp; omega
    generalize hq : szOf 1048576 l.length = q at hz
    have HQ := hide hq
    clear hq
    go_enter Try.func3, Try.ntmps3
    go_wp2_with fail
    refine (szSpace_c n v l _ _ HL.out hlen (by omega) (by omega)).mono ?_
    rw [HQ.out]
    rintro e w1 ⟨rfl, hb1⟩
    have hz1 := hb1.size
    simp at hz1
    have c0 : w1.cell? ⟨w.heap.size, 0, none⟩ = some (.int .i64 n) := by rw [hb1.cell (p := ⟨w.heap.size, 0, none⟩) (by simp)]; simp
    have c1 : w1.cell? ⟨w.heap.size, 1, none⟩ = some v := by rw [hb1.cell (p := ⟨w.heap.size, 1, none⟩) (by simp)]; simp
    have HB1 := hide (HB0.out.trans (hb1.mono (by simp)))
    clear hb1 HB0 HL
    go_wp2_with fail
    refine (toSpace_c n v l w1 ((HL0.out.below HB1.out (Nat.le_refl _)).mono (by omega)) (by omega)).mono ?_
    rintro e w2 ⟨g2, rfl, hg2, hk2, hb2⟩
    have hz2 := hb2.size
    have d0 : w2.cell? ⟨w.heap.size, 0, none⟩ = some (.int .i64 n) := (hb2.cell (p := ⟨w.heap.size, 0, none⟩) (by show w.heap.size < _; omega)).trans c0
    have d1 : w2.cell? ⟨w.heap.size, 1, none⟩ = some v := (hb2.cell (p := ⟨w.heap.size, 1, none⟩) (by show w.heap.size < _; omega)).trans c1
    have HB2 := hide (HB1.out.trans (hb2.mono (by omega)))
    have HK2 := hide hk2
    clear hb2 hk2 c0 c1 HB1
    go_wp2_with fail
    refine (specLeastAbove_c n _ l x w2 (HK2.out.ints _) (by omega)).mono ?_
    rintro e w3 ⟨rfl, hb3⟩
    generalize hr : leastR n l x = r
    generalize ho : okSet n l x = ok
    have HR := hide hr
    have HO := hide ho
    clear hr ho
    have hz3 := hb3.size
    have e0 : w3.cell? ⟨w.heap.size, 0, none⟩ = some (.int .i64 n) := (hb3.cell (p := ⟨w.heap.size, 0, none⟩) (by show w.heap.size < _; omega)).trans d0
    have e1 : w3.cell? ⟨w.heap.size, 1, none⟩ = some v := (hb3.cell (p := ⟨w.heap.size, 1, none⟩) (by show w.heap.size < _; omega)).trans d1
    have HB3 := hide (HB2.out.trans (hb3.mono (by omega)))
    clear hb3 d0 d1 HB2 HK2
    go_wp2_with fail
    refine (toSpace_c n v l w3 ((HL0.out.below HB3.out (Nat.le_refl _)).mono (by omega)) (by omega)).mono ?_
    rintro e w4 ⟨g4, rfl, hg4, hk4, hb4⟩
    have hz4 := hb4.size
    have f0 : w4.cell? ⟨w.heap.size, 0, none⟩ = some (.int .i64 n) := (hb4.cell (p := ⟨w.heap.size, 0, none⟩) (by show w.heap.size < _; omega)).trans e0
    have f1 : w4.cell? ⟨w.heap.size, 1, none⟩ = some v := (hb4.cell (p := ⟨w.heap.size, 1, none⟩) (by show w.heap.size < _; omega)).trans e1
    have HB4 := hide (HB3.out.trans (hb4.mono (by omega)))
    have HK4 := hide hk4
    clear hb4 hk4 e0 e1 HB3
    go_wp2_with fail
    have hk4' := HK4.out.below ((Below.refl w4.heap.size w4).alloc (Nat.le_refl _) (.cells #[.int .i64 n, .slice (some ⟨g4, 0, none⟩) l.length l.length] 28)) HK4.out.lt
    refine (implLeastAbove_c n _ l x _ (hk4'.ints _) (by omega)).mono ?_
    rw [HR.out, HO.out]
    rintro e w5 ⟨rfl, hb5⟩
    have hz5 := hb5.size
    simp at hz5
    have hg4' := HK4.out.lt
    have x0 : w5.cell? ⟨w4.heap.size, 0, none⟩ = some (.int .i64 n) := by rw [hb5.cell (p := ⟨w4.heap.size, 0, none⟩) (by simp)]; simp
    have x1 : w5.cell? ⟨w4.heap.size, 1, none⟩ = some (.slice (some ⟨g4, 0, none⟩) l.length l.length) := by rw [hb5.cell (p := ⟨w4.heap.size, 1, none⟩) (by simp)]; simp
    have y0 : w5.cell? ⟨w.heap.size, 0, none⟩ = some (.int .i64 n) := by rw [hb5.cell (p := ⟨w.heap.size, 0, none⟩) (by simp; omega), World.cell?_alloc_past _ _ _ (by omega)]; exact f0
    have y1 : w5.cell? ⟨w.heap.size, 1, none⟩ = some v := by rw [hb5.cell (p := ⟨w.heap.size, 1, none⟩) (by simp; omega), World.cell?_alloc_past _ _ _ (by omega)]; exact f1
    have HK5 := hide (hk4'.below hb5 (by simp; omega))
    have HB5 := hide ((HB4.out.alloc (by omega) (.cells #[.int .i64 n, .slice (some ⟨g4, 0, none⟩) l.length l.length] 28)).trans (hb5.mono (by simp; omega)))
    clear hb5 hk4' f0 f1 HB4 HK4
    go_wp2
    refine wp_region_held (S := Below w5.heap.size w5) (by kernel_rfl) ?_
    have hS : Below w5.heap.size w5 { w5 with drawn := w5.drawn + 1 } := (Below.refl _ _).drew
    refine wpAnyH_take (i := 0) rfl (by kernel_rfl) (by kernel_rfl) (by kernel_rfl) (fun _ _ _ h => h) (yields_load_two rowSp sizeSp rfl (.tmp _) rfl _ rfl _ _ (fun w' h => (h.cell (p := ⟨w4.heap.size, 0, none⟩) (by show w4.heap.size < _; omega)).trans x0) (fun w' h => (h.cell (p := ⟨w4.heap.size, 1, none⟩) (by show w4.heap.size < _; omega)).trans x1)) hS ?_
    refine wpAnyH_take (i := 1) rfl (by kernel_rfl) (by kernel_rfl) (by kernel_rfl) (fun _ _ _ h => h) (yields_load_two rowSl sizeSl rfl (.tmp _) rfl _ rfl _ _ (fun w' h => (h.cell (p := ⟨w.heap.size, 0, none⟩) (by show w.heap.size < _; omega)).trans y0) (fun w' h => (h.cell (p := ⟨w.heap.size, 1, none⟩) (by show w.heap.size < _; omega)).trans y1)) hS ?_
    have HB5' := HB5.out.trans (hS.mono (by omega))
    refine anyH_call (i := 2) (by kernel_rfl) rfl rfl 6 ent_toSpace _ _ rfl #[.agg #[.int .i64 n, v]] rfl (toSpace_c n v l _ ((HL0.out.below HB5' (Nat.le_refl _)).mono (show w.heap.size ≤ w5.heap.size by omega)) (by omega)) ?_
    rintro e w6 ⟨g6, rfl, hg6, hk6, hb6⟩
    have hz6 : w5.heap.size ≤ w6.heap.size := hb6.size
    have hS6 : Below w5.heap.size w5 w6 := hS.trans hb6
    refine ⟨_, rfl, hS6, ?_⟩
    refine anyH_call (i := 3) (by kernel_rfl) rfl rfl 8 ent_eqSpace _ _ rfl #[.agg #[.int .i64 n, .slice (some ⟨g4, 0, none⟩) l.length l.length], .agg #[.int .i64 n, .slice (some ⟨g6, 0, none⟩) l.length l.length]] rfl (eqSpace_c n n _ _ l l w6 ((HK5.out.below hS6 HK5.out.lt).ints _) (hk6.ints _) (by omega)) ?_
    rintro e w7 ⟨rfl, hb7⟩
    have hS7 : Below w5.heap.size w5 w7 := hS6.trans (hb7.mono hz6)
    refine ⟨_, rfl, hS7, ?_⟩
    refine anyH_op (i := 4) (by kernel_rfl) rfl rfl (.bool false) w7 ?hq hS7 ?_
    case hq => simp [go_sem, Act.put]
    refine wpAnyH_done (by kernel_rfl) ?_ _
    simp only [Act.put, List.getElem_toArray, List.getElem_cons_zero, List.getElem_cons_succ, List.setIfInBounds_toArray, List.set_cons_zero, List.set_cons_succ]
    have HF := hide (HB5.out.trans (hS7.mono (by omega)))
    clear hS hS6 hS7 hb6 hb7 hk6 x0 x1 y0 y1 HB5'
    go_wp2
    go_ret
    exact ⟨rfl, HF.out⟩

theorem ownK : ownKnob Try.prog.godebug = none := by kernel_rfl
theorem laidOut : laidOutB Try.prog = true := by kernel_rfl

/-- What a struct of an int and a slice of int is, as it comes in. -/
theorem space_open {H : Type} {enc : TypeId × Value → H} {W : World} {b0 : Nat} {v : Value} {d : DataW H} {p : List MemPlace}
    (hv : Value.okWide Try.prog W .any b0 24 v) (h : DataW.Trod enc Try.prog W 0 (fun _ => true) true 24 v d p) :
    ∃ (n : Int) (u : Value) (l : List Int), v = .agg #[.int .i64 n, u] ∧ ints W.heap.size W u l ∧ l.length ≤ 9223372036854775807 := by
  obtain ⟨v0, v1, y0, y1, m, rfl, rfl, rfl, hy0, hy1⟩ := open_agg2 Try.underlying24 (by kernel_rfl) (by kernel_rfl) hv h
  obtain ⟨n, e0, _, _⟩ := DataW.trod_int Try.underlying3 hy0
  simp at e0
  subst e0
  rcases open_ints Try.underlying22 Try.underlying3 (by kernel_rfl) hy1 with ⟨hcs, _⟩ | ⟨x, len, c, zs, hcs, _, hl, hm, hz, _, hcell, hwz⟩
  · simp at hcs
    subst hcs
    exact ⟨n, _, [], rfl, .inl ⟨rfl, none, 0, rfl⟩, by simp⟩
  · simp at hcs
    subst hcs
    have hz' : zs.length = c := by simpa using hz
    have hlt : len ≤ zs.length := by omega
    have htk : (zs.take len).length = len := by simp; omega
    refine ⟨n, _, zs.take len, rfl, ?_, by unfold maxLen at hm; omega⟩
    rcases Nat.eq_zero_or_pos len with h0 | h0
    · subst h0
      exact .inl ⟨by simp, some x, c, rfl⟩
    · obtain ⟨b, off, rfl, hc⟩ := ints_at hcell (by omega)
      have hbl := block_lt_of_cell (hc 0 (by omega))
      refine .inr ⟨b, off, c, by rw [htk], hbl, hbl, fun j hj => ?_⟩
      rw [htk] at hj
      rw [hc j (by omega), List.getElem?_take, if_pos hj]
      rfl

theorem lifted (os : Os) (started : os.Started) (H : Type) (enc : TypeId × Value → H) :
    ReturnsInHanded {} Try.checked os 3 .any (Rows.fnExactLeastAboveSpec.pre6 enc Try.prog Try.f3 Rows.fnExactLeastAboveRow.domain false) (Rows.fnExactLeastAboveSpec.post enc Try.prog Try.f3 false true false false) := by
  refine returnsInHanded_of_change (C := Try.checked) ownK started (by kernel_rfl) Try.func3
    (ChangeSpec.witness6 (enc := enc) (C := Try.checked) false ⟨#[], #[.agg #[.int .i64 0, .slice none 0 0], .int .i64 0], []⟩ 8 (by kernel_rfl) (by kernel_rfl) (by kernel_rfl) (by kernel_rfl)) ?_
  intro W base args ds gs before hval0 hW hcnd _
  have hval : ∀ (j : Nat) t v, Try.f3.params[j]? = some t → args[j]? = some v → Value.okWide Try.prog W .any base t v := hval0
  have hW' := hW
  obtain ⟨p, q, hA0, hV, rfl, hfz, hnd⟩ := hW
  have hA : DataW.TrodAll enc Try.prog W 0 (fun _ => true) true Try.f3.params.toList args.toList ds p := hA0
  rw [Try.params3] at hA hval
  obtain ⟨v0, vs0, d0, ds0, p0, q0, hargs, rfl, rfl, h0, r0⟩ := trodAll_cons hA
  obtain ⟨v1, vs1, d1, ds1, p1, q1, rfl, rfl, rfl, h1, r1⟩ := trodAll_cons r0
  obtain ⟨rfl, rfl, rfl⟩ := trodAll_nil r1
  obtain rfl : args = #[v0, v1] := by cases args; simp_all
  obtain ⟨rfl, rfl⟩ := trodVars_none hV
  have k0 := h0
  have lt0 : ∀ x ∈ p0, x.block < W.heap.size := by obtain ⟨m, hm⟩ := k0; exact DataW.trod_lt m _ _ _ hm
  obtain ⟨n, u, l, rfl, hl, hlen⟩ := space_open (hval 0 24 v0 rfl rfl) h0
  obtain ⟨a1, rfl, rfl, rfl, w1⟩ := open_int Try.underlying3 (hval 1 3 v1 rfl rfl) h1
  clear hA0 hval0
  refine (law_c n u l a1 W hl hlen).mono fun e W' ⟨he, bel⟩ => ?_
  subst he
  exact ⟨_, rfl, _, _, _, [], _, [], hW', trodAll_mk1 (shut_bool Try.underlying4 _), (trodAll_cons_mk (Below.trod laidOut (by kernel_rfl) (of_decide_eq_true (by kernel_rfl)) k0 bel lt0) (trodAll_cons_mk (shut_int Try.underlying3 w1) trodAll_mk0)), rfl, bel.frame _, fun h => by cases h⟩

theorem over : Rows.fnExactLeastAboveRow.holds Try.pinned (OpenSpec.ofChange Rows.fnExactLeastAboveSpec) :=
  OpenClaim.holds_of_wide 3 Try.f3 rfl rfl rfl rfl rfl rfl rfl ⟨rfl, rfl, rfl, rfl, rfl⟩ rfl rfl rfl rfl rfl (by as_aux_lemma => kernel_rfl) Try.func3 (by as_aux_lemma => kernel_rfl)
    (of_decide_eq_true (by as_aux_lemma => kernel_rfl)) (by unfold Func.isWrapper; first | (rw [if_pos (by decide +kernel)]; kernel_rfl) | (rw [if_neg (by decide +kernel)]; exact ⟨rfl, rfl⟩))
    (fun os started H enc _ => lifted os started H enc)

theorem proved : Rows.FnExactLeastAboveSaid := over
#print axioms proved
end Go.Proofs.Ytfmegbpoohiepaa.FLeastAbove
