/- The program's WayBetween answers as the specification's does, at every argument, leaves its arguments as they are, and its answer owns its memory: no condition. -/
import Derived.Test.YtonimjpfaalniaaDoorRows
import Derived.Test.YtonimjpfaalniaaDoorNe
import Derived.Test.YtonimjpfaalniaaDoorNm3
import Derived.Test.YtonimjpfaalniaaDoorTie
import Derived.Test.YtonimjpfaalniaaDoorCards
import Derived.LaidMore
import Derived.Stop.Joined
import Derived.Stop.LaidErr
import Derived.Lib.LaidTab
import Derived.SevenTiedAt
import Derived.Test.YtonimjpfaalniaaDoorHar
import Derived.ProofKit
import Derived.OpenShut
import Derived.Lib.SmallJoins
namespace Go.Proofs.YtonimjpfaalniaaDoor.FWayBetween
open Go.ChangeShapes Go.WideShapes Go.ChangeAt Go.RowKit Go.Joins
set_option linter.unusedVariables false
set_option linter.unusedSimpArgs false
set_option maxRecDepth 100000

set_option maxHeartbeats 4000000 in
theorem law_c (v0 : Value) (l0 : List Int) (x1 : Int) (x2 : Int) (w : World) (h0 : ints w.heap.size w v0 l0) (hlen0 : l0.length ≤ 9223372036854775807) (hT : tab w) :
    Calls Tryd.prog 11 #[.agg #[v0], .int .i64 x1, .int .i64 x2] w fun e w' => e = .returned (.bool true) ∧ Below w.heap.size w w' := by
  have HT := hide hT
  clear hT
  generalize hR : wbR l0 x1 x2 = R
  generalize hO : wbB l0 x1 x2 = ok
  have HR := hide hR
  have HO := hide hO
  clear hR hO
  have F1 := hide (((Below.refl w.heap.size w).alloc (Nat.le_refl _) (.cells #[v0] 59)))
  have F2 := hide ((h0.alloc (.cells #[v0] 59)))
  have F3 := hide (show (w.alloc (.cells #[v0] 59)).heap[w.heap.size]? = some (.cells #[v0] 59) from (by have := hp_last w (.cells #[v0] 59); simpa using this))
  have HZ0 := hide (show (w.alloc (.cells #[v0] 59)).heap.size = w.heap.size + 1 by simp)
  clear h0
  have hsz0 : szOf 1048576 l0.length = -1 ∨ (0 ≤ szOf 1048576 l0.length ∧ szOf 1048576 l0.length ≤ 1048576 ∧ l0.length ≤ 1048576) := by unfold szOf; split <;> omega
  generalize hq0 : szOf 1048576 l0.length = q0 at hsz0
  have HQ0 := hide hq0
  clear hq0
  rcases hsz0 with hbig0 | ⟨hq0a, hq0b, hq0c⟩
  · have HBIG := hide hbig0
    have hneg : q0 < 0 := by omega
    clear hbig0
    go_enter Tryd.func11, Tryd.ntmps11
    go_wp2_with fail
    generalize hX : (w.alloc (.cells #[v0] 59)) = W0 at F1 F2 F3 HZ0 ⊢
    have hz0 := Nat.le_of_eq HZ0.out.symm
    clear hX HZ0
    refine (szNet_c v0 l0 (1048576) W0 (F2.out.mono (by omega)) hlen0 (by omega) (by omega)).mono ?_
    rw [HQ0.out]
    rintro e W1 ⟨rfl, hb4⟩
    have hz5 := hb4.size
    have F6 := hide (F1.out.trans (hb4.mono (by omega)))
    have F7 := hide (F2.out.below hb4 (by omega))
    have F8 := hide ((hb4.block (w.heap.size) (by omega)).trans F3.out)
    clear hb4 F1 F2 F3
    go_wp2
    go_ret
    exact ⟨rfl, F6.out⟩
  have hneg0 : ¬ q0 < 0 := by omega
  go_enter Tryd.func11, Tryd.ntmps11
  go_wp2_with fail
  generalize hX : (w.alloc (.cells #[v0] 59)) = W0 at F1 F2 F3 HZ0 ⊢
  have hz0 := Nat.le_of_eq HZ0.out.symm
  clear hX HZ0
  refine (szNet_c v0 l0 (1048576) W0 (F2.out.mono (by omega)) hlen0 (by omega) (by omega)).mono ?_
  rw [HQ0.out]
  rintro e W1 ⟨rfl, hb4⟩
  have hz5 := hb4.size
  have F6 := hide (F1.out.trans (hb4.mono (by omega)))
  have F7 := hide (F2.out.below hb4 (by omega))
  have F8 := hide ((hb4.block (w.heap.size) (by omega)).trans F3.out)
  clear hb4 F1 F2 F3
  have p9 := cell1_at0 F8.out
  go_wp2_with fail
  clear p9
  refine (toNet_c v0 l0 W1 (F7.out.mono (by omega)) (by omega)).mono ?_
  rintro e W2 ⟨g10, rfl, hg11, hk12, hb13⟩
  have hz14 := hb13.size
  have F15 := hide (F6.out.trans (hb13.mono (by omega)))
  have F16 := hide (F7.out.below hb13 (by omega))
  have F17 := hide ((hb13.block (w.heap.size) (by omega)).trans F8.out)
  have F18 := hide (hk12.own hg11 (by unfold maxLen; omega))
  have B19 := hide (F18.out.base)
  have L20 := hide (F18.out.blockLt)
  clear hb13 F6 F7 F8 hk12 hg11
  have p21 := cell1_at0 F17.out
  go_wp2_with fail
  clear p21
  refine (specWayBetween_c _ l0 x1 x2 W2 F18.out.ints (by omega) (HT.out.belowB HT.out F15.out (Nat.le_refl _))).mono ?_
  rw [HR.out, HO.out]
  rintro e W3 ⟨rfl, hb22⟩
  have hz23 := hb22.size
  have F24 := hide (F15.out.trans (hb22.mono (by omega)))
  have F25 := hide (F16.out.below hb22 (by omega))
  have F26 := hide ((hb22.block (w.heap.size) (by omega)).trans F17.out)
  have F27 := hide (F18.out.kept hb22)
  clear hb22 F15 F16 F17 F18
  clear F27
  clear B19 L20
  have p28 := cell1_at0 F26.out
  go_wp2_with fail
  clear p28
  refine (toNet_c v0 l0 W3 (F25.out.mono (by omega)) (by omega)).mono ?_
  rintro e W4 ⟨g29, rfl, hg30, hk31, hb32⟩
  have hz33 := hb32.size
  have F34 := hide (F24.out.trans (hb32.mono (by omega)))
  have F35 := hide (F25.out.below hb32 (by omega))
  have F36 := hide ((hb32.block (w.heap.size) (by omega)).trans F26.out)
  have F37 := hide (hk31.own hg30 (by unfold maxLen; omega))
  have B38 := hide (F37.out.base)
  have L39 := hide (F37.out.blockLt)
  clear hb32 F24 F25 F26 hk31 hg30
  have F40 := hide (F34.out.alloc (by omega) (.cells #[.slice (some ⟨g29, 0, none⟩) l0.length l0.length] 62))
  have F41 := hide (F35.out.alloc (.cells #[.slice (some ⟨g29, 0, none⟩) l0.length l0.length] 62))
  have F42 := hide ((hp_old W4 (.cells #[.slice (some ⟨g29, 0, none⟩) l0.length l0.length] 62) (w.heap.size) (by omega)).trans F36.out)
  have F43 := hide (F37.out.alloc (.cells #[.slice (some ⟨g29, 0, none⟩) l0.length l0.length] 62))
  have F44 := hide (hp_last W4 (.cells #[.slice (some ⟨g29, 0, none⟩) l0.length l0.length] 62))
  have HZ45 := hide (show (W4.alloc (.cells #[.slice (some ⟨g29, 0, none⟩) l0.length l0.length] 62)).heap.size = W4.heap.size + 1 by simp)
  clear F34 F35 F36 F37
  have p46 := cell1_at0 F42.out
  have p47 := cell1_at0 F44.out
  go_wp2_with fail
  clear p46 p47
  generalize hX : W4.alloc (.cells #[.slice (some ⟨g29, 0, none⟩) l0.length l0.length] 62) = W5 at F40 F41 F42 F43 F44 HZ45 ⊢
  have hz48 := Nat.le_of_eq HZ45.out.symm
  clear hX HZ45
  refine (implWayBetween_c _ l0 x1 x2 W5 F43.out.ints (by omega) (HT.out.belowB HT.out F40.out (Nat.le_refl _))).mono ?_
  rw [HR.out, HO.out]
  rintro e W6 ⟨rfl, hb49⟩
  have hz50 := hb49.size
  have F51 := hide (F40.out.trans (hb49.mono (by omega)))
  have F52 := hide (F41.out.below hb49 (by omega))
  have F53 := hide ((hb49.block (w.heap.size) (by omega)).trans F42.out)
  have F54 := hide (F43.out.kept hb49)
  have F55 := hide ((hb49.block (W4.heap.size) (by omega)).trans F44.out)
  clear hb49 F40 F41 F42 F43 F44
  have p56 := cell1_at0 F53.out
  have p57 := cell1_at0 F55.out
  go_wp2
  clear p56 p57
  refine wp_region_held (S := Below W6.heap.size W6) (by kernel_rfl) ?_
  have hS : Below W6.heap.size W6 { W6 with drawn := W6.drawn + 1 } := (Below.refl _ _).drew
  refine wpAnyH_take (i := 0) rfl (by kernel_rfl) (by kernel_rfl) (by kernel_rfl) (fun _ _ _ h => h) (yields_load_one rowNp sizeNp rfl (.tmp _) rfl _ rfl _ (fun w' h => (h.cell (p := ⟨W4.heap.size, 0, none⟩) (by show W4.heap.size < _; omega)).trans (cell1_at0 F55.out))) hS ?_
  refine wpAnyH_take (i := 1) rfl (by kernel_rfl) (by kernel_rfl) (by kernel_rfl) (fun _ _ _ h => h) (yields_load_one rowNl sizeNl rfl (.tmp _) rfl _ rfl _ (fun w' h => (h.cell (p := ⟨w.heap.size, 0, none⟩) (by show w.heap.size < _; omega)).trans (cell1_at0 F53.out))) hS ?_
  refine anyH_call (i := 2) (by kernel_rfl) rfl rfl 48 ent_toNet _ _ rfl #[.agg #[v0]] rfl (toNet_c v0 l0 _ ((F52.out.below hS (by omega)).mono (show w.heap.size ≤ W6.heap.size by omega)) (by omega)) ?_
  rintro e W7 ⟨g58, rfl, hgr, hkr, hbr⟩
  have hzr : W6.heap.size ≤ W7.heap.size := hbr.size
  have hS6 : Below W6.heap.size W6 W7 := hS.trans hbr
  refine ⟨_, rfl, hS6, ?_⟩
  refine anyH_call (i := 3) (by kernel_rfl) rfl rfl 50 ent_eqNet _ _ rfl #[.agg #[.slice (some ⟨g29, 0, none⟩) l0.length l0.length], .agg #[.slice (some ⟨g58, 0, none⟩) l0.length l0.length]] rfl (eqNet_same_c _ _ l0 W7 ((F54.out.kept hS6).ints) (hkr.ints _) (by omega)) ?_
  rintro e W8 ⟨rfl, hbs⟩
  have hS7 : Below W6.heap.size W6 W8 := hS6.trans (hbs.mono hzr)
  refine ⟨_, rfl, hS7, ?_⟩
  refine anyH_op (i := 4) (by kernel_rfl) rfl rfl (.bool false) W8 ?hq hS7 ?_
  case hq => simp [go_sem, Act.put]
  refine wpAnyH_done (by kernel_rfl) ?_ _
  simp only [Act.put, List.getElem_toArray, List.getElem_cons_zero, List.getElem_cons_succ, List.setIfInBounds_toArray, List.set_cons_zero, List.set_cons_succ]
  have hz59 : W6.heap.size ≤ W8.heap.size := hS7.size
  have F60 := hide (F51.out.trans (hS7.mono (by omega)))
  have F61 := hide (F52.out.below hS7 (by omega))
  have F62 := hide ((hS7.block (w.heap.size) (by omega)).trans F53.out)
  have F63 := hide (F54.out.kept hS7)
  have F64 := hide ((hS7.block (W4.heap.size) (by omega)).trans F55.out)
  clear hS hS6 hS7 hbr hbs hkr hgr hzr F51 F52 F53 F54 F55
  have p65 := cell1_at0 F62.out
  have p66 := cell1_at0 F64.out
  go_wp2
  go_ret
  exact ⟨rfl, F60.out⟩

theorem ownK : ownKnob Tryd.prog.godebug = none := by kernel_rfl
theorem laidOut : laidOutB Tryd.prog = true := by kernel_rfl

/-- What a slice of int is, as it comes in. -/
theorem list_open {W : World} {v : Value} {l : List Int} (h : (v = .slice none 0 0 ∧ l = []) ∨ ∃ (a : Addr) (len c : Nat) (zs : List Int), v = .slice (some a) len c ∧ len ≤ zs.length ∧ len ≤ maxLen ∧ (∀ i, i < zs.length → W.cell? (a.add i) = some (.int .i64 (zs.getD i 0))) ∧ l = zs.take len) : ints W.heap.size W v l ∧ l.length ≤ 9223372036854775807 := by
  rcases h with ⟨rfl, rfl⟩ | ⟨x, len, c, zs, rfl, hlt, hm, hcell, rfl⟩
  · exact ⟨.inl ⟨rfl, none, 0, rfl⟩, by simp⟩
  · have htk : (zs.take len).length = len := by simp; omega
    refine ⟨?_, by unfold maxLen at hm; omega⟩
    rcases Nat.eq_zero_or_pos len with h0 | h0
    · subst h0
      exact .inl ⟨by simp, some x, c, rfl⟩
    · obtain ⟨b, off, rfl, hc⟩ := ints_at hcell (by omega)
      have hbl := block_lt_of_cell (hc 0 (by omega))
      refine .inr ⟨b, off, c, by rw [htk], hbl, hbl, fun j hj => ?_⟩
      rw [htk] at hj
      rw [hc j (by omega), List.getElem?_take, if_pos hj]
      rfl

/-- What a struct of one slice of int is, as it comes in. -/
theorem net_open {H : Type} {enc : TypeId × Value → H} {W : World} {b0 : Nat} {v : Value} {d : DataW H} {p : List MemPlace}
    (hv : Value.okWide Tryd.prog W .any b0 59 v) (h : DataW.Trod enc Tryd.prog W 0 (fun _ => true) true 59 v d p) :
    ∃ (u : Value) (l : List Int), v = .agg #[u] ∧ ints W.heap.size W u l ∧ l.length ≤ 9223372036854775807 := by
  obtain ⟨v0, y0, m, rfl, rfl, rfl, hy0⟩ := open_agg1 Tryd.underlying59 (by kernel_rfl) (by kernel_rfl) hv h
  rcases open_ints Tryd.underlying22 Tryd.underlying3 (by kernel_rfl) hy0 with ⟨hcs, _⟩ | ⟨x, len, c, zs, hcs, _, hl, hm, hz, _, hcell, hwz⟩
  · simp at hcs
    subst hcs
    exact ⟨_, [], rfl, list_open (.inl ⟨rfl, rfl⟩)⟩
  · simp at hcs
    subst hcs
    have hz' : zs.length = c := by simpa using hz
    exact ⟨_, zs.take len, rfl, list_open (.inr ⟨x, len, c, zs, rfl, by omega, by unfold maxLen at hm ⊢; omega, hcell, rfl⟩)⟩


/-- What the card's condition gives: the table's cells. -/
theorem tab_of {W : World} (h : laidMetH Tryd.prog Rows.fnExactWayBetweenRow.laid W) : tab W := by
  rw [MakeChecks.laidMetH_plain _ _ _ (by kernel_rfl)] at h
  have h2 := h.tail
  have e : (Rows.laid_math_bits_deBruijn64tab : DataW Unit) = Lib.tabData .u8 (Lib.deBruijn64tab.map fun n : Nat => (n : Int)) := by kernel_rfl
  rw [e] at h2
  have hT := Lib.tabIs_of_head (g := 1) (t := 195) (e := 5) (n := 64) (by kernel_rfl) (by kernel_rfl) (by kernel_rfl) (by kernel_rfl) (by kernel_rfl) (by kernel_rfl) h2
  have hc : ∀ j, j < 64 → W.cell? ⟨1, j, none⟩ = some (.int .u8 (Lib.deBruijn64tab.getD j 0)) := by
    intro j hj
    have h3 := hT.cell (g := 1) (by kernel_rfl) j (by rw [show (Lib.deBruijn64tab.map fun n : Nat => (n : Int)).length = 64 by decide +kernel]; exact hj)
    rw [h3]
    have h4 : ∀ j, j < 64 → (Lib.deBruijn64tab.map fun n : Nat => (n : Int)).getD j 0 = (Lib.deBruijn64tab.getD j 0 : Int) := by decide +kernel
    rw [h4 j hj]
  exact ⟨block_lt_of_cell (hc 0 (by omega)), hc⟩
theorem door_met (os : Os) (args : Array Value) : laidMetH Tryd.prog Rows.fnExactWayBetweenRow.laid ((World.doorLaid Tryd.prog 400 os).forCall (fun _ _ => 0) ⟨#[], args, []⟩).memory :=
  laidMetH_of_parts3 (fuel := 8) (laidMet_of_run' 8 (by kernel_rfl) (by kernel_rfl)) (by kernel_rfl) (by kernel_rfl)

theorem lifted (os : Os) (started : os.Started) (H : Type) (enc : TypeId × Value → H) :
    ReturnsInHanded {} Tryd.checked os 11 .any (fun w args => (Rows.fnExactWayBetweenSpec.pre enc Tryd.prog Tryd.f11 [] false w args ∧ laidMetH Tryd.prog Rows.fnExactWayBetweenRow.laid w) ∧ sizedMet enc Tryd.prog Tryd.f11 (OpenSpec.ofChange Rows.fnExactWayBetweenSpec) false w args)
      (Rows.fnExactWayBetweenSpec.post enc Tryd.prog Tryd.f11 false true false false) := by
  refine returnsInHanded_of_change_and (C := Tryd.checked) (X := fun w _ => laidMetH Tryd.prog Rows.fnExactWayBetweenRow.laid w) (fun _ _ _ hh h => h.of_heap hh) ownK started (by kernel_rfl) Tryd.func11
    (ChangeSpec.witness_shaped (enc := enc) (C := Tryd.checked) (os := os) (X := fun w _ => laidMetH Tryd.prog Rows.fnExactWayBetweenRow.laid w) false (World.doorLaid Tryd.prog 400 os) #[.agg #[.slice none 0 0], .int .i64 0, .int .i64 0] 8 rfl (World.shaped_of_RefB (by kernel_rfl) (by kernel_rfl)) (by kernel_rfl) (by kernel_rfl) (by kernel_rfl) (door_met os _)) ?_
  intro W base args ds gs before hval0 hW _ _ hL _
  have hTab := tab_of hL
  have hval : ∀ (j : Nat) t v, Tryd.f11.params[j]? = some t → args[j]? = some v → Value.okWide Tryd.prog W .any base t v := hval0
  have hW' := hW
  obtain ⟨p, q, hA0, hV, rfl, hfz, hnd⟩ := hW
  have hA : DataW.TrodAll enc Tryd.prog W 0 (fun _ => true) true Tryd.f11.params.toList args.toList ds p := hA0
  rw [Tryd.params11] at hA hval
  obtain ⟨v0, vs0, d0, ds0, p0, q0, hargs, rfl, rfl, t0, r0⟩ := trodAll_cons hA
  obtain ⟨v1, vs1, d1, ds1, p1, q1, rfl, rfl, rfl, t1, r1⟩ := trodAll_cons r0
  obtain ⟨v2, vs2, d2, ds2, p2, q2, rfl, rfl, rfl, t2, r2⟩ := trodAll_cons r1
  obtain ⟨rfl, rfl, rfl⟩ := trodAll_nil r2
  obtain rfl : args = #[v0, v1, v2] := by cases args; simp_all
  obtain ⟨rfl, rfl⟩ := trodVars_none hV
  have k0 := t0
  have lt0 : ∀ x ∈ p0, x.block < W.heap.size := by obtain ⟨m, hm⟩ := k0; exact DataW.trod_lt m _ _ _ hm
  obtain ⟨u0, l0, rfl, i0, e0⟩ := net_open (hval 0 59 v0 rfl rfl) t0
  obtain ⟨a1, rfl, rfl, rfl, w1⟩ := open_int Tryd.underlying3 (hval 1 3 v1 rfl rfl) t1
  obtain ⟨a2, rfl, rfl, rfl, w2⟩ := open_int Tryd.underlying3 (hval 2 3 v2 rfl rfl) t2
  clear hA0 hval0
  refine (law_c u0 l0 a1 a2 W i0 e0 hTab).mono fun e W' ⟨he, bel⟩ => ?_
  subst he
  exact ⟨_, rfl, _, _, _, [], _, [], hW', trodAll_mk1 (shut_bool Tryd.underlying4 _), (trodAll_cons_mk (Below.trod laidOut (by kernel_rfl) (of_decide_eq_true (by kernel_rfl)) k0 bel lt0) (trodAll_cons_mk (shut_int Tryd.underlying3 w1) (trodAll_cons_mk (shut_int Tryd.underlying3 w2) trodAll_mk0))), rfl, bel.frame _, fun h => by cases h⟩

set_option maxHeartbeats 4000000 in
theorem over : Rows.fnExactWayBetweenRow.holds Tryd.pinned (OpenSpec.ofChange Rows.fnExactWayBetweenSpec) :=
  OpenClaim.holds_of_wide 11 Tryd.f11 rfl rfl rfl rfl rfl rfl rfl ⟨rfl, rfl, rfl, rfl, rfl⟩ rfl rfl rfl rfl rfl (by as_aux_lemma => kernel_rfl) Tryd.func11 (by as_aux_lemma => kernel_rfl)
    (of_decide_eq_true (by as_aux_lemma => kernel_rfl)) (by unfold Func.isWrapper; first | (rw [if_pos (by decide +kernel)]; kernel_rfl) | (rw [if_neg (by decide +kernel)]; exact ⟨rfl, rfl⟩))
    (fun os started H enc _ => lifted os started H enc)

set_option maxHeartbeats 8000000 in
theorem proved : Rows.FnExactWayBetweenCardSaid :=
  Claim7.holds_tied_plain_at .later [] [.data, .data] true _ false
    over (fun _ h => by cases h) (by as_aux_lemma => kernel_rfl) (fun _ h => by cases h) fnExactWayBetween_row_tie rfl ⟨rfl, rfl⟩ (by as_aux_lemma => kernel_rfl) rfl
    (fun f fn hf hfn => by
      obtain rfl : f = 11 := Option.some.inj ((show Tryd.prog.funcNamed "loop.example/g01137/laws.FnExactWayBetween" = some 11 by as_aux_lemma => kernel_rfl).symm.trans hf) |>.symm
      obtain rfl : fn = Tryd.f11 := (Option.some.inj (Tryd.func11.symm.trans hfn)).symm
      exact ⟨by as_aux_lemma => kernel_rfl, fun j t ht => by
        rw [Tryd.params11] at ht
        have hm : t ∈ [59, 3, 3] := by simpa using Array.mem_of_getElem? ht
        have hall : ([59, 3, 3].all fun u => !Tryd.prog.wantsStandIn u) = true := by as_aux_lemma => kernel_rfl
        exact (show Tryd.prog.wantsStandIn t = false by simpa using List.all_eq_true.1 hall t hm)⟩)
    (by as_aux_lemma => kernel_rfl)
#print axioms proved
end Go.Proofs.YtonimjpfaalniaaDoor.FWayBetween
