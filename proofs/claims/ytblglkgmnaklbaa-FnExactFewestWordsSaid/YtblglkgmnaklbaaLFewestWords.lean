/- The program's FewestWords answers as the specification's does, at every argument, leaves its arguments as they are, and its answer owns its memory: no condition. -/
import Derived.Test.YtblglkgmnaklbaaRows
import Derived.Test.YtblglkgmnaklbaaWdi
import Derived.Test.YtblglkgmnaklbaaHar
import Derived.ProofKit
import Derived.OpenShut
import Derived.Lib.SmallJoins
namespace Go.Proofs.Ytblglkgmnaklbaa.FFewestWords
open Go.ChangeShapes Go.WideShapes Go.ChangeAt Go.RowKit Go.Joins
set_option linter.unusedVariables false
set_option linter.unusedSimpArgs false
set_option maxRecDepth 100000

set_option maxHeartbeats 4000000 in
theorem law_c (n0 : Int) (v0 : Value) (l0 : List Int) (w : World) (h0 : ints w.heap.size w v0 l0) (hlen0 : l0.length ≤ 9223372036854775807) :
    Calls Try.prog 5 #[.agg #[.int .i64 n0, v0]] w fun e w' => e = .returned (.bool true) ∧ Below w.heap.size w w' := by
  generalize hR : (wiN n0 l0) = R
  generalize hO : (okSp n0 l0) = ok
  have HR := hide hR
  have HO := hide hO
  clear hR hO
  have F1 := hide (((Below.refl w.heap.size w).alloc (Nat.le_refl _) (.cells #[.int .i64 n0, v0] 24)))
  have F2 := hide ((h0.alloc (.cells #[.int .i64 n0, v0] 24)))
  have F3 := hide (show (w.alloc (.cells #[.int .i64 n0, v0] 24)).heap[w.heap.size]? = some (.cells #[.int .i64 n0, v0] 24) from (by have := hp_last w (.cells #[.int .i64 n0, v0] 24); simpa using this))
  have HZ0 := hide (show (w.alloc (.cells #[.int .i64 n0, v0] 24)).heap.size = w.heap.size + 1 by simp)
  clear h0
  have hsz0 : szOf 1048576 l0.length = -1 ∨ (0 ≤ szOf 1048576 l0.length ∧ szOf 1048576 l0.length ≤ 1048576 ∧ l0.length ≤ 1048576) := by unfold szOf; split <;> omega
  generalize hq0 : szOf 1048576 l0.length = q0 at hsz0
  have HQ0 := hide hq0
  clear hq0
  rcases hsz0 with hbig0 | ⟨hq0a, hq0b, hq0c⟩
  · have HBIG := hide hbig0
    have hneg : q0 < 0 := by omega
    clear hbig0
    go_enter Try.func5, Try.ntmps5
    go_wp2_with fail
    generalize hX : (w.alloc (.cells #[.int .i64 n0, v0] 24)) = W0 at F1 F2 F3 HZ0 ⊢
    have hz0 := Nat.le_of_eq HZ0.out.symm
    clear hX HZ0
    refine (szSpace_c n0 v0 l0 (1048576) W0 (F2.out.mono (by omega)) hlen0 (by omega) (by omega)).mono ?_
    rw [HQ0.out]
    rintro e W1 ⟨rfl, hb4⟩
    have hz5 := hb4.size
    have F6 := hide (F1.out.trans (hb4.mono (by omega)))
    have F7 := hide (F2.out.below hb4 (by omega))
    have F8 := hide ((hb4.block (w.heap.size) (by omega)).trans F3.out)
    clear hb4 F1 F2 F3
    go_wp2
    go_ret
    exact ⟨rfl, F6.out⟩
  have hneg0 : ¬ q0 < 0 := by omega
  go_enter Try.func5, Try.ntmps5
  go_wp2_with fail
  generalize hX : (w.alloc (.cells #[.int .i64 n0, v0] 24)) = W0 at F1 F2 F3 HZ0 ⊢
  have hz0 := Nat.le_of_eq HZ0.out.symm
  clear hX HZ0
  refine (szSpace_c n0 v0 l0 (1048576) W0 (F2.out.mono (by omega)) hlen0 (by omega) (by omega)).mono ?_
  rw [HQ0.out]
  rintro e W1 ⟨rfl, hb4⟩
  have hz5 := hb4.size
  have F6 := hide (F1.out.trans (hb4.mono (by omega)))
  have F7 := hide (F2.out.below hb4 (by omega))
  have F8 := hide ((hb4.block (w.heap.size) (by omega)).trans F3.out)
  clear hb4 F1 F2 F3
  have p9 := cells_at0 F8.out
  have p10 := cells_at1 F8.out
  go_wp2_with fail
  clear p9 p10
  refine (toSpace_c n0 v0 l0 W1 (F7.out.mono (by omega)) (by omega)).mono ?_
  rintro e W2 ⟨g11, rfl, hg12, hk13, hb14⟩
  have hz15 := hb14.size
  have F16 := hide (F6.out.trans (hb14.mono (by omega)))
  have F17 := hide (F7.out.below hb14 (by omega))
  have F18 := hide ((hb14.block (w.heap.size) (by omega)).trans F8.out)
  have F19 := hide (hk13.own hg12 (by unfold maxLen; omega))
  have B20 := hide (F19.out.base)
  have L21 := hide (F19.out.blockLt)
  clear hb14 F6 F7 F8 hk13 hg12
  have p22 := cells_at0 F18.out
  have p23 := cells_at1 F18.out
  go_wp2_with fail
  clear p22 p23
  refine (specFewestWords_c n0 _ l0 W2 F19.out.ints (by omega)).mono ?_
  rw [HR.out, HO.out]
  rintro e W3 ⟨rfl, hb24⟩
  have hz25 := hb24.size
  have F26 := hide (F16.out.trans (hb24.mono (by omega)))
  have F27 := hide (F17.out.below hb24 (by omega))
  have F28 := hide ((hb24.block (w.heap.size) (by omega)).trans F18.out)
  have F29 := hide (F19.out.kept hb24)
  clear hb24 F16 F17 F18 F19
  clear F29
  clear B20 L21
  have p30 := cells_at0 F28.out
  have p31 := cells_at1 F28.out
  go_wp2_with fail
  clear p30 p31
  refine (toSpace_c n0 v0 l0 W3 (F27.out.mono (by omega)) (by omega)).mono ?_
  rintro e W4 ⟨g32, rfl, hg33, hk34, hb35⟩
  have hz36 := hb35.size
  have F37 := hide (F26.out.trans (hb35.mono (by omega)))
  have F38 := hide (F27.out.below hb35 (by omega))
  have F39 := hide ((hb35.block (w.heap.size) (by omega)).trans F28.out)
  have F40 := hide (hk34.own hg33 (by unfold maxLen; omega))
  have B41 := hide (F40.out.base)
  have L42 := hide (F40.out.blockLt)
  clear hb35 F26 F27 F28 hk34 hg33
  have F43 := hide (F37.out.alloc (by omega) (.cells #[.int .i64 n0, .slice (some ⟨g32, 0, none⟩) l0.length l0.length] 28))
  have F44 := hide (F38.out.alloc (.cells #[.int .i64 n0, .slice (some ⟨g32, 0, none⟩) l0.length l0.length] 28))
  have F45 := hide ((hp_old W4 (.cells #[.int .i64 n0, .slice (some ⟨g32, 0, none⟩) l0.length l0.length] 28) (w.heap.size) (by omega)).trans F39.out)
  have F46 := hide (F40.out.alloc (.cells #[.int .i64 n0, .slice (some ⟨g32, 0, none⟩) l0.length l0.length] 28))
  have F47 := hide (hp_last W4 (.cells #[.int .i64 n0, .slice (some ⟨g32, 0, none⟩) l0.length l0.length] 28))
  have HZ48 := hide (show (W4.alloc (.cells #[.int .i64 n0, .slice (some ⟨g32, 0, none⟩) l0.length l0.length] 28)).heap.size = W4.heap.size + 1 by simp)
  clear F37 F38 F39 F40
  have p49 := cells_at0 F45.out
  have p50 := cells_at1 F45.out
  have p51 := cells_at0 F47.out
  have p52 := cells_at1 F47.out
  go_wp2_with fail
  clear p49 p50 p51 p52
  generalize hX : W4.alloc (.cells #[.int .i64 n0, .slice (some ⟨g32, 0, none⟩) l0.length l0.length] 28) = W5 at F43 F44 F45 F46 F47 HZ48 ⊢
  have hz53 := Nat.le_of_eq HZ48.out.symm
  clear hX HZ48
  refine (implFewestWords_c n0 _ l0 W5 F46.out.ints (by omega)).mono ?_
  rw [HR.out, HO.out]
  rintro e W6 ⟨rfl, hb54⟩
  have hz55 := hb54.size
  have F56 := hide (F43.out.trans (hb54.mono (by omega)))
  have F57 := hide (F44.out.below hb54 (by omega))
  have F58 := hide ((hb54.block (w.heap.size) (by omega)).trans F45.out)
  have F59 := hide (F46.out.kept hb54)
  have F60 := hide ((hb54.block (W4.heap.size) (by omega)).trans F47.out)
  clear hb54 F43 F44 F45 F46 F47
  have p61 := cells_at0 F58.out
  have p62 := cells_at1 F58.out
  have p63 := cells_at0 F60.out
  have p64 := cells_at1 F60.out
  go_wp2
  clear p61 p62 p63 p64
  refine wp_region_held (S := Below W6.heap.size W6) (by kernel_rfl) ?_
  have hS : Below W6.heap.size W6 { W6 with drawn := W6.drawn + 1 } := (Below.refl _ _).drew
  refine wpAnyH_take (i := 0) rfl (by kernel_rfl) (by kernel_rfl) (by kernel_rfl) (fun _ _ _ h => h) (yields_load_two rowSp sizeSp rfl (.tmp _) rfl _ rfl _ _ (fun w' h => (h.cell (p := ⟨W4.heap.size, 0, none⟩) (by show W4.heap.size < _; omega)).trans (cells_at0 F60.out)) (fun w' h => (h.cell (p := ⟨W4.heap.size, 1, none⟩) (by show W4.heap.size < _; omega)).trans (cells_at1 F60.out))) hS ?_
  refine wpAnyH_take (i := 1) rfl (by kernel_rfl) (by kernel_rfl) (by kernel_rfl) (fun _ _ _ h => h) (yields_load_two rowSl sizeSl rfl (.tmp _) rfl _ rfl _ _ (fun w' h => (h.cell (p := ⟨w.heap.size, 0, none⟩) (by show w.heap.size < _; omega)).trans (cells_at0 F58.out)) (fun w' h => (h.cell (p := ⟨w.heap.size, 1, none⟩) (by show w.heap.size < _; omega)).trans (cells_at1 F58.out))) hS ?_
  refine anyH_call (i := 2) (by kernel_rfl) rfl rfl 9 ent_toSpace _ _ rfl #[.agg #[.int .i64 n0, v0]] rfl (toSpace_c n0 v0 l0 _ ((F57.out.below hS (by omega)).mono (show w.heap.size ≤ W6.heap.size by omega)) (by omega)) ?_
  rintro e W7 ⟨g65, rfl, hgr, hkr, hbr⟩
  have hzr : W6.heap.size ≤ W7.heap.size := hbr.size
  have hS6 : Below W6.heap.size W6 W7 := hS.trans hbr
  refine ⟨_, rfl, hS6, ?_⟩
  refine anyH_call (i := 3) (by kernel_rfl) rfl rfl 11 ent_eqSpace _ _ rfl #[.agg #[.int .i64 n0, .slice (some ⟨g32, 0, none⟩) l0.length l0.length], .agg #[.int .i64 n0, .slice (some ⟨g65, 0, none⟩) l0.length l0.length]] rfl (eqSpace_same_c n0 _ _ l0 W7 ((F59.out.kept hS6).ints) (hkr.ints _) (by omega)) ?_
  rintro e W8 ⟨rfl, hbs⟩
  have hS7 : Below W6.heap.size W6 W8 := hS6.trans (hbs.mono hzr)
  refine ⟨_, rfl, hS7, ?_⟩
  refine anyH_op (i := 4) (by kernel_rfl) rfl rfl (.bool false) W8 ?hq hS7 ?_
  case hq => simp [go_sem, Act.put]
  refine wpAnyH_done (by kernel_rfl) ?_ _
  simp only [Act.put, List.getElem_toArray, List.getElem_cons_zero, List.getElem_cons_succ, List.setIfInBounds_toArray, List.set_cons_zero, List.set_cons_succ]
  have hz66 : W6.heap.size ≤ W8.heap.size := hS7.size
  have F67 := hide (F56.out.trans (hS7.mono (by omega)))
  have F68 := hide (F57.out.below hS7 (by omega))
  have F69 := hide ((hS7.block (w.heap.size) (by omega)).trans F58.out)
  have F70 := hide (F59.out.kept hS7)
  have F71 := hide ((hS7.block (W4.heap.size) (by omega)).trans F60.out)
  clear hS hS6 hS7 hbr hbs hkr hgr hzr F56 F57 F58 F59 F60
  have p72 := cells_at0 F69.out
  have p73 := cells_at1 F69.out
  have p74 := cells_at0 F71.out
  have p75 := cells_at1 F71.out
  go_wp2
  go_ret
  exact ⟨rfl, F67.out⟩

theorem ownK : ownKnob Try.prog.godebug = none := by kernel_rfl
theorem laidOut : laidOutB Try.prog = true := by kernel_rfl

/-- What a slice of int is, as it comes in. -/
theorem list_open {W : World} {v : Value} {l : List Int} (h : (v = .slice none 0 0 ∧ l = []) ∨ ∃ (a : Addr) (len c : Nat) (zs : List Int), v = .slice (some a) len c ∧ len ≤ zs.length ∧ len ≤ maxLen ∧ (∀ i, i < zs.length → W.cell? (a.add i) = some (.int .i64 (zs.getD i 0))) ∧ l = zs.take len) : ints W.heap.size W v l ∧ l.length ≤ 9223372036854775807 := by
  rcases h with ⟨rfl, rfl⟩ | ⟨x, len, c, zs, rfl, hlt, hm, hcell, rfl⟩
  · exact ⟨.inl ⟨rfl, none, 0, rfl⟩, by simp⟩
  · have htk : (zs.take len).length = len := by simp; omega
    refine ⟨?_, by unfold maxLen at hm; omega⟩
    rcases Nat.eq_zero_or_pos len with h0 | h0
    · subst h0
      exact .inl ⟨by simp, some x, c, rfl⟩
    · obtain ⟨b, off, rfl, hc⟩ := ints_at hcell (by omega)
      have hbl := block_lt_of_cell (hc 0 (by omega))
      refine .inr ⟨b, off, c, by rw [htk], hbl, hbl, fun j hj => ?_⟩
      rw [htk] at hj
      rw [hc j (by omega), List.getElem?_take, if_pos hj]
      rfl

/-- What a struct of an int and a slice of int is, as it comes in. -/
theorem space_open {H : Type} {enc : TypeId × Value → H} {W : World} {b0 : Nat} {v : Value} {d : DataW H} {p : List MemPlace}
    (hv : Value.okWide Try.prog W .any b0 24 v) (h : DataW.Trod enc Try.prog W 0 (fun _ => true) true 24 v d p) :
    ∃ (n : Int) (u : Value) (l : List Int), v = .agg #[.int .i64 n, u] ∧ ints W.heap.size W u l ∧ l.length ≤ 9223372036854775807 := by
  obtain ⟨v0, v1, y0, y1, m, rfl, rfl, rfl, hy0, hy1⟩ := open_agg2 Try.underlying24 (by kernel_rfl) (by kernel_rfl) hv h
  obtain ⟨n, e0, _, _⟩ := DataW.trod_int Try.underlying3 hy0
  simp at e0
  subst e0
  rcases open_ints Try.underlying22 Try.underlying3 (by kernel_rfl) hy1 with ⟨hcs, _⟩ | ⟨x, len, c, zs, hcs, _, hl, hm, hz, _, hcell, hwz⟩
  · simp at hcs
    subst hcs
    exact ⟨n, _, [], rfl, list_open (.inl ⟨rfl, rfl⟩)⟩
  · simp at hcs
    subst hcs
    have hz' : zs.length = c := by simpa using hz
    exact ⟨n, _, zs.take len, rfl, list_open (.inr ⟨x, len, c, zs, rfl, by omega, by unfold maxLen at hm ⊢; omega, hcell, rfl⟩)⟩

theorem lifted (os : Os) (started : os.Started) (H : Type) (enc : TypeId × Value → H) :
    ReturnsInHanded {} Try.checked os 5 .any (Rows.fnExactFewestWordsSpec.pre6 enc Try.prog Try.f5 Rows.fnExactFewestWordsRow.domain false) (Rows.fnExactFewestWordsSpec.post enc Try.prog Try.f5 false true false false) := by
  refine returnsInHanded_of_change (C := Try.checked) ownK started (by kernel_rfl) Try.func5
    (ChangeSpec.witness6 (enc := enc) (C := Try.checked) false ⟨#[], #[.agg #[.int .i64 0, .slice none 0 0]], []⟩ 8 (by kernel_rfl) (by kernel_rfl) (by kernel_rfl) (by kernel_rfl)) ?_
  intro W base args ds gs before hval0 hW hcnd _
  have hval : ∀ (j : Nat) t v, Try.f5.params[j]? = some t → args[j]? = some v → Value.okWide Try.prog W .any base t v := hval0
  have hW' := hW
  obtain ⟨p, q, hA0, hV, rfl, hfz, hnd⟩ := hW
  have hA : DataW.TrodAll enc Try.prog W 0 (fun _ => true) true Try.f5.params.toList args.toList ds p := hA0
  rw [Try.params5] at hA hval
  obtain ⟨v0, vs0, d0, ds0, p0, q0, hargs, rfl, rfl, t0, r0⟩ := trodAll_cons hA
  obtain ⟨rfl, rfl, rfl⟩ := trodAll_nil r0
  obtain rfl : args = #[v0] := by cases args; simp_all
  obtain ⟨rfl, rfl⟩ := trodVars_none hV
  have k0 := t0
  have lt0 : ∀ x ∈ p0, x.block < W.heap.size := by obtain ⟨m, hm⟩ := k0; exact DataW.trod_lt m _ _ _ hm
  obtain ⟨n0, u0, l0, rfl, i0, e0⟩ := space_open (hval 0 24 v0 rfl rfl) t0
  clear hA0 hval0
  refine (law_c n0 u0 l0 W i0 e0).mono fun e W' ⟨he, bel⟩ => ?_
  subst he
  exact ⟨_, rfl, _, _, _, [], _, [], hW', trodAll_mk1 (shut_bool Try.underlying4 _), (trodAll_cons_mk (Below.trod laidOut (by kernel_rfl) (of_decide_eq_true (by kernel_rfl)) k0 bel lt0) trodAll_mk0), rfl, bel.frame _, fun h => by cases h⟩

set_option maxHeartbeats 4000000 in
theorem over : Rows.fnExactFewestWordsRow.holds Try.pinned (OpenSpec.ofChange Rows.fnExactFewestWordsSpec) :=
  OpenClaim.holds_of_wide 5 Try.f5 rfl rfl rfl rfl rfl rfl rfl ⟨rfl, rfl, rfl, rfl, rfl⟩ rfl rfl rfl rfl rfl (by as_aux_lemma => kernel_rfl) Try.func5 (by as_aux_lemma => kernel_rfl)
    (of_decide_eq_true (by as_aux_lemma => kernel_rfl)) (by unfold Func.isWrapper; first | (rw [if_pos (by decide +kernel)]; kernel_rfl) | (rw [if_neg (by decide +kernel)]; exact ⟨rfl, rfl⟩))
    (fun os started H enc _ => lifted os started H enc)

theorem proved : Rows.FnExactFewestWordsSaid := over
#print axioms proved
end Go.Proofs.Ytblglkgmnaklbaa.FFewestWords
