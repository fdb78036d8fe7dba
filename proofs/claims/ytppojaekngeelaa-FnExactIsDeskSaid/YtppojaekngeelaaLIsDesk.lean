/- The program's IsDesk answers as the specification's does, at every argument, leaves its arguments as they are, and its answer owns its memory: no condition. -/
import Derived.Test.YtppojaekngeelaaRows
import Derived.Test.YtppojaekngeelaaDi
import Derived.Test.YtppojaekngeelaaHar
import Derived.ProofKit
import Derived.OpenShut
import Derived.Lib.SmallJoins
namespace Go.Proofs.Ytppojaekngeelaa.FIsDesk
open Go.ChangeShapes Go.WideShapes Go.ChangeAt Go.RowKit Go.Joins
set_option linter.unusedVariables false
set_option linter.unusedSimpArgs false
set_option maxRecDepth 100000

set_option maxHeartbeats 4000000 in
theorem law_c (n0 : Int) (v0 : Value) (l0 : List Int) (x0 : Int) (w : World) (h0 : ints w.heap.size w v0 l0) (hlen0 : l0.length ≤ 9223372036854775807) :
    Calls Try.prog 4 #[.agg #[.int .i64 n0, v0, .int .i64 x0]] w fun e w' => e = .returned (.bool true) ∧ Below w.heap.size w w' := by
  generalize hR : (okOne n0 l0 x0) = R
  have HR := hide hR
  clear hR
  have F1 := hide (((Below.refl w.heap.size w).alloc (Nat.le_refl _) (.cells #[.int .i64 n0, v0, .int .i64 x0] 33)))
  have F2 := hide ((h0.alloc (.cells #[.int .i64 n0, v0, .int .i64 x0] 33)))
  have F3 := hide (show (w.alloc (.cells #[.int .i64 n0, v0, .int .i64 x0] 33)).heap[w.heap.size]? = some (.cells #[.int .i64 n0, v0, .int .i64 x0] 33) from (by have := hp_last w (.cells #[.int .i64 n0, v0, .int .i64 x0] 33); simpa using this))
  have HZ0 := hide (show (w.alloc (.cells #[.int .i64 n0, v0, .int .i64 x0] 33)).heap.size = w.heap.size + 1 by simp)
  clear h0
  have hsz0 : szOf 1048576 l0.length = -1 ∨ (0 ≤ szOf 1048576 l0.length ∧ szOf 1048576 l0.length ≤ 1048576 ∧ l0.length ≤ 1048576) := by unfold szOf; split <;> omega
  generalize hq0 : szOf 1048576 l0.length = q0 at hsz0
  have HQ0 := hide hq0
  clear hq0
  rcases hsz0 with hbig0 | ⟨hq0a, hq0b, hq0c⟩
  · have HBIG := hide hbig0
    have hneg : q0 < 0 := by omega
    clear hbig0
    go_enter Try.func4, Try.ntmps4
    go_wp2_with fail
    generalize hX : (w.alloc (.cells #[.int .i64 n0, v0, .int .i64 x0] 33)) = W0 at F1 F2 F3 HZ0 ⊢
    have hz0 := Nat.le_of_eq HZ0.out.symm
    clear hX HZ0
    refine (szDesk_c n0 v0 l0 x0 (1048576) W0 (F2.out.mono (by omega)) hlen0 (by omega) (by omega)).mono ?_
    rw [HQ0.out]
    rintro e W1 ⟨rfl, hb4⟩
    have hz5 := hb4.size
    have F6 := hide (F1.out.trans (hb4.mono (by omega)))
    have F7 := hide (F2.out.below hb4 (by omega))
    have F8 := hide ((hb4.block (w.heap.size) (by omega)).trans F3.out)
    clear hb4 F1 F2 F3
    go_wp2
    go_ret
    exact ⟨rfl, F6.out⟩
  have hneg0 : ¬ q0 < 0 := by omega
  go_enter Try.func4, Try.ntmps4
  go_wp2_with fail
  generalize hX : (w.alloc (.cells #[.int .i64 n0, v0, .int .i64 x0] 33)) = W0 at F1 F2 F3 HZ0 ⊢
  have hz0 := Nat.le_of_eq HZ0.out.symm
  clear hX HZ0
  refine (szDesk_c n0 v0 l0 x0 (1048576) W0 (F2.out.mono (by omega)) hlen0 (by omega) (by omega)).mono ?_
  rw [HQ0.out]
  rintro e W1 ⟨rfl, hb4⟩
  have hz5 := hb4.size
  have F6 := hide (F1.out.trans (hb4.mono (by omega)))
  have F7 := hide (F2.out.below hb4 (by omega))
  have F8 := hide ((hb4.block (w.heap.size) (by omega)).trans F3.out)
  clear hb4 F1 F2 F3
  have p9 := cells3_at0 F8.out
  have p10 := cells3_at1 F8.out
  have p11 := cells3_at2 F8.out
  go_wp2_with fail
  clear p9 p10 p11
  refine (toDesk_c n0 v0 l0 x0 W1 (F7.out.mono (by omega)) (by omega)).mono ?_
  rintro e W2 ⟨g12, rfl, hg13, hk14, hb15⟩
  have hz16 := hb15.size
  have F17 := hide (F6.out.trans (hb15.mono (by omega)))
  have F18 := hide (F7.out.below hb15 (by omega))
  have F19 := hide ((hb15.block (w.heap.size) (by omega)).trans F8.out)
  have F20 := hide (hk14.own hg13 (by unfold maxLen; omega))
  have B21 := hide (F20.out.base)
  have L22 := hide (F20.out.blockLt)
  clear hb15 F6 F7 F8 hk14 hg13
  have p23 := cells3_at0 F19.out
  have p24 := cells3_at1 F19.out
  have p25 := cells3_at2 F19.out
  go_wp2_with fail
  clear p23 p24 p25
  refine (specIsDesk_c n0 _ l0 x0 W2 F20.out.ints (by omega)).mono ?_
  rw [HR.out]
  rintro e W3 ⟨rfl, hb26⟩
  have hz27 := hb26.size
  have F28 := hide (F17.out.trans (hb26.mono (by omega)))
  have F29 := hide (F18.out.below hb26 (by omega))
  have F30 := hide ((hb26.block (w.heap.size) (by omega)).trans F19.out)
  have F31 := hide (F20.out.kept hb26)
  clear hb26 F17 F18 F19 F20
  clear F31
  clear B21 L22
  have p32 := cells3_at0 F30.out
  have p33 := cells3_at1 F30.out
  have p34 := cells3_at2 F30.out
  go_wp2_with fail
  clear p32 p33 p34
  refine (toDesk_c n0 v0 l0 x0 W3 (F29.out.mono (by omega)) (by omega)).mono ?_
  rintro e W4 ⟨g35, rfl, hg36, hk37, hb38⟩
  have hz39 := hb38.size
  have F40 := hide (F28.out.trans (hb38.mono (by omega)))
  have F41 := hide (F29.out.below hb38 (by omega))
  have F42 := hide ((hb38.block (w.heap.size) (by omega)).trans F30.out)
  have F43 := hide (hk37.own hg36 (by unfold maxLen; omega))
  have B44 := hide (F43.out.base)
  have L45 := hide (F43.out.blockLt)
  clear hb38 F28 F29 F30 hk37 hg36
  have F46 := hide (F40.out.alloc (by omega) (.cells #[.int .i64 n0, .slice (some ⟨g35, 0, none⟩) l0.length l0.length, .int .i64 x0] 26))
  have F47 := hide (F41.out.alloc (.cells #[.int .i64 n0, .slice (some ⟨g35, 0, none⟩) l0.length l0.length, .int .i64 x0] 26))
  have F48 := hide ((hp_old W4 (.cells #[.int .i64 n0, .slice (some ⟨g35, 0, none⟩) l0.length l0.length, .int .i64 x0] 26) (w.heap.size) (by omega)).trans F42.out)
  have F49 := hide (F43.out.alloc (.cells #[.int .i64 n0, .slice (some ⟨g35, 0, none⟩) l0.length l0.length, .int .i64 x0] 26))
  have F50 := hide (hp_last W4 (.cells #[.int .i64 n0, .slice (some ⟨g35, 0, none⟩) l0.length l0.length, .int .i64 x0] 26))
  have HZ51 := hide (show (W4.alloc (.cells #[.int .i64 n0, .slice (some ⟨g35, 0, none⟩) l0.length l0.length, .int .i64 x0] 26)).heap.size = W4.heap.size + 1 by simp)
  clear F40 F41 F42 F43
  have p52 := cells3_at0 F48.out
  have p53 := cells3_at1 F48.out
  have p54 := cells3_at2 F48.out
  have p55 := cells3_at0 F50.out
  have p56 := cells3_at1 F50.out
  have p57 := cells3_at2 F50.out
  go_wp2_with fail
  clear p52 p53 p54 p55 p56 p57
  generalize hX : W4.alloc (.cells #[.int .i64 n0, .slice (some ⟨g35, 0, none⟩) l0.length l0.length, .int .i64 x0] 26) = W5 at F46 F47 F48 F49 F50 HZ51 ⊢
  have hz58 := Nat.le_of_eq HZ51.out.symm
  clear hX HZ51
  refine (implIsDesk_c n0 _ l0 x0 W5 F49.out.ints (by omega)).mono ?_
  rw [HR.out]
  rintro e W6 ⟨rfl, hb59⟩
  have hz60 := hb59.size
  have F61 := hide (F46.out.trans (hb59.mono (by omega)))
  have F62 := hide (F47.out.below hb59 (by omega))
  have F63 := hide ((hb59.block (w.heap.size) (by omega)).trans F48.out)
  have F64 := hide (F49.out.kept hb59)
  have F65 := hide ((hb59.block (W4.heap.size) (by omega)).trans F50.out)
  clear hb59 F46 F47 F48 F49 F50
  have p66 := cells3_at0 F63.out
  have p67 := cells3_at1 F63.out
  have p68 := cells3_at2 F63.out
  have p69 := cells3_at0 F65.out
  have p70 := cells3_at1 F65.out
  have p71 := cells3_at2 F65.out
  go_wp2
  clear p66 p67 p68 p69 p70 p71
  refine wp_region_held (S := Below W6.heap.size W6) (by kernel_rfl) ?_
  have hS : Below W6.heap.size W6 { W6 with drawn := W6.drawn + 1 } := (Below.refl _ _).drew
  refine wpAnyH_take (i := 0) rfl (by kernel_rfl) (by kernel_rfl) (by kernel_rfl) (fun _ _ _ h => h) (yields_load_three rowDp sizeDp rfl (.tmp _) rfl _ rfl _ _ _ (fun w' h => (h.cell (p := ⟨W4.heap.size, 0, none⟩) (by show W4.heap.size < _; omega)).trans (cells3_at0 F65.out)) (fun w' h => (h.cell (p := ⟨W4.heap.size, 1, none⟩) (by show W4.heap.size < _; omega)).trans (cells3_at1 F65.out)) (fun w' h => (h.cell (p := ⟨W4.heap.size, 2, none⟩) (by show W4.heap.size < _; omega)).trans (cells3_at2 F65.out))) hS ?_
  refine wpAnyH_take (i := 1) rfl (by kernel_rfl) (by kernel_rfl) (by kernel_rfl) (fun _ _ _ h => h) (yields_load_three rowDl sizeDl rfl (.tmp _) rfl _ rfl _ _ _ (fun w' h => (h.cell (p := ⟨w.heap.size, 0, none⟩) (by show w.heap.size < _; omega)).trans (cells3_at0 F63.out)) (fun w' h => (h.cell (p := ⟨w.heap.size, 1, none⟩) (by show w.heap.size < _; omega)).trans (cells3_at1 F63.out)) (fun w' h => (h.cell (p := ⟨w.heap.size, 2, none⟩) (by show w.heap.size < _; omega)).trans (cells3_at2 F63.out))) hS ?_
  refine anyH_call (i := 2) (by kernel_rfl) rfl rfl 12 ent_toDesk _ _ rfl #[.agg #[.int .i64 n0, v0, .int .i64 x0]] rfl (toDesk_c n0 v0 l0 x0 _ ((F62.out.below hS (by omega)).mono (show w.heap.size ≤ W6.heap.size by omega)) (by omega)) ?_
  rintro e W7 ⟨g72, rfl, hgr, hkr, hbr⟩
  have hzr : W6.heap.size ≤ W7.heap.size := hbr.size
  have hS6 : Below W6.heap.size W6 W7 := hS.trans hbr
  refine ⟨_, rfl, hS6, ?_⟩
  refine anyH_call (i := 3) (by kernel_rfl) rfl rfl 7 ent_eqDesk _ _ rfl #[.agg #[.int .i64 n0, .slice (some ⟨g35, 0, none⟩) l0.length l0.length, .int .i64 x0], .agg #[.int .i64 n0, .slice (some ⟨g72, 0, none⟩) l0.length l0.length, .int .i64 x0]] rfl (eqDesk_same_c n0 x0 _ _ l0 W7 ((F64.out.kept hS6).ints) (hkr.ints _) (by omega)) ?_
  rintro e W8 ⟨rfl, hbs⟩
  have hS7 : Below W6.heap.size W6 W8 := hS6.trans (hbs.mono hzr)
  refine ⟨_, rfl, hS7, ?_⟩
  refine anyH_op (i := 4) (by kernel_rfl) rfl rfl (.bool false) W8 ?hq hS7 ?_
  case hq => simp [go_sem, Act.put]
  refine wpAnyH_done (by kernel_rfl) ?_ _
  simp only [Act.put, List.getElem_toArray, List.getElem_cons_zero, List.getElem_cons_succ, List.setIfInBounds_toArray, List.set_cons_zero, List.set_cons_succ]
  have hz73 : W6.heap.size ≤ W8.heap.size := hS7.size
  have F74 := hide (F61.out.trans (hS7.mono (by omega)))
  have F75 := hide (F62.out.below hS7 (by omega))
  have F76 := hide ((hS7.block (w.heap.size) (by omega)).trans F63.out)
  have F77 := hide (F64.out.kept hS7)
  have F78 := hide ((hS7.block (W4.heap.size) (by omega)).trans F65.out)
  clear hS hS6 hS7 hbr hbs hkr hgr hzr F61 F62 F63 F64 F65
  have p79 := cells3_at0 F76.out
  have p80 := cells3_at1 F76.out
  have p81 := cells3_at2 F76.out
  have p82 := cells3_at0 F78.out
  have p83 := cells3_at1 F78.out
  have p84 := cells3_at2 F78.out
  go_wp2
  go_ret
  exact ⟨rfl, F74.out⟩

theorem ownK : ownKnob Try.prog.godebug = none := by kernel_rfl
theorem laidOut : laidOutB Try.prog = true := by kernel_rfl

/-- What a slice of int is, as it comes in. -/
theorem list_open {W : World} {v : Value} {l : List Int} (h : (v = .slice none 0 0 ∧ l = []) ∨ ∃ (a : Addr) (len c : Nat) (zs : List Int), v = .slice (some a) len c ∧ len ≤ zs.length ∧ len ≤ maxLen ∧ (∀ i, i < zs.length → W.cell? (a.add i) = some (.int .i64 (zs.getD i 0))) ∧ l = zs.take len) : ints W.heap.size W v l ∧ l.length ≤ 9223372036854775807 := by
  rcases h with ⟨rfl, rfl⟩ | ⟨x, len, c, zs, rfl, hlt, hm, hcell, rfl⟩
  · exact ⟨.inl ⟨rfl, none, 0, rfl⟩, by simp⟩
  · have htk : (zs.take len).length = len := by simp; omega
    refine ⟨?_, by unfold maxLen at hm; omega⟩
    rcases Nat.eq_zero_or_pos len with h0 | h0
    · subst h0
      exact .inl ⟨by simp, some x, c, rfl⟩
    · obtain ⟨b, off, rfl, hc⟩ := ints_at hcell (by omega)
      have hbl := block_lt_of_cell (hc 0 (by omega))
      refine .inr ⟨b, off, c, by rw [htk], hbl, hbl, fun j hj => ?_⟩
      rw [htk] at hj
      rw [hc j (by omega), List.getElem?_take, if_pos hj]
      rfl

/-- What a desk is, as it comes in. -/
theorem desk_open {H : Type} {enc : TypeId × Value → H} {W : World} {b0 : Nat} {v : Value} {d : DataW H} {p : List MemPlace}
    (hv : Value.okWide Try.prog W .any b0 33 v) (h : DataW.Trod enc Try.prog W 0 (fun _ => true) true 33 v d p) :
    ∃ (n : Int) (u : Value) (l : List Int) (k : Int), v = .agg #[.int .i64 n, u, .int .i64 k] ∧ ints W.heap.size W u l ∧ l.length ≤ 9223372036854775807 := by
  obtain ⟨cs, rfl, hsz⟩ := okWide_struct Try.underlying33 hv
  obtain ⟨c0, c1, c2, rfl⟩ := array3 (hsz.trans (show Try.prog.cellsOf 33 = 3 by kernel_rfl))
  obtain ⟨fuel, hf⟩ := h
  obtain ⟨y0, y1, m, hx, _, h0, h1⟩ := trod_struct2 Try.underlying33 hf
  have s0 : Try.prog.cellsOf 31 = 2 := by kernel_rfl
  have s1 : Try.prog.cellsOf 3 = 1 := by kernel_rfl
  simp [Value.cells, s0, s1] at h0 h1
  obtain ⟨z0, z1, m2, hx2, _, g0, g1⟩ := trod_struct2 Try.underlying31 h0
  have s2 : Try.prog.cellsOf 22 = 1 := by kernel_rfl
  simp [Value.cells, s1, s2] at g0 g1
  obtain ⟨n, e0, _, _⟩ := DataW.trod_int Try.underlying3 g0
  obtain ⟨k, e2, _, _⟩ := DataW.trod_int Try.underlying3 h1
  simp at e0 e2
  subst e0
  subst e2
  rcases open_ints Try.underlying22 Try.underlying3 (by kernel_rfl) g1 with ⟨hcs, _⟩ | ⟨x, len, c, zs, hcs, _, hl, hm, hz, _, hcell, hwz⟩
  · simp at hcs
    subst hcs
    exact ⟨n, _, [], k, rfl, list_open (.inl ⟨rfl, rfl⟩)⟩
  · simp at hcs
    subst hcs
    have hz' : zs.length = c := by simpa using hz
    exact ⟨n, _, zs.take len, k, rfl, list_open (.inr ⟨x, len, c, zs, rfl, by omega, by unfold maxLen at hm ⊢; omega, hcell, rfl⟩)⟩

theorem lifted (os : Os) (started : os.Started) (H : Type) (enc : TypeId × Value → H) :
    ReturnsInHanded {} Try.checked os 4 .any (Rows.fnExactIsDeskSpec.pre6 enc Try.prog Try.f4 Rows.fnExactIsDeskRow.domain false) (Rows.fnExactIsDeskSpec.post enc Try.prog Try.f4 false true false false) := by
  refine returnsInHanded_of_change (C := Try.checked) ownK started (by kernel_rfl) Try.func4
    (ChangeSpec.witness6 (enc := enc) (C := Try.checked) false ⟨#[], #[.agg #[.int .i64 0, .slice none 0 0, .int .i64 0]], []⟩ 8 (by kernel_rfl) (by kernel_rfl) (by kernel_rfl) (by kernel_rfl)) ?_
  intro W base args ds gs before hval0 hW hcnd _
  have hval : ∀ (j : Nat) t v, Try.f4.params[j]? = some t → args[j]? = some v → Value.okWide Try.prog W .any base t v := hval0
  have hW' := hW
  obtain ⟨p, q, hA0, hV, rfl, hfz, hnd⟩ := hW
  have hA : DataW.TrodAll enc Try.prog W 0 (fun _ => true) true Try.f4.params.toList args.toList ds p := hA0
  rw [Try.params4] at hA hval
  obtain ⟨v0, vs0, d0, ds0, p0, q0, hargs, rfl, rfl, t0, r0⟩ := trodAll_cons hA
  obtain ⟨rfl, rfl, rfl⟩ := trodAll_nil r0
  obtain rfl : args = #[v0] := by cases args; simp_all
  obtain ⟨rfl, rfl⟩ := trodVars_none hV
  have k0 := t0
  have lt0 : ∀ x ∈ p0, x.block < W.heap.size := by obtain ⟨m, hm⟩ := k0; exact DataW.trod_lt m _ _ _ hm
  obtain ⟨n0, u0, l0, k0x, rfl, i0, e0⟩ := desk_open (hval 0 33 v0 rfl rfl) t0
  clear hA0 hval0
  refine (law_c n0 u0 l0 k0x W i0 e0).mono fun e W' ⟨he, bel⟩ => ?_
  subst he
  exact ⟨_, rfl, _, _, _, [], _, [], hW', trodAll_mk1 (shut_bool Try.underlying4 _), (trodAll_cons_mk (Below.trod laidOut (by kernel_rfl) (of_decide_eq_true (by kernel_rfl)) k0 bel lt0) trodAll_mk0), rfl, bel.frame _, fun h => by cases h⟩

set_option maxHeartbeats 4000000 in
theorem over : Rows.fnExactIsDeskRow.holds Try.pinned (OpenSpec.ofChange Rows.fnExactIsDeskSpec) :=
  OpenClaim.holds_of_wide 4 Try.f4 rfl rfl rfl rfl rfl rfl rfl ⟨rfl, rfl, rfl, rfl, rfl⟩ rfl rfl rfl rfl rfl (by as_aux_lemma => kernel_rfl) Try.func4 (by as_aux_lemma => kernel_rfl)
    (of_decide_eq_true (by as_aux_lemma => kernel_rfl)) (by unfold Func.isWrapper; first | (rw [if_pos (by decide +kernel)]; kernel_rfl) | (rw [if_neg (by decide +kernel)]; exact ⟨rfl, rfl⟩))
    (fun os started H enc _ => lifted os started H enc)

theorem proved : Rows.FnExactIsDeskSaid := over
#print axioms proved
end Go.Proofs.Ytppojaekngeelaa.FIsDesk
