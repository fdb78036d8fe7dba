/- The program's PrefixSets answers as the specification's does, at every argument, leaves its arguments as they are, and its answer owns its memory: no condition. -/
import Derived.Test.YtonimjpfaalniaaRows
import Derived.Test.YtonimjpfaalniaaPx
import Derived.Test.YtonimjpfaalniaaHar
import Derived.ProofKit
import Derived.OpenShut
import Derived.Lib.SmallJoins
namespace Go.Proofs.Ytonimjpfaalniaa.FPrefixSets
open Go.ChangeShapes Go.WideShapes Go.ChangeAt Go.RowKit Go.Joins
set_option linter.unusedVariables false
set_option linter.unusedSimpArgs false
set_option maxRecDepth 100000

set_option maxHeartbeats 4000000 in
theorem law_c (v0 : Value) (l0 : List Int) (w : World) (h0 : ints w.heap.size w v0 l0) (hlen0 : l0.length ≤ 9223372036854775807) :
    Calls Try.prog 8 #[v0] w fun e w' => e = .returned (.bool true) ∧ Below w.heap.size w w' := by
  have hRL := (chL_len l0)
  generalize hR : (chL l0) = R at hRL
  generalize hO : (okOrd l0) = ok
  have HR := hide hR
  have HO := hide hO
  clear hR hO
  have F1 := hide ((Below.refl w.heap.size w))
  have F2 := hide (h0)
  clear h0
  by_cases big0 : (1048576 : Int) < (l0.length : Int)
  · have big0n : 1048576 < l0.length := by omega
    go_enter Try.func8, Try.ntmps8
    go_wp2_with (first | (refine wpList_len sliceT rfl (.tmp _) rfl v0 rfl w.heap.size l0 F2.out ?_))
    go_ret
    exact ⟨rfl, F1.out⟩
  have big0n : ¬ 1048576 < l0.length := by omega
  have big0d : decide (1048576 < l0.length) = false := by simp; omega
  go_enter Try.func8, Try.ntmps8
  go_wp2_with (first | (refine wpList_len sliceT rfl (.tmp _) rfl v0 rfl w.heap.size l0 F2.out ?_))
  have hneg2 : ¬ (1 + (R.length : Int) < 0) := by omega
  refine (toIntS_c v0 l0 w (F2.out.mono (by omega)) (by omega)).mono ?_
  rintro e W1 ⟨rfl, hk3, hb4⟩
  have hz5 := hb4.size
  have F6 := hide (F1.out.trans (hb4.mono (by omega)))
  have F7 := hide (F2.out.below hb4 (by omega))
  have F8 := hide (hk3.own (Nat.le_refl _) (by unfold maxLen; omega))
  have B9 := hide (F8.out.base)
  have L10 := hide (F8.out.blockLt)
  clear hb4 F1 F2 hk3
  go_wp2_with fail
  refine (specPrefixSets_c _ l0 W1 _ F8.out (by omega)).mono ?_
  rw [HR.out, HO.out]
  rintro e W2 ⟨v11, rfl, ho12, hb13⟩
  have hz14 := hb13.size
  have F15 := hide (F6.out.trans (hb13.mono (by omega)))
  have F16 := hide (F7.out.below hb13 (by omega))
  have F17 := hide (F8.out.kept hb13)
  obtain ⟨aa18, cc19, hv20⟩ := ho12.shape
  have F21 := hide (ho12)
  have B22 := hide (F21.out.base)
  have L23 := hide (F21.out.blockLt)
  clear hb13 F6 F7 F8 ho12
  subst hv20
  clear F17
  clear B9 L10
  go_wp2_with fail
  refine (toIntS_c v0 l0 W2 (F16.out.mono (by omega)) (by omega)).mono ?_
  rintro e W3 ⟨rfl, hk24, hb25⟩
  have hz26 := hb25.size
  have F27 := hide (F15.out.trans (hb25.mono (by omega)))
  have F28 := hide (F16.out.below hb25 (by omega))
  have F29 := hide (F21.out.kept hb25)
  have F30 := hide (hk24.own (Nat.le_refl _) (by unfold maxLen; omega))
  have B31 := hide (F30.out.base)
  have L32 := hide (F30.out.blockLt)
  clear hb25 F15 F16 F21 hk24
  go_wp2_with fail
  refine (implPrefixSets_c _ l0 W3 _ F30.out (by omega)).mono ?_
  rw [HR.out, HO.out]
  rintro e W4 ⟨v33, rfl, ho34, hb35⟩
  have hz36 := hb35.size
  have F37 := hide (F27.out.trans (hb35.mono (by omega)))
  have F38 := hide (F28.out.below hb35 (by omega))
  have F39 := hide (F29.out.kept hb35)
  have F40 := hide (F30.out.kept hb35)
  obtain ⟨aa41, cc42, hv43⟩ := ho34.shape
  have F44 := hide (ho34)
  have B45 := hide (F44.out.base)
  have L46 := hide (F44.out.blockLt)
  clear hb35 F27 F28 F29 F30 ho34
  subst hv43
  go_wp2_with fail
  refine (eqIntS_same_c _ _ R W4 (F44.out.ints) (F39.out.ints) hRL).mono ?_
  rintro e W5 ⟨rfl, hb47⟩
  have hz48 := hb47.size
  have F49 := hide (F37.out.trans (hb47.mono (by omega)))
  have F50 := hide (F38.out.below hb47 (by omega))
  have F51 := hide (F39.out.kept hb47)
  have F52 := hide (F40.out.kept hb47)
  have F53 := hide (F44.out.kept hb47)
  clear hb47 F37 F38 F39 F40 F44
  go_wp2_with fail
  refine (toIntS_c v0 l0 W5 (F50.out.mono (by omega)) (by omega)).mono ?_
  rintro e W6 ⟨rfl, hk54, hb55⟩
  have hz56 := hb55.size
  have F57 := hide (F49.out.trans (hb55.mono (by omega)))
  have F58 := hide (F50.out.below hb55 (by omega))
  have F59 := hide (F51.out.kept hb55)
  have F60 := hide (F52.out.kept hb55)
  have F61 := hide (F53.out.kept hb55)
  have F62 := hide (hk54.own (Nat.le_refl _) (by unfold maxLen; omega))
  have B63 := hide (F62.out.base)
  have L64 := hide (F62.out.blockLt)
  clear hb55 F49 F50 F51 F52 F53 hk54
  go_wp2_with fail
  refine (eqIntS_same_c _ _ l0 W6 (F60.out.ints) (F62.out.ints) (by omega)).mono ?_
  rintro e W7 ⟨rfl, hb65⟩
  have hz66 := hb65.size
  have F67 := hide (F57.out.trans (hb65.mono (by omega)))
  have F68 := hide (F58.out.below hb65 (by omega))
  have F69 := hide (F59.out.kept hb65)
  have F70 := hide (F60.out.kept hb65)
  have F71 := hide (F61.out.kept hb65)
  have F72 := hide (F62.out.kept hb65)
  clear hb65 F57 F58 F59 F60 F61 F62
  clear F72
  clear B63 L64
  go_wp2_with fail
  refine (markIntS_c _ l0 (1) W7 _ F70.out (by omega) (by omega) (by omega)).mono ?_
  rintro e W8 ⟨rfl, hn74, ho73⟩
  have hz75 := ho73.size
  have F76 := hide (F67.out.trans (ho73.below w.heap.size (fun g hg => by have := B31.out g hg; omega) (by omega)))
  have F77 := hide (F68.out.below (ho73.below w.heap.size (fun g hg => by have := B31.out g hg; omega) (by omega)) (Nat.le_refl _))
  have F78 := hide (F69.out.other ho73 (fun g hg e => by have h1 := B31.out _ e; have h2 := L32.out _ e; have h3 := B22.out _ hg; have h4 := L23.out _ hg; omega))
  have F80 := hide (F71.out.other ho73 (fun g hg e => by have h1 := B31.out _ e; have h2 := L32.out _ e; have h3 := B45.out _ hg; have h4 := L46.out _ hg; omega))
  have F81 := hide hn74
  clear F67 F68 F69 F70 F71 hn74 ho73
  have hneg3 : ¬ (1 + (l0.length : Int) < 0) := by omega
  go_wp2_with fail
  refine (eqIntS_same_c _ _ R W8 (F80.out.ints) (F78.out.ints) hRL).mono ?_
  rintro e W9 ⟨rfl, hb82⟩
  have hz83 := hb82.size
  have F84 := hide (F76.out.trans (hb82.mono (by omega)))
  have F85 := hide (F77.out.below hb82 (by omega))
  have F86 := hide (F78.out.kept hb82)
  have F87 := hide (F81.out.kept hb82)
  have F88 := hide (F80.out.kept hb82)
  clear hb82 F76 F77 F78 F81 F80
  go_wp2_with fail
  refine (markIntS_c _ R (1) W9 _ F88.out (by omega) (by omega) (by omega)).mono ?_
  rintro e W10 ⟨rfl, hn90, ho89⟩
  have hz91 := ho89.size
  have F92 := hide (F84.out.trans (ho89.below w.heap.size (fun g hg => by have := B45.out g hg; omega) (by omega)))
  have F93 := hide (F85.out.below (ho89.below w.heap.size (fun g hg => by have := B45.out g hg; omega) (by omega)) (Nat.le_refl _))
  have F94 := hide (F86.out.other ho89 (fun g hg e => by have h1 := B45.out _ e; have h2 := L46.out _ e; have h3 := B22.out _ hg; have h4 := L23.out _ hg; omega))
  have F95 := hide (F87.out.other ho89 (fun g hg e => by have h1 := B45.out _ e; have h2 := L46.out _ e; have h3 := B31.out _ hg; have h4 := L32.out _ hg; omega))
  have F97 := hide hn90
  clear F84 F85 F86 F87 F88 hn90 ho89
  go_wp2_with fail
  refine (heldIntS_c _ R.length 1 W10 (F97.out.ints) hRL (by omega) (by omega)).mono ?_
  rintro e _ ⟨rfl, rfl⟩
  clear F95
  clear B31 L32
  go_wp2_with fail
  refine (toIntS_c v0 l0 W10 (F93.out.mono (by omega)) (by omega)).mono ?_
  rintro e W11 ⟨rfl, hk98, hb99⟩
  have hz100 := hb99.size
  have F101 := hide (F92.out.trans (hb99.mono (by omega)))
  have F102 := hide (F93.out.below hb99 (by omega))
  have F103 := hide (F94.out.kept hb99)
  have F104 := hide (F97.out.kept hb99)
  have F105 := hide (hk98.own (Nat.le_refl _) (by unfold maxLen; omega))
  have B106 := hide (F105.out.base)
  have L107 := hide (F105.out.blockLt)
  clear hb99 F92 F93 F94 F97 hk98
  go_wp2_with fail
  refine (implPrefixSets_c _ l0 W11 _ F105.out (by omega)).mono ?_
  rw [HR.out, HO.out]
  rintro e W12 ⟨v108, rfl, ho109, hb110⟩
  have hz111 := hb110.size
  have F112 := hide (F101.out.trans (hb110.mono (by omega)))
  have F113 := hide (F102.out.below hb110 (by omega))
  have F114 := hide (F103.out.kept hb110)
  have F115 := hide (F104.out.kept hb110)
  have F116 := hide (F105.out.kept hb110)
  obtain ⟨aa117, cc118, hv119⟩ := ho109.shape
  have F120 := hide (ho109)
  have B121 := hide (F120.out.base)
  have L122 := hide (F120.out.blockLt)
  clear hb110 F101 F102 F103 F104 F105 ho109
  subst hv119
  go_wp2_with fail
  refine (eqIntS_same_c _ _ R W12 (F120.out.ints) (F114.out.ints) hRL).mono ?_
  rintro e W13 ⟨rfl, hb123⟩
  have hz124 := hb123.size
  have F125 := hide (F112.out.trans (hb123.mono (by omega)))
  have F126 := hide (F113.out.below hb123 (by omega))
  have F127 := hide (F114.out.kept hb123)
  have F128 := hide (F115.out.kept hb123)
  have F129 := hide (F116.out.kept hb123)
  have F130 := hide (F120.out.kept hb123)
  clear hb123 F112 F113 F114 F115 F116 F120
  go_wp2_with fail
  refine (heldIntS_c _ R.length 1 W13 (F128.out.ints) hRL (by omega) (by omega)).mono ?_
  rintro e _ ⟨rfl, rfl⟩
  go_wp2
  go_ret
  exact ⟨rfl, F125.out⟩

theorem ownK : ownKnob Try.prog.godebug = none := by kernel_rfl
theorem laidOut : laidOutB Try.prog = true := by kernel_rfl

/-- What a slice of int is, as it comes in. -/
theorem list_open {W : World} {v : Value} {l : List Int} (h : (v = .slice none 0 0 ∧ l = []) ∨ ∃ (a : Addr) (len c : Nat) (zs : List Int), v = .slice (some a) len c ∧ len ≤ zs.length ∧ len ≤ maxLen ∧ (∀ i, i < zs.length → W.cell? (a.add i) = some (.int .i64 (zs.getD i 0))) ∧ l = zs.take len) : ints W.heap.size W v l ∧ l.length ≤ 9223372036854775807 := by
  rcases h with ⟨rfl, rfl⟩ | ⟨x, len, c, zs, rfl, hlt, hm, hcell, rfl⟩
  · exact ⟨.inl ⟨rfl, none, 0, rfl⟩, by simp⟩
  · have htk : (zs.take len).length = len := by simp; omega
    refine ⟨?_, by unfold maxLen at hm; omega⟩
    rcases Nat.eq_zero_or_pos len with h0 | h0
    · subst h0
      exact .inl ⟨by simp, some x, c, rfl⟩
    · obtain ⟨b, off, rfl, hc⟩ := ints_at hcell (by omega)
      have hbl := block_lt_of_cell (hc 0 (by omega))
      refine .inr ⟨b, off, c, by rw [htk], hbl, hbl, fun j hj => ?_⟩
      rw [htk] at hj
      rw [hc j (by omega), List.getElem?_take, if_pos hj]
      rfl

theorem slice_open {H : Type} {enc : TypeId × Value → H} {W : World} {b0 : Nat} {v : Value} {d : DataW H} {p : List MemPlace}
    (hv : Value.okWide Try.prog W .any b0 22 v) (h : DataW.Trod enc Try.prog W 0 (fun _ => true) true 22 v d p) :
    ∃ (l : List Int), ints W.heap.size W v l ∧ l.length ≤ 9223372036854775807 := by
  obtain ⟨a0, len0, cap0, rfl⟩ := okWide_slice Try.underlying22 hv
  obtain ⟨fuel, hf⟩ := h
  rcases open_ints Try.underlying22 Try.underlying3 (by kernel_rfl) hf with ⟨hcs, _⟩ | ⟨x, len, c, zs, hcs, _, hl, hm, hz, _, hcell, hwz⟩
  · simp [Value.cells] at hcs
    obtain ⟨rfl, rfl, rfl⟩ := hcs
    exact ⟨[], list_open (.inl ⟨rfl, rfl⟩)⟩
  · simp [Value.cells] at hcs
    obtain ⟨rfl, rfl, rfl⟩ := hcs
    have hz' : zs.length = cap0 := by simpa using hz
    exact ⟨zs.take len0, list_open (.inr ⟨x, len0, cap0, zs, rfl, by omega, by omega, hcell, rfl⟩)⟩

theorem lifted (os : Os) (started : os.Started) (H : Type) (enc : TypeId × Value → H) :
    ReturnsInHanded {} Try.checked os 8 .any (Rows.fnExactPrefixSetsSpec.pre6 enc Try.prog Try.f8 Rows.fnExactPrefixSetsRow.domain false) (Rows.fnExactPrefixSetsSpec.post enc Try.prog Try.f8 false true false false) := by
  refine returnsInHanded_of_change (C := Try.checked) ownK started (by kernel_rfl) Try.func8
    (ChangeSpec.witness6 (enc := enc) (C := Try.checked) false ⟨#[], #[.slice none 0 0], []⟩ 8 (by kernel_rfl) (by kernel_rfl) (by kernel_rfl) (by kernel_rfl)) ?_
  intro W base args ds gs before hval0 hW hcnd _
  have hval : ∀ (j : Nat) t v, Try.f8.params[j]? = some t → args[j]? = some v → Value.okWide Try.prog W .any base t v := hval0
  have hW' := hW
  obtain ⟨p, q, hA0, hV, rfl, hfz, hnd⟩ := hW
  have hA : DataW.TrodAll enc Try.prog W 0 (fun _ => true) true Try.f8.params.toList args.toList ds p := hA0
  rw [Try.params8] at hA hval
  obtain ⟨v0, vs0, d0, ds0, p0, q0, hargs, rfl, rfl, t0, r0⟩ := trodAll_cons hA
  obtain ⟨rfl, rfl, rfl⟩ := trodAll_nil r0
  obtain rfl : args = #[v0] := by cases args; simp_all
  obtain ⟨rfl, rfl⟩ := trodVars_none hV
  have k0 := t0
  have lt0 : ∀ x ∈ p0, x.block < W.heap.size := by obtain ⟨m, hm⟩ := k0; exact DataW.trod_lt m _ _ _ hm
  obtain ⟨l0, i0, e0⟩ := slice_open (hval 0 22 v0 rfl rfl) t0
  clear hA0 hval0
  refine (law_c v0 l0 W i0 e0).mono fun e W' ⟨he, bel⟩ => ?_
  subst he
  exact ⟨_, rfl, _, _, _, [], _, [], hW', trodAll_mk1 (shut_bool Try.underlying4 _), (trodAll_cons_mk (Below.trod laidOut (by kernel_rfl) (of_decide_eq_true (by kernel_rfl)) k0 bel lt0) trodAll_mk0), rfl, bel.frame _, fun h => by cases h⟩

set_option maxHeartbeats 4000000 in
theorem over : Rows.fnExactPrefixSetsRow.holds Try.pinned (OpenSpec.ofChange Rows.fnExactPrefixSetsSpec) :=
  OpenClaim.holds_of_wide 8 Try.f8 rfl rfl rfl rfl rfl rfl rfl ⟨rfl, rfl, rfl, rfl, rfl⟩ rfl rfl rfl rfl rfl (by as_aux_lemma => kernel_rfl) Try.func8 (by as_aux_lemma => kernel_rfl)
    (of_decide_eq_true (by as_aux_lemma => kernel_rfl)) (by unfold Func.isWrapper; first | (rw [if_pos (by decide +kernel)]; kernel_rfl) | (rw [if_neg (by decide +kernel)]; exact ⟨rfl, rfl⟩))
    (fun os started H enc _ => lifted os started H enc)

theorem proved : Rows.FnExactPrefixSetsSaid := over
#print axioms proved
end Go.Proofs.Ytonimjpfaalniaa.FPrefixSets
