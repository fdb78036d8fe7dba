/- The program's WordText answers as the specification's does, at every argument, leaves its arguments as they are, and its answer owns its memory: no condition. -/
import Derived.Test.YtcingpgehmdhdaaRows
import Derived.Test.YtcingpgehmdhdaaWt
import Derived.Test.YtcingpgehmdhdaaHar
import Derived.ProofKit
import Derived.OpenShut
import Derived.Lib.SmallJoins
namespace Go.Proofs.Ytcingpgehmdhdaa.FWordText
open Go.ChangeShapes Go.WideShapes Go.ChangeAt Go.RowKit Go.Joins
set_option linter.unusedVariables false
set_option linter.unusedSimpArgs false
set_option maxRecDepth 100000

set_option maxHeartbeats 4000000 in
theorem law_c (v0 : Value) (l0 : List Int) (w : World) (h0 : ints w.heap.size w v0 l0) (hlen0 : l0.length ≤ 9223372036854775807) :
    Calls Try.prog 5 #[v0] w fun e w' => e = .returned (.bool true) ∧ Below w.heap.size w w' := by
  generalize hR : (wtS l0) = R
  generalize hO : (wtB l0) = ok
  have HR := hide hR
  have HO := hide hO
  clear hR hO
  have F1 := hide ((Below.refl w.heap.size w))
  have F2 := hide (h0)
  clear h0
  by_cases big0 : (1048576 : Int) < (l0.length : Int)
  · have big0n : 1048576 < l0.length := by omega
    go_enter Try.func5, Try.ntmps5
    go_wp2_with (first | (refine wpList_len sliceT rfl (.tmp _) rfl v0 rfl w.heap.size l0 F2.out ?_))
    go_ret
    exact ⟨rfl, F1.out⟩
  have big0n : ¬ 1048576 < l0.length := by omega
  have big0d : decide (1048576 < l0.length) = false := by simp; omega
  go_enter Try.func5, Try.ntmps5
  go_wp2_with (first | (refine wpList_len sliceT rfl (.tmp _) rfl v0 rfl w.heap.size l0 F2.out ?_))
  refine (toIntS_c v0 l0 w (F2.out.mono (by omega)) (by omega)).mono ?_
  rintro e W1 ⟨rfl, hk3, hb4⟩
  have hz5 := hb4.size
  have F6 := hide (F1.out.trans (hb4.mono (by omega)))
  have F7 := hide (F2.out.below hb4 (by omega))
  have F8 := hide (hk3.own (Nat.le_refl _) (by unfold maxLen; omega))
  have B9 := hide (F8.out.base)
  have L10 := hide (F8.out.blockLt)
  clear hb4 F1 F2 hk3
  go_wp2_with fail
  refine (specWordText_c _ l0 W1 F8.out.ints (by omega)).mono ?_
  rw [HR.out, HO.out]
  rintro e W2 ⟨rfl, hb11⟩
  have hz12 := hb11.size
  have F13 := hide (F6.out.trans (hb11.mono (by omega)))
  have F14 := hide (F7.out.below hb11 (by omega))
  have F15 := hide (F8.out.kept hb11)
  clear hb11 F6 F7 F8
  clear F15
  clear B9 L10
  go_wp2_with fail
  refine (toIntS_c v0 l0 W2 (F14.out.mono (by omega)) (by omega)).mono ?_
  rintro e W3 ⟨rfl, hk16, hb17⟩
  have hz18 := hb17.size
  have F19 := hide (F13.out.trans (hb17.mono (by omega)))
  have F20 := hide (F14.out.below hb17 (by omega))
  have F21 := hide (hk16.own (Nat.le_refl _) (by unfold maxLen; omega))
  have B22 := hide (F21.out.base)
  have L23 := hide (F21.out.blockLt)
  clear hb17 F13 F14 hk16
  go_wp2_with fail
  refine (implWordText_c _ l0 W3 F21.out.ints (by omega)).mono ?_
  rw [HR.out, HO.out]
  rintro e W4 ⟨rfl, hb24⟩
  have hz25 := hb24.size
  have F26 := hide (F19.out.trans (hb24.mono (by omega)))
  have F27 := hide (F20.out.below hb24 (by omega))
  have F28 := hide (F21.out.kept hb24)
  clear hb24 F19 F20 F21
  go_wp2_with fail
  refine (toIntS_c v0 l0 W4 (F27.out.mono (by omega)) (by omega)).mono ?_
  rintro e W5 ⟨rfl, hk29, hb30⟩
  have hz31 := hb30.size
  have F32 := hide (F26.out.trans (hb30.mono (by omega)))
  have F33 := hide (F27.out.below hb30 (by omega))
  have F34 := hide (F28.out.kept hb30)
  have F35 := hide (hk29.own (Nat.le_refl _) (by unfold maxLen; omega))
  have B36 := hide (F35.out.base)
  have L37 := hide (F35.out.blockLt)
  clear hb30 F26 F27 F28 hk29
  go_wp2_with fail
  refine (eqIntS_same_c _ _ l0 W5 (F34.out.ints) (F35.out.ints) (by omega)).mono ?_
  rintro e W6 ⟨rfl, hb38⟩
  have hz39 := hb38.size
  have F40 := hide (F32.out.trans (hb38.mono (by omega)))
  have F41 := hide (F33.out.below hb38 (by omega))
  have F42 := hide (F34.out.kept hb38)
  have F43 := hide (F35.out.kept hb38)
  clear hb38 F32 F33 F34 F35
  clear F43
  clear B36 L37
  go_wp2
  go_ret
  exact ⟨rfl, F40.out⟩

theorem ownK : ownKnob Try.prog.godebug = none := by kernel_rfl
theorem laidOut : laidOutB Try.prog = true := by kernel_rfl

/-- What a slice of int is, as it comes in. -/
theorem list_open {W : World} {v : Value} {l : List Int} (h : (v = .slice none 0 0 ∧ l = []) ∨ ∃ (a : Addr) (len c : Nat) (zs : List Int), v = .slice (some a) len c ∧ len ≤ zs.length ∧ len ≤ maxLen ∧ (∀ i, i < zs.length → W.cell? (a.add i) = some (.int .i64 (zs.getD i 0))) ∧ l = zs.take len) : ints W.heap.size W v l ∧ l.length ≤ 9223372036854775807 := by
  rcases h with ⟨rfl, rfl⟩ | ⟨x, len, c, zs, rfl, hlt, hm, hcell, rfl⟩
  · exact ⟨.inl ⟨rfl, none, 0, rfl⟩, by simp⟩
  · have htk : (zs.take len).length = len := by simp; omega
    refine ⟨?_, by unfold maxLen at hm; omega⟩
    rcases Nat.eq_zero_or_pos len with h0 | h0
    · subst h0
      exact .inl ⟨by simp, some x, c, rfl⟩
    · obtain ⟨b, off, rfl, hc⟩ := ints_at hcell (by omega)
      have hbl := block_lt_of_cell (hc 0 (by omega))
      refine .inr ⟨b, off, c, by rw [htk], hbl, hbl, fun j hj => ?_⟩
      rw [htk] at hj
      rw [hc j (by omega), List.getElem?_take, if_pos hj]
      rfl

theorem slice_open {H : Type} {enc : TypeId × Value → H} {W : World} {b0 : Nat} {v : Value} {d : DataW H} {p : List MemPlace}
    (hv : Value.okWide Try.prog W .any b0 24 v) (h : DataW.Trod enc Try.prog W 0 (fun _ => true) true 24 v d p) :
    ∃ (l : List Int), ints W.heap.size W v l ∧ l.length ≤ 9223372036854775807 := by
  obtain ⟨a0, len0, cap0, rfl⟩ := okWide_slice Try.underlying24 hv
  obtain ⟨fuel, hf⟩ := h
  rcases open_ints Try.underlying24 Try.underlying3 (by kernel_rfl) hf with ⟨hcs, _⟩ | ⟨x, len, c, zs, hcs, _, hl, hm, hz, _, hcell, hwz⟩
  · simp [Value.cells] at hcs
    obtain ⟨rfl, rfl, rfl⟩ := hcs
    exact ⟨[], list_open (.inl ⟨rfl, rfl⟩)⟩
  · simp [Value.cells] at hcs
    obtain ⟨rfl, rfl, rfl⟩ := hcs
    have hz' : zs.length = cap0 := by simpa using hz
    exact ⟨zs.take len0, list_open (.inr ⟨x, len0, cap0, zs, rfl, by omega, by omega, hcell, rfl⟩)⟩

theorem lifted (os : Os) (started : os.Started) (H : Type) (enc : TypeId × Value → H) :
    ReturnsInHanded {} Try.checked os 5 .any (Rows.fnExactWordTextSpec.pre6 enc Try.prog Try.f5 Rows.fnExactWordTextRow.domain false) (Rows.fnExactWordTextSpec.post enc Try.prog Try.f5 false true false false) := by
  refine returnsInHanded_of_change (C := Try.checked) ownK started (by kernel_rfl) Try.func5
    (ChangeSpec.witness6 (enc := enc) (C := Try.checked) false ⟨#[], #[.slice none 0 0], []⟩ 8 (by kernel_rfl) (by kernel_rfl) (by kernel_rfl) (by kernel_rfl)) ?_
  intro W base args ds gs before hval0 hW hcnd _
  have hval : ∀ (j : Nat) t v, Try.f5.params[j]? = some t → args[j]? = some v → Value.okWide Try.prog W .any base t v := hval0
  have hW' := hW
  obtain ⟨p, q, hA0, hV, rfl, hfz, hnd⟩ := hW
  have hA : DataW.TrodAll enc Try.prog W 0 (fun _ => true) true Try.f5.params.toList args.toList ds p := hA0
  rw [Try.params5] at hA hval
  obtain ⟨v0, vs0, d0, ds0, p0, q0, hargs, rfl, rfl, t0, r0⟩ := trodAll_cons hA
  obtain ⟨rfl, rfl, rfl⟩ := trodAll_nil r0
  obtain rfl : args = #[v0] := by cases args; simp_all
  obtain ⟨rfl, rfl⟩ := trodVars_none hV
  have k0 := t0
  have lt0 : ∀ x ∈ p0, x.block < W.heap.size := by obtain ⟨m, hm⟩ := k0; exact DataW.trod_lt m _ _ _ hm
  obtain ⟨l0, i0, e0⟩ := slice_open (hval 0 24 v0 rfl rfl) t0
  clear hA0 hval0
  refine (law_c v0 l0 W i0 e0).mono fun e W' ⟨he, bel⟩ => ?_
  subst he
  exact ⟨_, rfl, _, _, _, [], _, [], hW', trodAll_mk1 (shut_bool Try.underlying4 _), (trodAll_cons_mk (Below.trod laidOut (by kernel_rfl) (of_decide_eq_true (by kernel_rfl)) k0 bel lt0) trodAll_mk0), rfl, bel.frame _, fun h => by cases h⟩

theorem over : Rows.fnExactWordTextRow.holds Try.pinned (OpenSpec.ofChange Rows.fnExactWordTextSpec) :=
  OpenClaim.holds_of_wide 5 Try.f5 rfl rfl rfl rfl rfl rfl rfl ⟨rfl, rfl, rfl, rfl, rfl⟩ rfl rfl rfl rfl rfl (by as_aux_lemma => kernel_rfl) Try.func5 (by as_aux_lemma => kernel_rfl)
    (of_decide_eq_true (by as_aux_lemma => kernel_rfl)) (by unfold Func.isWrapper; first | (rw [if_pos (by decide +kernel)]; kernel_rfl) | (rw [if_neg (by decide +kernel)]; exact ⟨rfl, rfl⟩))
    (fun os started H enc _ => lifted os started H enc)

theorem proved : Rows.FnExactWordTextSaid := over
#print axioms proved
end Go.Proofs.Ytcingpgehmdhdaa.FWordText
