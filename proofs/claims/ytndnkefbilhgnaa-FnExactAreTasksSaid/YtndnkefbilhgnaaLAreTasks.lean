/- The program's AreTasks answers as the specification's does, at every argument, leaves its arguments as they are, and its answer owns its memory: no condition. -/
import Derived.Test.YtndnkefbilhgnaaRows
import Derived.Test.YtndnkefbilhgnaaKg
import Derived.Test.YtndnkefbilhgnaaHar
import Derived.ProofKit
import Derived.OpenShut
import Derived.Lib.SmallJoins
namespace Go.Proofs.Ytndnkefbilhgnaa.FAreTasks
open Go.ChangeShapes Go.WideShapes Go.ChangeAt Go.RowKit Go.Joins
set_option linter.unusedVariables false
set_option linter.unusedSimpArgs false
set_option maxRecDepth 100000

set_option maxHeartbeats 4000000 in
theorem law_c (v0 : Value) (l0 : List Tsk) (x1 : Int) (w : World) (h0 : tks w.heap.size w v0 l0) (hlen0 : l0.length ≤ 9223372036854775807) :
    Calls Try.prog 3 #[v0, .int .i64 x1] w fun e w' => e = .returned (.bool true) ∧ Below w.heap.size w w' := by
  generalize hR : (taB l0 x1) = R
  have HR := hide hR
  clear hR
  have F1 := hide ((Below.refl w.heap.size w))
  have F2 := hide (h0)
  clear h0
  have hsz0 : szOf 1048576 l0.length = -1 ∨ (0 ≤ szOf 1048576 l0.length ∧ szOf 1048576 l0.length ≤ 1048576 ∧ l0.length ≤ 1048576) := by unfold szOf; split <;> omega
  generalize hq0 : szOf 1048576 l0.length = q0 at hsz0
  have HQ0 := hide hq0
  clear hq0
  rcases hsz0 with hbig0 | ⟨hq0a, hq0b, hq0c⟩
  · have HBIG := hide hbig0
    have hneg : q0 < 0 := by omega
    clear hbig0
    go_enter Try.func3, Try.ntmps3
    go_wp2_with fail
    refine (szTaskS_c v0 l0 (1048576) w (F2.out.mono (by omega)) hlen0 (by omega) (by omega)).mono ?_
    rw [HQ0.out]
    rintro e _ ⟨rfl, rfl⟩
    go_wp2
    go_ret
    exact ⟨rfl, F1.out⟩
  have hneg0 : ¬ q0 < 0 := by omega
  go_enter Try.func3, Try.ntmps3
  go_wp2_with fail
  refine (szTaskS_c v0 l0 (1048576) w (F2.out.mono (by omega)) hlen0 (by omega) (by omega)).mono ?_
  rw [HQ0.out]
  rintro e _ ⟨rfl, rfl⟩
  go_wp2_with fail
  refine (toTaskS_c v0 l0 w (F2.out.mono (by omega)) (by omega)).mono ?_
  rintro e W1 ⟨v3, rfl, ho4, hb5⟩
  have hz6 := hb5.size
  have F7 := hide (F1.out.trans (hb5.mono (by omega)))
  have F8 := hide (F2.out.below hb5 (by omega))
  have F9 := hide (ho4)
  have B10 := hide (F9.out.base)
  have L11 := hide (F9.out.blockLt)
  clear hb5 F1 F2 ho4
  go_wp2_with fail
  refine (specAreTasks_c _ l0 x1 W1 F9.out.tks (by omega)).mono ?_
  rw [HR.out]
  rintro e W2 ⟨rfl, hb12⟩
  have hz13 := hb12.size
  have F14 := hide (F7.out.trans (hb12.mono (by omega)))
  have F15 := hide (F8.out.below hb12 (by omega))
  have F16 := hide (F9.out.kept hb12)
  clear hb12 F7 F8 F9
  clear F16
  clear B10 L11
  go_wp2_with fail
  refine (toTaskS_c v0 l0 W2 (F15.out.mono (by omega)) (by omega)).mono ?_
  rintro e W3 ⟨v17, rfl, ho18, hb19⟩
  have hz20 := hb19.size
  have F21 := hide (F14.out.trans (hb19.mono (by omega)))
  have F22 := hide (F15.out.below hb19 (by omega))
  have F23 := hide (ho18)
  have B24 := hide (F23.out.base)
  have L25 := hide (F23.out.blockLt)
  clear hb19 F14 F15 ho18
  go_wp2_with fail
  refine (implAreTasks_c _ l0 x1 W3 F23.out.tks (by omega)).mono ?_
  rw [HR.out]
  rintro e W4 ⟨rfl, hb26⟩
  have hz27 := hb26.size
  have F28 := hide (F21.out.trans (hb26.mono (by omega)))
  have F29 := hide (F22.out.below hb26 (by omega))
  have F30 := hide (F23.out.kept hb26)
  clear hb26 F21 F22 F23
  go_wp2_with fail
  refine (toTaskS_c v0 l0 W4 (F29.out.mono (by omega)) (by omega)).mono ?_
  rintro e W5 ⟨v31, rfl, ho32, hb33⟩
  have hz34 := hb33.size
  have F35 := hide (F28.out.trans (hb33.mono (by omega)))
  have F36 := hide (F29.out.below hb33 (by omega))
  have F37 := hide (F30.out.kept hb33)
  have F38 := hide (ho32)
  have B39 := hide (F38.out.base)
  have L40 := hide (F38.out.blockLt)
  clear hb33 F28 F29 F30 ho32
  go_wp2_with fail
  refine (eqTaskS_same_c _ _ l0 W5 (F37.out.tks) (F38.out.tks) (by omega)).mono ?_
  rintro e W6 ⟨rfl, hb41⟩
  have hz42 := hb41.size
  have F43 := hide (F35.out.trans (hb41.mono (by omega)))
  have F44 := hide (F36.out.below hb41 (by omega))
  have F45 := hide (F37.out.kept hb41)
  have F46 := hide (F38.out.kept hb41)
  clear hb41 F35 F36 F37 F38
  clear F46
  clear B39 L40
  go_wp2
  go_ret
  exact ⟨rfl, F43.out⟩

theorem ownK : ownKnob Try.prog.godebug = none := by kernel_rfl
theorem laidOut : laidOutB Try.prog = true := by kernel_rfl

/-- What a slice of int is, as it comes in. -/
theorem list_open {W : World} {v : Value} {l : List Int} (h : (v = .slice none 0 0 ∧ l = []) ∨ ∃ (a : Addr) (len c : Nat) (zs : List Int), v = .slice (some a) len c ∧ len ≤ zs.length ∧ len ≤ maxLen ∧ (∀ i, i < zs.length → W.cell? (a.add i) = some (.int .i64 (zs.getD i 0))) ∧ l = zs.take len) : ints W.heap.size W v l ∧ l.length ≤ 9223372036854775807 := by
  rcases h with ⟨rfl, rfl⟩ | ⟨x, len, c, zs, rfl, hlt, hm, hcell, rfl⟩
  · exact ⟨.inl ⟨rfl, none, 0, rfl⟩, by simp⟩
  · have htk : (zs.take len).length = len := by simp; omega
    refine ⟨?_, by unfold maxLen at hm; omega⟩
    rcases Nat.eq_zero_or_pos len with h0 | h0
    · subst h0
      exact .inl ⟨by simp, some x, c, rfl⟩
    · obtain ⟨b, off, rfl, hc⟩ := ints_at hcell (by omega)
      have hbl := block_lt_of_cell (hc 0 (by omega))
      refine .inr ⟨b, off, c, by rw [htk], hbl, hbl, fun j hj => ?_⟩
      rw [htk] at hj
      rw [hc j (by omega), List.getElem?_take, if_pos hj]
      rfl

theorem lifted (os : Os) (started : os.Started) (H : Type) (enc : TypeId × Value → H) :
    ReturnsInHanded {} Try.checked os 3 .any (Rows.fnExactAreTasksSpec.pre6 enc Try.prog Try.f3 Rows.fnExactAreTasksRow.domain false) (Rows.fnExactAreTasksSpec.post enc Try.prog Try.f3 false true false false) := by
  refine returnsInHanded_of_change (C := Try.checked) ownK started (by kernel_rfl) Try.func3
    (ChangeSpec.witness6 (enc := enc) (C := Try.checked) false ⟨#[], #[.slice none 0 0, .int .i64 0], []⟩ 8 (by kernel_rfl) (by kernel_rfl) (by kernel_rfl) (by kernel_rfl)) ?_
  intro W base args ds gs before hval0 hW hcnd _
  have hval : ∀ (j : Nat) t v, Try.f3.params[j]? = some t → args[j]? = some v → Value.okWide Try.prog W .any base t v := hval0
  have hW' := hW
  obtain ⟨p, q, hA0, hV, rfl, hfz, hnd⟩ := hW
  have hA : DataW.TrodAll enc Try.prog W 0 (fun _ => true) true Try.f3.params.toList args.toList ds p := hA0
  rw [Try.params3] at hA hval
  obtain ⟨v0, vs0, d0, ds0, p0, q0, hargs, rfl, rfl, t0, r0⟩ := trodAll_cons hA
  obtain ⟨v1, vs1, d1, ds1, p1, q1, rfl, rfl, rfl, t1, r1⟩ := trodAll_cons r0
  obtain ⟨rfl, rfl, rfl⟩ := trodAll_nil r1
  obtain rfl : args = #[v0, v1] := by cases args; simp_all
  obtain ⟨rfl, rfl⟩ := trodVars_none hV
  have k0 := t0
  have lt0 : ∀ x ∈ p0, x.block < W.heap.size := by obtain ⟨m, hm⟩ := k0; exact DataW.trod_lt m _ _ _ hm
  obtain ⟨l0, i0, e0⟩ := tasks_open (hval 0 22 v0 rfl rfl) t0
  obtain ⟨a1, rfl, rfl, rfl, w1⟩ := open_int Try.underlying3 (hval 1 3 v1 rfl rfl) t1
  clear hA0 hval0
  refine (law_c v0 l0 a1 W i0 e0).mono fun e W' ⟨he, bel⟩ => ?_
  subst he
  exact ⟨_, rfl, _, _, _, [], _, [], hW', trodAll_mk1 (shut_bool Try.underlying4 _), (trodAll_cons_mk (Below.trod laidOut (by kernel_rfl) (of_decide_eq_true (by kernel_rfl)) k0 bel lt0) (trodAll_cons_mk (shut_int Try.underlying3 w1) trodAll_mk0)), rfl, bel.frame _, fun h => by cases h⟩

theorem over : Rows.fnExactAreTasksRow.holds Try.pinned (OpenSpec.ofChange Rows.fnExactAreTasksSpec) :=
  OpenClaim.holds_of_wide 3 Try.f3 rfl rfl rfl rfl rfl rfl rfl ⟨rfl, rfl, rfl, rfl, rfl⟩ rfl rfl rfl rfl rfl (by as_aux_lemma => kernel_rfl) Try.func3 (by as_aux_lemma => kernel_rfl)
    (of_decide_eq_true (by as_aux_lemma => kernel_rfl)) (by unfold Func.isWrapper; first | (rw [if_pos (by decide +kernel)]; kernel_rfl) | (rw [if_neg (by decide +kernel)]; exact ⟨rfl, rfl⟩))
    (fun os started H enc _ => lifted os started H enc)

theorem proved : Rows.FnExactAreTasksSaid := over
#print axioms proved
end Go.Proofs.Ytndnkefbilhgnaa.FAreTasks
