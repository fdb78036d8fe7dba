/- The program's FreeTriples answers as the specification's does, at every argument, leaves its arguments as they are, and its answer owns its memory: no condition. -/
import Derived.Test.YtknjiomagdfgfaaDoorRows
import Derived.Test.YtknjiomagdfgfaaDoorQj
import Derived.Test.YtknjiomagdfgfaaDoorTie
import Derived.Test.YtknjiomagdfgfaaDoorCards
import Derived.LaidMore
import Derived.Stop.Joined
import Derived.Stop.LaidErr
import Derived.Lib.LaidTab
import Derived.SevenTiedAt
import Derived.Test.YtknjiomagdfgfaaDoorHar
import Derived.ProofKit
import Derived.OpenShut
import Derived.Lib.SmallJoins
namespace Go.Proofs.YtknjiomagdfgfaaDoor.FFreeTriples
open Go.ChangeShapes Go.WideShapes Go.ChangeAt Go.RowKit Go.Joins
set_option linter.unusedVariables false
set_option linter.unusedSimpArgs false
set_option maxRecDepth 100000

set_option maxHeartbeats 4000000 in
theorem law_c (v0 : Value) (l0 : List (List Int)) (w : World) (h0 : rows w.heap.size w v0 l0) (hlen0 : l0.length ≤ 9223372036854775807) (hrow0 : ∀ j, j < l0.length → (l0[j]?.getD []).length ≤ 9223372036854775807) (hT : tab w) :
    Calls Tryd.prog 12 #[v0] w fun e w' => e = .returned (.bool true) ∧ Below w.heap.size w w' := by
  have HT := hide hT
  clear hT
  generalize hR : (ftR l0) = R
  generalize hO : (ptB l0) = ok
  have HR := hide hR
  have HO := hide hO
  clear hR hO
  have F1 := hide ((Below.refl w.heap.size w))
  have F2 := hide (h0)
  clear h0
  have hsz0 : szOf 1048576 (l0.length + tot l0) = -1 ∨ (0 ≤ szOf 1048576 (l0.length + tot l0) ∧ szOf 1048576 (l0.length + tot l0) ≤ 1048576 ∧ (l0.length + tot l0) ≤ 1048576) := by unfold szOf; split <;> omega
  generalize hq0 : szOf 1048576 (l0.length + tot l0) = q0 at hsz0
  have HQ0 := hide hq0
  clear hq0
  rcases hsz0 with hbig0 | ⟨hq0a, hq0b, hq0c⟩
  · have HBIG := hide hbig0
    have hneg : q0 < 0 := by omega
    clear hbig0
    go_enter Tryd.func12, Tryd.ntmps12
    go_wp2_with fail
    refine (szIntSS_c v0 l0 (1048576) w (F2.out.mono (by omega)) hlen0 hrow0 (by omega) (by omega)).mono ?_
    rw [HQ0.out]
    rintro e _ ⟨rfl, rfl⟩
    go_wp2
    go_ret
    exact ⟨rfl, F1.out⟩
  have hneg0 : ¬ q0 < 0 := by omega
  have hsm0 : small2 l0 := ⟨by omega, by omega⟩
  have HSM0 := hide hsm0
  have hmx0 : tot l0 ≤ 1048576 := by omega
  have hmy0 : l0.length ≤ 1048576 := by omega
  clear hsm0
  go_enter Tryd.func12, Tryd.ntmps12
  go_wp2_with fail
  refine (szIntSS_c v0 l0 (1048576) w (F2.out.mono (by omega)) hlen0 hrow0 (by omega) (by omega)).mono ?_
  rw [HQ0.out]
  rintro e _ ⟨rfl, rfl⟩
  go_wp2_with fail
  refine (toIntSS_c v0 l0 w (F2.out.mono (by omega)) (.inl HSM0.out)).mono ?_
  rintro e W1 ⟨v3, rfl, ho4, hb5⟩
  have hz6 := hb5.size
  have F7 := hide (F1.out.trans (hb5.mono (by omega)))
  have F8 := hide (F2.out.below hb5 (by omega))
  have F9 := hide (ho4.toT)
  clear hb5 F1 F2 ho4
  go_wp2_with fail
  refine (specFreeTriples_c _ l0 W1 F9.out.rowsK HSM0.out (HT.out.belowB HT.out F7.out (Nat.le_refl _))).mono ?_
  rw [HR.out, HO.out]
  rintro e W2 ⟨rfl, hb10⟩
  have hz11 := hb10.size
  have F12 := hide (F7.out.trans (hb10.mono (by omega)))
  have F13 := hide (F8.out.below hb10 (by omega))
  have F14 := hide (F9.out.kept hb10)
  clear hb10 F7 F8 F9
  clear F14
  go_wp2_with fail
  refine (toIntSS_c v0 l0 W2 (F13.out.mono (by omega)) (.inl HSM0.out)).mono ?_
  rintro e W3 ⟨v15, rfl, ho16, hb17⟩
  have hz18 := hb17.size
  have F19 := hide (F12.out.trans (hb17.mono (by omega)))
  have F20 := hide (F13.out.below hb17 (by omega))
  have F21 := hide (ho16.toT)
  clear hb17 F12 F13 ho16
  go_wp2_with fail
  refine (implFreeTriples_c _ l0 W3 F21.out.rows HSM0.out (HT.out.belowB HT.out F19.out (Nat.le_refl _))).mono ?_
  rw [HR.out, HO.out]
  rintro e W4 ⟨rfl, hb22⟩
  have hz23 := hb22.size
  have F24 := hide (F19.out.trans (hb22.mono (by omega)))
  have F25 := hide (F20.out.below hb22 (by omega))
  have F26 := hide (F21.out.kept hb22)
  clear hb22 F19 F20 F21
  go_wp2_with fail
  refine (toIntSS_c v0 l0 W4 (F25.out.mono (by omega)) (.inl HSM0.out)).mono ?_
  rintro e W5 ⟨v27, rfl, ho28, hb29⟩
  have hz30 := hb29.size
  have F31 := hide (F24.out.trans (hb29.mono (by omega)))
  have F32 := hide (F25.out.below hb29 (by omega))
  have F33 := hide (F26.out.kept hb29)
  have F34 := hide (ho28.toT)
  clear hb29 F24 F25 F26 ho28
  go_wp2_with fail
  refine (eqIntSS_same_c _ _ l0 W5 (F33.out.rows) (F34.out.rows) HSM0.out).mono ?_
  rintro e W6 ⟨rfl, hb35⟩
  have hz36 := hb35.size
  have F37 := hide (F31.out.trans (hb35.mono (by omega)))
  have F38 := hide (F32.out.below hb35 (by omega))
  have F39 := hide (F33.out.kept hb35)
  have F40 := hide (F34.out.kept hb35)
  clear hb35 F31 F32 F33 F34
  clear F40
  go_wp2
  go_ret
  exact ⟨rfl, F37.out⟩

theorem ownK : ownKnob Tryd.prog.godebug = none := by kernel_rfl
theorem laidOut : laidOutB Tryd.prog = true := by kernel_rfl

/-- What a slice of int is, as it comes in. -/
theorem list_open {W : World} {v : Value} {l : List Int} (h : (v = .slice none 0 0 ∧ l = []) ∨ ∃ (a : Addr) (len c : Nat) (zs : List Int), v = .slice (some a) len c ∧ len ≤ zs.length ∧ len ≤ maxLen ∧ (∀ i, i < zs.length → W.cell? (a.add i) = some (.int .i64 (zs.getD i 0))) ∧ l = zs.take len) : ints W.heap.size W v l ∧ l.length ≤ 9223372036854775807 := by
  rcases h with ⟨rfl, rfl⟩ | ⟨x, len, c, zs, rfl, hlt, hm, hcell, rfl⟩
  · exact ⟨.inl ⟨rfl, none, 0, rfl⟩, by simp⟩
  · have htk : (zs.take len).length = len := by simp; omega
    refine ⟨?_, by unfold maxLen at hm; omega⟩
    rcases Nat.eq_zero_or_pos len with h0 | h0
    · subst h0
      exact .inl ⟨by simp, some x, c, rfl⟩
    · obtain ⟨b, off, rfl, hc⟩ := ints_at hcell (by omega)
      have hbl := block_lt_of_cell (hc 0 (by omega))
      refine .inr ⟨b, off, c, by rw [htk], hbl, hbl, fun j hj => ?_⟩
      rw [htk] at hj
      rw [hc j (by omega), List.getElem?_take, if_pos hj]
      rfl

/-- What a slice of slices of int is, as it comes in. -/
theorem rows_open {H : Type} {enc : TypeId × Value → H} {W : World} {b0 : Nat} {v : Value} {d : DataW H} {p : List MemPlace}
    (hv : Value.okWide Tryd.prog W .any b0 42 v) (h : DataW.Trod enc Tryd.prog W 0 (fun _ => true) true 42 v d p) :
    ∃ (L : List (List Int)), rows W.heap.size W v L ∧ L.length ≤ 9223372036854775807 ∧ ∀ j, j < L.length → (L[j]?.getD []).length ≤ 9223372036854775807 := by
  obtain ⟨a0, len0, cap0, rfl⟩ := okWide_slice Tryd.underlying42 hv
  obtain ⟨fuel, hf⟩ := h
  rcases Go.Deep.open_int_rows Tryd.underlying42 Tryd.underlying22 Tryd.underlying3 (by kernel_rfl) (by kernel_rfl) hf with ⟨hcs, _⟩ | ⟨x, len, c, A, Ln, C, Z, hcs, _, hl, hm, _, hr⟩
  · simp [Value.cells] at hcs
    obtain ⟨rfl, rfl, rfl⟩ := hcs
    exact ⟨[], .inl ⟨rfl, none, 0, rfl⟩, by simp, fun j hj => by simp at hj⟩
  · simp [Value.cells] at hcs
    obtain ⟨rfl, rfl, rfl⟩ := hcs
    obtain ⟨h1, h2⟩ := rows_in hl hr
    exact ⟨_, h1, by simp; unfold maxLen at hm; omega, fun j hj => h2 j (by simpa using hj)⟩


/-- What the card's condition gives: the table's cells. -/
theorem tab_of {W : World} (h : laidMetH Tryd.prog Rows.fnExactFreeTriplesRow.laid W) : tab W := by
  rw [MakeChecks.laidMetH_plain _ _ _ (by kernel_rfl)] at h
  have h2 := h.tail
  have e : (Rows.laid_math_bits_deBruijn64tab : DataW Unit) = Lib.tabData .u8 (Lib.deBruijn64tab.map fun n : Nat => (n : Int)) := by kernel_rfl
  rw [e] at h2
  have hT := Lib.tabIs_of_head (g := 1) (t := 130) (e := 5) (n := 64) (by kernel_rfl) (by kernel_rfl) (by kernel_rfl) (by kernel_rfl) (by kernel_rfl) (by kernel_rfl) h2
  have hc : ∀ j, j < 64 → W.cell? ⟨1, j, none⟩ = some (.int .u8 (Lib.deBruijn64tab.getD j 0)) := by
    intro j hj
    have h3 := hT.cell (g := 1) (by kernel_rfl) j (by rw [show (Lib.deBruijn64tab.map fun n : Nat => (n : Int)).length = 64 by decide +kernel]; exact hj)
    rw [h3]
    have h4 : ∀ j, j < 64 → (Lib.deBruijn64tab.map fun n : Nat => (n : Int)).getD j 0 = (Lib.deBruijn64tab.getD j 0 : Int) := by decide +kernel
    rw [h4 j hj]
  exact ⟨block_lt_of_cell (hc 0 (by omega)), hc⟩
theorem door_met (os : Os) (args : Array Value) : laidMetH Tryd.prog Rows.fnExactFreeTriplesRow.laid ((World.doorLaid Tryd.prog 400 os).forCall (fun _ _ => 0) ⟨#[], args, []⟩).memory :=
  laidMetH_of_parts3 (fuel := 8) (laidMet_of_run' 8 (by kernel_rfl) (by kernel_rfl)) (by kernel_rfl) (by kernel_rfl)

theorem lifted (os : Os) (started : os.Started) (H : Type) (enc : TypeId × Value → H) :
    ReturnsInHanded {} Tryd.checked os 12 .any (fun w args => (Rows.fnExactFreeTriplesSpec.pre enc Tryd.prog Tryd.f12 [] false w args ∧ laidMetH Tryd.prog Rows.fnExactFreeTriplesRow.laid w) ∧ sizedMet enc Tryd.prog Tryd.f12 (OpenSpec.ofChange Rows.fnExactFreeTriplesSpec) false w args)
      (Rows.fnExactFreeTriplesSpec.post enc Tryd.prog Tryd.f12 false true false false) := by
  refine returnsInHanded_of_change_and (C := Tryd.checked) (X := fun w _ => laidMetH Tryd.prog Rows.fnExactFreeTriplesRow.laid w) (fun _ _ _ hh h => h.of_heap hh) ownK started (by kernel_rfl) Tryd.func12
    (ChangeSpec.witness_shaped (enc := enc) (C := Tryd.checked) (os := os) (X := fun w _ => laidMetH Tryd.prog Rows.fnExactFreeTriplesRow.laid w) false (World.doorLaid Tryd.prog 400 os) #[.slice none 0 0] 8 rfl (World.shaped_of_RefB (by kernel_rfl) (by kernel_rfl)) (by kernel_rfl) (by kernel_rfl) (by kernel_rfl) (door_met os _)) ?_
  intro W base args ds gs before hval0 hW _ _ hL _
  have hTab := tab_of hL
  have hval : ∀ (j : Nat) t v, Tryd.f12.params[j]? = some t → args[j]? = some v → Value.okWide Tryd.prog W .any base t v := hval0
  have hW' := hW
  obtain ⟨p, q, hA0, hV, rfl, hfz, hnd⟩ := hW
  have hA : DataW.TrodAll enc Tryd.prog W 0 (fun _ => true) true Tryd.f12.params.toList args.toList ds p := hA0
  rw [Tryd.params12] at hA hval
  obtain ⟨v0, vs0, d0, ds0, p0, q0, hargs, rfl, rfl, t0, r0⟩ := trodAll_cons hA
  obtain ⟨rfl, rfl, rfl⟩ := trodAll_nil r0
  obtain rfl : args = #[v0] := by cases args; simp_all
  obtain ⟨rfl, rfl⟩ := trodVars_none hV
  have k0 := t0
  have lt0 : ∀ x ∈ p0, x.block < W.heap.size := by obtain ⟨m, hm⟩ := k0; exact DataW.trod_lt m _ _ _ hm
  obtain ⟨l0, i0, e0, f0⟩ := rows_open (hval 0 42 v0 rfl rfl) t0
  clear hA0 hval0
  refine (law_c v0 l0 W i0 e0 f0 hTab).mono fun e W' ⟨he, bel⟩ => ?_
  subst he
  exact ⟨_, rfl, _, _, _, [], _, [], hW', trodAll_mk1 (shut_bool Tryd.underlying4 _), (trodAll_cons_mk (Below.trod laidOut (by kernel_rfl) (of_decide_eq_true (by kernel_rfl)) k0 bel lt0) trodAll_mk0), rfl, bel.frame _, fun h => by cases h⟩

set_option maxHeartbeats 4000000 in
theorem over : Rows.fnExactFreeTriplesRow.holds Tryd.pinned (OpenSpec.ofChange Rows.fnExactFreeTriplesSpec) :=
  OpenClaim.holds_of_wide 12 Tryd.f12 rfl rfl rfl rfl rfl rfl rfl ⟨rfl, rfl, rfl, rfl, rfl⟩ rfl rfl rfl rfl rfl (by as_aux_lemma => kernel_rfl) Tryd.func12 (by as_aux_lemma => kernel_rfl)
    (of_decide_eq_true (by as_aux_lemma => kernel_rfl)) (by unfold Func.isWrapper; first | (rw [if_pos (by decide +kernel)]; kernel_rfl) | (rw [if_neg (by decide +kernel)]; exact ⟨rfl, rfl⟩))
    (fun os started H enc _ => lifted os started H enc)

theorem proved : Rows.FnExactFreeTriplesCardSaid :=
  Claim7.holds_tied_plain_at .later [] [.data, .data] true _ false
    over (fun _ h => by cases h) (by kernel_rfl) (fun _ h => by cases h) fnExactFreeTriples_row_tie rfl ⟨rfl, rfl⟩ (by kernel_rfl) rfl
    (fun f fn hf hfn => by
      obtain rfl : f = 12 := Option.some.inj ((show Tryd.prog.funcNamed "loop.example/g01137/laws.FnExactFreeTriples" = some 12 by kernel_rfl).symm.trans hf) |>.symm
      obtain rfl : fn = Tryd.f12 := (Option.some.inj (Tryd.func12.symm.trans hfn)).symm
      exact ⟨by kernel_rfl, fun j t ht => by
        rw [Tryd.params12] at ht
        have hm : t ∈ [42] := by simpa using Array.mem_of_getElem? ht
        have hall : ([42].all fun u => !Tryd.prog.wantsStandIn u) = true := by kernel_rfl
        exact (show Tryd.prog.wantsStandIn t = false by simpa using List.all_eq_true.1 hall t hm)⟩)
    (by kernel_rfl)
#print axioms proved
end Go.Proofs.YtknjiomagdfgfaaDoor.FFreeTriples
