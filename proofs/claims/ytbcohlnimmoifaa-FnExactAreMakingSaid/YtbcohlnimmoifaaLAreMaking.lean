/- The program's AreMaking answers as the specification's does, at every argument, leaves its arguments as they are, and its answer owns its memory: no condition. -/
import Derived.Test.YtbcohlnimmoifaaRows
import Derived.Test.YtbcohlnimmoifaaAml
import Derived.Test.YtbcohlnimmoifaaAmm
import Derived.Test.YtbcohlnimmoifaaHar
import Derived.ProofKit
import Derived.OpenShut
import Derived.Lib.SmallJoins
namespace Go.Proofs.Ytbcohlnimmoifaa.FAreMaking
open Go.ChangeShapes Go.WideShapes Go.ChangeAt Go.RowKit Go.Joins
set_option linter.unusedVariables false
set_option linter.unusedSimpArgs false
set_option maxRecDepth 100000

set_option maxHeartbeats 4000000 in
theorem law_c (n0 : Int) (v0 : Value) (l0 : List Int) (v1 : Value) (l1 : List (List Int)) (w : World) (h0 : ints w.heap.size w v0 l0) (hlen0 : l0.length ≤ 9223372036854775807) (h1 : rows w.heap.size w v1 l1) (hlen1 : l1.length ≤ 9223372036854775807) (hrow1 : ∀ j, j < l1.length → (l1[j]?.getD []).length ≤ 9223372036854775807) :
    Calls Try.prog 3 #[.agg #[.int .i64 n0, v0], v1] w fun e w' => e = .returned (.bool true) ∧ Below w.heap.size w w' := by
  generalize hR : (amR n0 l0 l1) = R
  generalize hO : (amB n0 l0 l1) = ok
  have HR := hide hR
  have HO := hide hO
  clear hR hO
  have F1 := hide (((Below.refl w.heap.size w).alloc (Nat.le_refl _) (.cells #[.int .i64 n0, v0] 24)))
  have F2 := hide ((h0.alloc (.cells #[.int .i64 n0, v0] 24)))
  have F3 := hide ((h1.alloc (.cells #[.int .i64 n0, v0] 24)))
  have F4 := hide (show (w.alloc (.cells #[.int .i64 n0, v0] 24)).heap[w.heap.size]? = some (.cells #[.int .i64 n0, v0] 24) from (by have := hp_last w (.cells #[.int .i64 n0, v0] 24); simpa using this))
  have HZ0 := hide (show (w.alloc (.cells #[.int .i64 n0, v0] 24)).heap.size = w.heap.size + 1 by simp)
  clear h0 h1
  have hsz0 : szOf 1048576 l0.length = -1 ∨ (0 ≤ szOf 1048576 l0.length ∧ szOf 1048576 l0.length ≤ 1048576 ∧ l0.length ≤ 1048576) := by unfold szOf; split <;> omega
  generalize hq0 : szOf 1048576 l0.length = q0 at hsz0
  have HQ0 := hide hq0
  clear hq0
  have hsz1 : szOf q0 (l1.length + tot l1) = -1 ∨ (0 ≤ szOf q0 (l1.length + tot l1) ∧ szOf q0 (l1.length + tot l1) ≤ 1048576 ∧ (l1.length + tot l1) ≤ 1048576) := by unfold szOf; split <;> omega
  generalize hq1 : szOf q0 (l1.length + tot l1) = q1 at hsz1
  have HQ1 := hide hq1
  clear hq1
  rcases hsz0 with hbig0 | ⟨hq0a, hq0b, hq0c⟩
  · have HBIG := hide hbig0
    have hneg : q0 < 0 := by omega
    clear hbig0
    go_enter Try.func3, Try.ntmps3
    go_wp2_with fail
    generalize hX : (w.alloc (.cells #[.int .i64 n0, v0] 24)) = W0 at F1 F2 F3 F4 HZ0 ⊢
    have hz0 := Nat.le_of_eq HZ0.out.symm
    clear hX HZ0
    refine (szSpace_c n0 v0 l0 (1048576) W0 (F2.out.mono (by omega)) hlen0 (by omega) (by omega)).mono ?_
    rw [HQ0.out]
    rintro e W1 ⟨rfl, hb5⟩
    have hz6 := hb5.size
    have F7 := hide (F1.out.trans (hb5.mono (by omega)))
    have F8 := hide (F2.out.below hb5 (by omega))
    have F9 := hide (F3.out.below hb5 (by omega))
    have F10 := hide ((hb5.block (w.heap.size) (by omega)).trans F4.out)
    clear hb5 F1 F2 F3 F4
    go_wp2
    go_ret
    exact ⟨rfl, F7.out⟩
  have hneg0 : ¬ q0 < 0 := by omega
  rcases hsz1 with hbig1 | ⟨hq1a, hq1b, hq1c⟩
  · have HBIG := hide hbig1
    have hneg : q1 < 0 := by omega
    clear hbig1
    go_enter Try.func3, Try.ntmps3
    go_wp2_with fail
    generalize hX : (w.alloc (.cells #[.int .i64 n0, v0] 24)) = W0 at F1 F2 F3 F4 HZ0 ⊢
    have hz0 := Nat.le_of_eq HZ0.out.symm
    clear hX HZ0
    refine (szSpace_c n0 v0 l0 (1048576) W0 (F2.out.mono (by omega)) hlen0 (by omega) (by omega)).mono ?_
    rw [HQ0.out]
    rintro e W1 ⟨rfl, hb5⟩
    have hz6 := hb5.size
    have F7 := hide (F1.out.trans (hb5.mono (by omega)))
    have F8 := hide (F2.out.below hb5 (by omega))
    have F9 := hide (F3.out.below hb5 (by omega))
    have F10 := hide ((hb5.block (w.heap.size) (by omega)).trans F4.out)
    clear hb5 F1 F2 F3 F4
    have p11 := cells_at0 F10.out
    have p12 := cells_at1 F10.out
    go_wp2_with fail
    clear p11 p12
    refine (szIntSS_c v1 l1 (q0) W1 (F9.out.mono (by omega)) hlen1 hrow1 (by omega) (by omega)).mono ?_
    rw [HQ1.out]
    rintro e _ ⟨rfl, rfl⟩
    go_wp2
    go_ret
    exact ⟨rfl, F7.out⟩
  have hneg1 : ¬ q1 < 0 := by omega
  have hsm1 : small2 l1 := ⟨by omega, by omega⟩
  have HSM1 := hide hsm1
  have hmx1 : tot l1 ≤ 1048576 := by omega
  have hmy1 : l1.length ≤ 1048576 := by omega
  clear hsm1
  go_enter Try.func3, Try.ntmps3
  go_wp2_with fail
  generalize hX : (w.alloc (.cells #[.int .i64 n0, v0] 24)) = W0 at F1 F2 F3 F4 HZ0 ⊢
  have hz0 := Nat.le_of_eq HZ0.out.symm
  clear hX HZ0
  refine (szSpace_c n0 v0 l0 (1048576) W0 (F2.out.mono (by omega)) hlen0 (by omega) (by omega)).mono ?_
  rw [HQ0.out]
  rintro e W1 ⟨rfl, hb5⟩
  have hz6 := hb5.size
  have F7 := hide (F1.out.trans (hb5.mono (by omega)))
  have F8 := hide (F2.out.below hb5 (by omega))
  have F9 := hide (F3.out.below hb5 (by omega))
  have F10 := hide ((hb5.block (w.heap.size) (by omega)).trans F4.out)
  clear hb5 F1 F2 F3 F4
  have p11 := cells_at0 F10.out
  have p12 := cells_at1 F10.out
  go_wp2_with fail
  clear p11 p12
  refine (szIntSS_c v1 l1 (q0) W1 (F9.out.mono (by omega)) hlen1 hrow1 (by omega) (by omega)).mono ?_
  rw [HQ1.out]
  rintro e _ ⟨rfl, rfl⟩
  have p13 := cells_at0 F10.out
  have p14 := cells_at1 F10.out
  go_wp2_with fail
  clear p13 p14
  refine (toSpace_c n0 v0 l0 W1 (F8.out.mono (by omega)) (by omega)).mono ?_
  rintro e W2 ⟨g15, rfl, hg16, hk17, hb18⟩
  have hz19 := hb18.size
  have F20 := hide (F7.out.trans (hb18.mono (by omega)))
  have F21 := hide (F8.out.below hb18 (by omega))
  have F22 := hide (F9.out.below hb18 (by omega))
  have F23 := hide ((hb18.block (w.heap.size) (by omega)).trans F10.out)
  have F24 := hide (hk17.own hg16 (by unfold maxLen; omega))
  have B25 := hide (F24.out.base)
  have L26 := hide (F24.out.blockLt)
  clear hb18 F7 F8 F9 F10 hk17 hg16
  have p27 := cells_at0 F23.out
  have p28 := cells_at1 F23.out
  go_wp2_with fail
  clear p27 p28
  refine (toIntSS_c v1 l1 W2 (F22.out.mono (by omega)) (.inl HSM1.out)).mono ?_
  rintro e W3 ⟨v29, rfl, ho30, hb31⟩
  have hz32 := hb31.size
  have F33 := hide (F20.out.trans (hb31.mono (by omega)))
  have F34 := hide (F21.out.below hb31 (by omega))
  have F35 := hide (F22.out.below hb31 (by omega))
  have F36 := hide ((hb31.block (w.heap.size) (by omega)).trans F23.out)
  have F37 := hide (F24.out.kept hb31)
  have F38 := hide (ho30.toT)
  clear hb31 F20 F21 F22 F23 F24 ho30
  have p39 := cells_at0 F36.out
  have p40 := cells_at1 F36.out
  go_wp2_with fail
  clear p39 p40
  refine (specAreMaking_c n0 _ l0 _ l1 W3 F37.out.ints (by omega) F38.out.rowsC HSM1.out).mono ?_
  rw [HR.out, HO.out]
  rintro e W4 ⟨rfl, hb41⟩
  have hz42 := hb41.size
  have F43 := hide (F33.out.trans (hb41.mono (by omega)))
  have F44 := hide (F34.out.below hb41 (by omega))
  have F45 := hide (F35.out.below hb41 (by omega))
  have F46 := hide ((hb41.block (w.heap.size) (by omega)).trans F36.out)
  have F47 := hide (F37.out.kept hb41)
  have F48 := hide (F38.out.kept hb41)
  clear hb41 F33 F34 F35 F36 F37 F38
  clear F47
  clear B25 L26
  clear F48
  have p49 := cells_at0 F46.out
  have p50 := cells_at1 F46.out
  go_wp2_with fail
  clear p49 p50
  refine (toSpace_c n0 v0 l0 W4 (F44.out.mono (by omega)) (by omega)).mono ?_
  rintro e W5 ⟨g51, rfl, hg52, hk53, hb54⟩
  have hz55 := hb54.size
  have F56 := hide (F43.out.trans (hb54.mono (by omega)))
  have F57 := hide (F44.out.below hb54 (by omega))
  have F58 := hide (F45.out.below hb54 (by omega))
  have F59 := hide ((hb54.block (w.heap.size) (by omega)).trans F46.out)
  have F60 := hide (hk53.own hg52 (by unfold maxLen; omega))
  have B61 := hide (F60.out.base)
  have L62 := hide (F60.out.blockLt)
  clear hb54 F43 F44 F45 F46 hk53 hg52
  have F63 := hide (F56.out.alloc (by omega) (.cells #[.int .i64 n0, .slice (some ⟨g51, 0, none⟩) l0.length l0.length] 30))
  have F64 := hide (F57.out.alloc (.cells #[.int .i64 n0, .slice (some ⟨g51, 0, none⟩) l0.length l0.length] 30))
  have F65 := hide (F58.out.alloc (.cells #[.int .i64 n0, .slice (some ⟨g51, 0, none⟩) l0.length l0.length] 30))
  have F66 := hide ((hp_old W5 (.cells #[.int .i64 n0, .slice (some ⟨g51, 0, none⟩) l0.length l0.length] 30) (w.heap.size) (by omega)).trans F59.out)
  have F67 := hide (F60.out.alloc (.cells #[.int .i64 n0, .slice (some ⟨g51, 0, none⟩) l0.length l0.length] 30))
  have F68 := hide (hp_last W5 (.cells #[.int .i64 n0, .slice (some ⟨g51, 0, none⟩) l0.length l0.length] 30))
  have HZ69 := hide (show (W5.alloc (.cells #[.int .i64 n0, .slice (some ⟨g51, 0, none⟩) l0.length l0.length] 30)).heap.size = W5.heap.size + 1 by simp)
  clear F56 F57 F58 F59 F60
  have p70 := cells_at0 F66.out
  have p71 := cells_at1 F66.out
  have p72 := cells_at0 F68.out
  have p73 := cells_at1 F68.out
  go_wp2_with fail
  clear p70 p71 p72 p73
  generalize hX : W5.alloc (.cells #[.int .i64 n0, .slice (some ⟨g51, 0, none⟩) l0.length l0.length] 30) = W6 at F63 F64 F65 F66 F67 F68 HZ69 ⊢
  have hz74 := Nat.le_of_eq HZ69.out.symm
  clear hX HZ69
  refine (toIntSS_c v1 l1 W6 (F65.out.mono (by omega)) (.inl HSM1.out)).mono ?_
  rintro e W7 ⟨v75, rfl, ho76, hb77⟩
  have hz78 := hb77.size
  have F79 := hide (F63.out.trans (hb77.mono (by omega)))
  have F80 := hide (F64.out.below hb77 (by omega))
  have F81 := hide (F65.out.below hb77 (by omega))
  have F82 := hide ((hb77.block (w.heap.size) (by omega)).trans F66.out)
  have F83 := hide (F67.out.kept hb77)
  have F84 := hide ((hb77.block (W5.heap.size) (by omega)).trans F68.out)
  have F85 := hide (ho76.toT)
  clear hb77 F63 F64 F65 F66 F67 F68 ho76
  have p86 := cells_at0 F82.out
  have p87 := cells_at1 F82.out
  have p88 := cells_at0 F84.out
  have p89 := cells_at1 F84.out
  go_wp2_with fail
  clear p86 p87 p88 p89
  refine (implAreMaking_c n0 _ l0 _ l1 W7 F83.out.ints (by omega) F85.out.rows HSM1.out).mono ?_
  rw [HR.out, HO.out]
  rintro e W8 ⟨rfl, hb90⟩
  have hz91 := hb90.size
  have F92 := hide (F79.out.trans (hb90.mono (by omega)))
  have F93 := hide (F80.out.below hb90 (by omega))
  have F94 := hide (F81.out.below hb90 (by omega))
  have F95 := hide ((hb90.block (w.heap.size) (by omega)).trans F82.out)
  have F96 := hide (F83.out.kept hb90)
  have F97 := hide ((hb90.block (W5.heap.size) (by omega)).trans F84.out)
  have F98 := hide (F85.out.kept hb90)
  clear hb90 F79 F80 F81 F82 F83 F84 F85
  have p99 := cells_at0 F95.out
  have p100 := cells_at1 F95.out
  have p101 := cells_at0 F97.out
  have p102 := cells_at1 F97.out
  go_wp2
  clear p99 p100 p101 p102
  refine wp_region_held (S := Below W8.heap.size W8) (by kernel_rfl) ?_
  have hS : Below W8.heap.size W8 { W8 with drawn := W8.drawn + 1 } := (Below.refl _ _).drew
  refine wpAnyH_take (i := 0) rfl (by kernel_rfl) (by kernel_rfl) (by kernel_rfl) (fun _ _ _ h => h) (yields_load_two rowSp sizeSp rfl (.tmp _) rfl _ rfl _ _ (fun w' h => (h.cell (p := ⟨W5.heap.size, 0, none⟩) (by show W5.heap.size < _; omega)).trans (cells_at0 F97.out)) (fun w' h => (h.cell (p := ⟨W5.heap.size, 1, none⟩) (by show W5.heap.size < _; omega)).trans (cells_at1 F97.out))) hS ?_
  refine wpAnyH_take (i := 1) rfl (by kernel_rfl) (by kernel_rfl) (by kernel_rfl) (fun _ _ _ h => h) (yields_load_two rowSl sizeSl rfl (.tmp _) rfl _ rfl _ _ (fun w' h => (h.cell (p := ⟨w.heap.size, 0, none⟩) (by show w.heap.size < _; omega)).trans (cells_at0 F95.out)) (fun w' h => (h.cell (p := ⟨w.heap.size, 1, none⟩) (by show w.heap.size < _; omega)).trans (cells_at1 F95.out))) hS ?_
  refine anyH_call (i := 2) (by kernel_rfl) rfl rfl 7 ent_toSpace _ _ rfl #[.agg #[.int .i64 n0, v0]] rfl (toSpace_c n0 v0 l0 _ ((F93.out.below hS (by omega)).mono (show w.heap.size ≤ W8.heap.size by omega)) (by omega)) ?_
  rintro e W9 ⟨g103, rfl, hgr, hkr, hbr⟩
  have hzr : W8.heap.size ≤ W9.heap.size := hbr.size
  have hS6 : Below W8.heap.size W8 W9 := hS.trans hbr
  refine ⟨_, rfl, hS6, ?_⟩
  refine anyH_call (i := 3) (by kernel_rfl) rfl rfl 10 ent_eqSpace _ _ rfl #[.agg #[.int .i64 n0, .slice (some ⟨g51, 0, none⟩) l0.length l0.length], .agg #[.int .i64 n0, .slice (some ⟨g103, 0, none⟩) l0.length l0.length]] rfl (eqSpace_same_c n0 _ _ l0 W9 ((F96.out.kept hS6).ints) (hkr.ints _) (by omega)) ?_
  rintro e W10 ⟨rfl, hbs⟩
  have hS7 : Below W8.heap.size W8 W10 := hS6.trans (hbs.mono hzr)
  refine ⟨_, rfl, hS7, ?_⟩
  refine anyH_op (i := 4) (by kernel_rfl) rfl rfl (.bool false) W10 ?hq hS7 ?_
  case hq => simp [go_sem, Act.put]
  refine wpAnyH_done (by kernel_rfl) ?_ _
  simp only [Act.put, List.getElem_toArray, List.getElem_cons_zero, List.getElem_cons_succ, List.setIfInBounds_toArray, List.set_cons_zero, List.set_cons_succ]
  have hz104 : W8.heap.size ≤ W10.heap.size := hS7.size
  have F105 := hide (F92.out.trans (hS7.mono (by omega)))
  have F106 := hide (F93.out.below hS7 (by omega))
  have F107 := hide (F94.out.below hS7 (by omega))
  have F108 := hide ((hS7.block (w.heap.size) (by omega)).trans F95.out)
  have F109 := hide (F96.out.kept hS7)
  have F110 := hide ((hS7.block (W5.heap.size) (by omega)).trans F97.out)
  have F111 := hide (F98.out.kept hS7)
  clear hS hS6 hS7 hbr hbs hkr hgr hzr F92 F93 F94 F95 F96 F97 F98
  have p112 := cells_at0 F108.out
  have p113 := cells_at1 F108.out
  have p114 := cells_at0 F110.out
  have p115 := cells_at1 F110.out
  go_wp2_with fail
  clear p112 p113 p114 p115
  refine (toIntSS_c v1 l1 W10 (F107.out.mono (by omega)) (.inl HSM1.out)).mono ?_
  rintro e W11 ⟨v116, rfl, ho117, hb118⟩
  have hz119 := hb118.size
  have F120 := hide (F105.out.trans (hb118.mono (by omega)))
  have F121 := hide (F106.out.below hb118 (by omega))
  have F122 := hide (F107.out.below hb118 (by omega))
  have F123 := hide ((hb118.block (w.heap.size) (by omega)).trans F108.out)
  have F124 := hide (F109.out.kept hb118)
  have F125 := hide ((hb118.block (W5.heap.size) (by omega)).trans F110.out)
  have F126 := hide (F111.out.kept hb118)
  have F127 := hide (ho117.toT)
  clear hb118 F105 F106 F107 F108 F109 F110 F111 ho117
  have p128 := cells_at0 F123.out
  have p129 := cells_at1 F123.out
  have p130 := cells_at0 F125.out
  have p131 := cells_at1 F125.out
  go_wp2_with fail
  clear p128 p129 p130 p131
  refine (eqIntSS_same_c _ _ l1 W11 (F126.out.rows) (F127.out.rows) HSM1.out).mono ?_
  rintro e W12 ⟨rfl, hb132⟩
  have hz133 := hb132.size
  have F134 := hide (F120.out.trans (hb132.mono (by omega)))
  have F135 := hide (F121.out.below hb132 (by omega))
  have F136 := hide (F122.out.below hb132 (by omega))
  have F137 := hide ((hb132.block (w.heap.size) (by omega)).trans F123.out)
  have F138 := hide (F124.out.kept hb132)
  have F139 := hide ((hb132.block (W5.heap.size) (by omega)).trans F125.out)
  have F140 := hide (F126.out.kept hb132)
  have F141 := hide (F127.out.kept hb132)
  clear hb132 F120 F121 F122 F123 F124 F125 F126 F127
  clear F141
  have p142 := cells_at0 F137.out
  have p143 := cells_at1 F137.out
  have p144 := cells_at0 F139.out
  have p145 := cells_at1 F139.out
  go_wp2
  go_ret
  exact ⟨rfl, F134.out⟩

theorem ownK : ownKnob Try.prog.godebug = none := by kernel_rfl
theorem laidOut : laidOutB Try.prog = true := by kernel_rfl

/-- What a slice of int is, as it comes in. -/
theorem list_open {W : World} {v : Value} {l : List Int} (h : (v = .slice none 0 0 ∧ l = []) ∨ ∃ (a : Addr) (len c : Nat) (zs : List Int), v = .slice (some a) len c ∧ len ≤ zs.length ∧ len ≤ maxLen ∧ (∀ i, i < zs.length → W.cell? (a.add i) = some (.int .i64 (zs.getD i 0))) ∧ l = zs.take len) : ints W.heap.size W v l ∧ l.length ≤ 9223372036854775807 := by
  rcases h with ⟨rfl, rfl⟩ | ⟨x, len, c, zs, rfl, hlt, hm, hcell, rfl⟩
  · exact ⟨.inl ⟨rfl, none, 0, rfl⟩, by simp⟩
  · have htk : (zs.take len).length = len := by simp; omega
    refine ⟨?_, by unfold maxLen at hm; omega⟩
    rcases Nat.eq_zero_or_pos len with h0 | h0
    · subst h0
      exact .inl ⟨by simp, some x, c, rfl⟩
    · obtain ⟨b, off, rfl, hc⟩ := ints_at hcell (by omega)
      have hbl := block_lt_of_cell (hc 0 (by omega))
      refine .inr ⟨b, off, c, by rw [htk], hbl, hbl, fun j hj => ?_⟩
      rw [htk] at hj
      rw [hc j (by omega), List.getElem?_take, if_pos hj]
      rfl

/-- What a struct of an int and a slice of int is, as it comes in. -/
theorem space_open {H : Type} {enc : TypeId × Value → H} {W : World} {b0 : Nat} {v : Value} {d : DataW H} {p : List MemPlace}
    (hv : Value.okWide Try.prog W .any b0 24 v) (h : DataW.Trod enc Try.prog W 0 (fun _ => true) true 24 v d p) :
    ∃ (n : Int) (u : Value) (l : List Int), v = .agg #[.int .i64 n, u] ∧ ints W.heap.size W u l ∧ l.length ≤ 9223372036854775807 := by
  obtain ⟨v0, v1, y0, y1, m, rfl, rfl, rfl, hy0, hy1⟩ := open_agg2 Try.underlying24 (by kernel_rfl) (by kernel_rfl) hv h
  obtain ⟨n, e0, _, _⟩ := DataW.trod_int Try.underlying3 hy0
  simp at e0
  subst e0
  rcases open_ints Try.underlying22 Try.underlying3 (by kernel_rfl) hy1 with ⟨hcs, _⟩ | ⟨x, len, c, zs, hcs, _, hl, hm, hz, _, hcell, hwz⟩
  · simp at hcs
    subst hcs
    exact ⟨n, _, [], rfl, list_open (.inl ⟨rfl, rfl⟩)⟩
  · simp at hcs
    subst hcs
    have hz' : zs.length = c := by simpa using hz
    exact ⟨n, _, zs.take len, rfl, list_open (.inr ⟨x, len, c, zs, rfl, by omega, by unfold maxLen at hm ⊢; omega, hcell, rfl⟩)⟩

/-- What a slice of slices of int is, as it comes in. -/
theorem rows_open {H : Type} {enc : TypeId × Value → H} {W : World} {b0 : Nat} {v : Value} {d : DataW H} {p : List MemPlace}
    (hv : Value.okWide Try.prog W .any b0 25 v) (h : DataW.Trod enc Try.prog W 0 (fun _ => true) true 25 v d p) :
    ∃ (L : List (List Int)), rows W.heap.size W v L ∧ L.length ≤ 9223372036854775807 ∧ ∀ j, j < L.length → (L[j]?.getD []).length ≤ 9223372036854775807 := by
  obtain ⟨a0, len0, cap0, rfl⟩ := okWide_slice Try.underlying25 hv
  obtain ⟨fuel, hf⟩ := h
  rcases Go.Deep.open_int_rows Try.underlying25 Try.underlying22 Try.underlying3 (by kernel_rfl) (by kernel_rfl) hf with ⟨hcs, _⟩ | ⟨x, len, c, A, Ln, C, Z, hcs, _, hl, hm, _, hr⟩
  · simp [Value.cells] at hcs
    obtain ⟨rfl, rfl, rfl⟩ := hcs
    exact ⟨[], .inl ⟨rfl, none, 0, rfl⟩, by simp, fun j hj => by simp at hj⟩
  · simp [Value.cells] at hcs
    obtain ⟨rfl, rfl, rfl⟩ := hcs
    obtain ⟨h1, h2⟩ := rows_in hl hr
    exact ⟨_, h1, by simp; unfold maxLen at hm; omega, fun j hj => h2 j (by simpa using hj)⟩

theorem lifted (os : Os) (started : os.Started) (H : Type) (enc : TypeId × Value → H) :
    ReturnsInHanded {} Try.checked os 3 .any (Rows.fnExactAreMakingSpec.pre6 enc Try.prog Try.f3 Rows.fnExactAreMakingRow.domain false) (Rows.fnExactAreMakingSpec.post enc Try.prog Try.f3 false true false false) := by
  refine returnsInHanded_of_change (C := Try.checked) ownK started (by kernel_rfl) Try.func3
    (ChangeSpec.witness6 (enc := enc) (C := Try.checked) false ⟨#[], #[.agg #[.int .i64 0, .slice none 0 0], .slice none 0 0], []⟩ 8 (by kernel_rfl) (by kernel_rfl) (by kernel_rfl) (by kernel_rfl)) ?_
  intro W base args ds gs before hval0 hW hcnd _
  have hval : ∀ (j : Nat) t v, Try.f3.params[j]? = some t → args[j]? = some v → Value.okWide Try.prog W .any base t v := hval0
  have hW' := hW
  obtain ⟨p, q, hA0, hV, rfl, hfz, hnd⟩ := hW
  have hA : DataW.TrodAll enc Try.prog W 0 (fun _ => true) true Try.f3.params.toList args.toList ds p := hA0
  rw [Try.params3] at hA hval
  obtain ⟨v0, vs0, d0, ds0, p0, q0, hargs, rfl, rfl, t0, r0⟩ := trodAll_cons hA
  obtain ⟨v1, vs1, d1, ds1, p1, q1, rfl, rfl, rfl, t1, r1⟩ := trodAll_cons r0
  obtain ⟨rfl, rfl, rfl⟩ := trodAll_nil r1
  obtain rfl : args = #[v0, v1] := by cases args; simp_all
  obtain ⟨rfl, rfl⟩ := trodVars_none hV
  have k0 := t0
  have lt0 : ∀ x ∈ p0, x.block < W.heap.size := by obtain ⟨m, hm⟩ := k0; exact DataW.trod_lt m _ _ _ hm
  obtain ⟨n0, u0, l0, rfl, i0, e0⟩ := space_open (hval 0 24 v0 rfl rfl) t0
  have k1 := t1
  have lt1 : ∀ x ∈ p1, x.block < W.heap.size := by obtain ⟨m, hm⟩ := k1; exact DataW.trod_lt m _ _ _ hm
  obtain ⟨l1, i1, e1, f1⟩ := rows_open (hval 1 25 v1 rfl rfl) t1
  clear hA0 hval0
  refine (law_c n0 u0 l0 v1 l1 W i0 e0 i1 e1 f1).mono fun e W' ⟨he, bel⟩ => ?_
  subst he
  exact ⟨_, rfl, _, _, _, [], _, [], hW', trodAll_mk1 (shut_bool Try.underlying4 _), (trodAll_cons_mk (Below.trod laidOut (by kernel_rfl) (of_decide_eq_true (by kernel_rfl)) k0 bel lt0) (trodAll_cons_mk (Below.trod laidOut (by kernel_rfl) (of_decide_eq_true (by kernel_rfl)) k1 bel lt1) trodAll_mk0)), rfl, bel.frame _, fun h => by cases h⟩

set_option maxHeartbeats 4000000 in
theorem over : Rows.fnExactAreMakingRow.holds Try.pinned (OpenSpec.ofChange Rows.fnExactAreMakingSpec) :=
  OpenClaim.holds_of_wide 3 Try.f3 rfl rfl rfl rfl rfl rfl rfl ⟨rfl, rfl, rfl, rfl, rfl⟩ rfl rfl rfl rfl rfl (by as_aux_lemma => kernel_rfl) Try.func3 (by as_aux_lemma => kernel_rfl)
    (of_decide_eq_true (by as_aux_lemma => kernel_rfl)) (by unfold Func.isWrapper; first | (rw [if_pos (by decide +kernel)]; kernel_rfl) | (rw [if_neg (by decide +kernel)]; exact ⟨rfl, rfl⟩))
    (fun os started H enc _ => lifted os started H enc)

theorem proved : Rows.FnExactAreMakingSaid := over
#print axioms proved
end Go.Proofs.Ytbcohlnimmoifaa.FAreMaking
