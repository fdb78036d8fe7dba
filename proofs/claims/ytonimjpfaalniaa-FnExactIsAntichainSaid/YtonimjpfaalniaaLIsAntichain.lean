/- The program's IsAntichain answers as the specification's does, at every argument, leaves its arguments as they are, and its answer owns its memory: no condition. -/
import Derived.Test.YtonimjpfaalniaaRows
import Derived.Test.YtonimjpfaalniaaIb
import Derived.Test.YtonimjpfaalniaaHar
import Derived.ProofKit
import Derived.OpenShut
import Derived.Lib.SmallJoins
namespace Go.Proofs.Ytonimjpfaalniaa.FIsAntichain
open Go.ChangeShapes Go.WideShapes Go.ChangeAt Go.RowKit Go.Joins
set_option linter.unusedVariables false
set_option linter.unusedSimpArgs false
set_option maxRecDepth 100000

set_option maxHeartbeats 4000000 in
theorem law_c (n0 : Int) (v0 : Value) (l0 : List Int) (v1 : Value) (l1 : List Int) (w : World) (h0 : ints w.heap.size w v0 l0) (hlen0 : l0.length ≤ 9223372036854775807) (h1 : ints w.heap.size w v1 l1) (hlen1 : l1.length ≤ 9223372036854775807) :
    Calls Try.prog 3 #[.agg #[.int .i64 n0, v0], v1] w fun e w' => e = .returned (.bool true) ∧ Below w.heap.size w w' := by
  generalize hR : (iaB n0 l0 l1) = R
  generalize hO : (iaOk n0 l0 l1) = ok
  have HR := hide hR
  have HO := hide hO
  clear hR hO
  have F1 := hide (((Below.refl w.heap.size w).alloc (Nat.le_refl _) (.cells #[.int .i64 n0, v0] 24)))
  have F2 := hide ((h0.alloc (.cells #[.int .i64 n0, v0] 24)))
  have F3 := hide ((h1.alloc (.cells #[.int .i64 n0, v0] 24)))
  have F4 := hide (show (w.alloc (.cells #[.int .i64 n0, v0] 24)).heap[w.heap.size]? = some (.cells #[.int .i64 n0, v0] 24) from (by have := hp_last w (.cells #[.int .i64 n0, v0] 24); simpa using this))
  have HZ0 := hide (show (w.alloc (.cells #[.int .i64 n0, v0] 24)).heap.size = w.heap.size + 1 by simp)
  clear h0 h1
  by_cases big1 : (1048576 : Int) < (l1.length : Int)
  · have big1n : 1048576 < l1.length := by omega
    go_enter Try.func3, Try.ntmps3
    go_wp2_with (first | (refine wpList_len sliceT rfl (.tmp _) rfl v1 rfl w.heap.size l1 F3.out ?_))
    go_ret
    exact ⟨rfl, F1.out⟩
  have big1n : ¬ 1048576 < l1.length := by omega
  have big1d : decide (1048576 < l1.length) = false := by simp; omega
  have hsz0 : szOf 1048576 l0.length = -1 ∨ (0 ≤ szOf 1048576 l0.length ∧ szOf 1048576 l0.length ≤ 1048576 ∧ l0.length ≤ 1048576) := by unfold szOf; split <;> omega
  generalize hq0 : szOf 1048576 l0.length = q0 at hsz0
  have HQ0 := hide hq0
  clear hq0
  rcases hsz0 with hbig0 | ⟨hq0a, hq0b, hq0c⟩
  · have HBIG := hide hbig0
    have hneg : q0 < 0 := by omega
    clear hbig0
    go_enter Try.func3, Try.ntmps3
    go_wp2_with (first | (refine wpList_len sliceT rfl (.tmp _) rfl v1 rfl w.heap.size l1 F3.out ?_))
    generalize hX : (w.alloc (.cells #[.int .i64 n0, v0] 24)) = W0 at F1 F2 F3 F4 HZ0 ⊢
    have hz0 := Nat.le_of_eq HZ0.out.symm
    clear hX HZ0
    refine (szSpace_c n0 v0 l0 (1048576) W0 (F2.out.mono (by omega)) hlen0 (by omega) (by omega)).mono ?_
    rw [HQ0.out]
    rintro e W1 ⟨rfl, hb5⟩
    have hz6 := hb5.size
    have F7 := hide (F1.out.trans (hb5.mono (by omega)))
    have F8 := hide (F2.out.below hb5 (by omega))
    have F9 := hide (F3.out.below hb5 (by omega))
    have F10 := hide ((hb5.block (w.heap.size) (by omega)).trans F4.out)
    clear hb5 F1 F2 F3 F4
    go_wp2
    go_ret
    exact ⟨rfl, F7.out⟩
  have hneg0 : ¬ q0 < 0 := by omega
  go_enter Try.func3, Try.ntmps3
  go_wp2_with (first | (refine wpList_len sliceT rfl (.tmp _) rfl v1 rfl w.heap.size l1 F3.out ?_))
  generalize hX : (w.alloc (.cells #[.int .i64 n0, v0] 24)) = W0 at F1 F2 F3 F4 HZ0 ⊢
  have hz0 := Nat.le_of_eq HZ0.out.symm
  clear hX HZ0
  refine (szSpace_c n0 v0 l0 (1048576) W0 (F2.out.mono (by omega)) hlen0 (by omega) (by omega)).mono ?_
  rw [HQ0.out]
  rintro e W1 ⟨rfl, hb5⟩
  have hz6 := hb5.size
  have F7 := hide (F1.out.trans (hb5.mono (by omega)))
  have F8 := hide (F2.out.below hb5 (by omega))
  have F9 := hide (F3.out.below hb5 (by omega))
  have F10 := hide ((hb5.block (w.heap.size) (by omega)).trans F4.out)
  clear hb5 F1 F2 F3 F4
  have p11 := cells_at0 F10.out
  have p12 := cells_at1 F10.out
  go_wp2_with fail
  clear p11 p12
  refine (toSpace_c n0 v0 l0 W1 (F8.out.mono (by omega)) (by omega)).mono ?_
  rintro e W2 ⟨g13, rfl, hg14, hk15, hb16⟩
  have hz17 := hb16.size
  have F18 := hide (F7.out.trans (hb16.mono (by omega)))
  have F19 := hide (F8.out.below hb16 (by omega))
  have F20 := hide (F9.out.below hb16 (by omega))
  have F21 := hide ((hb16.block (w.heap.size) (by omega)).trans F10.out)
  have F22 := hide (hk15.own hg14 (by unfold maxLen; omega))
  have B23 := hide (F22.out.base)
  have L24 := hide (F22.out.blockLt)
  clear hb16 F7 F8 F9 F10 hk15 hg14
  have p25 := cells_at0 F21.out
  have p26 := cells_at1 F21.out
  go_wp2_with fail
  clear p25 p26
  refine (toIntS_c v1 l1 W2 (F20.out.mono (by omega)) (by omega)).mono ?_
  rintro e W3 ⟨rfl, hk27, hb28⟩
  have hz29 := hb28.size
  have F30 := hide (F18.out.trans (hb28.mono (by omega)))
  have F31 := hide (F19.out.below hb28 (by omega))
  have F32 := hide (F20.out.below hb28 (by omega))
  have F33 := hide ((hb28.block (w.heap.size) (by omega)).trans F21.out)
  have F34 := hide (F22.out.kept hb28)
  have F35 := hide (hk27.own (Nat.le_refl _) (by unfold maxLen; omega))
  have B36 := hide (F35.out.base)
  have L37 := hide (F35.out.blockLt)
  clear hb28 F18 F19 F20 F21 F22 hk27
  have p38 := cells_at0 F33.out
  have p39 := cells_at1 F33.out
  go_wp2_with fail
  clear p38 p39
  refine (specIsAntichain_c n0 _ l0 _ l1 W3 F34.out.ints (by omega) _ F35.out (by omega)).mono ?_
  rw [HR.out, HO.out]
  rintro e W4 ⟨rfl, hb40⟩
  have hz41 := hb40.size
  have F42 := hide (F30.out.trans (hb40.mono (by omega)))
  have F43 := hide (F31.out.below hb40 (by omega))
  have F44 := hide (F32.out.below hb40 (by omega))
  have F45 := hide ((hb40.block (w.heap.size) (by omega)).trans F33.out)
  have F46 := hide (F34.out.kept hb40)
  have F47 := hide (F35.out.kept hb40)
  clear hb40 F30 F31 F32 F33 F34 F35
  clear F46
  clear B23 L24
  clear F47
  clear B36 L37
  have p48 := cells_at0 F45.out
  have p49 := cells_at1 F45.out
  go_wp2_with fail
  clear p48 p49
  refine (toSpace_c n0 v0 l0 W4 (F43.out.mono (by omega)) (by omega)).mono ?_
  rintro e W5 ⟨g50, rfl, hg51, hk52, hb53⟩
  have hz54 := hb53.size
  have F55 := hide (F42.out.trans (hb53.mono (by omega)))
  have F56 := hide (F43.out.below hb53 (by omega))
  have F57 := hide (F44.out.below hb53 (by omega))
  have F58 := hide ((hb53.block (w.heap.size) (by omega)).trans F45.out)
  have F59 := hide (hk52.own hg51 (by unfold maxLen; omega))
  have B60 := hide (F59.out.base)
  have L61 := hide (F59.out.blockLt)
  clear hb53 F42 F43 F44 F45 hk52 hg51
  have F62 := hide (F55.out.alloc (by omega) (.cells #[.int .i64 n0, .slice (some ⟨g50, 0, none⟩) l0.length l0.length] 28))
  have F63 := hide (F56.out.alloc (.cells #[.int .i64 n0, .slice (some ⟨g50, 0, none⟩) l0.length l0.length] 28))
  have F64 := hide (F57.out.alloc (.cells #[.int .i64 n0, .slice (some ⟨g50, 0, none⟩) l0.length l0.length] 28))
  have F65 := hide ((hp_old W5 (.cells #[.int .i64 n0, .slice (some ⟨g50, 0, none⟩) l0.length l0.length] 28) (w.heap.size) (by omega)).trans F58.out)
  have F66 := hide (F59.out.alloc (.cells #[.int .i64 n0, .slice (some ⟨g50, 0, none⟩) l0.length l0.length] 28))
  have F67 := hide (hp_last W5 (.cells #[.int .i64 n0, .slice (some ⟨g50, 0, none⟩) l0.length l0.length] 28))
  have HZ68 := hide (show (W5.alloc (.cells #[.int .i64 n0, .slice (some ⟨g50, 0, none⟩) l0.length l0.length] 28)).heap.size = W5.heap.size + 1 by simp)
  clear F55 F56 F57 F58 F59
  have p69 := cells_at0 F65.out
  have p70 := cells_at1 F65.out
  have p71 := cells_at0 F67.out
  have p72 := cells_at1 F67.out
  go_wp2_with fail
  clear p69 p70 p71 p72
  generalize hX : W5.alloc (.cells #[.int .i64 n0, .slice (some ⟨g50, 0, none⟩) l0.length l0.length] 28) = W6 at F62 F63 F64 F65 F66 F67 HZ68 ⊢
  have hz73 := Nat.le_of_eq HZ68.out.symm
  clear hX HZ68
  refine (toIntS_c v1 l1 W6 (F64.out.mono (by omega)) (by omega)).mono ?_
  rintro e W7 ⟨rfl, hk74, hb75⟩
  have hz76 := hb75.size
  have F77 := hide (F62.out.trans (hb75.mono (by omega)))
  have F78 := hide (F63.out.below hb75 (by omega))
  have F79 := hide (F64.out.below hb75 (by omega))
  have F80 := hide ((hb75.block (w.heap.size) (by omega)).trans F65.out)
  have F81 := hide (F66.out.kept hb75)
  have F82 := hide ((hb75.block (W5.heap.size) (by omega)).trans F67.out)
  have F83 := hide (hk74.own (Nat.le_refl _) (by unfold maxLen; omega))
  have B84 := hide (F83.out.base)
  have L85 := hide (F83.out.blockLt)
  clear hb75 F62 F63 F64 F65 F66 F67 hk74
  have p86 := cells_at0 F80.out
  have p87 := cells_at1 F80.out
  have p88 := cells_at0 F82.out
  have p89 := cells_at1 F82.out
  go_wp2_with fail
  clear p86 p87 p88 p89
  refine (implIsAntichain_c n0 _ l0 _ l1 W7 F81.out.ints (by omega) _ F83.out (by omega)).mono ?_
  rw [HR.out, HO.out]
  rintro e W8 ⟨rfl, hb90⟩
  have hz91 := hb90.size
  have F92 := hide (F77.out.trans (hb90.mono (by omega)))
  have F93 := hide (F78.out.below hb90 (by omega))
  have F94 := hide (F79.out.below hb90 (by omega))
  have F95 := hide ((hb90.block (w.heap.size) (by omega)).trans F80.out)
  have F96 := hide (F81.out.kept hb90)
  have F97 := hide ((hb90.block (W5.heap.size) (by omega)).trans F82.out)
  have F98 := hide (F83.out.kept hb90)
  clear hb90 F77 F78 F79 F80 F81 F82 F83
  have p99 := cells_at0 F95.out
  have p100 := cells_at1 F95.out
  have p101 := cells_at0 F97.out
  have p102 := cells_at1 F97.out
  go_wp2
  clear p99 p100 p101 p102
  refine wp_region_held (S := Below W8.heap.size W8) (by kernel_rfl) ?_
  have hS : Below W8.heap.size W8 { W8 with drawn := W8.drawn + 1 } := (Below.refl _ _).drew
  refine wpAnyH_take (i := 0) rfl (by kernel_rfl) (by kernel_rfl) (by kernel_rfl) (fun _ _ _ h => h) (yields_load_two rowSp sizeSp rfl (.tmp _) rfl _ rfl _ _ (fun w' h => (h.cell (p := ⟨W5.heap.size, 0, none⟩) (by show W5.heap.size < _; omega)).trans (cells_at0 F97.out)) (fun w' h => (h.cell (p := ⟨W5.heap.size, 1, none⟩) (by show W5.heap.size < _; omega)).trans (cells_at1 F97.out))) hS ?_
  refine wpAnyH_take (i := 1) rfl (by kernel_rfl) (by kernel_rfl) (by kernel_rfl) (fun _ _ _ h => h) (yields_load_two rowSl sizeSl rfl (.tmp _) rfl _ rfl _ _ (fun w' h => (h.cell (p := ⟨w.heap.size, 0, none⟩) (by show w.heap.size < _; omega)).trans (cells_at0 F95.out)) (fun w' h => (h.cell (p := ⟨w.heap.size, 1, none⟩) (by show w.heap.size < _; omega)).trans (cells_at1 F95.out))) hS ?_
  refine anyH_call (i := 2) (by kernel_rfl) rfl rfl 17 ent_toSpace _ _ rfl #[.agg #[.int .i64 n0, v0]] rfl (toSpace_c n0 v0 l0 _ ((F93.out.below hS (by omega)).mono (show w.heap.size ≤ W8.heap.size by omega)) (by omega)) ?_
  rintro e W9 ⟨g103, rfl, hgr, hkr, hbr⟩
  have hzr : W8.heap.size ≤ W9.heap.size := hbr.size
  have hS6 : Below W8.heap.size W8 W9 := hS.trans hbr
  refine ⟨_, rfl, hS6, ?_⟩
  refine anyH_call (i := 3) (by kernel_rfl) rfl rfl 20 ent_eqSpace _ _ rfl #[.agg #[.int .i64 n0, .slice (some ⟨g50, 0, none⟩) l0.length l0.length], .agg #[.int .i64 n0, .slice (some ⟨g103, 0, none⟩) l0.length l0.length]] rfl (eqSpace_same_c n0 _ _ l0 W9 ((F96.out.kept hS6).ints) (hkr.ints _) (by omega)) ?_
  rintro e W10 ⟨rfl, hbs⟩
  have hS7 : Below W8.heap.size W8 W10 := hS6.trans (hbs.mono hzr)
  refine ⟨_, rfl, hS7, ?_⟩
  refine anyH_op (i := 4) (by kernel_rfl) rfl rfl (.bool false) W10 ?hq hS7 ?_
  case hq => simp [go_sem, Act.put]
  refine wpAnyH_done (by kernel_rfl) ?_ _
  simp only [Act.put, List.getElem_toArray, List.getElem_cons_zero, List.getElem_cons_succ, List.setIfInBounds_toArray, List.set_cons_zero, List.set_cons_succ]
  have hz104 : W8.heap.size ≤ W10.heap.size := hS7.size
  have F105 := hide (F92.out.trans (hS7.mono (by omega)))
  have F106 := hide (F93.out.below hS7 (by omega))
  have F107 := hide (F94.out.below hS7 (by omega))
  have F108 := hide ((hS7.block (w.heap.size) (by omega)).trans F95.out)
  have F109 := hide (F96.out.kept hS7)
  have F110 := hide ((hS7.block (W5.heap.size) (by omega)).trans F97.out)
  have F111 := hide (F98.out.kept hS7)
  clear hS hS6 hS7 hbr hbs hkr hgr hzr F92 F93 F94 F95 F96 F97 F98
  have p112 := cells_at0 F108.out
  have p113 := cells_at1 F108.out
  have p114 := cells_at0 F110.out
  have p115 := cells_at1 F110.out
  go_wp2_with fail
  clear p112 p113 p114 p115
  refine (toIntS_c v1 l1 W10 (F107.out.mono (by omega)) (by omega)).mono ?_
  rintro e W11 ⟨rfl, hk116, hb117⟩
  have hz118 := hb117.size
  have F119 := hide (F105.out.trans (hb117.mono (by omega)))
  have F120 := hide (F106.out.below hb117 (by omega))
  have F121 := hide (F107.out.below hb117 (by omega))
  have F122 := hide ((hb117.block (w.heap.size) (by omega)).trans F108.out)
  have F123 := hide (F109.out.kept hb117)
  have F124 := hide ((hb117.block (W5.heap.size) (by omega)).trans F110.out)
  have F125 := hide (F111.out.kept hb117)
  have F126 := hide (hk116.own (Nat.le_refl _) (by unfold maxLen; omega))
  have B127 := hide (F126.out.base)
  have L128 := hide (F126.out.blockLt)
  clear hb117 F105 F106 F107 F108 F109 F110 F111 hk116
  have p129 := cells_at0 F122.out
  have p130 := cells_at1 F122.out
  have p131 := cells_at0 F124.out
  have p132 := cells_at1 F124.out
  go_wp2_with fail
  clear p129 p130 p131 p132
  refine (eqIntS_same_c _ _ l1 W11 (F125.out.ints) (F126.out.ints) (by omega)).mono ?_
  rintro e W12 ⟨rfl, hb133⟩
  have hz134 := hb133.size
  have F135 := hide (F119.out.trans (hb133.mono (by omega)))
  have F136 := hide (F120.out.below hb133 (by omega))
  have F137 := hide (F121.out.below hb133 (by omega))
  have F138 := hide ((hb133.block (w.heap.size) (by omega)).trans F122.out)
  have F139 := hide (F123.out.kept hb133)
  have F140 := hide ((hb133.block (W5.heap.size) (by omega)).trans F124.out)
  have F141 := hide (F125.out.kept hb133)
  have F142 := hide (F126.out.kept hb133)
  clear hb133 F119 F120 F121 F122 F123 F124 F125 F126
  clear F142
  clear B127 L128
  have p143 := cells_at0 F138.out
  have p144 := cells_at1 F138.out
  have p145 := cells_at0 F140.out
  have p146 := cells_at1 F140.out
  go_wp2
  go_ret
  exact ⟨rfl, F135.out⟩

theorem ownK : ownKnob Try.prog.godebug = none := by kernel_rfl
theorem laidOut : laidOutB Try.prog = true := by kernel_rfl

/-- What a slice of int is, as it comes in. -/
theorem list_open {W : World} {v : Value} {l : List Int} (h : (v = .slice none 0 0 ∧ l = []) ∨ ∃ (a : Addr) (len c : Nat) (zs : List Int), v = .slice (some a) len c ∧ len ≤ zs.length ∧ len ≤ maxLen ∧ (∀ i, i < zs.length → W.cell? (a.add i) = some (.int .i64 (zs.getD i 0))) ∧ l = zs.take len) : ints W.heap.size W v l ∧ l.length ≤ 9223372036854775807 := by
  rcases h with ⟨rfl, rfl⟩ | ⟨x, len, c, zs, rfl, hlt, hm, hcell, rfl⟩
  · exact ⟨.inl ⟨rfl, none, 0, rfl⟩, by simp⟩
  · have htk : (zs.take len).length = len := by simp; omega
    refine ⟨?_, by unfold maxLen at hm; omega⟩
    rcases Nat.eq_zero_or_pos len with h0 | h0
    · subst h0
      exact .inl ⟨by simp, some x, c, rfl⟩
    · obtain ⟨b, off, rfl, hc⟩ := ints_at hcell (by omega)
      have hbl := block_lt_of_cell (hc 0 (by omega))
      refine .inr ⟨b, off, c, by rw [htk], hbl, hbl, fun j hj => ?_⟩
      rw [htk] at hj
      rw [hc j (by omega), List.getElem?_take, if_pos hj]
      rfl

/-- What a struct of an int and a slice of int is, as it comes in. -/
theorem space_open {H : Type} {enc : TypeId × Value → H} {W : World} {b0 : Nat} {v : Value} {d : DataW H} {p : List MemPlace}
    (hv : Value.okWide Try.prog W .any b0 24 v) (h : DataW.Trod enc Try.prog W 0 (fun _ => true) true 24 v d p) :
    ∃ (n : Int) (u : Value) (l : List Int), v = .agg #[.int .i64 n, u] ∧ ints W.heap.size W u l ∧ l.length ≤ 9223372036854775807 := by
  obtain ⟨v0, v1, y0, y1, m, rfl, rfl, rfl, hy0, hy1⟩ := open_agg2 Try.underlying24 (by kernel_rfl) (by kernel_rfl) hv h
  obtain ⟨n, e0, _, _⟩ := DataW.trod_int Try.underlying3 hy0
  simp at e0
  subst e0
  rcases open_ints Try.underlying22 Try.underlying3 (by kernel_rfl) hy1 with ⟨hcs, _⟩ | ⟨x, len, c, zs, hcs, _, hl, hm, hz, _, hcell, hwz⟩
  · simp at hcs
    subst hcs
    exact ⟨n, _, [], rfl, list_open (.inl ⟨rfl, rfl⟩)⟩
  · simp at hcs
    subst hcs
    have hz' : zs.length = c := by simpa using hz
    exact ⟨n, _, zs.take len, rfl, list_open (.inr ⟨x, len, c, zs, rfl, by omega, by unfold maxLen at hm ⊢; omega, hcell, rfl⟩)⟩

theorem slice_open {H : Type} {enc : TypeId × Value → H} {W : World} {b0 : Nat} {v : Value} {d : DataW H} {p : List MemPlace}
    (hv : Value.okWide Try.prog W .any b0 22 v) (h : DataW.Trod enc Try.prog W 0 (fun _ => true) true 22 v d p) :
    ∃ (l : List Int), ints W.heap.size W v l ∧ l.length ≤ 9223372036854775807 := by
  obtain ⟨a0, len0, cap0, rfl⟩ := okWide_slice Try.underlying22 hv
  obtain ⟨fuel, hf⟩ := h
  rcases open_ints Try.underlying22 Try.underlying3 (by kernel_rfl) hf with ⟨hcs, _⟩ | ⟨x, len, c, zs, hcs, _, hl, hm, hz, _, hcell, hwz⟩
  · simp [Value.cells] at hcs
    obtain ⟨rfl, rfl, rfl⟩ := hcs
    exact ⟨[], list_open (.inl ⟨rfl, rfl⟩)⟩
  · simp [Value.cells] at hcs
    obtain ⟨rfl, rfl, rfl⟩ := hcs
    have hz' : zs.length = cap0 := by simpa using hz
    exact ⟨zs.take len0, list_open (.inr ⟨x, len0, cap0, zs, rfl, by omega, by omega, hcell, rfl⟩)⟩

theorem lifted (os : Os) (started : os.Started) (H : Type) (enc : TypeId × Value → H) :
    ReturnsInHanded {} Try.checked os 3 .any (Rows.fnExactIsAntichainSpec.pre6 enc Try.prog Try.f3 Rows.fnExactIsAntichainRow.domain false) (Rows.fnExactIsAntichainSpec.post enc Try.prog Try.f3 false true false false) := by
  refine returnsInHanded_of_change (C := Try.checked) ownK started (by kernel_rfl) Try.func3
    (ChangeSpec.witness6 (enc := enc) (C := Try.checked) false ⟨#[], #[.agg #[.int .i64 0, .slice none 0 0], .slice none 0 0], []⟩ 8 (by kernel_rfl) (by kernel_rfl) (by kernel_rfl) (by kernel_rfl)) ?_
  intro W base args ds gs before hval0 hW hcnd _
  have hval : ∀ (j : Nat) t v, Try.f3.params[j]? = some t → args[j]? = some v → Value.okWide Try.prog W .any base t v := hval0
  have hW' := hW
  obtain ⟨p, q, hA0, hV, rfl, hfz, hnd⟩ := hW
  have hA : DataW.TrodAll enc Try.prog W 0 (fun _ => true) true Try.f3.params.toList args.toList ds p := hA0
  rw [Try.params3] at hA hval
  obtain ⟨v0, vs0, d0, ds0, p0, q0, hargs, rfl, rfl, t0, r0⟩ := trodAll_cons hA
  obtain ⟨v1, vs1, d1, ds1, p1, q1, rfl, rfl, rfl, t1, r1⟩ := trodAll_cons r0
  obtain ⟨rfl, rfl, rfl⟩ := trodAll_nil r1
  obtain rfl : args = #[v0, v1] := by cases args; simp_all
  obtain ⟨rfl, rfl⟩ := trodVars_none hV
  have k0 := t0
  have lt0 : ∀ x ∈ p0, x.block < W.heap.size := by obtain ⟨m, hm⟩ := k0; exact DataW.trod_lt m _ _ _ hm
  obtain ⟨n0, u0, l0, rfl, i0, e0⟩ := space_open (hval 0 24 v0 rfl rfl) t0
  have k1 := t1
  have lt1 : ∀ x ∈ p1, x.block < W.heap.size := by obtain ⟨m, hm⟩ := k1; exact DataW.trod_lt m _ _ _ hm
  obtain ⟨l1, i1, e1⟩ := slice_open (hval 1 22 v1 rfl rfl) t1
  clear hA0 hval0
  refine (law_c n0 u0 l0 v1 l1 W i0 e0 i1 e1).mono fun e W' ⟨he, bel⟩ => ?_
  subst he
  exact ⟨_, rfl, _, _, _, [], _, [], hW', trodAll_mk1 (shut_bool Try.underlying4 _), (trodAll_cons_mk (Below.trod laidOut (by kernel_rfl) (of_decide_eq_true (by kernel_rfl)) k0 bel lt0) (trodAll_cons_mk (Below.trod laidOut (by kernel_rfl) (of_decide_eq_true (by kernel_rfl)) k1 bel lt1) trodAll_mk0)), rfl, bel.frame _, fun h => by cases h⟩

set_option maxHeartbeats 4000000 in
theorem over : Rows.fnExactIsAntichainRow.holds Try.pinned (OpenSpec.ofChange Rows.fnExactIsAntichainSpec) :=
  OpenClaim.holds_of_wide 3 Try.f3 rfl rfl rfl rfl rfl rfl rfl ⟨rfl, rfl, rfl, rfl, rfl⟩ rfl rfl rfl rfl rfl (by as_aux_lemma => kernel_rfl) Try.func3 (by as_aux_lemma => kernel_rfl)
    (of_decide_eq_true (by as_aux_lemma => kernel_rfl)) (by unfold Func.isWrapper; first | (rw [if_pos (by decide +kernel)]; kernel_rfl) | (rw [if_neg (by decide +kernel)]; exact ⟨rfl, rfl⟩))
    (fun os started H enc _ => lifted os started H enc)

theorem proved : Rows.FnExactIsAntichainSaid := over
#print axioms proved
end Go.Proofs.Ytonimjpfaalniaa.FIsAntichain
