/- The program's KeptBelow answers as the specification's does, at every argument, leaves its arguments as they are, and its answer owns its memory: no condition. -/
import Derived.Test.YtdalbjpjnfjgfaaDoorRows
import Derived.Test.YtdalbjpjnfjgfaaDoorKac
import Derived.Test.YtdalbjpjnfjgfaaDoorTie
import Derived.Test.YtdalbjpjnfjgfaaDoorCards
import Derived.LaidMore
import Derived.Stop.Joined
import Derived.Stop.LaidErr
import Derived.Lib.LaidTab
import Derived.SevenTiedAt
import Derived.Test.YtdalbjpjnfjgfaaDoorHar
import Derived.ProofKit
import Derived.OpenShut
import Derived.Lib.SmallJoins
namespace Go.Proofs.YtdalbjpjnfjgfaaDoor.FKeptBelow
open Go.ChangeShapes Go.WideShapes Go.ChangeAt Go.RowKit Go.Joins
set_option linter.unusedVariables false
set_option linter.unusedSimpArgs false
set_option maxRecDepth 100000

set_option maxHeartbeats 4000000 in
theorem law_c (n0 : Int) (v0 : Value) (l0 : List Int) (v1 : Value) (l1 : List Tsk) (x2 : Int) (w : World) (h0 : ints w.heap.size w v0 l0) (hlen0 : l0.length ≤ 9223372036854775807) (h1 : tks w.heap.size w v1 l1) (hlen1 : l1.length ≤ 9223372036854775807) (hT : tab w) :
    Calls Tryd.prog 6 #[.agg #[.int .i64 n0, v0], v1, .int .i64 x2] w fun e w' => e = .returned (.bool true) ∧ Below w.heap.size w w' := by
  have HT := hide hT
  clear hT
  generalize hR : (keR n0 l0 l1 x2) = R
  generalize hO : (keB n0 l0 l1 x2) = ok
  have HR := hide hR
  have HO := hide hO
  clear hR hO
  have F1 := hide (((Below.refl w.heap.size w).alloc (Nat.le_refl _) (.cells #[.int .i64 n0, v0] 46)))
  have F2 := hide ((h0.alloc (.cells #[.int .i64 n0, v0] 46)))
  have F3 := hide ((h1.alloc (.cells #[.int .i64 n0, v0] 46)))
  have F4 := hide (show (w.alloc (.cells #[.int .i64 n0, v0] 46)).heap[w.heap.size]? = some (.cells #[.int .i64 n0, v0] 46) from (by have := hp_last w (.cells #[.int .i64 n0, v0] 46); simpa using this))
  have HZ0 := hide (show (w.alloc (.cells #[.int .i64 n0, v0] 46)).heap.size = w.heap.size + 1 by simp)
  clear h0 h1
  have hsz0 : szOf 1048576 l0.length = -1 ∨ (0 ≤ szOf 1048576 l0.length ∧ szOf 1048576 l0.length ≤ 1048576 ∧ l0.length ≤ 1048576) := by unfold szOf; split <;> omega
  generalize hq0 : szOf 1048576 l0.length = q0 at hsz0
  have HQ0 := hide hq0
  clear hq0
  have hsz1 : szOf q0 l1.length = -1 ∨ (0 ≤ szOf q0 l1.length ∧ szOf q0 l1.length ≤ 1048576 ∧ l1.length ≤ 1048576) := by unfold szOf; split <;> omega
  generalize hq1 : szOf q0 l1.length = q1 at hsz1
  have HQ1 := hide hq1
  clear hq1
  rcases hsz0 with hbig0 | ⟨hq0a, hq0b, hq0c⟩
  · have HBIG := hide hbig0
    have hneg : q0 < 0 := by omega
    clear hbig0
    go_enter Tryd.func6, Tryd.ntmps6
    go_wp2_with fail
    generalize hX : (w.alloc (.cells #[.int .i64 n0, v0] 46)) = W0 at F1 F2 F3 F4 HZ0 ⊢
    have hz0 := Nat.le_of_eq HZ0.out.symm
    clear hX HZ0
    refine (szSpace_c n0 v0 l0 (1048576) W0 (F2.out.mono (by omega)) hlen0 (by omega) (by omega)).mono ?_
    rw [HQ0.out]
    rintro e W1 ⟨rfl, hb5⟩
    have hz6 := hb5.size
    have F7 := hide (F1.out.trans (hb5.mono (by omega)))
    have F8 := hide (F2.out.below hb5 (by omega))
    have F9 := hide (F3.out.below hb5 (by omega))
    have F10 := hide ((hb5.block (w.heap.size) (by omega)).trans F4.out)
    clear hb5 F1 F2 F3 F4
    go_wp2
    go_ret
    exact ⟨rfl, F7.out⟩
  have hneg0 : ¬ q0 < 0 := by omega
  rcases hsz1 with hbig1 | ⟨hq1a, hq1b, hq1c⟩
  · have HBIG := hide hbig1
    have hneg : q1 < 0 := by omega
    clear hbig1
    go_enter Tryd.func6, Tryd.ntmps6
    go_wp2_with fail
    generalize hX : (w.alloc (.cells #[.int .i64 n0, v0] 46)) = W0 at F1 F2 F3 F4 HZ0 ⊢
    have hz0 := Nat.le_of_eq HZ0.out.symm
    clear hX HZ0
    refine (szSpace_c n0 v0 l0 (1048576) W0 (F2.out.mono (by omega)) hlen0 (by omega) (by omega)).mono ?_
    rw [HQ0.out]
    rintro e W1 ⟨rfl, hb5⟩
    have hz6 := hb5.size
    have F7 := hide (F1.out.trans (hb5.mono (by omega)))
    have F8 := hide (F2.out.below hb5 (by omega))
    have F9 := hide (F3.out.below hb5 (by omega))
    have F10 := hide ((hb5.block (w.heap.size) (by omega)).trans F4.out)
    clear hb5 F1 F2 F3 F4
    have p11 := cells_at0 F10.out
    have p12 := cells_at1 F10.out
    go_wp2_with fail
    clear p11 p12
    refine (szTaskS_c v1 l1 (q0) W1 (F9.out.mono (by omega)) hlen1 (by omega) (by omega)).mono ?_
    rw [HQ1.out]
    rintro e _ ⟨rfl, rfl⟩
    go_wp2
    go_ret
    exact ⟨rfl, F7.out⟩
  have hneg1 : ¬ q1 < 0 := by omega
  go_enter Tryd.func6, Tryd.ntmps6
  go_wp2_with fail
  generalize hX : (w.alloc (.cells #[.int .i64 n0, v0] 46)) = W0 at F1 F2 F3 F4 HZ0 ⊢
  have hz0 := Nat.le_of_eq HZ0.out.symm
  clear hX HZ0
  refine (szSpace_c n0 v0 l0 (1048576) W0 (F2.out.mono (by omega)) hlen0 (by omega) (by omega)).mono ?_
  rw [HQ0.out]
  rintro e W1 ⟨rfl, hb5⟩
  have hz6 := hb5.size
  have F7 := hide (F1.out.trans (hb5.mono (by omega)))
  have F8 := hide (F2.out.below hb5 (by omega))
  have F9 := hide (F3.out.below hb5 (by omega))
  have F10 := hide ((hb5.block (w.heap.size) (by omega)).trans F4.out)
  clear hb5 F1 F2 F3 F4
  have p11 := cells_at0 F10.out
  have p12 := cells_at1 F10.out
  go_wp2_with fail
  clear p11 p12
  refine (szTaskS_c v1 l1 (q0) W1 (F9.out.mono (by omega)) hlen1 (by omega) (by omega)).mono ?_
  rw [HQ1.out]
  rintro e _ ⟨rfl, rfl⟩
  have p13 := cells_at0 F10.out
  have p14 := cells_at1 F10.out
  go_wp2_with fail
  clear p13 p14
  refine (toSpace_c n0 v0 l0 W1 (F8.out.mono (by omega)) (by omega)).mono ?_
  rintro e W2 ⟨g15, rfl, hg16, hk17, hb18⟩
  have hz19 := hb18.size
  have F20 := hide (F7.out.trans (hb18.mono (by omega)))
  have F21 := hide (F8.out.below hb18 (by omega))
  have F22 := hide (F9.out.below hb18 (by omega))
  have F23 := hide ((hb18.block (w.heap.size) (by omega)).trans F10.out)
  have F24 := hide (hk17.own hg16 (by unfold maxLen; omega))
  have B25 := hide (F24.out.base)
  have L26 := hide (F24.out.blockLt)
  clear hb18 F7 F8 F9 F10 hk17 hg16
  have p27 := cells_at0 F23.out
  have p28 := cells_at1 F23.out
  go_wp2_with fail
  clear p27 p28
  refine (toTaskS_c v1 l1 W2 (F22.out.mono (by omega)) (by omega)).mono ?_
  rintro e W3 ⟨v29, rfl, ho30, hb31⟩
  have hz32 := hb31.size
  have F33 := hide (F20.out.trans (hb31.mono (by omega)))
  have F34 := hide (F21.out.below hb31 (by omega))
  have F35 := hide (F22.out.below hb31 (by omega))
  have F36 := hide ((hb31.block (w.heap.size) (by omega)).trans F23.out)
  have F37 := hide (F24.out.kept hb31)
  have F38 := hide (ho30)
  have B39 := hide (F38.out.base)
  have L40 := hide (F38.out.blockLt)
  clear hb31 F20 F21 F22 F23 F24 ho30
  have p41 := cells_at0 F36.out
  have p42 := cells_at1 F36.out
  go_wp2_with fail
  clear p41 p42
  refine (specKeptBelow_c n0 _ l0 _ l1 x2 W3 F37.out.ints (by omega) F38.out.tks (by omega) (HT.out.belowB HT.out F33.out (Nat.le_refl _))).mono ?_
  rw [HR.out, HO.out]
  rintro e W4 ⟨rfl, hb43⟩
  have hz44 := hb43.size
  have F45 := hide (F33.out.trans (hb43.mono (by omega)))
  have F46 := hide (F34.out.below hb43 (by omega))
  have F47 := hide (F35.out.below hb43 (by omega))
  have F48 := hide ((hb43.block (w.heap.size) (by omega)).trans F36.out)
  have F49 := hide (F37.out.kept hb43)
  have F50 := hide (F38.out.kept hb43)
  clear hb43 F33 F34 F35 F36 F37 F38
  clear F49
  clear B25 L26
  clear F50
  clear B39 L40
  have p51 := cells_at0 F48.out
  have p52 := cells_at1 F48.out
  go_wp2_with fail
  clear p51 p52
  refine (toSpace_c n0 v0 l0 W4 (F46.out.mono (by omega)) (by omega)).mono ?_
  rintro e W5 ⟨g53, rfl, hg54, hk55, hb56⟩
  have hz57 := hb56.size
  have F58 := hide (F45.out.trans (hb56.mono (by omega)))
  have F59 := hide (F46.out.below hb56 (by omega))
  have F60 := hide (F47.out.below hb56 (by omega))
  have F61 := hide ((hb56.block (w.heap.size) (by omega)).trans F48.out)
  have F62 := hide (hk55.own hg54 (by unfold maxLen; omega))
  have B63 := hide (F62.out.base)
  have L64 := hide (F62.out.blockLt)
  clear hb56 F45 F46 F47 F48 hk55 hg54
  have F65 := hide (F58.out.alloc (by omega) (.cells #[.int .i64 n0, .slice (some ⟨g53, 0, none⟩) l0.length l0.length] 34))
  have F66 := hide (F59.out.alloc (.cells #[.int .i64 n0, .slice (some ⟨g53, 0, none⟩) l0.length l0.length] 34))
  have F67 := hide (F60.out.alloc (.cells #[.int .i64 n0, .slice (some ⟨g53, 0, none⟩) l0.length l0.length] 34))
  have F68 := hide ((hp_old W5 (.cells #[.int .i64 n0, .slice (some ⟨g53, 0, none⟩) l0.length l0.length] 34) (w.heap.size) (by omega)).trans F61.out)
  have F69 := hide (F62.out.alloc (.cells #[.int .i64 n0, .slice (some ⟨g53, 0, none⟩) l0.length l0.length] 34))
  have F70 := hide (hp_last W5 (.cells #[.int .i64 n0, .slice (some ⟨g53, 0, none⟩) l0.length l0.length] 34))
  have HZ71 := hide (show (W5.alloc (.cells #[.int .i64 n0, .slice (some ⟨g53, 0, none⟩) l0.length l0.length] 34)).heap.size = W5.heap.size + 1 by simp)
  clear F58 F59 F60 F61 F62
  have p72 := cells_at0 F68.out
  have p73 := cells_at1 F68.out
  have p74 := cells_at0 F70.out
  have p75 := cells_at1 F70.out
  go_wp2_with fail
  clear p72 p73 p74 p75
  generalize hX : W5.alloc (.cells #[.int .i64 n0, .slice (some ⟨g53, 0, none⟩) l0.length l0.length] 34) = W6 at F65 F66 F67 F68 F69 F70 HZ71 ⊢
  have hz76 := Nat.le_of_eq HZ71.out.symm
  clear hX HZ71
  refine (toTaskS_c v1 l1 W6 (F67.out.mono (by omega)) (by omega)).mono ?_
  rintro e W7 ⟨v77, rfl, ho78, hb79⟩
  have hz80 := hb79.size
  have F81 := hide (F65.out.trans (hb79.mono (by omega)))
  have F82 := hide (F66.out.below hb79 (by omega))
  have F83 := hide (F67.out.below hb79 (by omega))
  have F84 := hide ((hb79.block (w.heap.size) (by omega)).trans F68.out)
  have F85 := hide (F69.out.kept hb79)
  have F86 := hide ((hb79.block (W5.heap.size) (by omega)).trans F70.out)
  have F87 := hide (ho78)
  have B88 := hide (F87.out.base)
  have L89 := hide (F87.out.blockLt)
  clear hb79 F65 F66 F67 F68 F69 F70 ho78
  have p90 := cells_at0 F84.out
  have p91 := cells_at1 F84.out
  have p92 := cells_at0 F86.out
  have p93 := cells_at1 F86.out
  go_wp2_with fail
  clear p90 p91 p92 p93
  refine (implKeptBelow_c n0 _ l0 _ l1 x2 W7 F85.out.ints (by omega) F87.out.tks (by omega) (HT.out.belowB HT.out F81.out (Nat.le_refl _))).mono ?_
  rw [HR.out, HO.out]
  rintro e W8 ⟨rfl, hb94⟩
  have hz95 := hb94.size
  have F96 := hide (F81.out.trans (hb94.mono (by omega)))
  have F97 := hide (F82.out.below hb94 (by omega))
  have F98 := hide (F83.out.below hb94 (by omega))
  have F99 := hide ((hb94.block (w.heap.size) (by omega)).trans F84.out)
  have F100 := hide (F85.out.kept hb94)
  have F101 := hide ((hb94.block (W5.heap.size) (by omega)).trans F86.out)
  have F102 := hide (F87.out.kept hb94)
  clear hb94 F81 F82 F83 F84 F85 F86 F87
  have p103 := cells_at0 F99.out
  have p104 := cells_at1 F99.out
  have p105 := cells_at0 F101.out
  have p106 := cells_at1 F101.out
  go_wp2
  clear p103 p104 p105 p106
  refine wp_region_held (S := Below W8.heap.size W8) (by kernel_rfl) ?_
  have hS : Below W8.heap.size W8 { W8 with drawn := W8.drawn + 1 } := (Below.refl _ _).drew
  refine wpAnyH_take (i := 0) rfl (by kernel_rfl) (by kernel_rfl) (by kernel_rfl) (fun _ _ _ h => h) (yields_load_two rowSp sizeSp rfl (.tmp _) rfl _ rfl _ _ (fun w' h => (h.cell (p := ⟨W5.heap.size, 0, none⟩) (by show W5.heap.size < _; omega)).trans (cells_at0 F101.out)) (fun w' h => (h.cell (p := ⟨W5.heap.size, 1, none⟩) (by show W5.heap.size < _; omega)).trans (cells_at1 F101.out))) hS ?_
  refine wpAnyH_take (i := 1) rfl (by kernel_rfl) (by kernel_rfl) (by kernel_rfl) (fun _ _ _ h => h) (yields_load_two rowSl sizeSl rfl (.tmp _) rfl _ rfl _ _ (fun w' h => (h.cell (p := ⟨w.heap.size, 0, none⟩) (by show w.heap.size < _; omega)).trans (cells_at0 F99.out)) (fun w' h => (h.cell (p := ⟨w.heap.size, 1, none⟩) (by show w.heap.size < _; omega)).trans (cells_at1 F99.out))) hS ?_
  refine anyH_call (i := 2) (by kernel_rfl) rfl rfl 30 ent_toSpace _ _ rfl #[.agg #[.int .i64 n0, v0]] rfl (toSpace_c n0 v0 l0 _ ((F97.out.below hS (by omega)).mono (show w.heap.size ≤ W8.heap.size by omega)) (by omega)) ?_
  rintro e W9 ⟨g107, rfl, hgr, hkr, hbr⟩
  have hzr : W8.heap.size ≤ W9.heap.size := hbr.size
  have hS6 : Below W8.heap.size W8 W9 := hS.trans hbr
  refine ⟨_, rfl, hS6, ?_⟩
  refine anyH_call (i := 3) (by kernel_rfl) rfl rfl 17 ent_eqSpace _ _ rfl #[.agg #[.int .i64 n0, .slice (some ⟨g53, 0, none⟩) l0.length l0.length], .agg #[.int .i64 n0, .slice (some ⟨g107, 0, none⟩) l0.length l0.length]] rfl (eqSpace_same_c n0 _ _ l0 W9 ((F100.out.kept hS6).ints) (hkr.ints _) (by omega)) ?_
  rintro e W10 ⟨rfl, hbs⟩
  have hS7 : Below W8.heap.size W8 W10 := hS6.trans (hbs.mono hzr)
  refine ⟨_, rfl, hS7, ?_⟩
  refine anyH_op (i := 4) (by kernel_rfl) rfl rfl (.bool false) W10 ?hq hS7 ?_
  case hq => simp [go_sem, Act.put]
  refine wpAnyH_done (by kernel_rfl) ?_ _
  simp only [Act.put, List.getElem_toArray, List.getElem_cons_zero, List.getElem_cons_succ, List.setIfInBounds_toArray, List.set_cons_zero, List.set_cons_succ]
  have hz108 : W8.heap.size ≤ W10.heap.size := hS7.size
  have F109 := hide (F96.out.trans (hS7.mono (by omega)))
  have F110 := hide (F97.out.below hS7 (by omega))
  have F111 := hide (F98.out.below hS7 (by omega))
  have F112 := hide ((hS7.block (w.heap.size) (by omega)).trans F99.out)
  have F113 := hide (F100.out.kept hS7)
  have F114 := hide ((hS7.block (W5.heap.size) (by omega)).trans F101.out)
  have F115 := hide (F102.out.kept hS7)
  clear hS hS6 hS7 hbr hbs hkr hgr hzr F96 F97 F98 F99 F100 F101 F102
  have p116 := cells_at0 F112.out
  have p117 := cells_at1 F112.out
  have p118 := cells_at0 F114.out
  have p119 := cells_at1 F114.out
  go_wp2_with fail
  clear p116 p117 p118 p119
  refine (toTaskS_c v1 l1 W10 (F111.out.mono (by omega)) (by omega)).mono ?_
  rintro e W11 ⟨v120, rfl, ho121, hb122⟩
  have hz123 := hb122.size
  have F124 := hide (F109.out.trans (hb122.mono (by omega)))
  have F125 := hide (F110.out.below hb122 (by omega))
  have F126 := hide (F111.out.below hb122 (by omega))
  have F127 := hide ((hb122.block (w.heap.size) (by omega)).trans F112.out)
  have F128 := hide (F113.out.kept hb122)
  have F129 := hide ((hb122.block (W5.heap.size) (by omega)).trans F114.out)
  have F130 := hide (F115.out.kept hb122)
  have F131 := hide (ho121)
  have B132 := hide (F131.out.base)
  have L133 := hide (F131.out.blockLt)
  clear hb122 F109 F110 F111 F112 F113 F114 F115 ho121
  have p134 := cells_at0 F127.out
  have p135 := cells_at1 F127.out
  have p136 := cells_at0 F129.out
  have p137 := cells_at1 F129.out
  go_wp2_with fail
  clear p134 p135 p136 p137
  refine (eqTaskS_same_c _ _ l1 W11 (F130.out.tks) (F131.out.tks) (by omega)).mono ?_
  rintro e W12 ⟨rfl, hb138⟩
  have hz139 := hb138.size
  have F140 := hide (F124.out.trans (hb138.mono (by omega)))
  have F141 := hide (F125.out.below hb138 (by omega))
  have F142 := hide (F126.out.below hb138 (by omega))
  have F143 := hide ((hb138.block (w.heap.size) (by omega)).trans F127.out)
  have F144 := hide (F128.out.kept hb138)
  have F145 := hide ((hb138.block (W5.heap.size) (by omega)).trans F129.out)
  have F146 := hide (F130.out.kept hb138)
  have F147 := hide (F131.out.kept hb138)
  clear hb138 F124 F125 F126 F127 F128 F129 F130 F131
  clear F147
  clear B132 L133
  have p148 := cells_at0 F143.out
  have p149 := cells_at1 F143.out
  have p150 := cells_at0 F145.out
  have p151 := cells_at1 F145.out
  go_wp2
  go_ret
  exact ⟨rfl, F140.out⟩

theorem ownK : ownKnob Tryd.prog.godebug = none := by kernel_rfl
theorem laidOut : laidOutB Tryd.prog = true := by kernel_rfl

/-- What a slice of int is, as it comes in. -/
theorem list_open {W : World} {v : Value} {l : List Int} (h : (v = .slice none 0 0 ∧ l = []) ∨ ∃ (a : Addr) (len c : Nat) (zs : List Int), v = .slice (some a) len c ∧ len ≤ zs.length ∧ len ≤ maxLen ∧ (∀ i, i < zs.length → W.cell? (a.add i) = some (.int .i64 (zs.getD i 0))) ∧ l = zs.take len) : ints W.heap.size W v l ∧ l.length ≤ 9223372036854775807 := by
  rcases h with ⟨rfl, rfl⟩ | ⟨x, len, c, zs, rfl, hlt, hm, hcell, rfl⟩
  · exact ⟨.inl ⟨rfl, none, 0, rfl⟩, by simp⟩
  · have htk : (zs.take len).length = len := by simp; omega
    refine ⟨?_, by unfold maxLen at hm; omega⟩
    rcases Nat.eq_zero_or_pos len with h0 | h0
    · subst h0
      exact .inl ⟨by simp, some x, c, rfl⟩
    · obtain ⟨b, off, rfl, hc⟩ := ints_at hcell (by omega)
      have hbl := block_lt_of_cell (hc 0 (by omega))
      refine .inr ⟨b, off, c, by rw [htk], hbl, hbl, fun j hj => ?_⟩
      rw [htk] at hj
      rw [hc j (by omega), List.getElem?_take, if_pos hj]
      rfl

/-- What a struct of an int and a slice of int is, as it comes in. -/
theorem space_open {H : Type} {enc : TypeId × Value → H} {W : World} {b0 : Nat} {v : Value} {d : DataW H} {p : List MemPlace}
    (hv : Value.okWide Tryd.prog W .any b0 46 v) (h : DataW.Trod enc Tryd.prog W 0 (fun _ => true) true 46 v d p) :
    ∃ (n : Int) (u : Value) (l : List Int), v = .agg #[.int .i64 n, u] ∧ ints W.heap.size W u l ∧ l.length ≤ 9223372036854775807 := by
  obtain ⟨v0, v1, y0, y1, m, rfl, rfl, rfl, hy0, hy1⟩ := open_agg2 Tryd.underlying46 (by kernel_rfl) (by kernel_rfl) hv h
  obtain ⟨n, e0, _, _⟩ := DataW.trod_int Tryd.underlying3 hy0
  simp at e0
  subst e0
  rcases open_ints Tryd.underlying23 Tryd.underlying3 (by kernel_rfl) hy1 with ⟨hcs, _⟩ | ⟨x, len, c, zs, hcs, _, hl, hm, hz, _, hcell, hwz⟩
  · simp at hcs
    subst hcs
    exact ⟨n, _, [], rfl, list_open (.inl ⟨rfl, rfl⟩)⟩
  · simp at hcs
    subst hcs
    have hz' : zs.length = c := by simpa using hz
    exact ⟨n, _, zs.take len, rfl, list_open (.inr ⟨x, len, c, zs, rfl, by omega, by unfold maxLen at hm ⊢; omega, hcell, rfl⟩)⟩


/-- What the card's condition gives: the table's cells. -/
theorem tab_of {W : World} (h : laidMetH Tryd.prog Rows.fnExactKeptBelowRow.laid W) : tab W := by
  rw [MakeChecks.laidMetH_plain _ _ _ (by kernel_rfl)] at h
  have h2 := h.tail
  have e : (Rows.laid_math_bits_deBruijn64tab : DataW Unit) = Lib.tabData .u8 (Lib.deBruijn64tab.map fun n : Nat => (n : Int)) := by kernel_rfl
  rw [e] at h2
  have hT := Lib.tabIs_of_head (g := 1) (t := 216) (e := 5) (n := 64) (by kernel_rfl) (by kernel_rfl) (by kernel_rfl) (by kernel_rfl) (by kernel_rfl) (by kernel_rfl) h2
  have hc : ∀ j, j < 64 → W.cell? ⟨1, j, none⟩ = some (.int .u8 (Lib.deBruijn64tab.getD j 0)) := by
    intro j hj
    have h3 := hT.cell (g := 1) (by kernel_rfl) j (by rw [show (Lib.deBruijn64tab.map fun n : Nat => (n : Int)).length = 64 by decide +kernel]; exact hj)
    rw [h3]
    have h4 : ∀ j, j < 64 → (Lib.deBruijn64tab.map fun n : Nat => (n : Int)).getD j 0 = (Lib.deBruijn64tab.getD j 0 : Int) := by decide +kernel
    rw [h4 j hj]
  exact ⟨block_lt_of_cell (hc 0 (by omega)), hc⟩
theorem door_met (os : Os) (args : Array Value) : laidMetH Tryd.prog Rows.fnExactKeptBelowRow.laid ((World.doorLaid Tryd.prog 400 os).forCall (fun _ _ => 0) ⟨#[], args, []⟩).memory :=
  laidMetH_of_parts3 (fuel := 8) (laidMet_of_run' 8 (by kernel_rfl) (by kernel_rfl)) (by kernel_rfl) (by kernel_rfl)

theorem lifted (os : Os) (started : os.Started) (H : Type) (enc : TypeId × Value → H) :
    ReturnsInHanded {} Tryd.checked os 6 .any (fun w args => (Rows.fnExactKeptBelowSpec.pre enc Tryd.prog Tryd.f6 [] false w args ∧ laidMetH Tryd.prog Rows.fnExactKeptBelowRow.laid w) ∧ sizedMet enc Tryd.prog Tryd.f6 (OpenSpec.ofChange Rows.fnExactKeptBelowSpec) false w args)
      (Rows.fnExactKeptBelowSpec.post enc Tryd.prog Tryd.f6 false true false false) := by
  refine returnsInHanded_of_change_and (C := Tryd.checked) (X := fun w _ => laidMetH Tryd.prog Rows.fnExactKeptBelowRow.laid w) (fun _ _ _ hh h => h.of_heap hh) ownK started (by kernel_rfl) Tryd.func6
    (ChangeSpec.witness_shaped (enc := enc) (C := Tryd.checked) (os := os) (X := fun w _ => laidMetH Tryd.prog Rows.fnExactKeptBelowRow.laid w) false (World.doorLaid Tryd.prog 400 os) #[.agg #[.int .i64 0, .slice none 0 0], .slice none 0 0, .int .i64 0] 8 rfl (World.shaped_of_RefB (by kernel_rfl) (by kernel_rfl)) (by kernel_rfl) (by kernel_rfl) (by kernel_rfl) (door_met os _)) ?_
  intro W base args ds gs before hval0 hW _ _ hL _
  have hTab := tab_of hL
  have hval : ∀ (j : Nat) t v, Tryd.f6.params[j]? = some t → args[j]? = some v → Value.okWide Tryd.prog W .any base t v := hval0
  have hW' := hW
  obtain ⟨p, q, hA0, hV, rfl, hfz, hnd⟩ := hW
  have hA : DataW.TrodAll enc Tryd.prog W 0 (fun _ => true) true Tryd.f6.params.toList args.toList ds p := hA0
  rw [Tryd.params6] at hA hval
  obtain ⟨v0, vs0, d0, ds0, p0, q0, hargs, rfl, rfl, t0, r0⟩ := trodAll_cons hA
  obtain ⟨v1, vs1, d1, ds1, p1, q1, rfl, rfl, rfl, t1, r1⟩ := trodAll_cons r0
  obtain ⟨v2, vs2, d2, ds2, p2, q2, rfl, rfl, rfl, t2, r2⟩ := trodAll_cons r1
  obtain ⟨rfl, rfl, rfl⟩ := trodAll_nil r2
  obtain rfl : args = #[v0, v1, v2] := by cases args; simp_all
  obtain ⟨rfl, rfl⟩ := trodVars_none hV
  have k0 := t0
  have lt0 : ∀ x ∈ p0, x.block < W.heap.size := by obtain ⟨m, hm⟩ := k0; exact DataW.trod_lt m _ _ _ hm
  obtain ⟨n0, u0, l0, rfl, i0, e0⟩ := space_open (hval 0 46 v0 rfl rfl) t0
  have k1 := t1
  have lt1 : ∀ x ∈ p1, x.block < W.heap.size := by obtain ⟨m, hm⟩ := k1; exact DataW.trod_lt m _ _ _ hm
  obtain ⟨l1, i1, e1⟩ := tasks_open (hval 1 47 v1 rfl rfl) t1
  obtain ⟨a2, rfl, rfl, rfl, w2⟩ := open_int Tryd.underlying3 (hval 2 3 v2 rfl rfl) t2
  clear hA0 hval0
  refine (law_c n0 u0 l0 v1 l1 a2 W i0 e0 i1 e1 hTab).mono fun e W' ⟨he, bel⟩ => ?_
  subst he
  exact ⟨_, rfl, _, _, _, [], _, [], hW', trodAll_mk1 (shut_bool Tryd.underlying4 _), (trodAll_cons_mk (Below.trod laidOut (by kernel_rfl) (of_decide_eq_true (by kernel_rfl)) k0 bel lt0) (trodAll_cons_mk (Below.trod laidOut (by kernel_rfl) (of_decide_eq_true (by kernel_rfl)) k1 bel lt1) (trodAll_cons_mk (shut_int Tryd.underlying3 w2) trodAll_mk0))), rfl, bel.frame _, fun h => by cases h⟩

set_option maxHeartbeats 4000000 in
theorem over : Rows.fnExactKeptBelowRow.holds Tryd.pinned (OpenSpec.ofChange Rows.fnExactKeptBelowSpec) :=
  OpenClaim.holds_of_wide 6 Tryd.f6 rfl rfl rfl rfl rfl rfl rfl ⟨rfl, rfl, rfl, rfl, rfl⟩ rfl rfl rfl rfl rfl (by as_aux_lemma => kernel_rfl) Tryd.func6 (by as_aux_lemma => kernel_rfl)
    (of_decide_eq_true (by as_aux_lemma => kernel_rfl)) (by unfold Func.isWrapper; first | (rw [if_pos (by decide +kernel)]; kernel_rfl) | (rw [if_neg (by decide +kernel)]; exact ⟨rfl, rfl⟩))
    (fun os started H enc _ => lifted os started H enc)

set_option maxHeartbeats 8000000 in
theorem proved : Rows.FnExactKeptBelowCardSaid :=
  Claim7.holds_tied_plain_at .later [] [.data, .data] true _ false
    over (fun _ h => by cases h) (by as_aux_lemma => kernel_rfl) (fun _ h => by cases h) fnExactKeptBelow_row_tie rfl ⟨rfl, rfl⟩ (by as_aux_lemma => kernel_rfl) rfl
    (fun f fn hf hfn => by
      obtain rfl : f = 6 := Option.some.inj ((show Tryd.prog.funcNamed "loop.example/g01137/laws.FnExactKeptBelow" = some 6 by as_aux_lemma => kernel_rfl).symm.trans hf) |>.symm
      obtain rfl : fn = Tryd.f6 := (Option.some.inj (Tryd.func6.symm.trans hfn)).symm
      exact ⟨by as_aux_lemma => kernel_rfl, fun j t ht => by
        rw [Tryd.params6] at ht
        have hm : t ∈ [46, 47, 3] := by simpa using Array.mem_of_getElem? ht
        have hall : ([46, 47, 3].all fun u => !Tryd.prog.wantsStandIn u) = true := by as_aux_lemma => kernel_rfl
        exact (show Tryd.prog.wantsStandIn t = false by simpa using List.all_eq_true.1 hall t hm)⟩)
    (by as_aux_lemma => kernel_rfl)
#print axioms proved
end Go.Proofs.YtdalbjpjnfjgfaaDoor.FKeptBelow
