/- The program's SwapWay answers as the specification's does, at every argument, leaves its arguments as they are, and its answer owns its memory: no condition. -/
import Derived.Test.YtagahoaogfogkaaRows
import Derived.Test.YtagahoaogfogkaaSz
import Derived.Test.YtagahoaogfogkaaHar
import Derived.ProofKit
import Derived.OpenShut
import Derived.Lib.SmallJoins
namespace Go.Proofs.Ytagahoaogfogkaa.FSwapWay
open Go.ChangeShapes Go.WideShapes Go.ChangeAt Go.RowKit Go.Joins
set_option linter.unusedVariables false
set_option linter.unusedSimpArgs false
set_option maxRecDepth 100000

set_option maxHeartbeats 4000000 in
theorem law_c (n0 : Int) (v0 : Value) (l0 : List Int) (v1 : Value) (l1 : List Int) (v2 : Value) (l2 : List Int) (w : World) (h0 : ints w.heap.size w v0 l0) (hlen0 : l0.length ≤ 9223372036854775807) (h1 : ints w.heap.size w v1 l1) (hlen1 : l1.length ≤ 9223372036854775807) (h2 : ints w.heap.size w v2 l2) (hlen2 : l2.length ≤ 9223372036854775807) :
    Calls Try.prog 4 #[.agg #[.int .i64 n0, v0], v1, v2] w fun e w' => e = .returned (.bool true) ∧ Below w.heap.size w w' := by
  have hRL := (wyL_len n0 l0 l1 l2)
  generalize hR : (wyL n0 l0 l1 l2) = R at hRL
  generalize hO : (wyB n0 l0 l1 l2) = ok
  have HR := hide hR
  have HO := hide hO
  clear hR hO
  have F1 := hide (((Below.refl w.heap.size w).alloc (Nat.le_refl _) (.cells #[.int .i64 n0, v0] 34)))
  have F2 := hide ((h0.alloc (.cells #[.int .i64 n0, v0] 34)))
  have F3 := hide ((h1.alloc (.cells #[.int .i64 n0, v0] 34)))
  have F4 := hide ((h2.alloc (.cells #[.int .i64 n0, v0] 34)))
  have F5 := hide (show (w.alloc (.cells #[.int .i64 n0, v0] 34)).heap[w.heap.size]? = some (.cells #[.int .i64 n0, v0] 34) from (by have := hp_last w (.cells #[.int .i64 n0, v0] 34); simpa using this))
  have HZ0 := hide (show (w.alloc (.cells #[.int .i64 n0, v0] 34)).heap.size = w.heap.size + 1 by simp)
  clear h0 h1 h2
  by_cases big1 : (1048576 : Int) < (l1.length : Int)
  · have big1n : 1048576 < l1.length := by omega
    go_enter Try.func4, Try.ntmps4
    go_wp2_with (first | (refine wpList_len sliceT rfl (.tmp _) rfl v1 rfl w.heap.size l1 F3.out ?_) | (refine wpList_len sliceT rfl (.tmp _) rfl v2 rfl w.heap.size l2 F4.out ?_))
    go_ret
    exact ⟨rfl, F1.out⟩
  have big1n : ¬ 1048576 < l1.length := by omega
  have big1d : decide (1048576 < l1.length) = false := by simp; omega
  by_cases big2 : (1048576 : Int) < (l2.length : Int)
  · have big2n : 1048576 < l2.length := by omega
    go_enter Try.func4, Try.ntmps4
    go_wp2_with (first | (refine wpList_len sliceT rfl (.tmp _) rfl v1 rfl w.heap.size l1 F3.out ?_) | (refine wpList_len sliceT rfl (.tmp _) rfl v2 rfl w.heap.size l2 F4.out ?_))
    go_ret
    exact ⟨rfl, F1.out⟩
  have big2n : ¬ 1048576 < l2.length := by omega
  have big2d : decide (1048576 < l2.length) = false := by simp; omega
  have hsz0 : szOf 1048576 l0.length = -1 ∨ (0 ≤ szOf 1048576 l0.length ∧ szOf 1048576 l0.length ≤ 1048576 ∧ l0.length ≤ 1048576) := by unfold szOf; split <;> omega
  generalize hq0 : szOf 1048576 l0.length = q0 at hsz0
  have HQ0 := hide hq0
  clear hq0
  rcases hsz0 with hbig0 | ⟨hq0a, hq0b, hq0c⟩
  · have HBIG := hide hbig0
    have hneg : q0 < 0 := by omega
    clear hbig0
    go_enter Try.func4, Try.ntmps4
    go_wp2_with (first | (refine wpList_len sliceT rfl (.tmp _) rfl v1 rfl w.heap.size l1 F3.out ?_) | (refine wpList_len sliceT rfl (.tmp _) rfl v2 rfl w.heap.size l2 F4.out ?_))
    generalize hX : (w.alloc (.cells #[.int .i64 n0, v0] 34)) = W0 at F1 F2 F3 F4 F5 HZ0 ⊢
    have hz0 := Nat.le_of_eq HZ0.out.symm
    clear hX HZ0
    refine (szSpace_c n0 v0 l0 (1048576) W0 (F2.out.mono (by omega)) hlen0 (by omega) (by omega)).mono ?_
    rw [HQ0.out]
    rintro e W1 ⟨rfl, hb6⟩
    have hz7 := hb6.size
    have F8 := hide (F1.out.trans (hb6.mono (by omega)))
    have F9 := hide (F2.out.below hb6 (by omega))
    have F10 := hide (F3.out.below hb6 (by omega))
    have F11 := hide (F4.out.below hb6 (by omega))
    have F12 := hide ((hb6.block (w.heap.size) (by omega)).trans F5.out)
    clear hb6 F1 F2 F3 F4 F5
    go_wp2
    go_ret
    exact ⟨rfl, F8.out⟩
  have hneg0 : ¬ q0 < 0 := by omega
  go_enter Try.func4, Try.ntmps4
  go_wp2_with (first | (refine wpList_len sliceT rfl (.tmp _) rfl v1 rfl w.heap.size l1 F3.out ?_) | (refine wpList_len sliceT rfl (.tmp _) rfl v2 rfl w.heap.size l2 F4.out ?_))
  generalize hX : (w.alloc (.cells #[.int .i64 n0, v0] 34)) = W0 at F1 F2 F3 F4 F5 HZ0 ⊢
  have hz0 := Nat.le_of_eq HZ0.out.symm
  clear hX HZ0
  refine (szSpace_c n0 v0 l0 (1048576) W0 (F2.out.mono (by omega)) hlen0 (by omega) (by omega)).mono ?_
  rw [HQ0.out]
  rintro e W1 ⟨rfl, hb6⟩
  have hz7 := hb6.size
  have F8 := hide (F1.out.trans (hb6.mono (by omega)))
  have F9 := hide (F2.out.below hb6 (by omega))
  have F10 := hide (F3.out.below hb6 (by omega))
  have F11 := hide (F4.out.below hb6 (by omega))
  have F12 := hide ((hb6.block (w.heap.size) (by omega)).trans F5.out)
  clear hb6 F1 F2 F3 F4 F5
  have hneg2 : ¬ (1 + (R.length : Int) < 0) := by omega
  have p13 := cells_at0 F12.out
  have p14 := cells_at1 F12.out
  go_wp2_with fail
  clear p13 p14
  refine (toSpace_c n0 v0 l0 W1 (F9.out.mono (by omega)) (by omega)).mono ?_
  rintro e W2 ⟨g15, rfl, hg16, hk17, hb18⟩
  have hz19 := hb18.size
  have F20 := hide (F8.out.trans (hb18.mono (by omega)))
  have F21 := hide (F9.out.below hb18 (by omega))
  have F22 := hide (F10.out.below hb18 (by omega))
  have F23 := hide (F11.out.below hb18 (by omega))
  have F24 := hide ((hb18.block (w.heap.size) (by omega)).trans F12.out)
  have F25 := hide (hk17.own hg16 (by unfold maxLen; omega))
  have B26 := hide (F25.out.base)
  have L27 := hide (F25.out.blockLt)
  clear hb18 F8 F9 F10 F11 F12 hk17 hg16
  have p28 := cells_at0 F24.out
  have p29 := cells_at1 F24.out
  go_wp2_with fail
  clear p28 p29
  refine (toIntS_c v1 l1 W2 (F22.out.mono (by omega)) (by omega)).mono ?_
  rintro e W3 ⟨rfl, hk30, hb31⟩
  have hz32 := hb31.size
  have F33 := hide (F20.out.trans (hb31.mono (by omega)))
  have F34 := hide (F21.out.below hb31 (by omega))
  have F35 := hide (F22.out.below hb31 (by omega))
  have F36 := hide (F23.out.below hb31 (by omega))
  have F37 := hide ((hb31.block (w.heap.size) (by omega)).trans F24.out)
  have F38 := hide (F25.out.kept hb31)
  have F39 := hide (hk30.own (Nat.le_refl _) (by unfold maxLen; omega))
  have B40 := hide (F39.out.base)
  have L41 := hide (F39.out.blockLt)
  clear hb31 F20 F21 F22 F23 F24 F25 hk30
  have p42 := cells_at0 F37.out
  have p43 := cells_at1 F37.out
  go_wp2_with fail
  clear p42 p43
  refine (toIntS_c v2 l2 W3 (F36.out.mono (by omega)) (by omega)).mono ?_
  rintro e W4 ⟨rfl, hk44, hb45⟩
  have hz46 := hb45.size
  have F47 := hide (F33.out.trans (hb45.mono (by omega)))
  have F48 := hide (F34.out.below hb45 (by omega))
  have F49 := hide (F35.out.below hb45 (by omega))
  have F50 := hide (F36.out.below hb45 (by omega))
  have F51 := hide ((hb45.block (w.heap.size) (by omega)).trans F37.out)
  have F52 := hide (F38.out.kept hb45)
  have F53 := hide (F39.out.kept hb45)
  have F54 := hide (hk44.own (Nat.le_refl _) (by unfold maxLen; omega))
  have B55 := hide (F54.out.base)
  have L56 := hide (F54.out.blockLt)
  clear hb45 F33 F34 F35 F36 F37 F38 F39 hk44
  have p57 := cells_at0 F51.out
  have p58 := cells_at1 F51.out
  go_wp2_with fail
  clear p57 p58
  refine (specSwapWay_c n0 _ l0 _ l1 _ l2 W4 F52.out.ints (by omega) F53.out.ints (by omega) F54.out.ints (by omega)).mono ?_
  rw [HR.out, HO.out]
  rintro e W5 ⟨v59, rfl, ho60, hb61⟩
  have hz62 := hb61.size
  have F63 := hide (F47.out.trans (hb61.mono (by omega)))
  have F64 := hide (F48.out.below hb61 (by omega))
  have F65 := hide (F49.out.below hb61 (by omega))
  have F66 := hide (F50.out.below hb61 (by omega))
  have F67 := hide ((hb61.block (w.heap.size) (by omega)).trans F51.out)
  have F68 := hide (F52.out.kept hb61)
  have F69 := hide (F53.out.kept hb61)
  have F70 := hide (F54.out.kept hb61)
  obtain ⟨aa71, cc72, hv73⟩ := ho60.shape
  have F74 := hide (ho60)
  have B75 := hide (F74.out.base)
  have L76 := hide (F74.out.blockLt)
  clear hb61 F47 F48 F49 F50 F51 F52 F53 F54 ho60
  subst hv73
  clear F68
  clear B26 L27
  clear F69
  clear B40 L41
  clear F70
  clear B55 L56
  have p77 := cells_at0 F67.out
  have p78 := cells_at1 F67.out
  go_wp2_with fail
  clear p77 p78
  refine (toSpace_c n0 v0 l0 W5 (F64.out.mono (by omega)) (by omega)).mono ?_
  rintro e W6 ⟨g79, rfl, hg80, hk81, hb82⟩
  have hz83 := hb82.size
  have F84 := hide (F63.out.trans (hb82.mono (by omega)))
  have F85 := hide (F64.out.below hb82 (by omega))
  have F86 := hide (F65.out.below hb82 (by omega))
  have F87 := hide (F66.out.below hb82 (by omega))
  have F88 := hide ((hb82.block (w.heap.size) (by omega)).trans F67.out)
  have F89 := hide (F74.out.kept hb82)
  have F90 := hide (hk81.own hg80 (by unfold maxLen; omega))
  have B91 := hide (F90.out.base)
  have L92 := hide (F90.out.blockLt)
  clear hb82 F63 F64 F65 F66 F67 F74 hk81 hg80
  have F93 := hide (F84.out.alloc (by omega) (.cells #[.int .i64 n0, .slice (some ⟨g79, 0, none⟩) l0.length l0.length] 26))
  have F94 := hide (F85.out.alloc (.cells #[.int .i64 n0, .slice (some ⟨g79, 0, none⟩) l0.length l0.length] 26))
  have F95 := hide (F86.out.alloc (.cells #[.int .i64 n0, .slice (some ⟨g79, 0, none⟩) l0.length l0.length] 26))
  have F96 := hide (F87.out.alloc (.cells #[.int .i64 n0, .slice (some ⟨g79, 0, none⟩) l0.length l0.length] 26))
  have F97 := hide ((hp_old W6 (.cells #[.int .i64 n0, .slice (some ⟨g79, 0, none⟩) l0.length l0.length] 26) (w.heap.size) (by omega)).trans F88.out)
  have F98 := hide (F89.out.alloc (.cells #[.int .i64 n0, .slice (some ⟨g79, 0, none⟩) l0.length l0.length] 26))
  have F99 := hide (F90.out.alloc (.cells #[.int .i64 n0, .slice (some ⟨g79, 0, none⟩) l0.length l0.length] 26))
  have F100 := hide (hp_last W6 (.cells #[.int .i64 n0, .slice (some ⟨g79, 0, none⟩) l0.length l0.length] 26))
  have HZ101 := hide (show (W6.alloc (.cells #[.int .i64 n0, .slice (some ⟨g79, 0, none⟩) l0.length l0.length] 26)).heap.size = W6.heap.size + 1 by simp)
  clear F84 F85 F86 F87 F88 F89 F90
  have p102 := cells_at0 F97.out
  have p103 := cells_at1 F97.out
  have p104 := cells_at0 F100.out
  have p105 := cells_at1 F100.out
  go_wp2_with fail
  clear p102 p103 p104 p105
  generalize hX : W6.alloc (.cells #[.int .i64 n0, .slice (some ⟨g79, 0, none⟩) l0.length l0.length] 26) = W7 at F93 F94 F95 F96 F97 F98 F99 F100 HZ101 ⊢
  have hz106 := Nat.le_of_eq HZ101.out.symm
  clear hX HZ101
  refine (toIntS_c v1 l1 W7 (F95.out.mono (by omega)) (by omega)).mono ?_
  rintro e W8 ⟨rfl, hk107, hb108⟩
  have hz109 := hb108.size
  have F110 := hide (F93.out.trans (hb108.mono (by omega)))
  have F111 := hide (F94.out.below hb108 (by omega))
  have F112 := hide (F95.out.below hb108 (by omega))
  have F113 := hide (F96.out.below hb108 (by omega))
  have F114 := hide ((hb108.block (w.heap.size) (by omega)).trans F97.out)
  have F115 := hide (F98.out.kept hb108)
  have F116 := hide (F99.out.kept hb108)
  have F117 := hide ((hb108.block (W6.heap.size) (by omega)).trans F100.out)
  have F118 := hide (hk107.own (Nat.le_refl _) (by unfold maxLen; omega))
  have B119 := hide (F118.out.base)
  have L120 := hide (F118.out.blockLt)
  clear hb108 F93 F94 F95 F96 F97 F98 F99 F100 hk107
  have p121 := cells_at0 F114.out
  have p122 := cells_at1 F114.out
  have p123 := cells_at0 F117.out
  have p124 := cells_at1 F117.out
  go_wp2_with fail
  clear p121 p122 p123 p124
  refine (toIntS_c v2 l2 W8 (F113.out.mono (by omega)) (by omega)).mono ?_
  rintro e W9 ⟨rfl, hk125, hb126⟩
  have hz127 := hb126.size
  have F128 := hide (F110.out.trans (hb126.mono (by omega)))
  have F129 := hide (F111.out.below hb126 (by omega))
  have F130 := hide (F112.out.below hb126 (by omega))
  have F131 := hide (F113.out.below hb126 (by omega))
  have F132 := hide ((hb126.block (w.heap.size) (by omega)).trans F114.out)
  have F133 := hide (F115.out.kept hb126)
  have F134 := hide (F116.out.kept hb126)
  have F135 := hide ((hb126.block (W6.heap.size) (by omega)).trans F117.out)
  have F136 := hide (F118.out.kept hb126)
  have F137 := hide (hk125.own (Nat.le_refl _) (by unfold maxLen; omega))
  have B138 := hide (F137.out.base)
  have L139 := hide (F137.out.blockLt)
  clear hb126 F110 F111 F112 F113 F114 F115 F116 F117 F118 hk125
  have p140 := cells_at0 F132.out
  have p141 := cells_at1 F132.out
  have p142 := cells_at0 F135.out
  have p143 := cells_at1 F135.out
  go_wp2_with fail
  clear p140 p141 p142 p143
  refine (implSwapWay_c n0 _ l0 _ l1 _ l2 W9 F134.out.ints (by omega) F136.out.ints (by omega) F137.out.ints (by omega)).mono ?_
  rw [HR.out, HO.out]
  rintro e W10 ⟨v144, rfl, ho145, hb146⟩
  have hz147 := hb146.size
  have F148 := hide (F128.out.trans (hb146.mono (by omega)))
  have F149 := hide (F129.out.below hb146 (by omega))
  have F150 := hide (F130.out.below hb146 (by omega))
  have F151 := hide (F131.out.below hb146 (by omega))
  have F152 := hide ((hb146.block (w.heap.size) (by omega)).trans F132.out)
  have F153 := hide (F133.out.kept hb146)
  have F154 := hide (F134.out.kept hb146)
  have F155 := hide ((hb146.block (W6.heap.size) (by omega)).trans F135.out)
  have F156 := hide (F136.out.kept hb146)
  have F157 := hide (F137.out.kept hb146)
  obtain ⟨aa158, cc159, hv160⟩ := ho145.shape
  have F161 := hide (ho145)
  have B162 := hide (F161.out.base)
  have L163 := hide (F161.out.blockLt)
  clear hb146 F128 F129 F130 F131 F132 F133 F134 F135 F136 F137 ho145
  subst hv160
  have p164 := cells_at0 F152.out
  have p165 := cells_at1 F152.out
  have p166 := cells_at0 F155.out
  have p167 := cells_at1 F155.out
  go_wp2_with fail
  clear p164 p165 p166 p167
  refine (eqIntS_same_c _ _ R W10 (F161.out.ints) (F153.out.ints) hRL).mono ?_
  rintro e W11 ⟨rfl, hb168⟩
  have hz169 := hb168.size
  have F170 := hide (F148.out.trans (hb168.mono (by omega)))
  have F171 := hide (F149.out.below hb168 (by omega))
  have F172 := hide (F150.out.below hb168 (by omega))
  have F173 := hide (F151.out.below hb168 (by omega))
  have F174 := hide ((hb168.block (w.heap.size) (by omega)).trans F152.out)
  have F175 := hide (F153.out.kept hb168)
  have F176 := hide (F154.out.kept hb168)
  have F177 := hide ((hb168.block (W6.heap.size) (by omega)).trans F155.out)
  have F178 := hide (F156.out.kept hb168)
  have F179 := hide (F157.out.kept hb168)
  have F180 := hide (F161.out.kept hb168)
  clear hb168 F148 F149 F150 F151 F152 F153 F154 F155 F156 F157 F161
  have p181 := cells_at0 F174.out
  have p182 := cells_at1 F174.out
  have p183 := cells_at0 F177.out
  have p184 := cells_at1 F177.out
  go_wp2
  clear p181 p182 p183 p184
  refine wp_region_held (S := Below W11.heap.size W11) (by kernel_rfl) ?_
  have hS : Below W11.heap.size W11 { W11 with drawn := W11.drawn + 1 } := (Below.refl _ _).drew
  refine wpAnyH_take (i := 0) rfl (by kernel_rfl) (by kernel_rfl) (by kernel_rfl) (fun _ _ _ h => h) (yields_load_two rowSp sizeSp rfl (.tmp _) rfl _ rfl _ _ (fun w' h => (h.cell (p := ⟨W6.heap.size, 0, none⟩) (by show W6.heap.size < _; omega)).trans (cells_at0 F177.out)) (fun w' h => (h.cell (p := ⟨W6.heap.size, 1, none⟩) (by show W6.heap.size < _; omega)).trans (cells_at1 F177.out))) hS ?_
  refine wpAnyH_take (i := 1) rfl (by kernel_rfl) (by kernel_rfl) (by kernel_rfl) (fun _ _ _ h => h) (yields_load_two rowSl sizeSl rfl (.tmp _) rfl _ rfl _ _ (fun w' h => (h.cell (p := ⟨w.heap.size, 0, none⟩) (by show w.heap.size < _; omega)).trans (cells_at0 F174.out)) (fun w' h => (h.cell (p := ⟨w.heap.size, 1, none⟩) (by show w.heap.size < _; omega)).trans (cells_at1 F174.out))) hS ?_
  refine anyH_call (i := 2) (by kernel_rfl) rfl rfl 24 ent_toSpace _ _ rfl #[.agg #[.int .i64 n0, v0]] rfl (toSpace_c n0 v0 l0 _ ((F171.out.below hS (by omega)).mono (show w.heap.size ≤ W11.heap.size by omega)) (by omega)) ?_
  rintro e W12 ⟨g185, rfl, hgr, hkr, hbr⟩
  have hzr : W11.heap.size ≤ W12.heap.size := hbr.size
  have hS6 : Below W11.heap.size W11 W12 := hS.trans hbr
  refine ⟨_, rfl, hS6, ?_⟩
  refine anyH_call (i := 3) (by kernel_rfl) rfl rfl 17 ent_eqSpace _ _ rfl #[.agg #[.int .i64 n0, .slice (some ⟨g79, 0, none⟩) l0.length l0.length], .agg #[.int .i64 n0, .slice (some ⟨g185, 0, none⟩) l0.length l0.length]] rfl (eqSpace_same_c n0 _ _ l0 W12 ((F176.out.kept hS6).ints) (hkr.ints _) (by omega)) ?_
  rintro e W13 ⟨rfl, hbs⟩
  have hS7 : Below W11.heap.size W11 W13 := hS6.trans (hbs.mono hzr)
  refine ⟨_, rfl, hS7, ?_⟩
  refine anyH_op (i := 4) (by kernel_rfl) rfl rfl (.bool false) W13 ?hq hS7 ?_
  case hq => simp [go_sem, Act.put]
  refine wpAnyH_done (by kernel_rfl) ?_ _
  simp only [Act.put, List.getElem_toArray, List.getElem_cons_zero, List.getElem_cons_succ, List.setIfInBounds_toArray, List.set_cons_zero, List.set_cons_succ]
  have hz186 : W11.heap.size ≤ W13.heap.size := hS7.size
  have F187 := hide (F170.out.trans (hS7.mono (by omega)))
  have F188 := hide (F171.out.below hS7 (by omega))
  have F189 := hide (F172.out.below hS7 (by omega))
  have F190 := hide (F173.out.below hS7 (by omega))
  have F191 := hide ((hS7.block (w.heap.size) (by omega)).trans F174.out)
  have F192 := hide (F175.out.kept hS7)
  have F193 := hide (F176.out.kept hS7)
  have F194 := hide ((hS7.block (W6.heap.size) (by omega)).trans F177.out)
  have F195 := hide (F178.out.kept hS7)
  have F196 := hide (F179.out.kept hS7)
  have F197 := hide (F180.out.kept hS7)
  clear hS hS6 hS7 hbr hbs hkr hgr hzr F170 F171 F172 F173 F174 F175 F176 F177 F178 F179 F180
  have p198 := cells_at0 F191.out
  have p199 := cells_at1 F191.out
  have p200 := cells_at0 F194.out
  have p201 := cells_at1 F194.out
  go_wp2_with fail
  clear p198 p199 p200 p201
  refine (toIntS_c v1 l1 W13 (F189.out.mono (by omega)) (by omega)).mono ?_
  rintro e W14 ⟨rfl, hk202, hb203⟩
  have hz204 := hb203.size
  have F205 := hide (F187.out.trans (hb203.mono (by omega)))
  have F206 := hide (F188.out.below hb203 (by omega))
  have F207 := hide (F189.out.below hb203 (by omega))
  have F208 := hide (F190.out.below hb203 (by omega))
  have F209 := hide ((hb203.block (w.heap.size) (by omega)).trans F191.out)
  have F210 := hide (F192.out.kept hb203)
  have F211 := hide (F193.out.kept hb203)
  have F212 := hide ((hb203.block (W6.heap.size) (by omega)).trans F194.out)
  have F213 := hide (F195.out.kept hb203)
  have F214 := hide (F196.out.kept hb203)
  have F215 := hide (F197.out.kept hb203)
  have F216 := hide (hk202.own (Nat.le_refl _) (by unfold maxLen; omega))
  have B217 := hide (F216.out.base)
  have L218 := hide (F216.out.blockLt)
  clear hb203 F187 F188 F189 F190 F191 F192 F193 F194 F195 F196 F197 hk202
  have p219 := cells_at0 F209.out
  have p220 := cells_at1 F209.out
  have p221 := cells_at0 F212.out
  have p222 := cells_at1 F212.out
  go_wp2_with fail
  clear p219 p220 p221 p222
  refine (eqIntS_same_c _ _ l1 W14 (F213.out.ints) (F216.out.ints) (by omega)).mono ?_
  rintro e W15 ⟨rfl, hb223⟩
  have hz224 := hb223.size
  have F225 := hide (F205.out.trans (hb223.mono (by omega)))
  have F226 := hide (F206.out.below hb223 (by omega))
  have F227 := hide (F207.out.below hb223 (by omega))
  have F228 := hide (F208.out.below hb223 (by omega))
  have F229 := hide ((hb223.block (w.heap.size) (by omega)).trans F209.out)
  have F230 := hide (F210.out.kept hb223)
  have F231 := hide (F211.out.kept hb223)
  have F232 := hide ((hb223.block (W6.heap.size) (by omega)).trans F212.out)
  have F233 := hide (F213.out.kept hb223)
  have F234 := hide (F214.out.kept hb223)
  have F235 := hide (F215.out.kept hb223)
  have F236 := hide (F216.out.kept hb223)
  clear hb223 F205 F206 F207 F208 F209 F210 F211 F212 F213 F214 F215 F216
  clear F236
  clear B217 L218
  have p237 := cells_at0 F229.out
  have p238 := cells_at1 F229.out
  have p239 := cells_at0 F232.out
  have p240 := cells_at1 F232.out
  go_wp2_with fail
  clear p237 p238 p239 p240
  refine (toIntS_c v2 l2 W15 (F228.out.mono (by omega)) (by omega)).mono ?_
  rintro e W16 ⟨rfl, hk241, hb242⟩
  have hz243 := hb242.size
  have F244 := hide (F225.out.trans (hb242.mono (by omega)))
  have F245 := hide (F226.out.below hb242 (by omega))
  have F246 := hide (F227.out.below hb242 (by omega))
  have F247 := hide (F228.out.below hb242 (by omega))
  have F248 := hide ((hb242.block (w.heap.size) (by omega)).trans F229.out)
  have F249 := hide (F230.out.kept hb242)
  have F250 := hide (F231.out.kept hb242)
  have F251 := hide ((hb242.block (W6.heap.size) (by omega)).trans F232.out)
  have F252 := hide (F233.out.kept hb242)
  have F253 := hide (F234.out.kept hb242)
  have F254 := hide (F235.out.kept hb242)
  have F255 := hide (hk241.own (Nat.le_refl _) (by unfold maxLen; omega))
  have B256 := hide (F255.out.base)
  have L257 := hide (F255.out.blockLt)
  clear hb242 F225 F226 F227 F228 F229 F230 F231 F232 F233 F234 F235 hk241
  have p258 := cells_at0 F248.out
  have p259 := cells_at1 F248.out
  have p260 := cells_at0 F251.out
  have p261 := cells_at1 F251.out
  go_wp2_with fail
  clear p258 p259 p260 p261
  refine (eqIntS_same_c _ _ l2 W16 (F253.out.ints) (F255.out.ints) (by omega)).mono ?_
  rintro e W17 ⟨rfl, hb262⟩
  have hz263 := hb262.size
  have F264 := hide (F244.out.trans (hb262.mono (by omega)))
  have F265 := hide (F245.out.below hb262 (by omega))
  have F266 := hide (F246.out.below hb262 (by omega))
  have F267 := hide (F247.out.below hb262 (by omega))
  have F268 := hide ((hb262.block (w.heap.size) (by omega)).trans F248.out)
  have F269 := hide (F249.out.kept hb262)
  have F270 := hide (F250.out.kept hb262)
  have F271 := hide ((hb262.block (W6.heap.size) (by omega)).trans F251.out)
  have F272 := hide (F252.out.kept hb262)
  have F273 := hide (F253.out.kept hb262)
  have F274 := hide (F254.out.kept hb262)
  have F275 := hide (F255.out.kept hb262)
  clear hb262 F244 F245 F246 F247 F248 F249 F250 F251 F252 F253 F254 F255
  clear F275
  clear B256 L257
  have p276 := cells_at0 F268.out
  have p277 := cells_at1 F268.out
  have p278 := cells_at0 F271.out
  have p279 := cells_at1 F271.out
  go_wp2_with fail
  clear p276 p277 p278 p279
  refine (markSpace_c n0 _ l0 (1) W17 _ F270.out (by omega) (by omega) (by omega)).mono ?_
  rintro e W18 ⟨rfl, hn281, ho280⟩
  have hz282 := ho280.size
  have F283 := hide (F264.out.trans (ho280.below w.heap.size (fun g hg => by have := B91.out g hg; omega) (by omega)))
  have F284 := hide (F265.out.below (ho280.below w.heap.size (fun g hg => by have := B91.out g hg; omega) (by omega)) (Nat.le_refl _))
  have F285 := hide (F266.out.below (ho280.below w.heap.size (fun g hg => by have := B91.out g hg; omega) (by omega)) (Nat.le_refl _))
  have F286 := hide (F267.out.below (ho280.below w.heap.size (fun g hg => by have := B91.out g hg; omega) (by omega)) (Nat.le_refl _))
  have F287 := hide ((ho280.block (w.heap.size) (by omega) (fun e => by have h1 := B91.out _ e; have h2 := L92.out _ e; omega)).trans F268.out)
  have F288 := hide (F269.out.other ho280 (fun g hg e => by have h1 := B91.out _ e; have h2 := L92.out _ e; have h3 := B75.out _ hg; have h4 := L76.out _ hg; omega))
  have F290 := hide ((ho280.block (W6.heap.size) (by omega) (fun e => by have h1 := B91.out _ e; have h2 := L92.out _ e; omega)).trans F271.out)
  have F291 := hide (F272.out.other ho280 (fun g hg e => by have h1 := B91.out _ e; have h2 := L92.out _ e; have h3 := B119.out _ hg; have h4 := L120.out _ hg; omega))
  have F292 := hide (F273.out.other ho280 (fun g hg e => by have h1 := B91.out _ e; have h2 := L92.out _ e; have h3 := B138.out _ hg; have h4 := L139.out _ hg; omega))
  have F293 := hide (F274.out.other ho280 (fun g hg e => by have h1 := B91.out _ e; have h2 := L92.out _ e; have h3 := B162.out _ hg; have h4 := L163.out _ hg; omega))
  have F294 := hide hn281
  clear F264 F265 F266 F267 F268 F269 F270 F271 F272 F273 F274 hn281 ho280
  have p295 := cells_at0 F287.out
  have p296 := cells_at1 F287.out
  have p297 := cells_at0 F290.out
  have p298 := cells_at1 F290.out
  go_wp2_with fail
  clear p295 p296 p297 p298
  refine (markIntS_c _ l1 (1 + (l0.length : Int)) W18 _ F291.out (by omega) (by omega) (by omega)).mono ?_
  rintro e W19 ⟨rfl, hn300, ho299⟩
  have hz301 := ho299.size
  have F302 := hide (F283.out.trans (ho299.below w.heap.size (fun g hg => by have := B119.out g hg; omega) (by omega)))
  have F303 := hide (F284.out.below (ho299.below w.heap.size (fun g hg => by have := B119.out g hg; omega) (by omega)) (Nat.le_refl _))
  have F304 := hide (F285.out.below (ho299.below w.heap.size (fun g hg => by have := B119.out g hg; omega) (by omega)) (Nat.le_refl _))
  have F305 := hide (F286.out.below (ho299.below w.heap.size (fun g hg => by have := B119.out g hg; omega) (by omega)) (Nat.le_refl _))
  have F306 := hide ((ho299.block (w.heap.size) (by omega) (fun e => by have h1 := B119.out _ e; have h2 := L120.out _ e; omega)).trans F287.out)
  have F307 := hide (F288.out.other ho299 (fun g hg e => by have h1 := B119.out _ e; have h2 := L120.out _ e; have h3 := B75.out _ hg; have h4 := L76.out _ hg; omega))
  have F308 := hide (F294.out.other ho299 (fun g hg e => by have h1 := B119.out _ e; have h2 := L120.out _ e; have h3 := B91.out _ hg; have h4 := L92.out _ hg; omega))
  have F309 := hide ((ho299.block (W6.heap.size) (by omega) (fun e => by have h1 := B119.out _ e; have h2 := L120.out _ e; omega)).trans F290.out)
  have F311 := hide (F292.out.other ho299 (fun g hg e => by have h1 := B119.out _ e; have h2 := L120.out _ e; have h3 := B138.out _ hg; have h4 := L139.out _ hg; omega))
  have F312 := hide (F293.out.other ho299 (fun g hg e => by have h1 := B119.out _ e; have h2 := L120.out _ e; have h3 := B162.out _ hg; have h4 := L163.out _ hg; omega))
  have F313 := hide hn300
  clear F283 F284 F285 F286 F287 F288 F294 F290 F291 F292 F293 hn300 ho299
  have p314 := cells_at0 F306.out
  have p315 := cells_at1 F306.out
  have p316 := cells_at0 F309.out
  have p317 := cells_at1 F309.out
  go_wp2_with fail
  clear p314 p315 p316 p317
  refine (markIntS_c _ l2 (1 + (l0.length : Int) + (l1.length : Int)) W19 _ F311.out (by omega) (by omega) (by omega)).mono ?_
  rintro e W20 ⟨rfl, hn319, ho318⟩
  have hz320 := ho318.size
  have F321 := hide (F302.out.trans (ho318.below w.heap.size (fun g hg => by have := B138.out g hg; omega) (by omega)))
  have F322 := hide (F303.out.below (ho318.below w.heap.size (fun g hg => by have := B138.out g hg; omega) (by omega)) (Nat.le_refl _))
  have F323 := hide (F304.out.below (ho318.below w.heap.size (fun g hg => by have := B138.out g hg; omega) (by omega)) (Nat.le_refl _))
  have F324 := hide (F305.out.below (ho318.below w.heap.size (fun g hg => by have := B138.out g hg; omega) (by omega)) (Nat.le_refl _))
  have F325 := hide ((ho318.block (w.heap.size) (by omega) (fun e => by have h1 := B138.out _ e; have h2 := L139.out _ e; omega)).trans F306.out)
  have F326 := hide (F307.out.other ho318 (fun g hg e => by have h1 := B138.out _ e; have h2 := L139.out _ e; have h3 := B75.out _ hg; have h4 := L76.out _ hg; omega))
  have F327 := hide (F308.out.other ho318 (fun g hg e => by have h1 := B138.out _ e; have h2 := L139.out _ e; have h3 := B91.out _ hg; have h4 := L92.out _ hg; omega))
  have F328 := hide ((ho318.block (W6.heap.size) (by omega) (fun e => by have h1 := B138.out _ e; have h2 := L139.out _ e; omega)).trans F309.out)
  have F329 := hide (F313.out.other ho318 (fun g hg e => by have h1 := B138.out _ e; have h2 := L139.out _ e; have h3 := B119.out _ hg; have h4 := L120.out _ hg; omega))
  have F331 := hide (F312.out.other ho318 (fun g hg e => by have h1 := B138.out _ e; have h2 := L139.out _ e; have h3 := B162.out _ hg; have h4 := L163.out _ hg; omega))
  have F332 := hide hn319
  clear F302 F303 F304 F305 F306 F307 F308 F309 F313 F311 F312 hn319 ho318
  have hneg3 : ¬ (1 + (l0.length : Int) + (l1.length : Int) + (l2.length : Int) < 0) := by omega
  have p333 := cells_at0 F325.out
  have p334 := cells_at1 F325.out
  have p335 := cells_at0 F328.out
  have p336 := cells_at1 F328.out
  go_wp2_with fail
  clear p333 p334 p335 p336
  refine (eqIntS_same_c _ _ R W20 (F331.out.ints) (F326.out.ints) hRL).mono ?_
  rintro e W21 ⟨rfl, hb337⟩
  have hz338 := hb337.size
  have F339 := hide (F321.out.trans (hb337.mono (by omega)))
  have F340 := hide (F322.out.below hb337 (by omega))
  have F341 := hide (F323.out.below hb337 (by omega))
  have F342 := hide (F324.out.below hb337 (by omega))
  have F343 := hide ((hb337.block (w.heap.size) (by omega)).trans F325.out)
  have F344 := hide (F326.out.kept hb337)
  have F345 := hide (F327.out.kept hb337)
  have F346 := hide ((hb337.block (W6.heap.size) (by omega)).trans F328.out)
  have F347 := hide (F329.out.kept hb337)
  have F348 := hide (F332.out.kept hb337)
  have F349 := hide (F331.out.kept hb337)
  clear hb337 F321 F322 F323 F324 F325 F326 F327 F328 F329 F332 F331
  have p350 := cells_at0 F343.out
  have p351 := cells_at1 F343.out
  have p352 := cells_at0 F346.out
  have p353 := cells_at1 F346.out
  go_wp2_with fail
  clear p350 p351 p352 p353
  refine (markIntS_c _ R (1) W21 _ F349.out (by omega) (by omega) (by omega)).mono ?_
  rintro e W22 ⟨rfl, hn355, ho354⟩
  have hz356 := ho354.size
  have F357 := hide (F339.out.trans (ho354.below w.heap.size (fun g hg => by have := B162.out g hg; omega) (by omega)))
  have F358 := hide (F340.out.below (ho354.below w.heap.size (fun g hg => by have := B162.out g hg; omega) (by omega)) (Nat.le_refl _))
  have F359 := hide (F341.out.below (ho354.below w.heap.size (fun g hg => by have := B162.out g hg; omega) (by omega)) (Nat.le_refl _))
  have F360 := hide (F342.out.below (ho354.below w.heap.size (fun g hg => by have := B162.out g hg; omega) (by omega)) (Nat.le_refl _))
  have F361 := hide ((ho354.block (w.heap.size) (by omega) (fun e => by have h1 := B162.out _ e; have h2 := L163.out _ e; omega)).trans F343.out)
  have F362 := hide (F344.out.other ho354 (fun g hg e => by have h1 := B162.out _ e; have h2 := L163.out _ e; have h3 := B75.out _ hg; have h4 := L76.out _ hg; omega))
  have F363 := hide (F345.out.other ho354 (fun g hg e => by have h1 := B162.out _ e; have h2 := L163.out _ e; have h3 := B91.out _ hg; have h4 := L92.out _ hg; omega))
  have F364 := hide ((ho354.block (W6.heap.size) (by omega) (fun e => by have h1 := B162.out _ e; have h2 := L163.out _ e; omega)).trans F346.out)
  have F365 := hide (F347.out.other ho354 (fun g hg e => by have h1 := B162.out _ e; have h2 := L163.out _ e; have h3 := B119.out _ hg; have h4 := L120.out _ hg; omega))
  have F366 := hide (F348.out.other ho354 (fun g hg e => by have h1 := B162.out _ e; have h2 := L163.out _ e; have h3 := B138.out _ hg; have h4 := L139.out _ hg; omega))
  have F368 := hide hn355
  clear F339 F340 F341 F342 F343 F344 F345 F346 F347 F348 F349 hn355 ho354
  have p369 := cells_at0 F361.out
  have p370 := cells_at1 F361.out
  have p371 := cells_at0 F364.out
  have p372 := cells_at1 F364.out
  go_wp2_with fail
  clear p369 p370 p371 p372
  refine (heldIntS_c _ R.length 1 W22 (F368.out.ints) hRL (by omega) (by omega)).mono ?_
  rintro e _ ⟨rfl, rfl⟩
  clear F363
  clear B91 L92
  clear F365
  clear B119 L120
  clear F366
  clear B138 L139
  have p373 := cells_at0 F361.out
  have p374 := cells_at1 F361.out
  have p375 := cells_at0 F364.out
  have p376 := cells_at1 F364.out
  go_wp2_with fail
  clear p373 p374 p375 p376
  refine (toSpace_c n0 v0 l0 W22 (F358.out.mono (by omega)) (by omega)).mono ?_
  rintro e W23 ⟨g377, rfl, hg378, hk379, hb380⟩
  have hz381 := hb380.size
  have F382 := hide (F357.out.trans (hb380.mono (by omega)))
  have F383 := hide (F358.out.below hb380 (by omega))
  have F384 := hide (F359.out.below hb380 (by omega))
  have F385 := hide (F360.out.below hb380 (by omega))
  have F386 := hide ((hb380.block (w.heap.size) (by omega)).trans F361.out)
  have F387 := hide (F362.out.kept hb380)
  have F388 := hide ((hb380.block (W6.heap.size) (by omega)).trans F364.out)
  have F389 := hide (F368.out.kept hb380)
  have F390 := hide (hk379.own hg378 (by unfold maxLen; omega))
  have B391 := hide (F390.out.base)
  have L392 := hide (F390.out.blockLt)
  clear hb380 F357 F358 F359 F360 F361 F362 F364 F368 hk379 hg378
  have p393 := cells_at0 F386.out
  have p394 := cells_at1 F386.out
  have p395 := cells_at0 F388.out
  have p396 := cells_at1 F388.out
  go_wp2_with fail
  clear p393 p394 p395 p396
  refine (toIntS_c v1 l1 W23 (F384.out.mono (by omega)) (by omega)).mono ?_
  rintro e W24 ⟨rfl, hk397, hb398⟩
  have hz399 := hb398.size
  have F400 := hide (F382.out.trans (hb398.mono (by omega)))
  have F401 := hide (F383.out.below hb398 (by omega))
  have F402 := hide (F384.out.below hb398 (by omega))
  have F403 := hide (F385.out.below hb398 (by omega))
  have F404 := hide ((hb398.block (w.heap.size) (by omega)).trans F386.out)
  have F405 := hide (F387.out.kept hb398)
  have F406 := hide ((hb398.block (W6.heap.size) (by omega)).trans F388.out)
  have F407 := hide (F389.out.kept hb398)
  have F408 := hide (F390.out.kept hb398)
  have F409 := hide (hk397.own (Nat.le_refl _) (by unfold maxLen; omega))
  have B410 := hide (F409.out.base)
  have L411 := hide (F409.out.blockLt)
  clear hb398 F382 F383 F384 F385 F386 F387 F388 F389 F390 hk397
  have p412 := cells_at0 F404.out
  have p413 := cells_at1 F404.out
  have p414 := cells_at0 F406.out
  have p415 := cells_at1 F406.out
  go_wp2_with fail
  clear p412 p413 p414 p415
  refine (toIntS_c v2 l2 W24 (F403.out.mono (by omega)) (by omega)).mono ?_
  rintro e W25 ⟨rfl, hk416, hb417⟩
  have hz418 := hb417.size
  have F419 := hide (F400.out.trans (hb417.mono (by omega)))
  have F420 := hide (F401.out.below hb417 (by omega))
  have F421 := hide (F402.out.below hb417 (by omega))
  have F422 := hide (F403.out.below hb417 (by omega))
  have F423 := hide ((hb417.block (w.heap.size) (by omega)).trans F404.out)
  have F424 := hide (F405.out.kept hb417)
  have F425 := hide ((hb417.block (W6.heap.size) (by omega)).trans F406.out)
  have F426 := hide (F407.out.kept hb417)
  have F427 := hide (F408.out.kept hb417)
  have F428 := hide (F409.out.kept hb417)
  have F429 := hide (hk416.own (Nat.le_refl _) (by unfold maxLen; omega))
  have B430 := hide (F429.out.base)
  have L431 := hide (F429.out.blockLt)
  clear hb417 F400 F401 F402 F403 F404 F405 F406 F407 F408 F409 hk416
  have p432 := cells_at0 F423.out
  have p433 := cells_at1 F423.out
  have p434 := cells_at0 F425.out
  have p435 := cells_at1 F425.out
  go_wp2_with fail
  clear p432 p433 p434 p435
  refine (implSwapWay_c n0 _ l0 _ l1 _ l2 W25 F427.out.ints (by omega) F428.out.ints (by omega) F429.out.ints (by omega)).mono ?_
  rw [HR.out, HO.out]
  rintro e W26 ⟨v436, rfl, ho437, hb438⟩
  have hz439 := hb438.size
  have F440 := hide (F419.out.trans (hb438.mono (by omega)))
  have F441 := hide (F420.out.below hb438 (by omega))
  have F442 := hide (F421.out.below hb438 (by omega))
  have F443 := hide (F422.out.below hb438 (by omega))
  have F444 := hide ((hb438.block (w.heap.size) (by omega)).trans F423.out)
  have F445 := hide (F424.out.kept hb438)
  have F446 := hide ((hb438.block (W6.heap.size) (by omega)).trans F425.out)
  have F447 := hide (F426.out.kept hb438)
  have F448 := hide (F427.out.kept hb438)
  have F449 := hide (F428.out.kept hb438)
  have F450 := hide (F429.out.kept hb438)
  obtain ⟨aa451, cc452, hv453⟩ := ho437.shape
  have F454 := hide (ho437)
  have B455 := hide (F454.out.base)
  have L456 := hide (F454.out.blockLt)
  clear hb438 F419 F420 F421 F422 F423 F424 F425 F426 F427 F428 F429 ho437
  subst hv453
  have p457 := cells_at0 F444.out
  have p458 := cells_at1 F444.out
  have p459 := cells_at0 F446.out
  have p460 := cells_at1 F446.out
  go_wp2_with fail
  clear p457 p458 p459 p460
  refine (eqIntS_same_c _ _ R W26 (F454.out.ints) (F445.out.ints) hRL).mono ?_
  rintro e W27 ⟨rfl, hb461⟩
  have hz462 := hb461.size
  have F463 := hide (F440.out.trans (hb461.mono (by omega)))
  have F464 := hide (F441.out.below hb461 (by omega))
  have F465 := hide (F442.out.below hb461 (by omega))
  have F466 := hide (F443.out.below hb461 (by omega))
  have F467 := hide ((hb461.block (w.heap.size) (by omega)).trans F444.out)
  have F468 := hide (F445.out.kept hb461)
  have F469 := hide ((hb461.block (W6.heap.size) (by omega)).trans F446.out)
  have F470 := hide (F447.out.kept hb461)
  have F471 := hide (F448.out.kept hb461)
  have F472 := hide (F449.out.kept hb461)
  have F473 := hide (F450.out.kept hb461)
  have F474 := hide (F454.out.kept hb461)
  clear hb461 F440 F441 F442 F443 F444 F445 F446 F447 F448 F449 F450 F454
  have p475 := cells_at0 F467.out
  have p476 := cells_at1 F467.out
  have p477 := cells_at0 F469.out
  have p478 := cells_at1 F469.out
  go_wp2_with fail
  clear p475 p476 p477 p478
  refine (heldIntS_c _ R.length 1 W27 (F470.out.ints) hRL (by omega) (by omega)).mono ?_
  rintro e _ ⟨rfl, rfl⟩
  have p479 := cells_at0 F467.out
  have p480 := cells_at1 F467.out
  have p481 := cells_at0 F469.out
  have p482 := cells_at1 F469.out
  go_wp2
  go_ret
  exact ⟨rfl, F463.out⟩

theorem ownK : ownKnob Try.prog.godebug = none := by kernel_rfl
theorem laidOut : laidOutB Try.prog = true := by kernel_rfl

/-- What a slice of int is, as it comes in. -/
theorem list_open {W : World} {v : Value} {l : List Int} (h : (v = .slice none 0 0 ∧ l = []) ∨ ∃ (a : Addr) (len c : Nat) (zs : List Int), v = .slice (some a) len c ∧ len ≤ zs.length ∧ len ≤ maxLen ∧ (∀ i, i < zs.length → W.cell? (a.add i) = some (.int .i64 (zs.getD i 0))) ∧ l = zs.take len) : ints W.heap.size W v l ∧ l.length ≤ 9223372036854775807 := by
  rcases h with ⟨rfl, rfl⟩ | ⟨x, len, c, zs, rfl, hlt, hm, hcell, rfl⟩
  · exact ⟨.inl ⟨rfl, none, 0, rfl⟩, by simp⟩
  · have htk : (zs.take len).length = len := by simp; omega
    refine ⟨?_, by unfold maxLen at hm; omega⟩
    rcases Nat.eq_zero_or_pos len with h0 | h0
    · subst h0
      exact .inl ⟨by simp, some x, c, rfl⟩
    · obtain ⟨b, off, rfl, hc⟩ := ints_at hcell (by omega)
      have hbl := block_lt_of_cell (hc 0 (by omega))
      refine .inr ⟨b, off, c, by rw [htk], hbl, hbl, fun j hj => ?_⟩
      rw [htk] at hj
      rw [hc j (by omega), List.getElem?_take, if_pos hj]
      rfl

/-- What a struct of an int and a slice of int is, as it comes in. -/
theorem space_open {H : Type} {enc : TypeId × Value → H} {W : World} {b0 : Nat} {v : Value} {d : DataW H} {p : List MemPlace}
    (hv : Value.okWide Try.prog W .any b0 34 v) (h : DataW.Trod enc Try.prog W 0 (fun _ => true) true 34 v d p) :
    ∃ (n : Int) (u : Value) (l : List Int), v = .agg #[.int .i64 n, u] ∧ ints W.heap.size W u l ∧ l.length ≤ 9223372036854775807 := by
  obtain ⟨v0, v1, y0, y1, m, rfl, rfl, rfl, hy0, hy1⟩ := open_agg2 Try.underlying34 (by kernel_rfl) (by kernel_rfl) hv h
  obtain ⟨n, e0, _, _⟩ := DataW.trod_int Try.underlying3 hy0
  simp at e0
  subst e0
  rcases open_ints Try.underlying24 Try.underlying3 (by kernel_rfl) hy1 with ⟨hcs, _⟩ | ⟨x, len, c, zs, hcs, _, hl, hm, hz, _, hcell, hwz⟩
  · simp at hcs
    subst hcs
    exact ⟨n, _, [], rfl, list_open (.inl ⟨rfl, rfl⟩)⟩
  · simp at hcs
    subst hcs
    have hz' : zs.length = c := by simpa using hz
    exact ⟨n, _, zs.take len, rfl, list_open (.inr ⟨x, len, c, zs, rfl, by omega, by unfold maxLen at hm ⊢; omega, hcell, rfl⟩)⟩

theorem slice_open {H : Type} {enc : TypeId × Value → H} {W : World} {b0 : Nat} {v : Value} {d : DataW H} {p : List MemPlace}
    (hv : Value.okWide Try.prog W .any b0 24 v) (h : DataW.Trod enc Try.prog W 0 (fun _ => true) true 24 v d p) :
    ∃ (l : List Int), ints W.heap.size W v l ∧ l.length ≤ 9223372036854775807 := by
  obtain ⟨a0, len0, cap0, rfl⟩ := okWide_slice Try.underlying24 hv
  obtain ⟨fuel, hf⟩ := h
  rcases open_ints Try.underlying24 Try.underlying3 (by kernel_rfl) hf with ⟨hcs, _⟩ | ⟨x, len, c, zs, hcs, _, hl, hm, hz, _, hcell, hwz⟩
  · simp [Value.cells] at hcs
    obtain ⟨rfl, rfl, rfl⟩ := hcs
    exact ⟨[], list_open (.inl ⟨rfl, rfl⟩)⟩
  · simp [Value.cells] at hcs
    obtain ⟨rfl, rfl, rfl⟩ := hcs
    have hz' : zs.length = cap0 := by simpa using hz
    exact ⟨zs.take len0, list_open (.inr ⟨x, len0, cap0, zs, rfl, by omega, by omega, hcell, rfl⟩)⟩

theorem lifted (os : Os) (started : os.Started) (H : Type) (enc : TypeId × Value → H) :
    ReturnsInHanded {} Try.checked os 4 .any (Rows.fnExactSwapWaySpec.pre6 enc Try.prog Try.f4 Rows.fnExactSwapWayRow.domain false) (Rows.fnExactSwapWaySpec.post enc Try.prog Try.f4 false true false false) := by
  refine returnsInHanded_of_change (C := Try.checked) ownK started (by kernel_rfl) Try.func4
    (ChangeSpec.witness6 (enc := enc) (C := Try.checked) false ⟨#[], #[.agg #[.int .i64 0, .slice none 0 0], .slice none 0 0, .slice none 0 0], []⟩ 8 (by kernel_rfl) (by kernel_rfl) (by kernel_rfl) (by kernel_rfl)) ?_
  intro W base args ds gs before hval0 hW hcnd _
  have hval : ∀ (j : Nat) t v, Try.f4.params[j]? = some t → args[j]? = some v → Value.okWide Try.prog W .any base t v := hval0
  have hW' := hW
  obtain ⟨p, q, hA0, hV, rfl, hfz, hnd⟩ := hW
  have hA : DataW.TrodAll enc Try.prog W 0 (fun _ => true) true Try.f4.params.toList args.toList ds p := hA0
  rw [Try.params4] at hA hval
  obtain ⟨v0, vs0, d0, ds0, p0, q0, hargs, rfl, rfl, t0, r0⟩ := trodAll_cons hA
  obtain ⟨v1, vs1, d1, ds1, p1, q1, rfl, rfl, rfl, t1, r1⟩ := trodAll_cons r0
  obtain ⟨v2, vs2, d2, ds2, p2, q2, rfl, rfl, rfl, t2, r2⟩ := trodAll_cons r1
  obtain ⟨rfl, rfl, rfl⟩ := trodAll_nil r2
  obtain rfl : args = #[v0, v1, v2] := by cases args; simp_all
  obtain ⟨rfl, rfl⟩ := trodVars_none hV
  have k0 := t0
  have lt0 : ∀ x ∈ p0, x.block < W.heap.size := by obtain ⟨m, hm⟩ := k0; exact DataW.trod_lt m _ _ _ hm
  obtain ⟨n0, u0, l0, rfl, i0, e0⟩ := space_open (hval 0 34 v0 rfl rfl) t0
  have k1 := t1
  have lt1 : ∀ x ∈ p1, x.block < W.heap.size := by obtain ⟨m, hm⟩ := k1; exact DataW.trod_lt m _ _ _ hm
  obtain ⟨l1, i1, e1⟩ := slice_open (hval 1 24 v1 rfl rfl) t1
  have k2 := t2
  have lt2 : ∀ x ∈ p2, x.block < W.heap.size := by obtain ⟨m, hm⟩ := k2; exact DataW.trod_lt m _ _ _ hm
  obtain ⟨l2, i2, e2⟩ := slice_open (hval 2 24 v2 rfl rfl) t2
  clear hA0 hval0
  refine (law_c n0 u0 l0 v1 l1 v2 l2 W i0 e0 i1 e1 i2 e2).mono fun e W' ⟨he, bel⟩ => ?_
  subst he
  exact ⟨_, rfl, _, _, _, [], _, [], hW', trodAll_mk1 (shut_bool Try.underlying4 _), (trodAll_cons_mk (Below.trod laidOut (by kernel_rfl) (of_decide_eq_true (by kernel_rfl)) k0 bel lt0) (trodAll_cons_mk (Below.trod laidOut (by kernel_rfl) (of_decide_eq_true (by kernel_rfl)) k1 bel lt1) (trodAll_cons_mk (Below.trod laidOut (by kernel_rfl) (of_decide_eq_true (by kernel_rfl)) k2 bel lt2) trodAll_mk0))), rfl, bel.frame _, fun h => by cases h⟩

theorem over : Rows.fnExactSwapWayRow.holds Try.pinned (OpenSpec.ofChange Rows.fnExactSwapWaySpec) :=
  OpenClaim.holds_of_wide 4 Try.f4 rfl rfl rfl rfl rfl rfl rfl ⟨rfl, rfl, rfl, rfl, rfl⟩ rfl rfl rfl rfl rfl (by as_aux_lemma => kernel_rfl) Try.func4 (by as_aux_lemma => kernel_rfl)
    (of_decide_eq_true (by as_aux_lemma => kernel_rfl)) (by unfold Func.isWrapper; first | (rw [if_pos (by decide +kernel)]; kernel_rfl) | (rw [if_neg (by decide +kernel)]; exact ⟨rfl, rfl⟩))
    (fun os started H enc _ => lifted os started H enc)

theorem proved : Rows.FnExactSwapWaySaid := over
#print axioms proved
end Go.Proofs.Ytagahoaogfogkaa.FSwapWay
