/- The program's RunBelow answers as the specification's does, at every argument, leaves its arguments as they are, and its answer owns its memory: no condition. -/
import Derived.Test.YtdalbjpjnfjgfaaDoorRows
import Derived.Test.YtdalbjpjnfjgfaaDoorKaa
import Derived.Test.YtdalbjpjnfjgfaaDoorTie
import Derived.Test.YtdalbjpjnfjgfaaDoorCards
import Derived.LaidMore
import Derived.Stop.Joined
import Derived.Stop.LaidErr
import Derived.Lib.LaidTab
import Derived.SevenTiedAt
import Derived.Test.YtdalbjpjnfjgfaaDoorHar
import Derived.ProofKit
import Derived.OpenShut
import Derived.Lib.SmallJoins
namespace Go.Proofs.YtdalbjpjnfjgfaaDoor.FRunBelow
open Go.ChangeShapes Go.WideShapes Go.ChangeAt Go.RowKit Go.Joins
set_option linter.unusedVariables false
set_option linter.unusedSimpArgs false
set_option maxRecDepth 100000

set_option maxHeartbeats 4000000 in
theorem law_c (n0 : Int) (v0 : Value) (l0 : List Int) (v1 : Value) (l1 : List Tsk) (x2 : Int) (v3 : Value) (l3 : List Int) (w : World) (h0 : ints w.heap.size w v0 l0) (hlen0 : l0.length ≤ 9223372036854775807) (h1 : tks w.heap.size w v1 l1) (hlen1 : l1.length ≤ 9223372036854775807) (h3 : ints w.heap.size w v3 l3) (hlen3 : l3.length ≤ 9223372036854775807) (hT : tab w) :
    Calls Tryd.prog 7 #[.agg #[.int .i64 n0, v0], v1, .int .i64 x2, v3] w fun e w' => e = .returned (.bool true) ∧ Below w.heap.size w w' := by
  have HT := hide hT
  clear hT
  generalize hR : (rbR n0 l0 l1 x2 l3) = R
  generalize hO : (rbB n0 l0 l1 x2 l3) = ok
  have HR := hide hR
  have HO := hide hO
  clear hR hO
  have F1 := hide (((Below.refl w.heap.size w).alloc (Nat.le_refl _) (.cells #[.int .i64 n0, v0] 46)))
  have F2 := hide ((h0.alloc (.cells #[.int .i64 n0, v0] 46)))
  have F3 := hide ((h1.alloc (.cells #[.int .i64 n0, v0] 46)))
  have F4 := hide ((h3.alloc (.cells #[.int .i64 n0, v0] 46)))
  have F5 := hide (show (w.alloc (.cells #[.int .i64 n0, v0] 46)).heap[w.heap.size]? = some (.cells #[.int .i64 n0, v0] 46) from (by have := hp_last w (.cells #[.int .i64 n0, v0] 46); simpa using this))
  have HZ0 := hide (show (w.alloc (.cells #[.int .i64 n0, v0] 46)).heap.size = w.heap.size + 1 by simp)
  clear h0 h1 h3
  by_cases big3 : (1048576 : Int) < (l3.length : Int)
  · have big3n : 1048576 < l3.length := by omega
    go_enter Tryd.func7, Tryd.ntmps7
    go_wp2_with (first | (refine wpList_len sliceT rfl (.tmp _) rfl v3 rfl w.heap.size l3 F4.out ?_))
    go_ret
    exact ⟨rfl, F1.out⟩
  have big3n : ¬ 1048576 < l3.length := by omega
  have big3d : decide (1048576 < l3.length) = false := by simp; omega
  have hsz0 : szOf 1048576 l0.length = -1 ∨ (0 ≤ szOf 1048576 l0.length ∧ szOf 1048576 l0.length ≤ 1048576 ∧ l0.length ≤ 1048576) := by unfold szOf; split <;> omega
  generalize hq0 : szOf 1048576 l0.length = q0 at hsz0
  have HQ0 := hide hq0
  clear hq0
  have hsz1 : szOf q0 l1.length = -1 ∨ (0 ≤ szOf q0 l1.length ∧ szOf q0 l1.length ≤ 1048576 ∧ l1.length ≤ 1048576) := by unfold szOf; split <;> omega
  generalize hq1 : szOf q0 l1.length = q1 at hsz1
  have HQ1 := hide hq1
  clear hq1
  rcases hsz0 with hbig0 | ⟨hq0a, hq0b, hq0c⟩
  · have HBIG := hide hbig0
    have hneg : q0 < 0 := by omega
    clear hbig0
    go_enter Tryd.func7, Tryd.ntmps7
    go_wp2_with (first | (refine wpList_len sliceT rfl (.tmp _) rfl v3 rfl w.heap.size l3 F4.out ?_))
    generalize hX : (w.alloc (.cells #[.int .i64 n0, v0] 46)) = W0 at F1 F2 F3 F4 F5 HZ0 ⊢
    have hz0 := Nat.le_of_eq HZ0.out.symm
    clear hX HZ0
    refine (szSpace_c n0 v0 l0 (1048576) W0 (F2.out.mono (by omega)) hlen0 (by omega) (by omega)).mono ?_
    rw [HQ0.out]
    rintro e W1 ⟨rfl, hb6⟩
    have hz7 := hb6.size
    have F8 := hide (F1.out.trans (hb6.mono (by omega)))
    have F9 := hide (F2.out.below hb6 (by omega))
    have F10 := hide (F3.out.below hb6 (by omega))
    have F11 := hide (F4.out.below hb6 (by omega))
    have F12 := hide ((hb6.block (w.heap.size) (by omega)).trans F5.out)
    clear hb6 F1 F2 F3 F4 F5
    go_wp2
    go_ret
    exact ⟨rfl, F8.out⟩
  have hneg0 : ¬ q0 < 0 := by omega
  rcases hsz1 with hbig1 | ⟨hq1a, hq1b, hq1c⟩
  · have HBIG := hide hbig1
    have hneg : q1 < 0 := by omega
    clear hbig1
    go_enter Tryd.func7, Tryd.ntmps7
    go_wp2_with (first | (refine wpList_len sliceT rfl (.tmp _) rfl v3 rfl w.heap.size l3 F4.out ?_))
    generalize hX : (w.alloc (.cells #[.int .i64 n0, v0] 46)) = W0 at F1 F2 F3 F4 F5 HZ0 ⊢
    have hz0 := Nat.le_of_eq HZ0.out.symm
    clear hX HZ0
    refine (szSpace_c n0 v0 l0 (1048576) W0 (F2.out.mono (by omega)) hlen0 (by omega) (by omega)).mono ?_
    rw [HQ0.out]
    rintro e W1 ⟨rfl, hb6⟩
    have hz7 := hb6.size
    have F8 := hide (F1.out.trans (hb6.mono (by omega)))
    have F9 := hide (F2.out.below hb6 (by omega))
    have F10 := hide (F3.out.below hb6 (by omega))
    have F11 := hide (F4.out.below hb6 (by omega))
    have F12 := hide ((hb6.block (w.heap.size) (by omega)).trans F5.out)
    clear hb6 F1 F2 F3 F4 F5
    have p13 := cells_at0 F12.out
    have p14 := cells_at1 F12.out
    go_wp2_with fail
    clear p13 p14
    refine (szTaskS_c v1 l1 (q0) W1 (F10.out.mono (by omega)) hlen1 (by omega) (by omega)).mono ?_
    rw [HQ1.out]
    rintro e _ ⟨rfl, rfl⟩
    go_wp2
    go_ret
    exact ⟨rfl, F8.out⟩
  have hneg1 : ¬ q1 < 0 := by omega
  go_enter Tryd.func7, Tryd.ntmps7
  go_wp2_with (first | (refine wpList_len sliceT rfl (.tmp _) rfl v3 rfl w.heap.size l3 F4.out ?_))
  generalize hX : (w.alloc (.cells #[.int .i64 n0, v0] 46)) = W0 at F1 F2 F3 F4 F5 HZ0 ⊢
  have hz0 := Nat.le_of_eq HZ0.out.symm
  clear hX HZ0
  refine (szSpace_c n0 v0 l0 (1048576) W0 (F2.out.mono (by omega)) hlen0 (by omega) (by omega)).mono ?_
  rw [HQ0.out]
  rintro e W1 ⟨rfl, hb6⟩
  have hz7 := hb6.size
  have F8 := hide (F1.out.trans (hb6.mono (by omega)))
  have F9 := hide (F2.out.below hb6 (by omega))
  have F10 := hide (F3.out.below hb6 (by omega))
  have F11 := hide (F4.out.below hb6 (by omega))
  have F12 := hide ((hb6.block (w.heap.size) (by omega)).trans F5.out)
  clear hb6 F1 F2 F3 F4 F5
  have p13 := cells_at0 F12.out
  have p14 := cells_at1 F12.out
  go_wp2_with fail
  clear p13 p14
  refine (szTaskS_c v1 l1 (q0) W1 (F10.out.mono (by omega)) hlen1 (by omega) (by omega)).mono ?_
  rw [HQ1.out]
  rintro e _ ⟨rfl, rfl⟩
  have p15 := cells_at0 F12.out
  have p16 := cells_at1 F12.out
  go_wp2_with fail
  clear p15 p16
  refine (toSpace_c n0 v0 l0 W1 (F9.out.mono (by omega)) (by omega)).mono ?_
  rintro e W2 ⟨g17, rfl, hg18, hk19, hb20⟩
  have hz21 := hb20.size
  have F22 := hide (F8.out.trans (hb20.mono (by omega)))
  have F23 := hide (F9.out.below hb20 (by omega))
  have F24 := hide (F10.out.below hb20 (by omega))
  have F25 := hide (F11.out.below hb20 (by omega))
  have F26 := hide ((hb20.block (w.heap.size) (by omega)).trans F12.out)
  have F27 := hide (hk19.own hg18 (by unfold maxLen; omega))
  have B28 := hide (F27.out.base)
  have L29 := hide (F27.out.blockLt)
  clear hb20 F8 F9 F10 F11 F12 hk19 hg18
  have p30 := cells_at0 F26.out
  have p31 := cells_at1 F26.out
  go_wp2_with fail
  clear p30 p31
  refine (toTaskS_c v1 l1 W2 (F24.out.mono (by omega)) (by omega)).mono ?_
  rintro e W3 ⟨v32, rfl, ho33, hb34⟩
  have hz35 := hb34.size
  have F36 := hide (F22.out.trans (hb34.mono (by omega)))
  have F37 := hide (F23.out.below hb34 (by omega))
  have F38 := hide (F24.out.below hb34 (by omega))
  have F39 := hide (F25.out.below hb34 (by omega))
  have F40 := hide ((hb34.block (w.heap.size) (by omega)).trans F26.out)
  have F41 := hide (F27.out.kept hb34)
  have F42 := hide (ho33)
  have B43 := hide (F42.out.base)
  have L44 := hide (F42.out.blockLt)
  clear hb34 F22 F23 F24 F25 F26 F27 ho33
  have p45 := cells_at0 F40.out
  have p46 := cells_at1 F40.out
  go_wp2_with fail
  clear p45 p46
  refine (toIntS_c v3 l3 W3 (F39.out.mono (by omega)) (by omega)).mono ?_
  rintro e W4 ⟨rfl, hk47, hb48⟩
  have hz49 := hb48.size
  have F50 := hide (F36.out.trans (hb48.mono (by omega)))
  have F51 := hide (F37.out.below hb48 (by omega))
  have F52 := hide (F38.out.below hb48 (by omega))
  have F53 := hide (F39.out.below hb48 (by omega))
  have F54 := hide ((hb48.block (w.heap.size) (by omega)).trans F40.out)
  have F55 := hide (F41.out.kept hb48)
  have F56 := hide (F42.out.kept hb48)
  have F57 := hide (hk47.own (Nat.le_refl _) (by unfold maxLen; omega))
  have B58 := hide (F57.out.base)
  have L59 := hide (F57.out.blockLt)
  clear hb48 F36 F37 F38 F39 F40 F41 F42 hk47
  have p60 := cells_at0 F54.out
  have p61 := cells_at1 F54.out
  go_wp2_with fail
  clear p60 p61
  refine (specRunBelow_c n0 _ l0 _ l1 x2 _ l3 W4 F55.out.ints (by omega) F56.out.tks (by omega) F57.out.ints (by omega) (HT.out.belowB HT.out F50.out (Nat.le_refl _))).mono ?_
  rw [HR.out, HO.out]
  rintro e W5 ⟨rfl, hb62⟩
  have hz63 := hb62.size
  have F64 := hide (F50.out.trans (hb62.mono (by omega)))
  have F65 := hide (F51.out.below hb62 (by omega))
  have F66 := hide (F52.out.below hb62 (by omega))
  have F67 := hide (F53.out.below hb62 (by omega))
  have F68 := hide ((hb62.block (w.heap.size) (by omega)).trans F54.out)
  have F69 := hide (F55.out.kept hb62)
  have F70 := hide (F56.out.kept hb62)
  have F71 := hide (F57.out.kept hb62)
  clear hb62 F50 F51 F52 F53 F54 F55 F56 F57
  clear F69
  clear B28 L29
  clear F70
  clear B43 L44
  clear F71
  clear B58 L59
  have p72 := cells_at0 F68.out
  have p73 := cells_at1 F68.out
  go_wp2_with fail
  clear p72 p73
  refine (toSpace_c n0 v0 l0 W5 (F65.out.mono (by omega)) (by omega)).mono ?_
  rintro e W6 ⟨g74, rfl, hg75, hk76, hb77⟩
  have hz78 := hb77.size
  have F79 := hide (F64.out.trans (hb77.mono (by omega)))
  have F80 := hide (F65.out.below hb77 (by omega))
  have F81 := hide (F66.out.below hb77 (by omega))
  have F82 := hide (F67.out.below hb77 (by omega))
  have F83 := hide ((hb77.block (w.heap.size) (by omega)).trans F68.out)
  have F84 := hide (hk76.own hg75 (by unfold maxLen; omega))
  have B85 := hide (F84.out.base)
  have L86 := hide (F84.out.blockLt)
  clear hb77 F64 F65 F66 F67 F68 hk76 hg75
  have F87 := hide (F79.out.alloc (by omega) (.cells #[.int .i64 n0, .slice (some ⟨g74, 0, none⟩) l0.length l0.length] 34))
  have F88 := hide (F80.out.alloc (.cells #[.int .i64 n0, .slice (some ⟨g74, 0, none⟩) l0.length l0.length] 34))
  have F89 := hide (F81.out.alloc (.cells #[.int .i64 n0, .slice (some ⟨g74, 0, none⟩) l0.length l0.length] 34))
  have F90 := hide (F82.out.alloc (.cells #[.int .i64 n0, .slice (some ⟨g74, 0, none⟩) l0.length l0.length] 34))
  have F91 := hide ((hp_old W6 (.cells #[.int .i64 n0, .slice (some ⟨g74, 0, none⟩) l0.length l0.length] 34) (w.heap.size) (by omega)).trans F83.out)
  have F92 := hide (F84.out.alloc (.cells #[.int .i64 n0, .slice (some ⟨g74, 0, none⟩) l0.length l0.length] 34))
  have F93 := hide (hp_last W6 (.cells #[.int .i64 n0, .slice (some ⟨g74, 0, none⟩) l0.length l0.length] 34))
  have HZ94 := hide (show (W6.alloc (.cells #[.int .i64 n0, .slice (some ⟨g74, 0, none⟩) l0.length l0.length] 34)).heap.size = W6.heap.size + 1 by simp)
  clear F79 F80 F81 F82 F83 F84
  have p95 := cells_at0 F91.out
  have p96 := cells_at1 F91.out
  have p97 := cells_at0 F93.out
  have p98 := cells_at1 F93.out
  go_wp2_with fail
  clear p95 p96 p97 p98
  generalize hX : W6.alloc (.cells #[.int .i64 n0, .slice (some ⟨g74, 0, none⟩) l0.length l0.length] 34) = W7 at F87 F88 F89 F90 F91 F92 F93 HZ94 ⊢
  have hz99 := Nat.le_of_eq HZ94.out.symm
  clear hX HZ94
  refine (toTaskS_c v1 l1 W7 (F89.out.mono (by omega)) (by omega)).mono ?_
  rintro e W8 ⟨v100, rfl, ho101, hb102⟩
  have hz103 := hb102.size
  have F104 := hide (F87.out.trans (hb102.mono (by omega)))
  have F105 := hide (F88.out.below hb102 (by omega))
  have F106 := hide (F89.out.below hb102 (by omega))
  have F107 := hide (F90.out.below hb102 (by omega))
  have F108 := hide ((hb102.block (w.heap.size) (by omega)).trans F91.out)
  have F109 := hide (F92.out.kept hb102)
  have F110 := hide ((hb102.block (W6.heap.size) (by omega)).trans F93.out)
  have F111 := hide (ho101)
  have B112 := hide (F111.out.base)
  have L113 := hide (F111.out.blockLt)
  clear hb102 F87 F88 F89 F90 F91 F92 F93 ho101
  have p114 := cells_at0 F108.out
  have p115 := cells_at1 F108.out
  have p116 := cells_at0 F110.out
  have p117 := cells_at1 F110.out
  go_wp2_with fail
  clear p114 p115 p116 p117
  refine (toIntS_c v3 l3 W8 (F107.out.mono (by omega)) (by omega)).mono ?_
  rintro e W9 ⟨rfl, hk118, hb119⟩
  have hz120 := hb119.size
  have F121 := hide (F104.out.trans (hb119.mono (by omega)))
  have F122 := hide (F105.out.below hb119 (by omega))
  have F123 := hide (F106.out.below hb119 (by omega))
  have F124 := hide (F107.out.below hb119 (by omega))
  have F125 := hide ((hb119.block (w.heap.size) (by omega)).trans F108.out)
  have F126 := hide (F109.out.kept hb119)
  have F127 := hide ((hb119.block (W6.heap.size) (by omega)).trans F110.out)
  have F128 := hide (F111.out.kept hb119)
  have F129 := hide (hk118.own (Nat.le_refl _) (by unfold maxLen; omega))
  have B130 := hide (F129.out.base)
  have L131 := hide (F129.out.blockLt)
  clear hb119 F104 F105 F106 F107 F108 F109 F110 F111 hk118
  have p132 := cells_at0 F125.out
  have p133 := cells_at1 F125.out
  have p134 := cells_at0 F127.out
  have p135 := cells_at1 F127.out
  go_wp2_with fail
  clear p132 p133 p134 p135
  refine (implRunBelow_c n0 _ l0 _ l1 x2 _ l3 W9 F126.out.ints (by omega) F128.out.tks (by omega) F129.out.ints (by omega) (HT.out.belowB HT.out F121.out (Nat.le_refl _))).mono ?_
  rw [HR.out, HO.out]
  rintro e W10 ⟨rfl, hb136⟩
  have hz137 := hb136.size
  have F138 := hide (F121.out.trans (hb136.mono (by omega)))
  have F139 := hide (F122.out.below hb136 (by omega))
  have F140 := hide (F123.out.below hb136 (by omega))
  have F141 := hide (F124.out.below hb136 (by omega))
  have F142 := hide ((hb136.block (w.heap.size) (by omega)).trans F125.out)
  have F143 := hide (F126.out.kept hb136)
  have F144 := hide ((hb136.block (W6.heap.size) (by omega)).trans F127.out)
  have F145 := hide (F128.out.kept hb136)
  have F146 := hide (F129.out.kept hb136)
  clear hb136 F121 F122 F123 F124 F125 F126 F127 F128 F129
  have p147 := cells_at0 F142.out
  have p148 := cells_at1 F142.out
  have p149 := cells_at0 F144.out
  have p150 := cells_at1 F144.out
  go_wp2
  clear p147 p148 p149 p150
  refine wp_region_held (S := Below W10.heap.size W10) (by kernel_rfl) ?_
  have hS : Below W10.heap.size W10 { W10 with drawn := W10.drawn + 1 } := (Below.refl _ _).drew
  refine wpAnyH_take (i := 0) rfl (by kernel_rfl) (by kernel_rfl) (by kernel_rfl) (fun _ _ _ h => h) (yields_load_two rowSp sizeSp rfl (.tmp _) rfl _ rfl _ _ (fun w' h => (h.cell (p := ⟨W6.heap.size, 0, none⟩) (by show W6.heap.size < _; omega)).trans (cells_at0 F144.out)) (fun w' h => (h.cell (p := ⟨W6.heap.size, 1, none⟩) (by show W6.heap.size < _; omega)).trans (cells_at1 F144.out))) hS ?_
  refine wpAnyH_take (i := 1) rfl (by kernel_rfl) (by kernel_rfl) (by kernel_rfl) (fun _ _ _ h => h) (yields_load_two rowSl sizeSl rfl (.tmp _) rfl _ rfl _ _ (fun w' h => (h.cell (p := ⟨w.heap.size, 0, none⟩) (by show w.heap.size < _; omega)).trans (cells_at0 F142.out)) (fun w' h => (h.cell (p := ⟨w.heap.size, 1, none⟩) (by show w.heap.size < _; omega)).trans (cells_at1 F142.out))) hS ?_
  refine anyH_call (i := 2) (by kernel_rfl) rfl rfl 30 ent_toSpace _ _ rfl #[.agg #[.int .i64 n0, v0]] rfl (toSpace_c n0 v0 l0 _ ((F139.out.below hS (by omega)).mono (show w.heap.size ≤ W10.heap.size by omega)) (by omega)) ?_
  rintro e W11 ⟨g151, rfl, hgr, hkr, hbr⟩
  have hzr : W10.heap.size ≤ W11.heap.size := hbr.size
  have hS6 : Below W10.heap.size W10 W11 := hS.trans hbr
  refine ⟨_, rfl, hS6, ?_⟩
  refine anyH_call (i := 3) (by kernel_rfl) rfl rfl 17 ent_eqSpace _ _ rfl #[.agg #[.int .i64 n0, .slice (some ⟨g74, 0, none⟩) l0.length l0.length], .agg #[.int .i64 n0, .slice (some ⟨g151, 0, none⟩) l0.length l0.length]] rfl (eqSpace_same_c n0 _ _ l0 W11 ((F143.out.kept hS6).ints) (hkr.ints _) (by omega)) ?_
  rintro e W12 ⟨rfl, hbs⟩
  have hS7 : Below W10.heap.size W10 W12 := hS6.trans (hbs.mono hzr)
  refine ⟨_, rfl, hS7, ?_⟩
  refine anyH_op (i := 4) (by kernel_rfl) rfl rfl (.bool false) W12 ?hq hS7 ?_
  case hq => simp [go_sem, Act.put]
  refine wpAnyH_done (by kernel_rfl) ?_ _
  simp only [Act.put, List.getElem_toArray, List.getElem_cons_zero, List.getElem_cons_succ, List.setIfInBounds_toArray, List.set_cons_zero, List.set_cons_succ]
  have hz152 : W10.heap.size ≤ W12.heap.size := hS7.size
  have F153 := hide (F138.out.trans (hS7.mono (by omega)))
  have F154 := hide (F139.out.below hS7 (by omega))
  have F155 := hide (F140.out.below hS7 (by omega))
  have F156 := hide (F141.out.below hS7 (by omega))
  have F157 := hide ((hS7.block (w.heap.size) (by omega)).trans F142.out)
  have F158 := hide (F143.out.kept hS7)
  have F159 := hide ((hS7.block (W6.heap.size) (by omega)).trans F144.out)
  have F160 := hide (F145.out.kept hS7)
  have F161 := hide (F146.out.kept hS7)
  clear hS hS6 hS7 hbr hbs hkr hgr hzr F138 F139 F140 F141 F142 F143 F144 F145 F146
  have p162 := cells_at0 F157.out
  have p163 := cells_at1 F157.out
  have p164 := cells_at0 F159.out
  have p165 := cells_at1 F159.out
  go_wp2_with fail
  clear p162 p163 p164 p165
  refine (toTaskS_c v1 l1 W12 (F155.out.mono (by omega)) (by omega)).mono ?_
  rintro e W13 ⟨v166, rfl, ho167, hb168⟩
  have hz169 := hb168.size
  have F170 := hide (F153.out.trans (hb168.mono (by omega)))
  have F171 := hide (F154.out.below hb168 (by omega))
  have F172 := hide (F155.out.below hb168 (by omega))
  have F173 := hide (F156.out.below hb168 (by omega))
  have F174 := hide ((hb168.block (w.heap.size) (by omega)).trans F157.out)
  have F175 := hide (F158.out.kept hb168)
  have F176 := hide ((hb168.block (W6.heap.size) (by omega)).trans F159.out)
  have F177 := hide (F160.out.kept hb168)
  have F178 := hide (F161.out.kept hb168)
  have F179 := hide (ho167)
  have B180 := hide (F179.out.base)
  have L181 := hide (F179.out.blockLt)
  clear hb168 F153 F154 F155 F156 F157 F158 F159 F160 F161 ho167
  have p182 := cells_at0 F174.out
  have p183 := cells_at1 F174.out
  have p184 := cells_at0 F176.out
  have p185 := cells_at1 F176.out
  go_wp2_with fail
  clear p182 p183 p184 p185
  refine (eqTaskS_same_c _ _ l1 W13 (F177.out.tks) (F179.out.tks) (by omega)).mono ?_
  rintro e W14 ⟨rfl, hb186⟩
  have hz187 := hb186.size
  have F188 := hide (F170.out.trans (hb186.mono (by omega)))
  have F189 := hide (F171.out.below hb186 (by omega))
  have F190 := hide (F172.out.below hb186 (by omega))
  have F191 := hide (F173.out.below hb186 (by omega))
  have F192 := hide ((hb186.block (w.heap.size) (by omega)).trans F174.out)
  have F193 := hide (F175.out.kept hb186)
  have F194 := hide ((hb186.block (W6.heap.size) (by omega)).trans F176.out)
  have F195 := hide (F177.out.kept hb186)
  have F196 := hide (F178.out.kept hb186)
  have F197 := hide (F179.out.kept hb186)
  clear hb186 F170 F171 F172 F173 F174 F175 F176 F177 F178 F179
  clear F197
  clear B180 L181
  have p198 := cells_at0 F192.out
  have p199 := cells_at1 F192.out
  have p200 := cells_at0 F194.out
  have p201 := cells_at1 F194.out
  go_wp2_with fail
  clear p198 p199 p200 p201
  refine (toIntS_c v3 l3 W14 (F191.out.mono (by omega)) (by omega)).mono ?_
  rintro e W15 ⟨rfl, hk202, hb203⟩
  have hz204 := hb203.size
  have F205 := hide (F188.out.trans (hb203.mono (by omega)))
  have F206 := hide (F189.out.below hb203 (by omega))
  have F207 := hide (F190.out.below hb203 (by omega))
  have F208 := hide (F191.out.below hb203 (by omega))
  have F209 := hide ((hb203.block (w.heap.size) (by omega)).trans F192.out)
  have F210 := hide (F193.out.kept hb203)
  have F211 := hide ((hb203.block (W6.heap.size) (by omega)).trans F194.out)
  have F212 := hide (F195.out.kept hb203)
  have F213 := hide (F196.out.kept hb203)
  have F214 := hide (hk202.own (Nat.le_refl _) (by unfold maxLen; omega))
  have B215 := hide (F214.out.base)
  have L216 := hide (F214.out.blockLt)
  clear hb203 F188 F189 F190 F191 F192 F193 F194 F195 F196 hk202
  have p217 := cells_at0 F209.out
  have p218 := cells_at1 F209.out
  have p219 := cells_at0 F211.out
  have p220 := cells_at1 F211.out
  go_wp2_with fail
  clear p217 p218 p219 p220
  refine (eqIntS_same_c _ _ l3 W15 (F213.out.ints) (F214.out.ints) (by omega)).mono ?_
  rintro e W16 ⟨rfl, hb221⟩
  have hz222 := hb221.size
  have F223 := hide (F205.out.trans (hb221.mono (by omega)))
  have F224 := hide (F206.out.below hb221 (by omega))
  have F225 := hide (F207.out.below hb221 (by omega))
  have F226 := hide (F208.out.below hb221 (by omega))
  have F227 := hide ((hb221.block (w.heap.size) (by omega)).trans F209.out)
  have F228 := hide (F210.out.kept hb221)
  have F229 := hide ((hb221.block (W6.heap.size) (by omega)).trans F211.out)
  have F230 := hide (F212.out.kept hb221)
  have F231 := hide (F213.out.kept hb221)
  have F232 := hide (F214.out.kept hb221)
  clear hb221 F205 F206 F207 F208 F209 F210 F211 F212 F213 F214
  clear F232
  clear B215 L216
  have p233 := cells_at0 F227.out
  have p234 := cells_at1 F227.out
  have p235 := cells_at0 F229.out
  have p236 := cells_at1 F229.out
  go_wp2
  go_ret
  exact ⟨rfl, F223.out⟩

theorem ownK : ownKnob Tryd.prog.godebug = none := by kernel_rfl
theorem laidOut : laidOutB Tryd.prog = true := by kernel_rfl

/-- What a slice of int is, as it comes in. -/
theorem list_open {W : World} {v : Value} {l : List Int} (h : (v = .slice none 0 0 ∧ l = []) ∨ ∃ (a : Addr) (len c : Nat) (zs : List Int), v = .slice (some a) len c ∧ len ≤ zs.length ∧ len ≤ maxLen ∧ (∀ i, i < zs.length → W.cell? (a.add i) = some (.int .i64 (zs.getD i 0))) ∧ l = zs.take len) : ints W.heap.size W v l ∧ l.length ≤ 9223372036854775807 := by
  rcases h with ⟨rfl, rfl⟩ | ⟨x, len, c, zs, rfl, hlt, hm, hcell, rfl⟩
  · exact ⟨.inl ⟨rfl, none, 0, rfl⟩, by simp⟩
  · have htk : (zs.take len).length = len := by simp; omega
    refine ⟨?_, by unfold maxLen at hm; omega⟩
    rcases Nat.eq_zero_or_pos len with h0 | h0
    · subst h0
      exact .inl ⟨by simp, some x, c, rfl⟩
    · obtain ⟨b, off, rfl, hc⟩ := ints_at hcell (by omega)
      have hbl := block_lt_of_cell (hc 0 (by omega))
      refine .inr ⟨b, off, c, by rw [htk], hbl, hbl, fun j hj => ?_⟩
      rw [htk] at hj
      rw [hc j (by omega), List.getElem?_take, if_pos hj]
      rfl

/-- What a struct of an int and a slice of int is, as it comes in. -/
theorem space_open {H : Type} {enc : TypeId × Value → H} {W : World} {b0 : Nat} {v : Value} {d : DataW H} {p : List MemPlace}
    (hv : Value.okWide Tryd.prog W .any b0 46 v) (h : DataW.Trod enc Tryd.prog W 0 (fun _ => true) true 46 v d p) :
    ∃ (n : Int) (u : Value) (l : List Int), v = .agg #[.int .i64 n, u] ∧ ints W.heap.size W u l ∧ l.length ≤ 9223372036854775807 := by
  obtain ⟨v0, v1, y0, y1, m, rfl, rfl, rfl, hy0, hy1⟩ := open_agg2 Tryd.underlying46 (by kernel_rfl) (by kernel_rfl) hv h
  obtain ⟨n, e0, _, _⟩ := DataW.trod_int Tryd.underlying3 hy0
  simp at e0
  subst e0
  rcases open_ints Tryd.underlying23 Tryd.underlying3 (by kernel_rfl) hy1 with ⟨hcs, _⟩ | ⟨x, len, c, zs, hcs, _, hl, hm, hz, _, hcell, hwz⟩
  · simp at hcs
    subst hcs
    exact ⟨n, _, [], rfl, list_open (.inl ⟨rfl, rfl⟩)⟩
  · simp at hcs
    subst hcs
    have hz' : zs.length = c := by simpa using hz
    exact ⟨n, _, zs.take len, rfl, list_open (.inr ⟨x, len, c, zs, rfl, by omega, by unfold maxLen at hm ⊢; omega, hcell, rfl⟩)⟩

theorem slice_open {H : Type} {enc : TypeId × Value → H} {W : World} {b0 : Nat} {v : Value} {d : DataW H} {p : List MemPlace}
    (hv : Value.okWide Tryd.prog W .any b0 23 v) (h : DataW.Trod enc Tryd.prog W 0 (fun _ => true) true 23 v d p) :
    ∃ (l : List Int), ints W.heap.size W v l ∧ l.length ≤ 9223372036854775807 := by
  obtain ⟨a0, len0, cap0, rfl⟩ := okWide_slice Tryd.underlying23 hv
  obtain ⟨fuel, hf⟩ := h
  rcases open_ints Tryd.underlying23 Tryd.underlying3 (by kernel_rfl) hf with ⟨hcs, _⟩ | ⟨x, len, c, zs, hcs, _, hl, hm, hz, _, hcell, hwz⟩
  · simp [Value.cells] at hcs
    obtain ⟨rfl, rfl, rfl⟩ := hcs
    exact ⟨[], list_open (.inl ⟨rfl, rfl⟩)⟩
  · simp [Value.cells] at hcs
    obtain ⟨rfl, rfl, rfl⟩ := hcs
    have hz' : zs.length = cap0 := by simpa using hz
    exact ⟨zs.take len0, list_open (.inr ⟨x, len0, cap0, zs, rfl, by omega, by omega, hcell, rfl⟩)⟩


/-- What the card's condition gives: the table's cells. -/
theorem tab_of {W : World} (h : laidMetH Tryd.prog Rows.fnExactRunBelowRow.laid W) : tab W := by
  rw [MakeChecks.laidMetH_plain _ _ _ (by kernel_rfl)] at h
  have h2 := h.tail
  have e : (Rows.laid_math_bits_deBruijn64tab : DataW Unit) = Lib.tabData .u8 (Lib.deBruijn64tab.map fun n : Nat => (n : Int)) := by kernel_rfl
  rw [e] at h2
  have hT := Lib.tabIs_of_head (g := 1) (t := 216) (e := 5) (n := 64) (by kernel_rfl) (by kernel_rfl) (by kernel_rfl) (by kernel_rfl) (by kernel_rfl) (by kernel_rfl) h2
  have hc : ∀ j, j < 64 → W.cell? ⟨1, j, none⟩ = some (.int .u8 (Lib.deBruijn64tab.getD j 0)) := by
    intro j hj
    have h3 := hT.cell (g := 1) (by kernel_rfl) j (by rw [show (Lib.deBruijn64tab.map fun n : Nat => (n : Int)).length = 64 by decide +kernel]; exact hj)
    rw [h3]
    have h4 : ∀ j, j < 64 → (Lib.deBruijn64tab.map fun n : Nat => (n : Int)).getD j 0 = (Lib.deBruijn64tab.getD j 0 : Int) := by decide +kernel
    rw [h4 j hj]
  exact ⟨block_lt_of_cell (hc 0 (by omega)), hc⟩
theorem door_met (os : Os) (args : Array Value) : laidMetH Tryd.prog Rows.fnExactRunBelowRow.laid ((World.doorLaid Tryd.prog 400 os).forCall (fun _ _ => 0) ⟨#[], args, []⟩).memory :=
  laidMetH_of_parts3 (fuel := 8) (laidMet_of_run' 8 (by kernel_rfl) (by kernel_rfl)) (by kernel_rfl) (by kernel_rfl)

theorem lifted (os : Os) (started : os.Started) (H : Type) (enc : TypeId × Value → H) :
    ReturnsInHanded {} Tryd.checked os 7 .any (fun w args => (Rows.fnExactRunBelowSpec.pre enc Tryd.prog Tryd.f7 [] false w args ∧ laidMetH Tryd.prog Rows.fnExactRunBelowRow.laid w) ∧ sizedMet enc Tryd.prog Tryd.f7 (OpenSpec.ofChange Rows.fnExactRunBelowSpec) false w args)
      (Rows.fnExactRunBelowSpec.post enc Tryd.prog Tryd.f7 false true false false) := by
  refine returnsInHanded_of_change_and (C := Tryd.checked) (X := fun w _ => laidMetH Tryd.prog Rows.fnExactRunBelowRow.laid w) (fun _ _ _ hh h => h.of_heap hh) ownK started (by kernel_rfl) Tryd.func7
    (ChangeSpec.witness_shaped (enc := enc) (C := Tryd.checked) (os := os) (X := fun w _ => laidMetH Tryd.prog Rows.fnExactRunBelowRow.laid w) false (World.doorLaid Tryd.prog 400 os) #[.agg #[.int .i64 0, .slice none 0 0], .slice none 0 0, .int .i64 0, .slice none 0 0] 8 rfl (World.shaped_of_RefB (by kernel_rfl) (by kernel_rfl)) (by kernel_rfl) (by kernel_rfl) (by kernel_rfl) (door_met os _)) ?_
  intro W base args ds gs before hval0 hW _ _ hL _
  have hTab := tab_of hL
  have hval : ∀ (j : Nat) t v, Tryd.f7.params[j]? = some t → args[j]? = some v → Value.okWide Tryd.prog W .any base t v := hval0
  have hW' := hW
  obtain ⟨p, q, hA0, hV, rfl, hfz, hnd⟩ := hW
  have hA : DataW.TrodAll enc Tryd.prog W 0 (fun _ => true) true Tryd.f7.params.toList args.toList ds p := hA0
  rw [Tryd.params7] at hA hval
  obtain ⟨v0, vs0, d0, ds0, p0, q0, hargs, rfl, rfl, t0, r0⟩ := trodAll_cons hA
  obtain ⟨v1, vs1, d1, ds1, p1, q1, rfl, rfl, rfl, t1, r1⟩ := trodAll_cons r0
  obtain ⟨v2, vs2, d2, ds2, p2, q2, rfl, rfl, rfl, t2, r2⟩ := trodAll_cons r1
  obtain ⟨v3, vs3, d3, ds3, p3, q3, rfl, rfl, rfl, t3, r3⟩ := trodAll_cons r2
  obtain ⟨rfl, rfl, rfl⟩ := trodAll_nil r3
  obtain rfl : args = #[v0, v1, v2, v3] := by cases args; simp_all
  obtain ⟨rfl, rfl⟩ := trodVars_none hV
  have k0 := t0
  have lt0 : ∀ x ∈ p0, x.block < W.heap.size := by obtain ⟨m, hm⟩ := k0; exact DataW.trod_lt m _ _ _ hm
  obtain ⟨n0, u0, l0, rfl, i0, e0⟩ := space_open (hval 0 46 v0 rfl rfl) t0
  have k1 := t1
  have lt1 : ∀ x ∈ p1, x.block < W.heap.size := by obtain ⟨m, hm⟩ := k1; exact DataW.trod_lt m _ _ _ hm
  obtain ⟨l1, i1, e1⟩ := tasks_open (hval 1 47 v1 rfl rfl) t1
  obtain ⟨a2, rfl, rfl, rfl, w2⟩ := open_int Tryd.underlying3 (hval 2 3 v2 rfl rfl) t2
  have k3 := t3
  have lt3 : ∀ x ∈ p3, x.block < W.heap.size := by obtain ⟨m, hm⟩ := k3; exact DataW.trod_lt m _ _ _ hm
  obtain ⟨l3, i3, e3⟩ := slice_open (hval 3 23 v3 rfl rfl) t3
  clear hA0 hval0
  refine (law_c n0 u0 l0 v1 l1 a2 v3 l3 W i0 e0 i1 e1 i3 e3 hTab).mono fun e W' ⟨he, bel⟩ => ?_
  subst he
  exact ⟨_, rfl, _, _, _, [], _, [], hW', trodAll_mk1 (shut_bool Tryd.underlying4 _), (trodAll_cons_mk (Below.trod laidOut (by kernel_rfl) (of_decide_eq_true (by kernel_rfl)) k0 bel lt0) (trodAll_cons_mk (Below.trod laidOut (by kernel_rfl) (of_decide_eq_true (by kernel_rfl)) k1 bel lt1) (trodAll_cons_mk (shut_int Tryd.underlying3 w2) (trodAll_cons_mk (Below.trod laidOut (by kernel_rfl) (of_decide_eq_true (by kernel_rfl)) k3 bel lt3) trodAll_mk0)))), rfl, bel.frame _, fun h => by cases h⟩

set_option maxHeartbeats 4000000 in
theorem over : Rows.fnExactRunBelowRow.holds Tryd.pinned (OpenSpec.ofChange Rows.fnExactRunBelowSpec) :=
  OpenClaim.holds_of_wide 7 Tryd.f7 rfl rfl rfl rfl rfl rfl rfl ⟨rfl, rfl, rfl, rfl, rfl⟩ rfl rfl rfl rfl rfl (by as_aux_lemma => kernel_rfl) Tryd.func7 (by as_aux_lemma => kernel_rfl)
    (of_decide_eq_true (by as_aux_lemma => kernel_rfl)) (by unfold Func.isWrapper; first | (rw [if_pos (by decide +kernel)]; kernel_rfl) | (rw [if_neg (by decide +kernel)]; exact ⟨rfl, rfl⟩))
    (fun os started H enc _ => lifted os started H enc)

set_option maxHeartbeats 8000000 in
theorem proved : Rows.FnExactRunBelowCardSaid :=
  Claim7.holds_tied_plain_at .later [] [.data, .data] true _ false
    over (fun _ h => by cases h) (by as_aux_lemma => kernel_rfl) (fun _ h => by cases h) fnExactRunBelow_row_tie rfl ⟨rfl, rfl⟩ (by as_aux_lemma => kernel_rfl) rfl
    (fun f fn hf hfn => by
      obtain rfl : f = 7 := Option.some.inj ((show Tryd.prog.funcNamed "loop.example/g01137/laws.FnExactRunBelow" = some 7 by as_aux_lemma => kernel_rfl).symm.trans hf) |>.symm
      obtain rfl : fn = Tryd.f7 := (Option.some.inj (Tryd.func7.symm.trans hfn)).symm
      exact ⟨by as_aux_lemma => kernel_rfl, fun j t ht => by
        rw [Tryd.params7] at ht
        have hm : t ∈ [46, 47, 3, 23] := by simpa using Array.mem_of_getElem? ht
        have hall : ([46, 47, 3, 23].all fun u => !Tryd.prog.wantsStandIn u) = true := by as_aux_lemma => kernel_rfl
        exact (show Tryd.prog.wantsStandIn t = false by simpa using List.all_eq_true.1 hall t hm)⟩)
    (by as_aux_lemma => kernel_rfl)
#print axioms proved
end Go.Proofs.YtdalbjpjnfjgfaaDoor.FRunBelow
