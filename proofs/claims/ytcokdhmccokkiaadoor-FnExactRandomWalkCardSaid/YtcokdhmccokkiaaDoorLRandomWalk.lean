/- The program's RandomWalk answers as the specification's does, at every argument, leaves its arguments as they are, and its answer owns its memory: no condition. -/
import Derived.Test.YtcokdhmccokkiaaDoorRows
import Derived.Test.YtcokdhmccokkiaaDoorZj
import Derived.Test.YtcokdhmccokkiaaDoorTie
import Derived.Test.YtcokdhmccokkiaaDoorCards
import Derived.LaidMore
import Derived.Stop.Joined
import Derived.Stop.LaidErr
import Derived.Lib.LaidTab
import Derived.SevenTiedAt
import Derived.Test.YtcokdhmccokkiaaDoorHar
import Derived.ProofKit
import Derived.OpenShut
import Derived.Lib.SmallJoins
namespace Go.Proofs.YtcokdhmccokkiaaDoor.FRandomWalk
open Go.ChangeShapes Go.WideShapes Go.ChangeAt Go.RowKit Go.Joins
set_option linter.unusedVariables false
set_option linter.unusedSimpArgs false
set_option maxRecDepth 100000

set_option maxHeartbeats 4000000 in
theorem law_c (n0 : Int) (v0 : Value) (l0 : List Int) (v1 : Value) (l1 : List Int) (w : World) (h0 : ints w.heap.size w v0 l0) (hlen0 : l0.length ≤ 9223372036854775807) (h1 : ints w.heap.size w v1 l1) (hlen1 : l1.length ≤ 9223372036854775807) (hT : tab w) :
    Calls Tryd.prog 7 #[.agg #[.int .i64 n0, v0], v1] w fun e w' => e = .returned (.bool true) ∧ Below w.heap.size w w' := by
  have HT := hide hT
  clear hT
  have hRL := (rwL_len n0 l0 l1)
  generalize hR : (rwL n0 l0 l1) = R at hRL
  generalize hO : (rwB n0 l0 l1) = ok
  have HR := hide hR
  have HO := hide hO
  clear hR hO
  have F1 := hide (((Below.refl w.heap.size w).alloc (Nat.le_refl _) (.cells #[.int .i64 n0, v0] 27)))
  have F2 := hide ((h0.alloc (.cells #[.int .i64 n0, v0] 27)))
  have F3 := hide ((h1.alloc (.cells #[.int .i64 n0, v0] 27)))
  have F4 := hide (show (w.alloc (.cells #[.int .i64 n0, v0] 27)).heap[w.heap.size]? = some (.cells #[.int .i64 n0, v0] 27) from (by have := hp_last w (.cells #[.int .i64 n0, v0] 27); simpa using this))
  have HZ0 := hide (show (w.alloc (.cells #[.int .i64 n0, v0] 27)).heap.size = w.heap.size + 1 by simp)
  clear h0 h1
  by_cases big1 : (1048576 : Int) < (l1.length : Int)
  · have big1n : 1048576 < l1.length := by omega
    go_enter Tryd.func7, Tryd.ntmps7
    go_wp2_with (first | (refine wpList_len sliceT rfl (.tmp _) rfl v1 rfl w.heap.size l1 F3.out ?_))
    go_ret
    exact ⟨rfl, F1.out⟩
  have big1n : ¬ 1048576 < l1.length := by omega
  have big1d : decide (1048576 < l1.length) = false := by simp; omega
  have hsz0 : szOf 1048576 l0.length = -1 ∨ (0 ≤ szOf 1048576 l0.length ∧ szOf 1048576 l0.length ≤ 1048576 ∧ l0.length ≤ 1048576) := by unfold szOf; split <;> omega
  generalize hq0 : szOf 1048576 l0.length = q0 at hsz0
  have HQ0 := hide hq0
  clear hq0
  rcases hsz0 with hbig0 | ⟨hq0a, hq0b, hq0c⟩
  · have HBIG := hide hbig0
    have hneg : q0 < 0 := by omega
    clear hbig0
    go_enter Tryd.func7, Tryd.ntmps7
    go_wp2_with (first | (refine wpList_len sliceT rfl (.tmp _) rfl v1 rfl w.heap.size l1 F3.out ?_))
    generalize hX : (w.alloc (.cells #[.int .i64 n0, v0] 27)) = W0 at F1 F2 F3 F4 HZ0 ⊢
    have hz0 := Nat.le_of_eq HZ0.out.symm
    clear hX HZ0
    refine (szSpace_c n0 v0 l0 (1048576) W0 (F2.out.mono (by omega)) hlen0 (by omega) (by omega)).mono ?_
    rw [HQ0.out]
    rintro e W1 ⟨rfl, hb5⟩
    have hz6 := hb5.size
    have F7 := hide (F1.out.trans (hb5.mono (by omega)))
    have F8 := hide (F2.out.below hb5 (by omega))
    have F9 := hide (F3.out.below hb5 (by omega))
    have F10 := hide ((hb5.block (w.heap.size) (by omega)).trans F4.out)
    clear hb5 F1 F2 F3 F4
    go_wp2
    go_ret
    exact ⟨rfl, F7.out⟩
  have hneg0 : ¬ q0 < 0 := by omega
  go_enter Tryd.func7, Tryd.ntmps7
  go_wp2_with (first | (refine wpList_len sliceT rfl (.tmp _) rfl v1 rfl w.heap.size l1 F3.out ?_))
  generalize hX : (w.alloc (.cells #[.int .i64 n0, v0] 27)) = W0 at F1 F2 F3 F4 HZ0 ⊢
  have hz0 := Nat.le_of_eq HZ0.out.symm
  clear hX HZ0
  refine (szSpace_c n0 v0 l0 (1048576) W0 (F2.out.mono (by omega)) hlen0 (by omega) (by omega)).mono ?_
  rw [HQ0.out]
  rintro e W1 ⟨rfl, hb5⟩
  have hz6 := hb5.size
  have F7 := hide (F1.out.trans (hb5.mono (by omega)))
  have F8 := hide (F2.out.below hb5 (by omega))
  have F9 := hide (F3.out.below hb5 (by omega))
  have F10 := hide ((hb5.block (w.heap.size) (by omega)).trans F4.out)
  clear hb5 F1 F2 F3 F4
  have hneg2 : ¬ (1 + (R.length : Int) < 0) := by omega
  have p11 := cells_at0 F10.out
  have p12 := cells_at1 F10.out
  go_wp2_with fail
  clear p11 p12
  refine (toSpace_c n0 v0 l0 W1 (F8.out.mono (by omega)) (by omega)).mono ?_
  rintro e W2 ⟨g13, rfl, hg14, hk15, hb16⟩
  have hz17 := hb16.size
  have F18 := hide (F7.out.trans (hb16.mono (by omega)))
  have F19 := hide (F8.out.below hb16 (by omega))
  have F20 := hide (F9.out.below hb16 (by omega))
  have F21 := hide ((hb16.block (w.heap.size) (by omega)).trans F10.out)
  have F22 := hide (hk15.own hg14 (by unfold maxLen; omega))
  have B23 := hide (F22.out.base)
  have L24 := hide (F22.out.blockLt)
  clear hb16 F7 F8 F9 F10 hk15 hg14
  have p25 := cells_at0 F21.out
  have p26 := cells_at1 F21.out
  go_wp2_with fail
  clear p25 p26
  refine (toIntS_c v1 l1 W2 (F20.out.mono (by omega)) (by omega)).mono ?_
  rintro e W3 ⟨rfl, hk27, hb28⟩
  have hz29 := hb28.size
  have F30 := hide (F18.out.trans (hb28.mono (by omega)))
  have F31 := hide (F19.out.below hb28 (by omega))
  have F32 := hide (F20.out.below hb28 (by omega))
  have F33 := hide ((hb28.block (w.heap.size) (by omega)).trans F21.out)
  have F34 := hide (F22.out.kept hb28)
  have F35 := hide (hk27.own (Nat.le_refl _) (by unfold maxLen; omega))
  have B36 := hide (F35.out.base)
  have L37 := hide (F35.out.blockLt)
  clear hb28 F18 F19 F20 F21 F22 hk27
  have p38 := cells_at0 F33.out
  have p39 := cells_at1 F33.out
  go_wp2_with fail
  clear p38 p39
  refine (specRandomWalk_c n0 _ l0 _ l1 W3 F34.out.ints (by omega) F35.out.ints (by omega) (HT.out.belowB HT.out F30.out (Nat.le_refl _))).mono ?_
  rw [HR.out, HO.out]
  rintro e W4 ⟨v40, rfl, ho41, hb42⟩
  have hz43 := hb42.size
  have F44 := hide (F30.out.trans (hb42.mono (by omega)))
  have F45 := hide (F31.out.below hb42 (by omega))
  have F46 := hide (F32.out.below hb42 (by omega))
  have F47 := hide ((hb42.block (w.heap.size) (by omega)).trans F33.out)
  have F48 := hide (F34.out.kept hb42)
  have F49 := hide (F35.out.kept hb42)
  obtain ⟨aa50, cc51, hv52⟩ := ho41.shape
  have F53 := hide (ho41)
  have B54 := hide (F53.out.base)
  have L55 := hide (F53.out.blockLt)
  clear hb42 F30 F31 F32 F33 F34 F35 ho41
  subst hv52
  clear F48
  clear B23 L24
  clear F49
  clear B36 L37
  have p56 := cells_at0 F47.out
  have p57 := cells_at1 F47.out
  go_wp2_with fail
  clear p56 p57
  refine (toSpace_c n0 v0 l0 W4 (F45.out.mono (by omega)) (by omega)).mono ?_
  rintro e W5 ⟨g58, rfl, hg59, hk60, hb61⟩
  have hz62 := hb61.size
  have F63 := hide (F44.out.trans (hb61.mono (by omega)))
  have F64 := hide (F45.out.below hb61 (by omega))
  have F65 := hide (F46.out.below hb61 (by omega))
  have F66 := hide ((hb61.block (w.heap.size) (by omega)).trans F47.out)
  have F67 := hide (F53.out.kept hb61)
  have F68 := hide (hk60.own hg59 (by unfold maxLen; omega))
  have B69 := hide (F68.out.base)
  have L70 := hide (F68.out.blockLt)
  clear hb61 F44 F45 F46 F47 F53 hk60 hg59
  have F71 := hide (F63.out.alloc (by omega) (.cells #[.int .i64 n0, .slice (some ⟨g58, 0, none⟩) l0.length l0.length] 29))
  have F72 := hide (F64.out.alloc (.cells #[.int .i64 n0, .slice (some ⟨g58, 0, none⟩) l0.length l0.length] 29))
  have F73 := hide (F65.out.alloc (.cells #[.int .i64 n0, .slice (some ⟨g58, 0, none⟩) l0.length l0.length] 29))
  have F74 := hide ((hp_old W5 (.cells #[.int .i64 n0, .slice (some ⟨g58, 0, none⟩) l0.length l0.length] 29) (w.heap.size) (by omega)).trans F66.out)
  have F75 := hide (F67.out.alloc (.cells #[.int .i64 n0, .slice (some ⟨g58, 0, none⟩) l0.length l0.length] 29))
  have F76 := hide (F68.out.alloc (.cells #[.int .i64 n0, .slice (some ⟨g58, 0, none⟩) l0.length l0.length] 29))
  have F77 := hide (hp_last W5 (.cells #[.int .i64 n0, .slice (some ⟨g58, 0, none⟩) l0.length l0.length] 29))
  have HZ78 := hide (show (W5.alloc (.cells #[.int .i64 n0, .slice (some ⟨g58, 0, none⟩) l0.length l0.length] 29)).heap.size = W5.heap.size + 1 by simp)
  clear F63 F64 F65 F66 F67 F68
  have p79 := cells_at0 F74.out
  have p80 := cells_at1 F74.out
  have p81 := cells_at0 F77.out
  have p82 := cells_at1 F77.out
  go_wp2_with fail
  clear p79 p80 p81 p82
  generalize hX : W5.alloc (.cells #[.int .i64 n0, .slice (some ⟨g58, 0, none⟩) l0.length l0.length] 29) = W6 at F71 F72 F73 F74 F75 F76 F77 HZ78 ⊢
  have hz83 := Nat.le_of_eq HZ78.out.symm
  clear hX HZ78
  refine (toIntS_c v1 l1 W6 (F73.out.mono (by omega)) (by omega)).mono ?_
  rintro e W7 ⟨rfl, hk84, hb85⟩
  have hz86 := hb85.size
  have F87 := hide (F71.out.trans (hb85.mono (by omega)))
  have F88 := hide (F72.out.below hb85 (by omega))
  have F89 := hide (F73.out.below hb85 (by omega))
  have F90 := hide ((hb85.block (w.heap.size) (by omega)).trans F74.out)
  have F91 := hide (F75.out.kept hb85)
  have F92 := hide (F76.out.kept hb85)
  have F93 := hide ((hb85.block (W5.heap.size) (by omega)).trans F77.out)
  have F94 := hide (hk84.own (Nat.le_refl _) (by unfold maxLen; omega))
  have B95 := hide (F94.out.base)
  have L96 := hide (F94.out.blockLt)
  clear hb85 F71 F72 F73 F74 F75 F76 F77 hk84
  have p97 := cells_at0 F90.out
  have p98 := cells_at1 F90.out
  have p99 := cells_at0 F93.out
  have p100 := cells_at1 F93.out
  go_wp2_with fail
  clear p97 p98 p99 p100
  refine (implRandomWalk_c n0 _ l0 _ l1 W7 F92.out.ints (by omega) F94.out.ints (by omega) (HT.out.belowB HT.out F87.out (Nat.le_refl _))).mono ?_
  rw [HR.out, HO.out]
  rintro e W8 ⟨v101, rfl, ho102, hb103⟩
  have hz104 := hb103.size
  have F105 := hide (F87.out.trans (hb103.mono (by omega)))
  have F106 := hide (F88.out.below hb103 (by omega))
  have F107 := hide (F89.out.below hb103 (by omega))
  have F108 := hide ((hb103.block (w.heap.size) (by omega)).trans F90.out)
  have F109 := hide (F91.out.kept hb103)
  have F110 := hide (F92.out.kept hb103)
  have F111 := hide ((hb103.block (W5.heap.size) (by omega)).trans F93.out)
  have F112 := hide (F94.out.kept hb103)
  obtain ⟨aa113, cc114, hv115⟩ := ho102.shape
  have F116 := hide (ho102)
  have B117 := hide (F116.out.base)
  have L118 := hide (F116.out.blockLt)
  clear hb103 F87 F88 F89 F90 F91 F92 F93 F94 ho102
  subst hv115
  have p119 := cells_at0 F108.out
  have p120 := cells_at1 F108.out
  have p121 := cells_at0 F111.out
  have p122 := cells_at1 F111.out
  go_wp2_with fail
  clear p119 p120 p121 p122
  refine (eqIntS_same_c _ _ R W8 (F116.out.ints) (F109.out.ints) hRL).mono ?_
  rintro e W9 ⟨rfl, hb123⟩
  have hz124 := hb123.size
  have F125 := hide (F105.out.trans (hb123.mono (by omega)))
  have F126 := hide (F106.out.below hb123 (by omega))
  have F127 := hide (F107.out.below hb123 (by omega))
  have F128 := hide ((hb123.block (w.heap.size) (by omega)).trans F108.out)
  have F129 := hide (F109.out.kept hb123)
  have F130 := hide (F110.out.kept hb123)
  have F131 := hide ((hb123.block (W5.heap.size) (by omega)).trans F111.out)
  have F132 := hide (F112.out.kept hb123)
  have F133 := hide (F116.out.kept hb123)
  clear hb123 F105 F106 F107 F108 F109 F110 F111 F112 F116
  have p134 := cells_at0 F128.out
  have p135 := cells_at1 F128.out
  have p136 := cells_at0 F131.out
  have p137 := cells_at1 F131.out
  go_wp2
  clear p134 p135 p136 p137
  refine wp_region_held (S := Below W9.heap.size W9) (by kernel_rfl) ?_
  have hS : Below W9.heap.size W9 { W9 with drawn := W9.drawn + 1 } := (Below.refl _ _).drew
  refine wpAnyH_take (i := 0) rfl (by kernel_rfl) (by kernel_rfl) (by kernel_rfl) (fun _ _ _ h => h) (yields_load_two rowSp sizeSp rfl (.tmp _) rfl _ rfl _ _ (fun w' h => (h.cell (p := ⟨W5.heap.size, 0, none⟩) (by show W5.heap.size < _; omega)).trans (cells_at0 F131.out)) (fun w' h => (h.cell (p := ⟨W5.heap.size, 1, none⟩) (by show W5.heap.size < _; omega)).trans (cells_at1 F131.out))) hS ?_
  refine wpAnyH_take (i := 1) rfl (by kernel_rfl) (by kernel_rfl) (by kernel_rfl) (fun _ _ _ h => h) (yields_load_two rowSl sizeSl rfl (.tmp _) rfl _ rfl _ _ (fun w' h => (h.cell (p := ⟨w.heap.size, 0, none⟩) (by show w.heap.size < _; omega)).trans (cells_at0 F128.out)) (fun w' h => (h.cell (p := ⟨w.heap.size, 1, none⟩) (by show w.heap.size < _; omega)).trans (cells_at1 F128.out))) hS ?_
  refine anyH_call (i := 2) (by kernel_rfl) rfl rfl 12 ent_toSpace _ _ rfl #[.agg #[.int .i64 n0, v0]] rfl (toSpace_c n0 v0 l0 _ ((F126.out.below hS (by omega)).mono (show w.heap.size ≤ W9.heap.size by omega)) (by omega)) ?_
  rintro e W10 ⟨g138, rfl, hgr, hkr, hbr⟩
  have hzr : W9.heap.size ≤ W10.heap.size := hbr.size
  have hS6 : Below W9.heap.size W9 W10 := hS.trans hbr
  refine ⟨_, rfl, hS6, ?_⟩
  refine anyH_call (i := 3) (by kernel_rfl) rfl rfl 14 ent_eqSpace _ _ rfl #[.agg #[.int .i64 n0, .slice (some ⟨g58, 0, none⟩) l0.length l0.length], .agg #[.int .i64 n0, .slice (some ⟨g138, 0, none⟩) l0.length l0.length]] rfl (eqSpace_same_c n0 _ _ l0 W10 ((F130.out.kept hS6).ints) (hkr.ints _) (by omega)) ?_
  rintro e W11 ⟨rfl, hbs⟩
  have hS7 : Below W9.heap.size W9 W11 := hS6.trans (hbs.mono hzr)
  refine ⟨_, rfl, hS7, ?_⟩
  refine anyH_op (i := 4) (by kernel_rfl) rfl rfl (.bool false) W11 ?hq hS7 ?_
  case hq => simp [go_sem, Act.put]
  refine wpAnyH_done (by kernel_rfl) ?_ _
  simp only [Act.put, List.getElem_toArray, List.getElem_cons_zero, List.getElem_cons_succ, List.setIfInBounds_toArray, List.set_cons_zero, List.set_cons_succ]
  have hz139 : W9.heap.size ≤ W11.heap.size := hS7.size
  have F140 := hide (F125.out.trans (hS7.mono (by omega)))
  have F141 := hide (F126.out.below hS7 (by omega))
  have F142 := hide (F127.out.below hS7 (by omega))
  have F143 := hide ((hS7.block (w.heap.size) (by omega)).trans F128.out)
  have F144 := hide (F129.out.kept hS7)
  have F145 := hide (F130.out.kept hS7)
  have F146 := hide ((hS7.block (W5.heap.size) (by omega)).trans F131.out)
  have F147 := hide (F132.out.kept hS7)
  have F148 := hide (F133.out.kept hS7)
  clear hS hS6 hS7 hbr hbs hkr hgr hzr F125 F126 F127 F128 F129 F130 F131 F132 F133
  have p149 := cells_at0 F143.out
  have p150 := cells_at1 F143.out
  have p151 := cells_at0 F146.out
  have p152 := cells_at1 F146.out
  go_wp2_with fail
  clear p149 p150 p151 p152
  refine (toIntS_c v1 l1 W11 (F142.out.mono (by omega)) (by omega)).mono ?_
  rintro e W12 ⟨rfl, hk153, hb154⟩
  have hz155 := hb154.size
  have F156 := hide (F140.out.trans (hb154.mono (by omega)))
  have F157 := hide (F141.out.below hb154 (by omega))
  have F158 := hide (F142.out.below hb154 (by omega))
  have F159 := hide ((hb154.block (w.heap.size) (by omega)).trans F143.out)
  have F160 := hide (F144.out.kept hb154)
  have F161 := hide (F145.out.kept hb154)
  have F162 := hide ((hb154.block (W5.heap.size) (by omega)).trans F146.out)
  have F163 := hide (F147.out.kept hb154)
  have F164 := hide (F148.out.kept hb154)
  have F165 := hide (hk153.own (Nat.le_refl _) (by unfold maxLen; omega))
  have B166 := hide (F165.out.base)
  have L167 := hide (F165.out.blockLt)
  clear hb154 F140 F141 F142 F143 F144 F145 F146 F147 F148 hk153
  have p168 := cells_at0 F159.out
  have p169 := cells_at1 F159.out
  have p170 := cells_at0 F162.out
  have p171 := cells_at1 F162.out
  go_wp2_with fail
  clear p168 p169 p170 p171
  refine (eqIntS_same_c _ _ l1 W12 (F163.out.ints) (F165.out.ints) (by omega)).mono ?_
  rintro e W13 ⟨rfl, hb172⟩
  have hz173 := hb172.size
  have F174 := hide (F156.out.trans (hb172.mono (by omega)))
  have F175 := hide (F157.out.below hb172 (by omega))
  have F176 := hide (F158.out.below hb172 (by omega))
  have F177 := hide ((hb172.block (w.heap.size) (by omega)).trans F159.out)
  have F178 := hide (F160.out.kept hb172)
  have F179 := hide (F161.out.kept hb172)
  have F180 := hide ((hb172.block (W5.heap.size) (by omega)).trans F162.out)
  have F181 := hide (F163.out.kept hb172)
  have F182 := hide (F164.out.kept hb172)
  have F183 := hide (F165.out.kept hb172)
  clear hb172 F156 F157 F158 F159 F160 F161 F162 F163 F164 F165
  clear F183
  clear B166 L167
  have p184 := cells_at0 F177.out
  have p185 := cells_at1 F177.out
  have p186 := cells_at0 F180.out
  have p187 := cells_at1 F180.out
  go_wp2_with fail
  clear p184 p185 p186 p187
  refine (markSpace_c n0 _ l0 (1) W13 _ F179.out (by omega) (by omega) (by omega)).mono ?_
  rintro e W14 ⟨rfl, hn189, ho188⟩
  have hz190 := ho188.size
  have F191 := hide (F174.out.trans (ho188.below w.heap.size (fun g hg => by have := B69.out g hg; omega) (by omega)))
  have F192 := hide (F175.out.below (ho188.below w.heap.size (fun g hg => by have := B69.out g hg; omega) (by omega)) (Nat.le_refl _))
  have F193 := hide (F176.out.below (ho188.below w.heap.size (fun g hg => by have := B69.out g hg; omega) (by omega)) (Nat.le_refl _))
  have F194 := hide ((ho188.block (w.heap.size) (by omega) (fun e => by have h1 := B69.out _ e; have h2 := L70.out _ e; omega)).trans F177.out)
  have F195 := hide (F178.out.other ho188 (fun g hg e => by have h1 := B69.out _ e; have h2 := L70.out _ e; have h3 := B54.out _ hg; have h4 := L55.out _ hg; omega))
  have F197 := hide ((ho188.block (W5.heap.size) (by omega) (fun e => by have h1 := B69.out _ e; have h2 := L70.out _ e; omega)).trans F180.out)
  have F198 := hide (F181.out.other ho188 (fun g hg e => by have h1 := B69.out _ e; have h2 := L70.out _ e; have h3 := B95.out _ hg; have h4 := L96.out _ hg; omega))
  have F199 := hide (F182.out.other ho188 (fun g hg e => by have h1 := B69.out _ e; have h2 := L70.out _ e; have h3 := B117.out _ hg; have h4 := L118.out _ hg; omega))
  have F200 := hide hn189
  clear F174 F175 F176 F177 F178 F179 F180 F181 F182 hn189 ho188
  have p201 := cells_at0 F194.out
  have p202 := cells_at1 F194.out
  have p203 := cells_at0 F197.out
  have p204 := cells_at1 F197.out
  go_wp2_with fail
  clear p201 p202 p203 p204
  refine (markIntS_c _ l1 (1 + (l0.length : Int)) W14 _ F198.out (by omega) (by omega) (by omega)).mono ?_
  rintro e W15 ⟨rfl, hn206, ho205⟩
  have hz207 := ho205.size
  have F208 := hide (F191.out.trans (ho205.below w.heap.size (fun g hg => by have := B95.out g hg; omega) (by omega)))
  have F209 := hide (F192.out.below (ho205.below w.heap.size (fun g hg => by have := B95.out g hg; omega) (by omega)) (Nat.le_refl _))
  have F210 := hide (F193.out.below (ho205.below w.heap.size (fun g hg => by have := B95.out g hg; omega) (by omega)) (Nat.le_refl _))
  have F211 := hide ((ho205.block (w.heap.size) (by omega) (fun e => by have h1 := B95.out _ e; have h2 := L96.out _ e; omega)).trans F194.out)
  have F212 := hide (F195.out.other ho205 (fun g hg e => by have h1 := B95.out _ e; have h2 := L96.out _ e; have h3 := B54.out _ hg; have h4 := L55.out _ hg; omega))
  have F213 := hide (F200.out.other ho205 (fun g hg e => by have h1 := B95.out _ e; have h2 := L96.out _ e; have h3 := B69.out _ hg; have h4 := L70.out _ hg; omega))
  have F214 := hide ((ho205.block (W5.heap.size) (by omega) (fun e => by have h1 := B95.out _ e; have h2 := L96.out _ e; omega)).trans F197.out)
  have F216 := hide (F199.out.other ho205 (fun g hg e => by have h1 := B95.out _ e; have h2 := L96.out _ e; have h3 := B117.out _ hg; have h4 := L118.out _ hg; omega))
  have F217 := hide hn206
  clear F191 F192 F193 F194 F195 F200 F197 F198 F199 hn206 ho205
  have hneg3 : ¬ (1 + (l0.length : Int) + (l1.length : Int) < 0) := by omega
  have p218 := cells_at0 F211.out
  have p219 := cells_at1 F211.out
  have p220 := cells_at0 F214.out
  have p221 := cells_at1 F214.out
  go_wp2_with fail
  clear p218 p219 p220 p221
  refine (eqIntS_same_c _ _ R W15 (F216.out.ints) (F212.out.ints) hRL).mono ?_
  rintro e W16 ⟨rfl, hb222⟩
  have hz223 := hb222.size
  have F224 := hide (F208.out.trans (hb222.mono (by omega)))
  have F225 := hide (F209.out.below hb222 (by omega))
  have F226 := hide (F210.out.below hb222 (by omega))
  have F227 := hide ((hb222.block (w.heap.size) (by omega)).trans F211.out)
  have F228 := hide (F212.out.kept hb222)
  have F229 := hide (F213.out.kept hb222)
  have F230 := hide ((hb222.block (W5.heap.size) (by omega)).trans F214.out)
  have F231 := hide (F217.out.kept hb222)
  have F232 := hide (F216.out.kept hb222)
  clear hb222 F208 F209 F210 F211 F212 F213 F214 F217 F216
  have p233 := cells_at0 F227.out
  have p234 := cells_at1 F227.out
  have p235 := cells_at0 F230.out
  have p236 := cells_at1 F230.out
  go_wp2_with fail
  clear p233 p234 p235 p236
  refine (markIntS_c _ R (1) W16 _ F232.out (by omega) (by omega) (by omega)).mono ?_
  rintro e W17 ⟨rfl, hn238, ho237⟩
  have hz239 := ho237.size
  have F240 := hide (F224.out.trans (ho237.below w.heap.size (fun g hg => by have := B117.out g hg; omega) (by omega)))
  have F241 := hide (F225.out.below (ho237.below w.heap.size (fun g hg => by have := B117.out g hg; omega) (by omega)) (Nat.le_refl _))
  have F242 := hide (F226.out.below (ho237.below w.heap.size (fun g hg => by have := B117.out g hg; omega) (by omega)) (Nat.le_refl _))
  have F243 := hide ((ho237.block (w.heap.size) (by omega) (fun e => by have h1 := B117.out _ e; have h2 := L118.out _ e; omega)).trans F227.out)
  have F244 := hide (F228.out.other ho237 (fun g hg e => by have h1 := B117.out _ e; have h2 := L118.out _ e; have h3 := B54.out _ hg; have h4 := L55.out _ hg; omega))
  have F245 := hide (F229.out.other ho237 (fun g hg e => by have h1 := B117.out _ e; have h2 := L118.out _ e; have h3 := B69.out _ hg; have h4 := L70.out _ hg; omega))
  have F246 := hide ((ho237.block (W5.heap.size) (by omega) (fun e => by have h1 := B117.out _ e; have h2 := L118.out _ e; omega)).trans F230.out)
  have F247 := hide (F231.out.other ho237 (fun g hg e => by have h1 := B117.out _ e; have h2 := L118.out _ e; have h3 := B95.out _ hg; have h4 := L96.out _ hg; omega))
  have F249 := hide hn238
  clear F224 F225 F226 F227 F228 F229 F230 F231 F232 hn238 ho237
  have p250 := cells_at0 F243.out
  have p251 := cells_at1 F243.out
  have p252 := cells_at0 F246.out
  have p253 := cells_at1 F246.out
  go_wp2_with fail
  clear p250 p251 p252 p253
  refine (heldIntS_c _ R.length 1 W17 (F249.out.ints) hRL (by omega) (by omega)).mono ?_
  rintro e _ ⟨rfl, rfl⟩
  clear F245
  clear B69 L70
  clear F247
  clear B95 L96
  have p254 := cells_at0 F243.out
  have p255 := cells_at1 F243.out
  have p256 := cells_at0 F246.out
  have p257 := cells_at1 F246.out
  go_wp2_with fail
  clear p254 p255 p256 p257
  refine (toSpace_c n0 v0 l0 W17 (F241.out.mono (by omega)) (by omega)).mono ?_
  rintro e W18 ⟨g258, rfl, hg259, hk260, hb261⟩
  have hz262 := hb261.size
  have F263 := hide (F240.out.trans (hb261.mono (by omega)))
  have F264 := hide (F241.out.below hb261 (by omega))
  have F265 := hide (F242.out.below hb261 (by omega))
  have F266 := hide ((hb261.block (w.heap.size) (by omega)).trans F243.out)
  have F267 := hide (F244.out.kept hb261)
  have F268 := hide ((hb261.block (W5.heap.size) (by omega)).trans F246.out)
  have F269 := hide (F249.out.kept hb261)
  have F270 := hide (hk260.own hg259 (by unfold maxLen; omega))
  have B271 := hide (F270.out.base)
  have L272 := hide (F270.out.blockLt)
  clear hb261 F240 F241 F242 F243 F244 F246 F249 hk260 hg259
  have p273 := cells_at0 F266.out
  have p274 := cells_at1 F266.out
  have p275 := cells_at0 F268.out
  have p276 := cells_at1 F268.out
  go_wp2_with fail
  clear p273 p274 p275 p276
  refine (toIntS_c v1 l1 W18 (F265.out.mono (by omega)) (by omega)).mono ?_
  rintro e W19 ⟨rfl, hk277, hb278⟩
  have hz279 := hb278.size
  have F280 := hide (F263.out.trans (hb278.mono (by omega)))
  have F281 := hide (F264.out.below hb278 (by omega))
  have F282 := hide (F265.out.below hb278 (by omega))
  have F283 := hide ((hb278.block (w.heap.size) (by omega)).trans F266.out)
  have F284 := hide (F267.out.kept hb278)
  have F285 := hide ((hb278.block (W5.heap.size) (by omega)).trans F268.out)
  have F286 := hide (F269.out.kept hb278)
  have F287 := hide (F270.out.kept hb278)
  have F288 := hide (hk277.own (Nat.le_refl _) (by unfold maxLen; omega))
  have B289 := hide (F288.out.base)
  have L290 := hide (F288.out.blockLt)
  clear hb278 F263 F264 F265 F266 F267 F268 F269 F270 hk277
  have p291 := cells_at0 F283.out
  have p292 := cells_at1 F283.out
  have p293 := cells_at0 F285.out
  have p294 := cells_at1 F285.out
  go_wp2_with fail
  clear p291 p292 p293 p294
  refine (implRandomWalk_c n0 _ l0 _ l1 W19 F287.out.ints (by omega) F288.out.ints (by omega) (HT.out.belowB HT.out F280.out (Nat.le_refl _))).mono ?_
  rw [HR.out, HO.out]
  rintro e W20 ⟨v295, rfl, ho296, hb297⟩
  have hz298 := hb297.size
  have F299 := hide (F280.out.trans (hb297.mono (by omega)))
  have F300 := hide (F281.out.below hb297 (by omega))
  have F301 := hide (F282.out.below hb297 (by omega))
  have F302 := hide ((hb297.block (w.heap.size) (by omega)).trans F283.out)
  have F303 := hide (F284.out.kept hb297)
  have F304 := hide ((hb297.block (W5.heap.size) (by omega)).trans F285.out)
  have F305 := hide (F286.out.kept hb297)
  have F306 := hide (F287.out.kept hb297)
  have F307 := hide (F288.out.kept hb297)
  obtain ⟨aa308, cc309, hv310⟩ := ho296.shape
  have F311 := hide (ho296)
  have B312 := hide (F311.out.base)
  have L313 := hide (F311.out.blockLt)
  clear hb297 F280 F281 F282 F283 F284 F285 F286 F287 F288 ho296
  subst hv310
  have p314 := cells_at0 F302.out
  have p315 := cells_at1 F302.out
  have p316 := cells_at0 F304.out
  have p317 := cells_at1 F304.out
  go_wp2_with fail
  clear p314 p315 p316 p317
  refine (eqIntS_same_c _ _ R W20 (F311.out.ints) (F303.out.ints) hRL).mono ?_
  rintro e W21 ⟨rfl, hb318⟩
  have hz319 := hb318.size
  have F320 := hide (F299.out.trans (hb318.mono (by omega)))
  have F321 := hide (F300.out.below hb318 (by omega))
  have F322 := hide (F301.out.below hb318 (by omega))
  have F323 := hide ((hb318.block (w.heap.size) (by omega)).trans F302.out)
  have F324 := hide (F303.out.kept hb318)
  have F325 := hide ((hb318.block (W5.heap.size) (by omega)).trans F304.out)
  have F326 := hide (F305.out.kept hb318)
  have F327 := hide (F306.out.kept hb318)
  have F328 := hide (F307.out.kept hb318)
  have F329 := hide (F311.out.kept hb318)
  clear hb318 F299 F300 F301 F302 F303 F304 F305 F306 F307 F311
  have p330 := cells_at0 F323.out
  have p331 := cells_at1 F323.out
  have p332 := cells_at0 F325.out
  have p333 := cells_at1 F325.out
  go_wp2_with fail
  clear p330 p331 p332 p333
  refine (heldIntS_c _ R.length 1 W21 (F326.out.ints) hRL (by omega) (by omega)).mono ?_
  rintro e _ ⟨rfl, rfl⟩
  have p334 := cells_at0 F323.out
  have p335 := cells_at1 F323.out
  have p336 := cells_at0 F325.out
  have p337 := cells_at1 F325.out
  go_wp2
  go_ret
  exact ⟨rfl, F320.out⟩

theorem ownK : ownKnob Tryd.prog.godebug = none := by kernel_rfl
theorem laidOut : laidOutB Tryd.prog = true := by kernel_rfl

/-- What a slice of int is, as it comes in. -/
theorem list_open {W : World} {v : Value} {l : List Int} (h : (v = .slice none 0 0 ∧ l = []) ∨ ∃ (a : Addr) (len c : Nat) (zs : List Int), v = .slice (some a) len c ∧ len ≤ zs.length ∧ len ≤ maxLen ∧ (∀ i, i < zs.length → W.cell? (a.add i) = some (.int .i64 (zs.getD i 0))) ∧ l = zs.take len) : ints W.heap.size W v l ∧ l.length ≤ 9223372036854775807 := by
  rcases h with ⟨rfl, rfl⟩ | ⟨x, len, c, zs, rfl, hlt, hm, hcell, rfl⟩
  · exact ⟨.inl ⟨rfl, none, 0, rfl⟩, by simp⟩
  · have htk : (zs.take len).length = len := by simp; omega
    refine ⟨?_, by unfold maxLen at hm; omega⟩
    rcases Nat.eq_zero_or_pos len with h0 | h0
    · subst h0
      exact .inl ⟨by simp, some x, c, rfl⟩
    · obtain ⟨b, off, rfl, hc⟩ := ints_at hcell (by omega)
      have hbl := block_lt_of_cell (hc 0 (by omega))
      refine .inr ⟨b, off, c, by rw [htk], hbl, hbl, fun j hj => ?_⟩
      rw [htk] at hj
      rw [hc j (by omega), List.getElem?_take, if_pos hj]
      rfl

/-- What a struct of an int and a slice of int is, as it comes in. -/
theorem space_open {H : Type} {enc : TypeId × Value → H} {W : World} {b0 : Nat} {v : Value} {d : DataW H} {p : List MemPlace}
    (hv : Value.okWide Tryd.prog W .any b0 27 v) (h : DataW.Trod enc Tryd.prog W 0 (fun _ => true) true 27 v d p) :
    ∃ (n : Int) (u : Value) (l : List Int), v = .agg #[.int .i64 n, u] ∧ ints W.heap.size W u l ∧ l.length ≤ 9223372036854775807 := by
  obtain ⟨v0, v1, y0, y1, m, rfl, rfl, rfl, hy0, hy1⟩ := open_agg2 Tryd.underlying27 (by kernel_rfl) (by kernel_rfl) hv h
  obtain ⟨n, e0, _, _⟩ := DataW.trod_int Tryd.underlying3 hy0
  simp at e0
  subst e0
  rcases open_ints Tryd.underlying25 Tryd.underlying3 (by kernel_rfl) hy1 with ⟨hcs, _⟩ | ⟨x, len, c, zs, hcs, _, hl, hm, hz, _, hcell, hwz⟩
  · simp at hcs
    subst hcs
    exact ⟨n, _, [], rfl, list_open (.inl ⟨rfl, rfl⟩)⟩
  · simp at hcs
    subst hcs
    have hz' : zs.length = c := by simpa using hz
    exact ⟨n, _, zs.take len, rfl, list_open (.inr ⟨x, len, c, zs, rfl, by omega, by unfold maxLen at hm ⊢; omega, hcell, rfl⟩)⟩

theorem slice_open {H : Type} {enc : TypeId × Value → H} {W : World} {b0 : Nat} {v : Value} {d : DataW H} {p : List MemPlace}
    (hv : Value.okWide Tryd.prog W .any b0 25 v) (h : DataW.Trod enc Tryd.prog W 0 (fun _ => true) true 25 v d p) :
    ∃ (l : List Int), ints W.heap.size W v l ∧ l.length ≤ 9223372036854775807 := by
  obtain ⟨a0, len0, cap0, rfl⟩ := okWide_slice Tryd.underlying25 hv
  obtain ⟨fuel, hf⟩ := h
  rcases open_ints Tryd.underlying25 Tryd.underlying3 (by kernel_rfl) hf with ⟨hcs, _⟩ | ⟨x, len, c, zs, hcs, _, hl, hm, hz, _, hcell, hwz⟩
  · simp [Value.cells] at hcs
    obtain ⟨rfl, rfl, rfl⟩ := hcs
    exact ⟨[], list_open (.inl ⟨rfl, rfl⟩)⟩
  · simp [Value.cells] at hcs
    obtain ⟨rfl, rfl, rfl⟩ := hcs
    have hz' : zs.length = cap0 := by simpa using hz
    exact ⟨zs.take len0, list_open (.inr ⟨x, len0, cap0, zs, rfl, by omega, by omega, hcell, rfl⟩)⟩


/-- What the card's condition gives: the table's cells. -/
theorem tab_of {W : World} (h : laidMetH Tryd.prog Rows.fnExactRandomWalkRow.laid W) : tab W := by
  rw [MakeChecks.laidMetH_plain _ _ _ (by kernel_rfl)] at h
  have h2 := h.tail
  have e : (Rows.laid_math_bits_deBruijn64tab : DataW Unit) = Lib.tabData .u8 (Lib.deBruijn64tab.map fun n : Nat => (n : Int)) := by kernel_rfl
  rw [e] at h2
  have hT := Lib.tabIs_of_head (g := 1) (t := 115) (e := 5) (n := 64) (by kernel_rfl) (by kernel_rfl) (by kernel_rfl) (by kernel_rfl) (by kernel_rfl) (by kernel_rfl) h2
  have hc : ∀ j, j < 64 → W.cell? ⟨1, j, none⟩ = some (.int .u8 (Lib.deBruijn64tab.getD j 0)) := by
    intro j hj
    have h3 := hT.cell (g := 1) (by kernel_rfl) j (by rw [show (Lib.deBruijn64tab.map fun n : Nat => (n : Int)).length = 64 by decide +kernel]; exact hj)
    rw [h3]
    have h4 : ∀ j, j < 64 → (Lib.deBruijn64tab.map fun n : Nat => (n : Int)).getD j 0 = (Lib.deBruijn64tab.getD j 0 : Int) := by decide +kernel
    rw [h4 j hj]
  exact ⟨block_lt_of_cell (hc 0 (by omega)), hc⟩
theorem door_met (os : Os) (args : Array Value) : laidMetH Tryd.prog Rows.fnExactRandomWalkRow.laid ((World.doorLaid Tryd.prog 400 os).forCall (fun _ _ => 0) ⟨#[], args, []⟩).memory :=
  laidMetH_of_parts3 (fuel := 8) (laidMet_of_run' 8 (by kernel_rfl) (by kernel_rfl)) (by kernel_rfl) (by kernel_rfl)

theorem lifted (os : Os) (started : os.Started) (H : Type) (enc : TypeId × Value → H) :
    ReturnsInHanded {} Tryd.checked os 7 .any (fun w args => (Rows.fnExactRandomWalkSpec.pre enc Tryd.prog Tryd.f7 [] false w args ∧ laidMetH Tryd.prog Rows.fnExactRandomWalkRow.laid w) ∧ sizedMet enc Tryd.prog Tryd.f7 (OpenSpec.ofChange Rows.fnExactRandomWalkSpec) false w args)
      (Rows.fnExactRandomWalkSpec.post enc Tryd.prog Tryd.f7 false true false false) := by
  refine returnsInHanded_of_change_and (C := Tryd.checked) (X := fun w _ => laidMetH Tryd.prog Rows.fnExactRandomWalkRow.laid w) (fun _ _ _ hh h => h.of_heap hh) ownK started (by kernel_rfl) Tryd.func7
    (ChangeSpec.witness_shaped (enc := enc) (C := Tryd.checked) (os := os) (X := fun w _ => laidMetH Tryd.prog Rows.fnExactRandomWalkRow.laid w) false (World.doorLaid Tryd.prog 400 os) #[.agg #[.int .i64 0, .slice none 0 0], .slice none 0 0] 8 rfl (World.shaped_of_RefB (by kernel_rfl) (by kernel_rfl)) (by kernel_rfl) (by kernel_rfl) (by kernel_rfl) (door_met os _)) ?_
  intro W base args ds gs before hval0 hW _ _ hL _
  have hTab := tab_of hL
  have hval : ∀ (j : Nat) t v, Tryd.f7.params[j]? = some t → args[j]? = some v → Value.okWide Tryd.prog W .any base t v := hval0
  have hW' := hW
  obtain ⟨p, q, hA0, hV, rfl, hfz, hnd⟩ := hW
  have hA : DataW.TrodAll enc Tryd.prog W 0 (fun _ => true) true Tryd.f7.params.toList args.toList ds p := hA0
  rw [Tryd.params7] at hA hval
  obtain ⟨v0, vs0, d0, ds0, p0, q0, hargs, rfl, rfl, t0, r0⟩ := trodAll_cons hA
  obtain ⟨v1, vs1, d1, ds1, p1, q1, rfl, rfl, rfl, t1, r1⟩ := trodAll_cons r0
  obtain ⟨rfl, rfl, rfl⟩ := trodAll_nil r1
  obtain rfl : args = #[v0, v1] := by cases args; simp_all
  obtain ⟨rfl, rfl⟩ := trodVars_none hV
  have k0 := t0
  have lt0 : ∀ x ∈ p0, x.block < W.heap.size := by obtain ⟨m, hm⟩ := k0; exact DataW.trod_lt m _ _ _ hm
  obtain ⟨n0, u0, l0, rfl, i0, e0⟩ := space_open (hval 0 27 v0 rfl rfl) t0
  have k1 := t1
  have lt1 : ∀ x ∈ p1, x.block < W.heap.size := by obtain ⟨m, hm⟩ := k1; exact DataW.trod_lt m _ _ _ hm
  obtain ⟨l1, i1, e1⟩ := slice_open (hval 1 25 v1 rfl rfl) t1
  clear hA0 hval0
  refine (law_c n0 u0 l0 v1 l1 W i0 e0 i1 e1 hTab).mono fun e W' ⟨he, bel⟩ => ?_
  subst he
  exact ⟨_, rfl, _, _, _, [], _, [], hW', trodAll_mk1 (shut_bool Tryd.underlying4 _), (trodAll_cons_mk (Below.trod laidOut (by kernel_rfl) (of_decide_eq_true (by kernel_rfl)) k0 bel lt0) (trodAll_cons_mk (Below.trod laidOut (by kernel_rfl) (of_decide_eq_true (by kernel_rfl)) k1 bel lt1) trodAll_mk0)), rfl, bel.frame _, fun h => by cases h⟩

set_option maxHeartbeats 4000000 in
theorem over : Rows.fnExactRandomWalkRow.holds Tryd.pinned (OpenSpec.ofChange Rows.fnExactRandomWalkSpec) :=
  OpenClaim.holds_of_wide 7 Tryd.f7 rfl rfl rfl rfl rfl rfl rfl ⟨rfl, rfl, rfl, rfl, rfl⟩ rfl rfl rfl rfl rfl (by as_aux_lemma => kernel_rfl) Tryd.func7 (by as_aux_lemma => kernel_rfl)
    (of_decide_eq_true (by as_aux_lemma => kernel_rfl)) (by unfold Func.isWrapper; first | (rw [if_pos (by decide +kernel)]; kernel_rfl) | (rw [if_neg (by decide +kernel)]; exact ⟨rfl, rfl⟩))
    (fun os started H enc _ => lifted os started H enc)

set_option maxHeartbeats 8000000 in
theorem proved : Rows.FnExactRandomWalkCardSaid :=
  Claim7.holds_tied_plain_at .later [] [.data, .data] true _ false
    over (fun _ h => by cases h) (by as_aux_lemma => kernel_rfl) (fun _ h => by cases h) fnExactRandomWalk_row_tie rfl ⟨rfl, rfl⟩ (by as_aux_lemma => kernel_rfl) rfl
    (fun f fn hf hfn => by
      obtain rfl : f = 7 := Option.some.inj ((show Tryd.prog.funcNamed "loop.example/g01137/laws.FnExactRandomWalk" = some 7 by as_aux_lemma => kernel_rfl).symm.trans hf) |>.symm
      obtain rfl : fn = Tryd.f7 := (Option.some.inj (Tryd.func7.symm.trans hfn)).symm
      exact ⟨by as_aux_lemma => kernel_rfl, fun j t ht => by
        rw [Tryd.params7] at ht
        have hm : t ∈ [27, 25] := by simpa using Array.mem_of_getElem? ht
        have hall : ([27, 25].all fun u => !Tryd.prog.wantsStandIn u) = true := by as_aux_lemma => kernel_rfl
        exact (show Tryd.prog.wantsStandIn t = false by simpa using List.all_eq_true.1 hall t hm)⟩)
    (by as_aux_lemma => kernel_rfl)
#print axioms proved
end Go.Proofs.YtcokdhmccokkiaaDoor.FRandomWalk
