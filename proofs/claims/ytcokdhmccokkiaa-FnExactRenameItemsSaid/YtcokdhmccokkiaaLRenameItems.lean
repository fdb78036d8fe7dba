/- The program's RenameItems answers as the specification's does, at every argument, leaves its arguments as they are, and its answer owns its memory: no condition. -/
import Derived.Test.YtcokdhmccokkiaaRows
import Derived.Test.YtcokdhmccokkiaaRe
import Derived.Test.YtcokdhmccokkiaaHar
import Derived.ProofKit
import Derived.OpenShut
import Derived.Lib.SmallJoins
namespace Go.Proofs.Ytcokdhmccokkiaa.FRenameItems
open Go.ChangeShapes Go.WideShapes Go.ChangeAt Go.RowKit Go.Joins
set_option linter.unusedVariables false
set_option maxRecDepth 100000

set_option maxHeartbeats 4000000 in
theorem law_c (n0 : Int) (v0 : Value) (l0 : List Int) (v1 : Value) (l1 : List Int) (w : World) (h0 : ints w.heap.size w v0 l0) (hlen0 : l0.length ≤ 9223372036854775807) (h1 : ints w.heap.size w v1 l1) (hlen1 : l1.length ≤ 9223372036854775807) :
    Calls Try.prog 12 #[.agg #[.int .i64 n0, v0], v1] w fun e w' => e = .returned (.bool true) ∧ Below w.heap.size w w' := by
  have hRL := rmL_len n0 l0 l1
  generalize hN : rmN n0 l0 l1 = N
  generalize hR : rmL n0 l0 l1 = R at hRL
  generalize hO : rmB n0 l0 l1 = ok
  have HN := hide hN
  have HR := hide hR
  have HO := hide hO
  clear hN hR hO
  have F1 := hide (((Below.refl w.heap.size w).alloc (Nat.le_refl _) (.cells #[.int .i64 n0, v0] 38)))
  have F2 := hide ((h0.alloc (.cells #[.int .i64 n0, v0] 38)))
  have F3 := hide ((h1.alloc (.cells #[.int .i64 n0, v0] 38)))
  have F4 := hide (show (w.alloc (.cells #[.int .i64 n0, v0] 38)).heap[w.heap.size]? = some (.cells #[.int .i64 n0, v0] 38) from (by have := hp_last w (.cells #[.int .i64 n0, v0] 38); simpa using this))
  have HZ0 := hide (show (w.alloc (.cells #[.int .i64 n0, v0] 38)).heap.size = w.heap.size + 1 by simp)
  clear h0 h1
  by_cases big1 : (1048576 : Int) < (l1.length : Int)
  · have big1n : 1048576 < l1.length := by omega
    go_enter Try.func12, Try.ntmps12
    go_wp2_with (first | (refine wpList_len sliceT rfl (.tmp _) rfl v1 rfl w.heap.size l1 F3.out ?_))
    go_ret
    exact ⟨rfl, F1.out⟩
  have big1n : ¬ 1048576 < l1.length := by omega
  have big1d : decide (1048576 < l1.length) = false := by simp; omega
  have hsz0 : szOf 1048576 l0.length = -1 ∨ (0 ≤ szOf 1048576 l0.length ∧ szOf 1048576 l0.length ≤ 1048576 ∧ l0.length ≤ 1048576) := by unfold szOf; split <;> omega
  generalize hq0 : szOf 1048576 l0.length = q0 at hsz0
  have HQ0 := hide hq0
  clear hq0
  rcases hsz0 with hbig0 | ⟨hq0a, hq0b, hq0c⟩
  · have HBIG := hide hbig0
    have hneg : q0 < 0 := by omega
    clear hbig0
    go_enter Try.func12, Try.ntmps12
    go_wp2_with (first | (refine wpList_len sliceT rfl (.tmp _) rfl v1 rfl w.heap.size l1 F3.out ?_))
    generalize hX : (w.alloc (.cells #[.int .i64 n0, v0] 38)) = W0 at F1 F2 F3 F4 HZ0 ⊢
    have hz0 := Nat.le_of_eq HZ0.out.symm
    clear hX HZ0
    refine (szSpace_c n0 v0 l0 (1048576) W0 (F2.out.mono (by omega)) hlen0 (by omega) (by omega)).mono ?_
    rw [HQ0.out]
    rintro e W1 ⟨rfl, hb5⟩
    have hz6 := hb5.size
    have F7 := hide (F1.out.trans (hb5.mono (by omega)))
    have F8 := hide (F2.out.below hb5 (by omega))
    have F9 := hide (F3.out.below hb5 (by omega))
    have F10 := hide ((hb5.block (w.heap.size) (by omega)).trans F4.out)
    clear hb5 F1 F2 F3 F4
    go_wp2
    go_ret
    exact ⟨rfl, F7.out⟩
  have hneg0 : ¬ q0 < 0 := by omega
  go_enter Try.func12, Try.ntmps12
  go_wp2_with (first | (refine wpList_len sliceT rfl (.tmp _) rfl v1 rfl w.heap.size l1 F3.out ?_))
  generalize hX : (w.alloc (.cells #[.int .i64 n0, v0] 38)) = W0 at F1 F2 F3 F4 HZ0 ⊢
  have hz0 := Nat.le_of_eq HZ0.out.symm
  clear hX HZ0
  refine (szSpace_c n0 v0 l0 (1048576) W0 (F2.out.mono (by omega)) hlen0 (by omega) (by omega)).mono ?_
  rw [HQ0.out]
  rintro e W1 ⟨rfl, hb5⟩
  have hz6 := hb5.size
  have F7 := hide (F1.out.trans (hb5.mono (by omega)))
  have F8 := hide (F2.out.below hb5 (by omega))
  have F9 := hide (F3.out.below hb5 (by omega))
  have F10 := hide ((hb5.block (w.heap.size) (by omega)).trans F4.out)
  clear hb5 F1 F2 F3 F4
  have hneg2 : ¬ (1 + (R.length : Int) < 0) := by omega
  have p11 := cells_at0 F10.out
  have p12 := cells_at1 F10.out
  go_wp2_with fail
  clear p11 p12
  refine (toSpace_c n0 v0 l0 W1 (F8.out.mono (by omega)) (by omega)).mono ?_
  rintro e W2 ⟨g13, rfl, hg14, hk15, hb16⟩
  have hz17 := hb16.size
  have F18 := hide (F7.out.trans (hb16.mono (by omega)))
  have F19 := hide (F8.out.below hb16 (by omega))
  have F20 := hide (F9.out.below hb16 (by omega))
  have F21 := hide ((hb16.block (w.heap.size) (by omega)).trans F10.out)
  have F22 := hide (hk15.own hg14 (by unfold maxLen; omega))
  have B23 := hide (F22.out.base)
  have L24 := hide (F22.out.blockLt)
  clear hb16 F7 F8 F9 F10 hk15 hg14
  have p25 := cells_at0 F21.out
  have p26 := cells_at1 F21.out
  go_wp2_with fail
  clear p25 p26
  refine (toIntS_c v1 l1 W2 (F20.out.mono (by omega)) (by omega)).mono ?_
  rintro e W3 ⟨rfl, hk27, hb28⟩
  have hz29 := hb28.size
  have F30 := hide (F18.out.trans (hb28.mono (by omega)))
  have F31 := hide (F19.out.below hb28 (by omega))
  have F32 := hide (F20.out.below hb28 (by omega))
  have F33 := hide ((hb28.block (w.heap.size) (by omega)).trans F21.out)
  have F34 := hide (F22.out.kept hb28)
  have F35 := hide (hk27.own (Nat.le_refl _) (by unfold maxLen; omega))
  have B36 := hide (F35.out.base)
  have L37 := hide (F35.out.blockLt)
  clear hb28 F18 F19 F20 F21 F22 hk27
  have p38 := cells_at0 F33.out
  have p39 := cells_at1 F33.out
  go_wp2_with fail
  clear p38 p39
  refine (specRenameItems_c n0 _ l0 _ l1 W3 F34.out.ints (by omega) _ F35.out (by omega)).mono ?_
  rw [HN.out, HR.out, HO.out]
  rintro e W4 ⟨v40, rfl, ho41, hb42⟩
  have hz43 := hb42.size
  have F44 := hide (F30.out.trans (hb42.mono (by omega)))
  have F45 := hide (F31.out.below hb42 (by omega))
  have F46 := hide (F32.out.below hb42 (by omega))
  have F47 := hide ((hb42.block (w.heap.size) (by omega)).trans F33.out)
  have F48 := hide (F34.out.kept hb42)
  have F49 := hide (F35.out.kept hb42)
  obtain ⟨aa50, cc51, hv52⟩ := ho41.shape
  have F53 := hide (ho41)
  have B54 := hide (F53.out.base)
  have L55 := hide (F53.out.blockLt)
  clear hb42 F30 F31 F32 F33 F34 F35 ho41
  subst hv52
  clear F48
  clear B23 L24
  clear F49
  clear B36 L37
  have F56 := hide (F44.out.alloc (by omega) (.cells #[.int .i64 N, .slice aa50 R.length cc51] 32))
  have F57 := hide (F45.out.alloc (.cells #[.int .i64 N, .slice aa50 R.length cc51] 32))
  have F58 := hide (F46.out.alloc (.cells #[.int .i64 N, .slice aa50 R.length cc51] 32))
  have F59 := hide ((hp_old W4 (.cells #[.int .i64 N, .slice aa50 R.length cc51] 32) (w.heap.size) (by omega)).trans F47.out)
  have F60 := hide (F53.out.alloc (.cells #[.int .i64 N, .slice aa50 R.length cc51] 32))
  have F61 := hide (hp_last W4 (.cells #[.int .i64 N, .slice aa50 R.length cc51] 32))
  have HZ62 := hide (show (W4.alloc (.cells #[.int .i64 N, .slice aa50 R.length cc51] 32)).heap.size = W4.heap.size + 1 by simp)
  clear F44 F45 F46 F47 F53
  have p63 := cells_at0 F59.out
  have p64 := cells_at1 F59.out
  have p65 := cells_at0 F61.out
  have p66 := cells_at1 F61.out
  go_wp2_with fail
  clear p63 p64 p65 p66
  generalize hX : W4.alloc (.cells #[.int .i64 N, .slice aa50 R.length cc51] 32) = W5 at F56 F57 F58 F59 F60 F61 HZ62 ⊢
  have hz67 := Nat.le_of_eq HZ62.out.symm
  clear hX HZ62
  refine (toSpace_c n0 v0 l0 W5 (F57.out.mono (by omega)) (by omega)).mono ?_
  rintro e W6 ⟨g68, rfl, hg69, hk70, hb71⟩
  have hz72 := hb71.size
  have F73 := hide (F56.out.trans (hb71.mono (by omega)))
  have F74 := hide (F57.out.below hb71 (by omega))
  have F75 := hide (F58.out.below hb71 (by omega))
  have F76 := hide ((hb71.block (w.heap.size) (by omega)).trans F59.out)
  have F77 := hide (F60.out.kept hb71)
  have F78 := hide ((hb71.block (W4.heap.size) (by omega)).trans F61.out)
  have F79 := hide (hk70.own hg69 (by unfold maxLen; omega))
  have B80 := hide (F79.out.base)
  have L81 := hide (F79.out.blockLt)
  clear hb71 F56 F57 F58 F59 F60 F61 hk70 hg69
  have F82 := hide (F73.out.alloc (by omega) (.cells #[.int .i64 n0, .slice (some ⟨g68, 0, none⟩) l0.length l0.length] 32))
  have F83 := hide (F74.out.alloc (.cells #[.int .i64 n0, .slice (some ⟨g68, 0, none⟩) l0.length l0.length] 32))
  have F84 := hide (F75.out.alloc (.cells #[.int .i64 n0, .slice (some ⟨g68, 0, none⟩) l0.length l0.length] 32))
  have F85 := hide ((hp_old W6 (.cells #[.int .i64 n0, .slice (some ⟨g68, 0, none⟩) l0.length l0.length] 32) (w.heap.size) (by omega)).trans F76.out)
  have F86 := hide (F77.out.alloc (.cells #[.int .i64 n0, .slice (some ⟨g68, 0, none⟩) l0.length l0.length] 32))
  have F87 := hide ((hp_old W6 (.cells #[.int .i64 n0, .slice (some ⟨g68, 0, none⟩) l0.length l0.length] 32) (W4.heap.size) (by omega)).trans F78.out)
  have F88 := hide (F79.out.alloc (.cells #[.int .i64 n0, .slice (some ⟨g68, 0, none⟩) l0.length l0.length] 32))
  have F89 := hide (hp_last W6 (.cells #[.int .i64 n0, .slice (some ⟨g68, 0, none⟩) l0.length l0.length] 32))
  have HZ90 := hide (show (W6.alloc (.cells #[.int .i64 n0, .slice (some ⟨g68, 0, none⟩) l0.length l0.length] 32)).heap.size = W6.heap.size + 1 by simp)
  clear F73 F74 F75 F76 F77 F78 F79
  have p91 := cells_at0 F85.out
  have p92 := cells_at1 F85.out
  have p93 := cells_at0 F87.out
  have p94 := cells_at1 F87.out
  have p95 := cells_at0 F89.out
  have p96 := cells_at1 F89.out
  go_wp2_with fail
  clear p91 p92 p93 p94 p95 p96
  generalize hX : W6.alloc (.cells #[.int .i64 n0, .slice (some ⟨g68, 0, none⟩) l0.length l0.length] 32) = W7 at F82 F83 F84 F85 F86 F87 F88 F89 HZ90 ⊢
  have hz97 := Nat.le_of_eq HZ90.out.symm
  clear hX HZ90
  refine (toIntS_c v1 l1 W7 (F84.out.mono (by omega)) (by omega)).mono ?_
  rintro e W8 ⟨rfl, hk98, hb99⟩
  have hz100 := hb99.size
  have F101 := hide (F82.out.trans (hb99.mono (by omega)))
  have F102 := hide (F83.out.below hb99 (by omega))
  have F103 := hide (F84.out.below hb99 (by omega))
  have F104 := hide ((hb99.block (w.heap.size) (by omega)).trans F85.out)
  have F105 := hide (F86.out.kept hb99)
  have F106 := hide ((hb99.block (W4.heap.size) (by omega)).trans F87.out)
  have F107 := hide (F88.out.kept hb99)
  have F108 := hide ((hb99.block (W6.heap.size) (by omega)).trans F89.out)
  have F109 := hide (hk98.own (Nat.le_refl _) (by unfold maxLen; omega))
  have B110 := hide (F109.out.base)
  have L111 := hide (F109.out.blockLt)
  clear hb99 F82 F83 F84 F85 F86 F87 F88 F89 hk98
  have p112 := cells_at0 F104.out
  have p113 := cells_at1 F104.out
  have p114 := cells_at0 F106.out
  have p115 := cells_at1 F106.out
  have p116 := cells_at0 F108.out
  have p117 := cells_at1 F108.out
  go_wp2_with fail
  clear p112 p113 p114 p115 p116 p117
  refine (implRenameItems_c n0 _ l0 _ l1 W8 F107.out.ints (by omega) _ F109.out (by omega)).mono ?_
  rw [HN.out, HR.out, HO.out]
  rintro e W9 ⟨v118, rfl, ho119, hb120⟩
  have hz121 := hb120.size
  have F122 := hide (F101.out.trans (hb120.mono (by omega)))
  have F123 := hide (F102.out.below hb120 (by omega))
  have F124 := hide (F103.out.below hb120 (by omega))
  have F125 := hide ((hb120.block (w.heap.size) (by omega)).trans F104.out)
  have F126 := hide (F105.out.kept hb120)
  have F127 := hide ((hb120.block (W4.heap.size) (by omega)).trans F106.out)
  have F128 := hide (F107.out.kept hb120)
  have F129 := hide ((hb120.block (W6.heap.size) (by omega)).trans F108.out)
  have F130 := hide (F109.out.kept hb120)
  obtain ⟨aa131, cc132, hv133⟩ := ho119.shape
  have F134 := hide (ho119)
  have B135 := hide (F134.out.base)
  have L136 := hide (F134.out.blockLt)
  clear hb120 F101 F102 F103 F104 F105 F106 F107 F108 F109 ho119
  subst hv133
  have F137 := hide (F122.out.alloc (by omega) (.cells #[.int .i64 N, .slice aa131 R.length cc132] 32))
  have F138 := hide (F123.out.alloc (.cells #[.int .i64 N, .slice aa131 R.length cc132] 32))
  have F139 := hide (F124.out.alloc (.cells #[.int .i64 N, .slice aa131 R.length cc132] 32))
  have F140 := hide ((hp_old W9 (.cells #[.int .i64 N, .slice aa131 R.length cc132] 32) (w.heap.size) (by omega)).trans F125.out)
  have F141 := hide (F126.out.alloc (.cells #[.int .i64 N, .slice aa131 R.length cc132] 32))
  have F142 := hide ((hp_old W9 (.cells #[.int .i64 N, .slice aa131 R.length cc132] 32) (W4.heap.size) (by omega)).trans F127.out)
  have F143 := hide (F128.out.alloc (.cells #[.int .i64 N, .slice aa131 R.length cc132] 32))
  have F144 := hide ((hp_old W9 (.cells #[.int .i64 N, .slice aa131 R.length cc132] 32) (W6.heap.size) (by omega)).trans F129.out)
  have F145 := hide (F130.out.alloc (.cells #[.int .i64 N, .slice aa131 R.length cc132] 32))
  have F146 := hide (F134.out.alloc (.cells #[.int .i64 N, .slice aa131 R.length cc132] 32))
  have F147 := hide (hp_last W9 (.cells #[.int .i64 N, .slice aa131 R.length cc132] 32))
  have HZ148 := hide (show (W9.alloc (.cells #[.int .i64 N, .slice aa131 R.length cc132] 32)).heap.size = W9.heap.size + 1 by simp)
  clear F122 F123 F124 F125 F126 F127 F128 F129 F130 F134
  have p149 := cells_at0 F140.out
  have p150 := cells_at1 F140.out
  have p151 := cells_at0 F142.out
  have p152 := cells_at1 F142.out
  have p153 := cells_at0 F144.out
  have p154 := cells_at1 F144.out
  have p155 := cells_at0 F147.out
  have p156 := cells_at1 F147.out
  go_wp2_with fail
  clear p149 p150 p151 p152 p153 p154 p155 p156
  generalize hX : W9.alloc (.cells #[.int .i64 N, .slice aa131 R.length cc132] 32) = W10 at F137 F138 F139 F140 F141 F142 F143 F144 F145 F146 F147 HZ148 ⊢
  have hz157 := Nat.le_of_eq HZ148.out.symm
  clear hX HZ148
  refine (eqSpace_same_c N _ _ R W10 (F146.out.ints) (F141.out.ints) hRL).mono ?_
  rintro e W11 ⟨rfl, hb158⟩
  have hz159 := hb158.size
  have F160 := hide (F137.out.trans (hb158.mono (by omega)))
  have F161 := hide (F138.out.below hb158 (by omega))
  have F162 := hide (F139.out.below hb158 (by omega))
  have F163 := hide ((hb158.block (w.heap.size) (by omega)).trans F140.out)
  have F164 := hide (F141.out.kept hb158)
  have F165 := hide ((hb158.block (W4.heap.size) (by omega)).trans F142.out)
  have F166 := hide (F143.out.kept hb158)
  have F167 := hide ((hb158.block (W6.heap.size) (by omega)).trans F144.out)
  have F168 := hide (F145.out.kept hb158)
  have F169 := hide (F146.out.kept hb158)
  have F170 := hide ((hb158.block (W9.heap.size) (by omega)).trans F147.out)
  clear hb158 F137 F138 F139 F140 F141 F142 F143 F144 F145 F146 F147
  have p171 := cells_at0 F163.out
  have p172 := cells_at1 F163.out
  have p173 := cells_at0 F165.out
  have p174 := cells_at1 F165.out
  have p175 := cells_at0 F167.out
  have p176 := cells_at1 F167.out
  have p177 := cells_at0 F170.out
  have p178 := cells_at1 F170.out
  go_wp2
  clear p171 p172 p173 p174 p175 p176 p177 p178
  refine wp_region_held (S := Below W11.heap.size W11) (by kernel_rfl) ?_
  have hS : Below W11.heap.size W11 { W11 with drawn := W11.drawn + 1 } := (Below.refl _ _).drew
  refine wpAnyH_take (i := 0) rfl (by kernel_rfl) (by kernel_rfl) (by kernel_rfl) (fun _ _ _ h => h) (yields_load_two rowSp sizeSp rfl (.tmp _) rfl _ rfl _ _ (fun w' h => (h.cell (p := ⟨W6.heap.size, 0, none⟩) (by show W6.heap.size < _; omega)).trans (cells_at0 F167.out)) (fun w' h => (h.cell (p := ⟨W6.heap.size, 1, none⟩) (by show W6.heap.size < _; omega)).trans (cells_at1 F167.out))) hS ?_
  refine wpAnyH_take (i := 1) rfl (by kernel_rfl) (by kernel_rfl) (by kernel_rfl) (fun _ _ _ h => h) (yields_load_two rowSl sizeSl rfl (.tmp _) rfl _ rfl _ _ (fun w' h => (h.cell (p := ⟨w.heap.size, 0, none⟩) (by show w.heap.size < _; omega)).trans (cells_at0 F163.out)) (fun w' h => (h.cell (p := ⟨w.heap.size, 1, none⟩) (by show w.heap.size < _; omega)).trans (cells_at1 F163.out))) hS ?_
  refine anyH_call (i := 2) (by kernel_rfl) rfl rfl 27 ent_toSpace _ _ rfl #[.agg #[.int .i64 n0, v0]] rfl (toSpace_c n0 v0 l0 _ ((F161.out.below hS (by omega)).mono (show w.heap.size ≤ W11.heap.size by omega)) (by omega)) ?_
  rintro e W12 ⟨g179, rfl, hgr, hkr, hbr⟩
  have hzr : W11.heap.size ≤ W12.heap.size := hbr.size
  have hS6 : Below W11.heap.size W11 W12 := hS.trans hbr
  refine ⟨_, rfl, hS6, ?_⟩
  refine anyH_call (i := 3) (by kernel_rfl) rfl rfl 22 ent_eqSpace _ _ rfl #[.agg #[.int .i64 n0, .slice (some ⟨g68, 0, none⟩) l0.length l0.length], .agg #[.int .i64 n0, .slice (some ⟨g179, 0, none⟩) l0.length l0.length]] rfl (eqSpace_same_c n0 _ _ l0 W12 ((F166.out.kept hS6).ints) (hkr.ints _) (by omega)) ?_
  rintro e W13 ⟨rfl, hbs⟩
  have hS7 : Below W11.heap.size W11 W13 := hS6.trans (hbs.mono hzr)
  refine ⟨_, rfl, hS7, ?_⟩
  refine anyH_op (i := 4) (by kernel_rfl) rfl rfl (.bool false) W13 ?hq hS7 ?_
  case hq => simp [go_sem, Act.put]
  refine wpAnyH_done (by kernel_rfl) ?_ _
  simp only [Act.put, List.getElem_toArray, List.getElem_cons_zero, List.getElem_cons_succ, List.setIfInBounds_toArray, List.set_cons_zero, List.set_cons_succ]
  have hz180 : W11.heap.size ≤ W13.heap.size := hS7.size
  have F181 := hide (F160.out.trans (hS7.mono (by omega)))
  have F182 := hide (F161.out.below hS7 (by omega))
  have F183 := hide (F162.out.below hS7 (by omega))
  have F184 := hide ((hS7.block (w.heap.size) (by omega)).trans F163.out)
  have F185 := hide (F164.out.kept hS7)
  have F186 := hide ((hS7.block (W4.heap.size) (by omega)).trans F165.out)
  have F187 := hide (F166.out.kept hS7)
  have F188 := hide ((hS7.block (W6.heap.size) (by omega)).trans F167.out)
  have F189 := hide (F168.out.kept hS7)
  have F190 := hide (F169.out.kept hS7)
  have F191 := hide ((hS7.block (W9.heap.size) (by omega)).trans F170.out)
  clear hS hS6 hS7 hbr hbs hkr hgr hzr F160 F161 F162 F163 F164 F165 F166 F167 F168 F169 F170
  have p192 := cells_at0 F184.out
  have p193 := cells_at1 F184.out
  have p194 := cells_at0 F186.out
  have p195 := cells_at1 F186.out
  have p196 := cells_at0 F188.out
  have p197 := cells_at1 F188.out
  have p198 := cells_at0 F191.out
  have p199 := cells_at1 F191.out
  go_wp2_with fail
  clear p192 p193 p194 p195 p196 p197 p198 p199
  refine (toIntS_c v1 l1 W13 (F183.out.mono (by omega)) (by omega)).mono ?_
  rintro e W14 ⟨rfl, hk200, hb201⟩
  have hz202 := hb201.size
  have F203 := hide (F181.out.trans (hb201.mono (by omega)))
  have F204 := hide (F182.out.below hb201 (by omega))
  have F205 := hide (F183.out.below hb201 (by omega))
  have F206 := hide ((hb201.block (w.heap.size) (by omega)).trans F184.out)
  have F207 := hide (F185.out.kept hb201)
  have F208 := hide ((hb201.block (W4.heap.size) (by omega)).trans F186.out)
  have F209 := hide (F187.out.kept hb201)
  have F210 := hide ((hb201.block (W6.heap.size) (by omega)).trans F188.out)
  have F211 := hide (F189.out.kept hb201)
  have F212 := hide (F190.out.kept hb201)
  have F213 := hide ((hb201.block (W9.heap.size) (by omega)).trans F191.out)
  have F214 := hide (hk200.own (Nat.le_refl _) (by unfold maxLen; omega))
  have B215 := hide (F214.out.base)
  have L216 := hide (F214.out.blockLt)
  clear hb201 F181 F182 F183 F184 F185 F186 F187 F188 F189 F190 F191 hk200
  have p217 := cells_at0 F206.out
  have p218 := cells_at1 F206.out
  have p219 := cells_at0 F208.out
  have p220 := cells_at1 F208.out
  have p221 := cells_at0 F210.out
  have p222 := cells_at1 F210.out
  have p223 := cells_at0 F213.out
  have p224 := cells_at1 F213.out
  go_wp2_with fail
  clear p217 p218 p219 p220 p221 p222 p223 p224
  refine (eqIntS_same_c _ _ l1 W14 (F211.out.ints) (F214.out.ints) (by omega)).mono ?_
  rintro e W15 ⟨rfl, hb225⟩
  have hz226 := hb225.size
  have F227 := hide (F203.out.trans (hb225.mono (by omega)))
  have F228 := hide (F204.out.below hb225 (by omega))
  have F229 := hide (F205.out.below hb225 (by omega))
  have F230 := hide ((hb225.block (w.heap.size) (by omega)).trans F206.out)
  have F231 := hide (F207.out.kept hb225)
  have F232 := hide ((hb225.block (W4.heap.size) (by omega)).trans F208.out)
  have F233 := hide (F209.out.kept hb225)
  have F234 := hide ((hb225.block (W6.heap.size) (by omega)).trans F210.out)
  have F235 := hide (F211.out.kept hb225)
  have F236 := hide (F212.out.kept hb225)
  have F237 := hide ((hb225.block (W9.heap.size) (by omega)).trans F213.out)
  have F238 := hide (F214.out.kept hb225)
  clear hb225 F203 F204 F205 F206 F207 F208 F209 F210 F211 F212 F213 F214
  clear F238
  clear B215 L216
  have p239 := cells_at0 F230.out
  have p240 := cells_at1 F230.out
  have p241 := cells_at0 F232.out
  have p242 := cells_at1 F232.out
  have p243 := cells_at0 F234.out
  have p244 := cells_at1 F234.out
  have p245 := cells_at0 F237.out
  have p246 := cells_at1 F237.out
  go_wp2_with fail
  clear p239 p240 p241 p242 p243 p244 p245 p246
  refine (markSpace_c n0 _ l0 (1) W15 _ F233.out (by omega) (by omega) (by omega)).mono ?_
  rintro e W16 ⟨rfl, hn248, ho247⟩
  have hz249 := ho247.size
  have F250 := hide (F227.out.trans (ho247.below w.heap.size (fun g hg => by have := B80.out g hg; omega) (by omega)))
  have F251 := hide (F228.out.below (ho247.below w.heap.size (fun g hg => by have := B80.out g hg; omega) (by omega)) (Nat.le_refl _))
  have F252 := hide (F229.out.below (ho247.below w.heap.size (fun g hg => by have := B80.out g hg; omega) (by omega)) (Nat.le_refl _))
  have F253 := hide ((ho247.block (w.heap.size) (by omega) (fun e => by have h1 := B80.out _ e; have h2 := L81.out _ e; omega)).trans F230.out)
  have F254 := hide (F231.out.other ho247 (fun g hg e => by have h1 := B80.out _ e; have h2 := L81.out _ e; have h3 := B54.out _ hg; have h4 := L55.out _ hg; omega))
  have F255 := hide ((ho247.block (W4.heap.size) (by omega) (fun e => by have h1 := B80.out _ e; have h2 := L81.out _ e; omega)).trans F232.out)
  have F257 := hide ((ho247.block (W6.heap.size) (by omega) (fun e => by have h1 := B80.out _ e; have h2 := L81.out _ e; omega)).trans F234.out)
  have F258 := hide (F235.out.other ho247 (fun g hg e => by have h1 := B80.out _ e; have h2 := L81.out _ e; have h3 := B110.out _ hg; have h4 := L111.out _ hg; omega))
  have F259 := hide (F236.out.other ho247 (fun g hg e => by have h1 := B80.out _ e; have h2 := L81.out _ e; have h3 := B135.out _ hg; have h4 := L136.out _ hg; omega))
  have F260 := hide ((ho247.block (W9.heap.size) (by omega) (fun e => by have h1 := B80.out _ e; have h2 := L81.out _ e; omega)).trans F237.out)
  have F261 := hide hn248
  clear F227 F228 F229 F230 F231 F232 F233 F234 F235 F236 F237 hn248 ho247
  have p262 := cells_at0 F253.out
  have p263 := cells_at1 F253.out
  have p264 := cells_at0 F255.out
  have p265 := cells_at1 F255.out
  have p266 := cells_at0 F257.out
  have p267 := cells_at1 F257.out
  have p268 := cells_at0 F260.out
  have p269 := cells_at1 F260.out
  go_wp2_with fail
  clear p262 p263 p264 p265 p266 p267 p268 p269
  refine (markIntS_c _ l1 (1 + (l0.length : Int)) W16 _ F258.out (by omega) (by omega) (by omega)).mono ?_
  rintro e W17 ⟨rfl, hn271, ho270⟩
  have hz272 := ho270.size
  have F273 := hide (F250.out.trans (ho270.below w.heap.size (fun g hg => by have := B110.out g hg; omega) (by omega)))
  have F274 := hide (F251.out.below (ho270.below w.heap.size (fun g hg => by have := B110.out g hg; omega) (by omega)) (Nat.le_refl _))
  have F275 := hide (F252.out.below (ho270.below w.heap.size (fun g hg => by have := B110.out g hg; omega) (by omega)) (Nat.le_refl _))
  have F276 := hide ((ho270.block (w.heap.size) (by omega) (fun e => by have h1 := B110.out _ e; have h2 := L111.out _ e; omega)).trans F253.out)
  have F277 := hide (F254.out.other ho270 (fun g hg e => by have h1 := B110.out _ e; have h2 := L111.out _ e; have h3 := B54.out _ hg; have h4 := L55.out _ hg; omega))
  have F278 := hide ((ho270.block (W4.heap.size) (by omega) (fun e => by have h1 := B110.out _ e; have h2 := L111.out _ e; omega)).trans F255.out)
  have F279 := hide (F261.out.other ho270 (fun g hg e => by have h1 := B110.out _ e; have h2 := L111.out _ e; have h3 := B80.out _ hg; have h4 := L81.out _ hg; omega))
  have F280 := hide ((ho270.block (W6.heap.size) (by omega) (fun e => by have h1 := B110.out _ e; have h2 := L111.out _ e; omega)).trans F257.out)
  have F282 := hide (F259.out.other ho270 (fun g hg e => by have h1 := B110.out _ e; have h2 := L111.out _ e; have h3 := B135.out _ hg; have h4 := L136.out _ hg; omega))
  have F283 := hide ((ho270.block (W9.heap.size) (by omega) (fun e => by have h1 := B110.out _ e; have h2 := L111.out _ e; omega)).trans F260.out)
  have F284 := hide hn271
  clear F250 F251 F252 F253 F254 F255 F261 F257 F258 F259 F260 hn271 ho270
  have hneg3 : ¬ (1 + (l0.length : Int) + (l1.length : Int) < 0) := by omega
  have p285 := cells_at0 F276.out
  have p286 := cells_at1 F276.out
  have p287 := cells_at0 F278.out
  have p288 := cells_at1 F278.out
  have p289 := cells_at0 F280.out
  have p290 := cells_at1 F280.out
  have p291 := cells_at0 F283.out
  have p292 := cells_at1 F283.out
  go_wp2_with fail
  clear p285 p286 p287 p288 p289 p290 p291 p292
  refine (eqSpace_same_c N _ _ R W17 (F282.out.ints) (F277.out.ints) hRL).mono ?_
  rintro e W18 ⟨rfl, hb293⟩
  have hz294 := hb293.size
  have F295 := hide (F273.out.trans (hb293.mono (by omega)))
  have F296 := hide (F274.out.below hb293 (by omega))
  have F297 := hide (F275.out.below hb293 (by omega))
  have F298 := hide ((hb293.block (w.heap.size) (by omega)).trans F276.out)
  have F299 := hide (F277.out.kept hb293)
  have F300 := hide ((hb293.block (W4.heap.size) (by omega)).trans F278.out)
  have F301 := hide (F279.out.kept hb293)
  have F302 := hide ((hb293.block (W6.heap.size) (by omega)).trans F280.out)
  have F303 := hide (F284.out.kept hb293)
  have F304 := hide (F282.out.kept hb293)
  have F305 := hide ((hb293.block (W9.heap.size) (by omega)).trans F283.out)
  clear hb293 F273 F274 F275 F276 F277 F278 F279 F280 F284 F282 F283
  have p306 := cells_at0 F298.out
  have p307 := cells_at1 F298.out
  have p308 := cells_at0 F300.out
  have p309 := cells_at1 F300.out
  have p310 := cells_at0 F302.out
  have p311 := cells_at1 F302.out
  have p312 := cells_at0 F305.out
  have p313 := cells_at1 F305.out
  go_wp2_with fail
  clear p306 p307 p308 p309 p310 p311 p312 p313
  refine (markSpace_c N _ R (1) W18 _ F304.out (by omega) (by omega) (by omega)).mono ?_
  rintro e W19 ⟨rfl, hn315, ho314⟩
  have hz316 := ho314.size
  have F317 := hide (F295.out.trans (ho314.below w.heap.size (fun g hg => by have := B135.out g hg; omega) (by omega)))
  have F318 := hide (F296.out.below (ho314.below w.heap.size (fun g hg => by have := B135.out g hg; omega) (by omega)) (Nat.le_refl _))
  have F319 := hide (F297.out.below (ho314.below w.heap.size (fun g hg => by have := B135.out g hg; omega) (by omega)) (Nat.le_refl _))
  have F320 := hide ((ho314.block (w.heap.size) (by omega) (fun e => by have h1 := B135.out _ e; have h2 := L136.out _ e; omega)).trans F298.out)
  have F321 := hide (F299.out.other ho314 (fun g hg e => by have h1 := B135.out _ e; have h2 := L136.out _ e; have h3 := B54.out _ hg; have h4 := L55.out _ hg; omega))
  have F322 := hide ((ho314.block (W4.heap.size) (by omega) (fun e => by have h1 := B135.out _ e; have h2 := L136.out _ e; omega)).trans F300.out)
  have F323 := hide (F301.out.other ho314 (fun g hg e => by have h1 := B135.out _ e; have h2 := L136.out _ e; have h3 := B80.out _ hg; have h4 := L81.out _ hg; omega))
  have F324 := hide ((ho314.block (W6.heap.size) (by omega) (fun e => by have h1 := B135.out _ e; have h2 := L136.out _ e; omega)).trans F302.out)
  have F325 := hide (F303.out.other ho314 (fun g hg e => by have h1 := B135.out _ e; have h2 := L136.out _ e; have h3 := B110.out _ hg; have h4 := L111.out _ hg; omega))
  have F327 := hide ((ho314.block (W9.heap.size) (by omega) (fun e => by have h1 := B135.out _ e; have h2 := L136.out _ e; omega)).trans F305.out)
  have F328 := hide hn315
  clear F295 F296 F297 F298 F299 F300 F301 F302 F303 F304 F305 hn315 ho314
  have p329 := cells_at0 F320.out
  have p330 := cells_at1 F320.out
  have p331 := cells_at0 F322.out
  have p332 := cells_at1 F322.out
  have p333 := cells_at0 F324.out
  have p334 := cells_at1 F324.out
  have p335 := cells_at0 F327.out
  have p336 := cells_at1 F327.out
  go_wp2_with fail
  clear p329 p330 p331 p332 p333 p334 p335 p336
  refine (heldSpace_c N _ R.length 1 W19 (F328.out.ints) hRL (by omega) (by omega)).mono ?_
  rintro e W20 ⟨rfl, hb337⟩
  have hz338 := hb337.size
  have F339 := hide (F317.out.trans (hb337.mono (by omega)))
  have F340 := hide (F318.out.below hb337 (by omega))
  have F341 := hide (F319.out.below hb337 (by omega))
  have F342 := hide ((hb337.block (w.heap.size) (by omega)).trans F320.out)
  have F343 := hide (F321.out.kept hb337)
  have F344 := hide ((hb337.block (W4.heap.size) (by omega)).trans F322.out)
  have F345 := hide (F323.out.kept hb337)
  have F346 := hide ((hb337.block (W6.heap.size) (by omega)).trans F324.out)
  have F347 := hide (F325.out.kept hb337)
  have F348 := hide (F328.out.kept hb337)
  have F349 := hide ((hb337.block (W9.heap.size) (by omega)).trans F327.out)
  clear hb337 F317 F318 F319 F320 F321 F322 F323 F324 F325 F328 F327
  clear F345
  clear B80 L81
  clear F347
  clear B110 L111
  have p350 := cells_at0 F342.out
  have p351 := cells_at1 F342.out
  have p352 := cells_at0 F344.out
  have p353 := cells_at1 F344.out
  have p354 := cells_at0 F346.out
  have p355 := cells_at1 F346.out
  have p356 := cells_at0 F349.out
  have p357 := cells_at1 F349.out
  go_wp2_with fail
  clear p350 p351 p352 p353 p354 p355 p356 p357
  refine (toSpace_c n0 v0 l0 W20 (F340.out.mono (by omega)) (by omega)).mono ?_
  rintro e W21 ⟨g358, rfl, hg359, hk360, hb361⟩
  have hz362 := hb361.size
  have F363 := hide (F339.out.trans (hb361.mono (by omega)))
  have F364 := hide (F340.out.below hb361 (by omega))
  have F365 := hide (F341.out.below hb361 (by omega))
  have F366 := hide ((hb361.block (w.heap.size) (by omega)).trans F342.out)
  have F367 := hide (F343.out.kept hb361)
  have F368 := hide ((hb361.block (W4.heap.size) (by omega)).trans F344.out)
  have F369 := hide ((hb361.block (W6.heap.size) (by omega)).trans F346.out)
  have F370 := hide (F348.out.kept hb361)
  have F371 := hide ((hb361.block (W9.heap.size) (by omega)).trans F349.out)
  have F372 := hide (hk360.own hg359 (by unfold maxLen; omega))
  have B373 := hide (F372.out.base)
  have L374 := hide (F372.out.blockLt)
  clear hb361 F339 F340 F341 F342 F343 F344 F346 F348 F349 hk360 hg359
  have p375 := cells_at0 F366.out
  have p376 := cells_at1 F366.out
  have p377 := cells_at0 F368.out
  have p378 := cells_at1 F368.out
  have p379 := cells_at0 F369.out
  have p380 := cells_at1 F369.out
  have p381 := cells_at0 F371.out
  have p382 := cells_at1 F371.out
  go_wp2_with fail
  clear p375 p376 p377 p378 p379 p380 p381 p382
  refine (toIntS_c v1 l1 W21 (F365.out.mono (by omega)) (by omega)).mono ?_
  rintro e W22 ⟨rfl, hk383, hb384⟩
  have hz385 := hb384.size
  have F386 := hide (F363.out.trans (hb384.mono (by omega)))
  have F387 := hide (F364.out.below hb384 (by omega))
  have F388 := hide (F365.out.below hb384 (by omega))
  have F389 := hide ((hb384.block (w.heap.size) (by omega)).trans F366.out)
  have F390 := hide (F367.out.kept hb384)
  have F391 := hide ((hb384.block (W4.heap.size) (by omega)).trans F368.out)
  have F392 := hide ((hb384.block (W6.heap.size) (by omega)).trans F369.out)
  have F393 := hide (F370.out.kept hb384)
  have F394 := hide ((hb384.block (W9.heap.size) (by omega)).trans F371.out)
  have F395 := hide (F372.out.kept hb384)
  have F396 := hide (hk383.own (Nat.le_refl _) (by unfold maxLen; omega))
  have B397 := hide (F396.out.base)
  have L398 := hide (F396.out.blockLt)
  clear hb384 F363 F364 F365 F366 F367 F368 F369 F370 F371 F372 hk383
  have p399 := cells_at0 F389.out
  have p400 := cells_at1 F389.out
  have p401 := cells_at0 F391.out
  have p402 := cells_at1 F391.out
  have p403 := cells_at0 F392.out
  have p404 := cells_at1 F392.out
  have p405 := cells_at0 F394.out
  have p406 := cells_at1 F394.out
  go_wp2_with fail
  clear p399 p400 p401 p402 p403 p404 p405 p406
  refine (implRenameItems_c n0 _ l0 _ l1 W22 F395.out.ints (by omega) _ F396.out (by omega)).mono ?_
  rw [HN.out, HR.out, HO.out]
  rintro e W23 ⟨v407, rfl, ho408, hb409⟩
  have hz410 := hb409.size
  have F411 := hide (F386.out.trans (hb409.mono (by omega)))
  have F412 := hide (F387.out.below hb409 (by omega))
  have F413 := hide (F388.out.below hb409 (by omega))
  have F414 := hide ((hb409.block (w.heap.size) (by omega)).trans F389.out)
  have F415 := hide (F390.out.kept hb409)
  have F416 := hide ((hb409.block (W4.heap.size) (by omega)).trans F391.out)
  have F417 := hide ((hb409.block (W6.heap.size) (by omega)).trans F392.out)
  have F418 := hide (F393.out.kept hb409)
  have F419 := hide ((hb409.block (W9.heap.size) (by omega)).trans F394.out)
  have F420 := hide (F395.out.kept hb409)
  have F421 := hide (F396.out.kept hb409)
  obtain ⟨aa422, cc423, hv424⟩ := ho408.shape
  have F425 := hide (ho408)
  have B426 := hide (F425.out.base)
  have L427 := hide (F425.out.blockLt)
  clear hb409 F386 F387 F388 F389 F390 F391 F392 F393 F394 F395 F396 ho408
  subst hv424
  have F428 := hide (F411.out.alloc (by omega) (.cells #[.int .i64 N, .slice aa422 R.length cc423] 32))
  have F429 := hide (F412.out.alloc (.cells #[.int .i64 N, .slice aa422 R.length cc423] 32))
  have F430 := hide (F413.out.alloc (.cells #[.int .i64 N, .slice aa422 R.length cc423] 32))
  have F431 := hide ((hp_old W23 (.cells #[.int .i64 N, .slice aa422 R.length cc423] 32) (w.heap.size) (by omega)).trans F414.out)
  have F432 := hide (F415.out.alloc (.cells #[.int .i64 N, .slice aa422 R.length cc423] 32))
  have F433 := hide ((hp_old W23 (.cells #[.int .i64 N, .slice aa422 R.length cc423] 32) (W4.heap.size) (by omega)).trans F416.out)
  have F434 := hide ((hp_old W23 (.cells #[.int .i64 N, .slice aa422 R.length cc423] 32) (W6.heap.size) (by omega)).trans F417.out)
  have F435 := hide (F418.out.alloc (.cells #[.int .i64 N, .slice aa422 R.length cc423] 32))
  have F436 := hide ((hp_old W23 (.cells #[.int .i64 N, .slice aa422 R.length cc423] 32) (W9.heap.size) (by omega)).trans F419.out)
  have F437 := hide (F420.out.alloc (.cells #[.int .i64 N, .slice aa422 R.length cc423] 32))
  have F438 := hide (F421.out.alloc (.cells #[.int .i64 N, .slice aa422 R.length cc423] 32))
  have F439 := hide (F425.out.alloc (.cells #[.int .i64 N, .slice aa422 R.length cc423] 32))
  have F440 := hide (hp_last W23 (.cells #[.int .i64 N, .slice aa422 R.length cc423] 32))
  have HZ441 := hide (show (W23.alloc (.cells #[.int .i64 N, .slice aa422 R.length cc423] 32)).heap.size = W23.heap.size + 1 by simp)
  clear F411 F412 F413 F414 F415 F416 F417 F418 F419 F420 F421 F425
  have p442 := cells_at0 F431.out
  have p443 := cells_at1 F431.out
  have p444 := cells_at0 F433.out
  have p445 := cells_at1 F433.out
  have p446 := cells_at0 F434.out
  have p447 := cells_at1 F434.out
  have p448 := cells_at0 F436.out
  have p449 := cells_at1 F436.out
  have p450 := cells_at0 F440.out
  have p451 := cells_at1 F440.out
  go_wp2_with fail
  clear p442 p443 p444 p445 p446 p447 p448 p449 p450 p451
  generalize hX : W23.alloc (.cells #[.int .i64 N, .slice aa422 R.length cc423] 32) = W24 at F428 F429 F430 F431 F432 F433 F434 F435 F436 F437 F438 F439 F440 HZ441 ⊢
  have hz452 := Nat.le_of_eq HZ441.out.symm
  clear hX HZ441
  refine (eqSpace_same_c N _ _ R W24 (F439.out.ints) (F432.out.ints) hRL).mono ?_
  rintro e W25 ⟨rfl, hb453⟩
  have hz454 := hb453.size
  have F455 := hide (F428.out.trans (hb453.mono (by omega)))
  have F456 := hide (F429.out.below hb453 (by omega))
  have F457 := hide (F430.out.below hb453 (by omega))
  have F458 := hide ((hb453.block (w.heap.size) (by omega)).trans F431.out)
  have F459 := hide (F432.out.kept hb453)
  have F460 := hide ((hb453.block (W4.heap.size) (by omega)).trans F433.out)
  have F461 := hide ((hb453.block (W6.heap.size) (by omega)).trans F434.out)
  have F462 := hide (F435.out.kept hb453)
  have F463 := hide ((hb453.block (W9.heap.size) (by omega)).trans F436.out)
  have F464 := hide (F437.out.kept hb453)
  have F465 := hide (F438.out.kept hb453)
  have F466 := hide (F439.out.kept hb453)
  have F467 := hide ((hb453.block (W23.heap.size) (by omega)).trans F440.out)
  clear hb453 F428 F429 F430 F431 F432 F433 F434 F435 F436 F437 F438 F439 F440
  have p468 := cells_at0 F458.out
  have p469 := cells_at1 F458.out
  have p470 := cells_at0 F460.out
  have p471 := cells_at1 F460.out
  have p472 := cells_at0 F461.out
  have p473 := cells_at1 F461.out
  have p474 := cells_at0 F463.out
  have p475 := cells_at1 F463.out
  have p476 := cells_at0 F467.out
  have p477 := cells_at1 F467.out
  go_wp2_with fail
  clear p468 p469 p470 p471 p472 p473 p474 p475 p476 p477
  refine (heldSpace_c N _ R.length 1 W25 (F462.out.ints) hRL (by omega) (by omega)).mono ?_
  rintro e W26 ⟨rfl, hb478⟩
  have hz479 := hb478.size
  have F480 := hide (F455.out.trans (hb478.mono (by omega)))
  have F481 := hide (F456.out.below hb478 (by omega))
  have F482 := hide (F457.out.below hb478 (by omega))
  have F483 := hide ((hb478.block (w.heap.size) (by omega)).trans F458.out)
  have F484 := hide (F459.out.kept hb478)
  have F485 := hide ((hb478.block (W4.heap.size) (by omega)).trans F460.out)
  have F486 := hide ((hb478.block (W6.heap.size) (by omega)).trans F461.out)
  have F487 := hide (F462.out.kept hb478)
  have F488 := hide ((hb478.block (W9.heap.size) (by omega)).trans F463.out)
  have F489 := hide (F464.out.kept hb478)
  have F490 := hide (F465.out.kept hb478)
  have F491 := hide (F466.out.kept hb478)
  have F492 := hide ((hb478.block (W23.heap.size) (by omega)).trans F467.out)
  clear hb478 F455 F456 F457 F458 F459 F460 F461 F462 F463 F464 F465 F466 F467
  have p493 := cells_at0 F483.out
  have p494 := cells_at1 F483.out
  have p495 := cells_at0 F485.out
  have p496 := cells_at1 F485.out
  have p497 := cells_at0 F486.out
  have p498 := cells_at1 F486.out
  have p499 := cells_at0 F488.out
  have p500 := cells_at1 F488.out
  have p501 := cells_at0 F492.out
  have p502 := cells_at1 F492.out
  go_wp2
  go_ret
  exact ⟨rfl, F480.out⟩

theorem ownK : ownKnob Try.prog.godebug = none := by kernel_rfl
theorem laidOut : laidOutB Try.prog = true := by kernel_rfl

/-- What a slice of int is, as it comes in. -/
theorem list_open {W : World} {v : Value} {l : List Int} (h : (v = .slice none 0 0 ∧ l = []) ∨ ∃ (a : Addr) (len c : Nat) (zs : List Int), v = .slice (some a) len c ∧ len ≤ zs.length ∧ len ≤ maxLen ∧ (∀ i, i < zs.length → W.cell? (a.add i) = some (.int .i64 (zs.getD i 0))) ∧ l = zs.take len) : ints W.heap.size W v l ∧ l.length ≤ 9223372036854775807 := by
  rcases h with ⟨rfl, rfl⟩ | ⟨x, len, c, zs, rfl, hlt, hm, hcell, rfl⟩
  · exact ⟨.inl ⟨rfl, none, 0, rfl⟩, by simp⟩
  · have htk : (zs.take len).length = len := by simp; omega
    refine ⟨?_, by unfold maxLen at hm; omega⟩
    rcases Nat.eq_zero_or_pos len with h0 | h0
    · subst h0
      exact .inl ⟨by simp, some x, c, rfl⟩
    · obtain ⟨b, off, rfl, hc⟩ := ints_at hcell (by omega)
      have hbl := block_lt_of_cell (hc 0 (by omega))
      refine .inr ⟨b, off, c, by rw [htk], hbl, hbl, fun j hj => ?_⟩
      rw [htk] at hj
      rw [hc j (by omega), List.getElem?_take, if_pos hj]
      rfl

/-- What a struct of an int and a slice of int is, as it comes in. -/
theorem space_open {H : Type} {enc : TypeId × Value → H} {W : World} {b0 : Nat} {v : Value} {d : DataW H} {p : List MemPlace}
    (hv : Value.okWide Try.prog W .any b0 38 v) (h : DataW.Trod enc Try.prog W 0 (fun _ => true) true 38 v d p) :
    ∃ (n : Int) (u : Value) (l : List Int), v = .agg #[.int .i64 n, u] ∧ ints W.heap.size W u l ∧ l.length ≤ 9223372036854775807 := by
  obtain ⟨v0, v1, y0, y1, m, rfl, rfl, rfl, hy0, hy1⟩ := open_agg2 Try.underlying38 (by kernel_rfl) (by kernel_rfl) hv h
  obtain ⟨n, e0, _, _⟩ := DataW.trod_int Try.underlying3 hy0
  simp at e0
  subst e0
  rcases open_ints Try.underlying30 Try.underlying3 (by kernel_rfl) hy1 with ⟨hcs, _⟩ | ⟨x, len, c, zs, hcs, _, hl, hm, hz, _, hcell, hwz⟩
  · simp at hcs
    subst hcs
    exact ⟨n, _, [], rfl, list_open (.inl ⟨rfl, rfl⟩)⟩
  · simp at hcs
    subst hcs
    have hz' : zs.length = c := by simpa using hz
    exact ⟨n, _, zs.take len, rfl, list_open (.inr ⟨x, len, c, zs, rfl, by omega, by unfold maxLen at hm ⊢; omega, hcell, rfl⟩)⟩

theorem slice_open {H : Type} {enc : TypeId × Value → H} {W : World} {b0 : Nat} {v : Value} {d : DataW H} {p : List MemPlace}
    (hv : Value.okWide Try.prog W .any b0 30 v) (h : DataW.Trod enc Try.prog W 0 (fun _ => true) true 30 v d p) :
    ∃ (l : List Int), ints W.heap.size W v l ∧ l.length ≤ 9223372036854775807 := by
  obtain ⟨a0, len0, cap0, rfl⟩ := okWide_slice Try.underlying30 hv
  obtain ⟨fuel, hf⟩ := h
  rcases open_ints Try.underlying30 Try.underlying3 (by kernel_rfl) hf with ⟨hcs, _⟩ | ⟨x, len, c, zs, hcs, _, hl, hm, hz, _, hcell, hwz⟩
  · simp [Value.cells] at hcs
    obtain ⟨rfl, rfl, rfl⟩ := hcs
    exact ⟨[], list_open (.inl ⟨rfl, rfl⟩)⟩
  · simp [Value.cells] at hcs
    obtain ⟨rfl, rfl, rfl⟩ := hcs
    have hz' : zs.length = cap0 := by simpa using hz
    exact ⟨zs.take len0, list_open (.inr ⟨x, len0, cap0, zs, rfl, by omega, by omega, hcell, rfl⟩)⟩

theorem lifted (os : Os) (started : os.Started) (H : Type) (enc : TypeId × Value → H) :
    ReturnsInHanded {} Try.checked os 12 .any (Rows.fnExactRenameItemsSpec.pre6 enc Try.prog Try.f12 Rows.fnExactRenameItemsRow.domain false) (Rows.fnExactRenameItemsSpec.post enc Try.prog Try.f12 false true false false) := by
  refine returnsInHanded_of_change (C := Try.checked) ownK started (by kernel_rfl) Try.func12
    (ChangeSpec.witness6 (enc := enc) (C := Try.checked) false ⟨#[], #[.agg #[.int .i64 0, .slice none 0 0], .slice none 0 0], []⟩ 8 (by kernel_rfl) (by kernel_rfl) (by kernel_rfl) (by kernel_rfl)) ?_
  intro W base args ds gs before hval0 hW hcnd _
  have hval : ∀ (j : Nat) t v, Try.f12.params[j]? = some t → args[j]? = some v → Value.okWide Try.prog W .any base t v := hval0
  have hW' := hW
  obtain ⟨p, q, hA0, hV, rfl, hfz, hnd⟩ := hW
  have hA : DataW.TrodAll enc Try.prog W 0 (fun _ => true) true Try.f12.params.toList args.toList ds p := hA0
  rw [Try.params12] at hA hval
  obtain ⟨v0, vs0, d0, ds0, p0, q0, hargs, rfl, rfl, t0, r0⟩ := trodAll_cons hA
  obtain ⟨v1, vs1, d1, ds1, p1, q1, rfl, rfl, rfl, t1, r1⟩ := trodAll_cons r0
  obtain ⟨rfl, rfl, rfl⟩ := trodAll_nil r1
  obtain rfl : args = #[v0, v1] := by cases args; simp_all
  obtain ⟨rfl, rfl⟩ := trodVars_none hV
  have k0 := t0
  have lt0 : ∀ x ∈ p0, x.block < W.heap.size := by obtain ⟨m, hm⟩ := k0; exact DataW.trod_lt m _ _ _ hm
  obtain ⟨n0, u0, l0, rfl, i0, e0⟩ := space_open (hval 0 38 v0 rfl rfl) t0
  have k1 := t1
  have lt1 : ∀ x ∈ p1, x.block < W.heap.size := by obtain ⟨m, hm⟩ := k1; exact DataW.trod_lt m _ _ _ hm
  obtain ⟨l1, i1, e1⟩ := slice_open (hval 1 30 v1 rfl rfl) t1
  clear hA0 hval0
  refine (law_c n0 u0 l0 v1 l1 W i0 e0 i1 e1).mono fun e W' ⟨he, bel⟩ => ?_
  subst he
  exact ⟨_, rfl, _, _, _, [], _, [], hW', trodAll_mk1 (shut_bool Try.underlying4 _), (trodAll_cons_mk (Below.trod laidOut (by kernel_rfl) (of_decide_eq_true (by kernel_rfl)) k0 bel lt0) (trodAll_cons_mk (Below.trod laidOut (by kernel_rfl) (of_decide_eq_true (by kernel_rfl)) k1 bel lt1) trodAll_mk0)), rfl, bel.frame _, fun h => by cases h⟩

set_option maxHeartbeats 4000000 in
theorem over : Rows.fnExactRenameItemsRow.holds Try.pinned (OpenSpec.ofChange Rows.fnExactRenameItemsSpec) :=
  OpenClaim.holds_of_wide 12 Try.f12 rfl rfl rfl rfl rfl rfl rfl ⟨rfl, rfl, rfl, rfl, rfl⟩ rfl rfl rfl rfl rfl (by as_aux_lemma => kernel_rfl) Try.func12 (by as_aux_lemma => kernel_rfl)
    (of_decide_eq_true (by as_aux_lemma => kernel_rfl)) (by unfold Func.isWrapper; first | (rw [if_pos (by decide +kernel)]; kernel_rfl) | (rw [if_neg (by decide +kernel)]; exact ⟨rfl, rfl⟩))
    (fun os started H enc _ => lifted os started H enc)

theorem proved : Rows.FnExactRenameItemsSaid := over
#print axioms proved
end Go.Proofs.Ytcokdhmccokkiaa.FRenameItems
