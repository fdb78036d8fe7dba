/- The program's RunBy answers as the specification's does, at every argument, leaves its arguments as they are, and its answer owns its memory: no condition. -/
import Derived.Test.YtjmhmmenampgbaaDoorRows
import Derived.Test.YtjmhmmenampgbaaDoorYv
import Derived.Test.YtjmhmmenampgbaaDoorYl
import Derived.Test.YtjmhmmenampgbaaDoorTie
import Derived.Test.YtjmhmmenampgbaaDoorCards
import Derived.LaidMore
import Derived.Stop.Joined
import Derived.Stop.LaidErr
import Derived.Lib.LaidTab
import Derived.SevenTiedAt
import Derived.Test.YtjmhmmenampgbaaDoorHar
import Derived.ProofKit
import Derived.OpenShut
import Derived.Lib.SmallJoins
namespace Go.Proofs.YtjmhmmenampgbaaDoor.FRunBy
open Go.ChangeShapes Go.WideShapes Go.ChangeAt Go.RowKit Go.Joins
set_option linter.unusedVariables false
set_option linter.unusedSimpArgs false
set_option maxRecDepth 100000

set_option maxHeartbeats 4000000 in
theorem law_c (v0 u0 : Value) (l0 : List (List Int)) (m0 : List Int) (v1 : Value) (l1 : List Int) (w : World) (h0 : rows w.heap.size w v0 l0) (hlen0 : l0.length ≤ 9223372036854775807) (hrow0 : ∀ j, j < l0.length → (l0[j]?.getD []).length ≤ 9223372036854775807) (g0 : ints w.heap.size w u0 m0) (glen0 : m0.length ≤ 9223372036854775807) (h1 : ints w.heap.size w v1 l1) (hlen1 : l1.length ≤ 9223372036854775807) (hT : tab w) :
    Calls Tryd.prog 10 #[.agg #[v0, u0], v1] w fun e w' => e = .returned (.bool true) ∧ Below w.heap.size w w' := by
  have HT := hide hT
  clear hT
  have hRL := (rbyL_len l0 m0 l1)
  generalize hR : (rbyL l0 m0 l1) = R at hRL
  generalize hO : (rbyB l0 m0 l1) = ok
  have HR := hide hR
  have HO := hide hO
  clear hR hO
  have F1 := hide (((Below.refl w.heap.size w).alloc (Nat.le_refl _) (.cells #[v0, u0] 25)))
  have F2 := hide ((h0.alloc (.cells #[v0, u0] 25)))
  have F3 := hide ((h1.alloc (.cells #[v0, u0] 25)))
  have F4 := hide ((g0.alloc (.cells #[v0, u0] 25)))
  have F5 := hide (show (w.alloc (.cells #[v0, u0] 25)).heap[w.heap.size]? = some (.cells #[v0, u0] 25) from (by have := hp_last w (.cells #[v0, u0] 25); simpa using this))
  have HZ0 := hide (show (w.alloc (.cells #[v0, u0] 25)).heap.size = w.heap.size + 1 by simp)
  clear h0 g0 h1
  by_cases big1 : (1048576 : Int) < (l1.length : Int)
  · have big1n : 1048576 < l1.length := by omega
    go_enter Tryd.func10, Tryd.ntmps10
    go_wp2_with (first | (refine wpList_len sliceT rfl (.tmp _) rfl v1 rfl w.heap.size l1 F3.out ?_))
    go_ret
    exact ⟨rfl, F1.out⟩
  have big1n : ¬ 1048576 < l1.length := by omega
  have big1d : decide (1048576 < l1.length) = false := by simp; omega
  have hsz0 : szOf 1048576 (l0.length + tot l0 + m0.length) = -1 ∨ (0 ≤ szOf 1048576 (l0.length + tot l0 + m0.length) ∧ szOf 1048576 (l0.length + tot l0 + m0.length) ≤ 1048576 ∧ (l0.length + tot l0 + m0.length) ≤ 1048576) := by unfold szOf; split <;> omega
  generalize hq0 : szOf 1048576 (l0.length + tot l0 + m0.length) = q0 at hsz0
  have HQ0 := hide hq0
  clear hq0
  rcases hsz0 with hbig0 | ⟨hq0a, hq0b, hq0c⟩
  · have HBIG := hide hbig0
    have hneg : q0 < 0 := by omega
    clear hbig0
    go_enter Tryd.func10, Tryd.ntmps10
    go_wp2_with (first | (refine wpList_len sliceT rfl (.tmp _) rfl v1 rfl w.heap.size l1 F3.out ?_))
    generalize hX : (w.alloc (.cells #[v0, u0] 25)) = W0 at F1 F2 F3 F4 F5 HZ0 ⊢
    have hz0 := Nat.le_of_eq HZ0.out.symm
    clear hX HZ0
    refine (szChips_c v0 u0 l0 m0 (1048576) W0 (F2.out.mono (by omega)) hlen0 hrow0 (F4.out.mono (by omega)) glen0 (by omega) (by omega)).mono ?_
    rw [HQ0.out]
    rintro e W1 ⟨rfl, hb6⟩
    have hz7 := hb6.size
    have F8 := hide (F1.out.trans (hb6.mono (by omega)))
    have F9 := hide (F2.out.below hb6 (by omega))
    have F10 := hide (F3.out.below hb6 (by omega))
    have F11 := hide (F4.out.below hb6 (by omega))
    have F12 := hide ((hb6.block (w.heap.size) (by omega)).trans F5.out)
    clear hb6 F1 F2 F3 F4 F5
    go_wp2
    go_ret
    exact ⟨rfl, F8.out⟩
  have hneg0 : ¬ q0 < 0 := by omega
  have hsm0 : small2 l0 := ⟨by omega, by omega⟩
  have HSM0 := hide hsm0
  have hmx0 : tot l0 ≤ 1048576 := by omega
  have hmy0 : l0.length ≤ 1048576 := by omega
  clear hsm0
  go_enter Tryd.func10, Tryd.ntmps10
  go_wp2_with (first | (refine wpList_len sliceT rfl (.tmp _) rfl v1 rfl w.heap.size l1 F3.out ?_))
  generalize hX : (w.alloc (.cells #[v0, u0] 25)) = W0 at F1 F2 F3 F4 F5 HZ0 ⊢
  have hz0 := Nat.le_of_eq HZ0.out.symm
  clear hX HZ0
  refine (szChips_c v0 u0 l0 m0 (1048576) W0 (F2.out.mono (by omega)) hlen0 hrow0 (F4.out.mono (by omega)) glen0 (by omega) (by omega)).mono ?_
  rw [HQ0.out]
  rintro e W1 ⟨rfl, hb6⟩
  have hz7 := hb6.size
  have F8 := hide (F1.out.trans (hb6.mono (by omega)))
  have F9 := hide (F2.out.below hb6 (by omega))
  have F10 := hide (F3.out.below hb6 (by omega))
  have F11 := hide (F4.out.below hb6 (by omega))
  have F12 := hide ((hb6.block (w.heap.size) (by omega)).trans F5.out)
  clear hb6 F1 F2 F3 F4 F5
  have hneg2 : ¬ (1 + (R.length : Int) < 0) := by omega
  have p13 := cells_at0 F12.out
  have p14 := cells_at1 F12.out
  go_wp2_with fail
  clear p13 p14
  refine (toChips_c v0 u0 l0 m0 W1 (F9.out.mono (by omega)) HSM0.out (F11.out.mono (by omega)) (by omega)).mono ?_
  rintro e W2 ⟨v15, u16, rfl, ho17, hb18⟩
  have hz19 := hb18.size
  have F20 := hide (F8.out.trans (hb18.mono (by omega)))
  have F21 := hide (F9.out.below hb18 (by omega))
  have F22 := hide (F10.out.below hb18 (by omega))
  have F23 := hide (F11.out.below hb18 (by omega))
  have F24 := hide ((hb18.block (w.heap.size) (by omega)).trans F12.out)
  have hle25 : W1.heap.size + 3 ≤ W2.heap.size := (by obtain ⟨mm, h1, h2, _⟩ := ho17; omega)
  obtain ⟨q26, q27, q28⟩ := ho17.rows.shape
  obtain ⟨q29, q30, q31⟩ := ho17.ints.shape
  have F32 := hide (ho17)
  clear hb18 F8 F9 F10 F11 F12 ho17
  subst q28
  subst q31
  have p33 := cells_at0 F24.out
  have p34 := cells_at1 F24.out
  go_wp2_with fail
  clear p33 p34
  refine (toIntS_c v1 l1 W2 (F22.out.mono (by omega)) (by omega)).mono ?_
  rintro e W3 ⟨rfl, hk35, hb36⟩
  have hz37 := hb36.size
  have F38 := hide (F20.out.trans (hb36.mono (by omega)))
  have F39 := hide (F21.out.below hb36 (by omega))
  have F40 := hide (F22.out.below hb36 (by omega))
  have F41 := hide (F23.out.below hb36 (by omega))
  have F42 := hide ((hb36.block (w.heap.size) (by omega)).trans F24.out)
  have F43 := hide (F32.out.kept hb36)
  have F44 := hide (hk35.own (Nat.le_refl _) (by unfold maxLen; omega))
  have B45 := hide (F44.out.base)
  have L46 := hide (F44.out.blockLt)
  clear hb36 F20 F21 F22 F23 F24 F32 hk35
  have p47 := cells_at0 F42.out
  have p48 := cells_at1 F42.out
  go_wp2_with fail
  clear p47 p48
  refine (specRunBy_c _ _ l0 m0 _ l1 W3 F43.out.rows HSM0.out F43.out.ints (by omega) F44.out.ints (by omega) (HT.out.belowB HT.out F38.out (Nat.le_refl _))).mono ?_
  rw [HR.out, HO.out]
  rintro e W4 ⟨v49, rfl, ho50, hb51⟩
  have hz52 := hb51.size
  have F53 := hide (F38.out.trans (hb51.mono (by omega)))
  have F54 := hide (F39.out.below hb51 (by omega))
  have F55 := hide (F40.out.below hb51 (by omega))
  have F56 := hide (F41.out.below hb51 (by omega))
  have F57 := hide ((hb51.block (w.heap.size) (by omega)).trans F42.out)
  have F58 := hide (F43.out.kept hb51)
  have F59 := hide (F44.out.kept hb51)
  obtain ⟨aa60, cc61, hv62⟩ := ho50.shape
  have F63 := hide (ho50)
  have B64 := hide (F63.out.base)
  have L65 := hide (F63.out.blockLt)
  clear hb51 F38 F39 F40 F41 F42 F43 F44 ho50
  subst hv62
  clear F58
  clear F59
  clear B45 L46
  have p66 := cells_at0 F57.out
  have p67 := cells_at1 F57.out
  go_wp2_with fail
  clear p66 p67
  refine (toChips_c v0 u0 l0 m0 W4 (F54.out.mono (by omega)) HSM0.out (F56.out.mono (by omega)) (by omega)).mono ?_
  rintro e W5 ⟨v68, u69, rfl, ho70, hb71⟩
  have hz72 := hb71.size
  have F73 := hide (F53.out.trans (hb71.mono (by omega)))
  have F74 := hide (F54.out.below hb71 (by omega))
  have F75 := hide (F55.out.below hb71 (by omega))
  have F76 := hide (F56.out.below hb71 (by omega))
  have F77 := hide ((hb71.block (w.heap.size) (by omega)).trans F57.out)
  have F78 := hide (F63.out.kept hb71)
  have hle79 : W4.heap.size + 3 ≤ W5.heap.size := (by obtain ⟨mm, h1, h2, _⟩ := ho70; omega)
  obtain ⟨q80, q81, q82⟩ := ho70.rows.shape
  obtain ⟨q83, q84, q85⟩ := ho70.ints.shape
  have F86 := hide (ho70)
  clear hb71 F53 F54 F55 F56 F57 F63 ho70
  subst q82
  subst q85
  have F87 := hide (F73.out.alloc (by omega) (.cells #[.slice q80 l0.length q81, .slice q83 m0.length q84] 29))
  have F88 := hide (F74.out.alloc (.cells #[.slice q80 l0.length q81, .slice q83 m0.length q84] 29))
  have F89 := hide (F75.out.alloc (.cells #[.slice q80 l0.length q81, .slice q83 m0.length q84] 29))
  have F90 := hide (F76.out.alloc (.cells #[.slice q80 l0.length q81, .slice q83 m0.length q84] 29))
  have F91 := hide ((hp_old W5 (.cells #[.slice q80 l0.length q81, .slice q83 m0.length q84] 29) (w.heap.size) (by omega)).trans F77.out)
  have F92 := hide (F78.out.alloc (.cells #[.slice q80 l0.length q81, .slice q83 m0.length q84] 29))
  have F93 := hide (F86.out.alloc (.cells #[.slice q80 l0.length q81, .slice q83 m0.length q84] 29))
  have F94 := hide (hp_last W5 (.cells #[.slice q80 l0.length q81, .slice q83 m0.length q84] 29))
  have HZ95 := hide (show (W5.alloc (.cells #[.slice q80 l0.length q81, .slice q83 m0.length q84] 29)).heap.size = W5.heap.size + 1 by simp)
  clear F73 F74 F75 F76 F77 F78 F86
  have p96 := cells_at0 F91.out
  have p97 := cells_at1 F91.out
  have p98 := cells_at0 F94.out
  have p99 := cells_at1 F94.out
  go_wp2_with fail
  clear p96 p97 p98 p99
  generalize hX : W5.alloc (.cells #[.slice q80 l0.length q81, .slice q83 m0.length q84] 29) = W6 at F87 F88 F89 F90 F91 F92 F93 F94 HZ95 ⊢
  have hz100 := Nat.le_of_eq HZ95.out.symm
  clear hX HZ95
  refine (toIntS_c v1 l1 W6 (F89.out.mono (by omega)) (by omega)).mono ?_
  rintro e W7 ⟨rfl, hk101, hb102⟩
  have hz103 := hb102.size
  have F104 := hide (F87.out.trans (hb102.mono (by omega)))
  have F105 := hide (F88.out.below hb102 (by omega))
  have F106 := hide (F89.out.below hb102 (by omega))
  have F107 := hide (F90.out.below hb102 (by omega))
  have F108 := hide ((hb102.block (w.heap.size) (by omega)).trans F91.out)
  have F109 := hide (F92.out.kept hb102)
  have F110 := hide (F93.out.kept hb102)
  have F111 := hide ((hb102.block (W5.heap.size) (by omega)).trans F94.out)
  have F112 := hide (hk101.own (Nat.le_refl _) (by unfold maxLen; omega))
  have B113 := hide (F112.out.base)
  have L114 := hide (F112.out.blockLt)
  clear hb102 F87 F88 F89 F90 F91 F92 F93 F94 hk101
  have p115 := cells_at0 F108.out
  have p116 := cells_at1 F108.out
  have p117 := cells_at0 F111.out
  have p118 := cells_at1 F111.out
  go_wp2_with fail
  clear p115 p116 p117 p118
  refine (implRunBy_c _ _ l0 m0 _ l1 W7 F110.out.rows HSM0.out F110.out.ints (by omega) F112.out.ints (by omega) (HT.out.belowB HT.out F104.out (Nat.le_refl _))).mono ?_
  rw [HR.out, HO.out]
  rintro e W8 ⟨v119, rfl, ho120, hb121⟩
  have hz122 := hb121.size
  have F123 := hide (F104.out.trans (hb121.mono (by omega)))
  have F124 := hide (F105.out.below hb121 (by omega))
  have F125 := hide (F106.out.below hb121 (by omega))
  have F126 := hide (F107.out.below hb121 (by omega))
  have F127 := hide ((hb121.block (w.heap.size) (by omega)).trans F108.out)
  have F128 := hide (F109.out.kept hb121)
  have F129 := hide (F110.out.kept hb121)
  have F130 := hide ((hb121.block (W5.heap.size) (by omega)).trans F111.out)
  have F131 := hide (F112.out.kept hb121)
  obtain ⟨aa132, cc133, hv134⟩ := ho120.shape
  have F135 := hide (ho120)
  have B136 := hide (F135.out.base)
  have L137 := hide (F135.out.blockLt)
  clear hb121 F104 F105 F106 F107 F108 F109 F110 F111 F112 ho120
  subst hv134
  have p138 := cells_at0 F127.out
  have p139 := cells_at1 F127.out
  have p140 := cells_at0 F130.out
  have p141 := cells_at1 F130.out
  go_wp2_with fail
  clear p138 p139 p140 p141
  refine (eqIntS_same_c _ _ R W8 (F135.out.ints) (F128.out.ints) hRL).mono ?_
  rintro e W9 ⟨rfl, hb142⟩
  have hz143 := hb142.size
  have F144 := hide (F123.out.trans (hb142.mono (by omega)))
  have F145 := hide (F124.out.below hb142 (by omega))
  have F146 := hide (F125.out.below hb142 (by omega))
  have F147 := hide (F126.out.below hb142 (by omega))
  have F148 := hide ((hb142.block (w.heap.size) (by omega)).trans F127.out)
  have F149 := hide (F128.out.kept hb142)
  have F150 := hide (F129.out.kept hb142)
  have F151 := hide ((hb142.block (W5.heap.size) (by omega)).trans F130.out)
  have F152 := hide (F131.out.kept hb142)
  have F153 := hide (F135.out.kept hb142)
  clear hb142 F123 F124 F125 F126 F127 F128 F129 F130 F131 F135
  have p154 := cells_at0 F148.out
  have p155 := cells_at1 F148.out
  have p156 := cells_at0 F151.out
  have p157 := cells_at1 F151.out
  go_wp2
  clear p154 p155 p156 p157
  refine wp_region_held (S := Below W9.heap.size W9) (by kernel_rfl) ?_
  have hS : Below W9.heap.size W9 { W9 with drawn := W9.drawn + 1 } := (Below.refl _ _).drew
  refine wpAnyH_take (i := 0) rfl (by kernel_rfl) (by kernel_rfl) (by kernel_rfl) (fun _ _ _ h => h) (yields_load_two rowCp sizeCp rfl (.tmp _) rfl _ rfl _ _ (fun w' h => (h.cell (p := ⟨W5.heap.size, 0, none⟩) (by show W5.heap.size < _; omega)).trans (cells_at0 F151.out)) (fun w' h => (h.cell (p := ⟨W5.heap.size, 1, none⟩) (by show W5.heap.size < _; omega)).trans (cells_at1 F151.out))) hS ?_
  refine wpAnyH_take (i := 1) rfl (by kernel_rfl) (by kernel_rfl) (by kernel_rfl) (fun _ _ _ h => h) (yields_load_two rowCl sizeCl rfl (.tmp _) rfl _ rfl _ _ (fun w' h => (h.cell (p := ⟨w.heap.size, 0, none⟩) (by show w.heap.size < _; omega)).trans (cells_at0 F148.out)) (fun w' h => (h.cell (p := ⟨w.heap.size, 1, none⟩) (by show w.heap.size < _; omega)).trans (cells_at1 F148.out))) hS ?_
  refine anyH_call (i := 2) (by kernel_rfl) rfl rfl 14 ent_toChips _ _ rfl #[.agg #[v0, u0]] rfl (toChips_c v0 u0 l0 m0 _ ((F145.out.below hS (by omega)).mono (show w.heap.size ≤ W9.heap.size by omega)) HSM0.out ((F147.out.below hS (by omega)).mono (show w.heap.size ≤ W9.heap.size by omega)) (by omega)) ?_
  rintro e W10 ⟨gv, gu, rfl, hkr, hbr⟩
  have hzr : W9.heap.size ≤ W10.heap.size := hbr.size
  have hS6 : Below W9.heap.size W9 W10 := hS.trans hbr
  refine ⟨_, rfl, hS6, ?_⟩
  refine anyH_call (i := 3) (by kernel_rfl) rfl rfl 17 ent_eqChips _ _ rfl #[.agg #[.slice q80 l0.length q81, .slice q83 m0.length q84], .agg #[gv, gu]] rfl (eqChips_same_c _ _ _ _ l0 m0 W10 ((F150.out.kept hS6).rows) ((F150.out.kept hS6).ints) hkr.rows hkr.ints HSM0.out (by omega)) ?_
  rintro e W11 ⟨rfl, hbs⟩
  have hS7 : Below W9.heap.size W9 W11 := hS6.trans (hbs.mono hzr)
  refine ⟨_, rfl, hS7, ?_⟩
  refine anyH_op (i := 4) (by kernel_rfl) rfl rfl (.bool false) W11 ?hq hS7 ?_
  case hq => simp [go_sem, Act.put]
  refine wpAnyH_done (by kernel_rfl) ?_ _
  simp only [Act.put, List.getElem_toArray, List.getElem_cons_zero, List.getElem_cons_succ, List.setIfInBounds_toArray, List.set_cons_zero, List.set_cons_succ]
  have hz158 : W9.heap.size ≤ W11.heap.size := hS7.size
  have F159 := hide (F144.out.trans (hS7.mono (by omega)))
  have F160 := hide (F145.out.below hS7 (by omega))
  have F161 := hide (F146.out.below hS7 (by omega))
  have F162 := hide (F147.out.below hS7 (by omega))
  have F163 := hide ((hS7.block (w.heap.size) (by omega)).trans F148.out)
  have F164 := hide (F149.out.kept hS7)
  have F165 := hide (F150.out.kept hS7)
  have F166 := hide ((hS7.block (W5.heap.size) (by omega)).trans F151.out)
  have F167 := hide (F152.out.kept hS7)
  have F168 := hide (F153.out.kept hS7)
  clear hS hS6 hS7 hbr hbs hkr hzr F144 F145 F146 F147 F148 F149 F150 F151 F152 F153
  have p169 := cells_at0 F163.out
  have p170 := cells_at1 F163.out
  have p171 := cells_at0 F166.out
  have p172 := cells_at1 F166.out
  go_wp2_with fail
  clear p169 p170 p171 p172
  refine (toIntS_c v1 l1 W11 (F161.out.mono (by omega)) (by omega)).mono ?_
  rintro e W12 ⟨rfl, hk173, hb174⟩
  have hz175 := hb174.size
  have F176 := hide (F159.out.trans (hb174.mono (by omega)))
  have F177 := hide (F160.out.below hb174 (by omega))
  have F178 := hide (F161.out.below hb174 (by omega))
  have F179 := hide (F162.out.below hb174 (by omega))
  have F180 := hide ((hb174.block (w.heap.size) (by omega)).trans F163.out)
  have F181 := hide (F164.out.kept hb174)
  have F182 := hide (F165.out.kept hb174)
  have F183 := hide ((hb174.block (W5.heap.size) (by omega)).trans F166.out)
  have F184 := hide (F167.out.kept hb174)
  have F185 := hide (F168.out.kept hb174)
  have F186 := hide (hk173.own (Nat.le_refl _) (by unfold maxLen; omega))
  have B187 := hide (F186.out.base)
  have L188 := hide (F186.out.blockLt)
  clear hb174 F159 F160 F161 F162 F163 F164 F165 F166 F167 F168 hk173
  have p189 := cells_at0 F180.out
  have p190 := cells_at1 F180.out
  have p191 := cells_at0 F183.out
  have p192 := cells_at1 F183.out
  go_wp2_with fail
  clear p189 p190 p191 p192
  refine (eqIntS_same_c _ _ l1 W12 (F184.out.ints) (F186.out.ints) (by omega)).mono ?_
  rintro e W13 ⟨rfl, hb193⟩
  have hz194 := hb193.size
  have F195 := hide (F176.out.trans (hb193.mono (by omega)))
  have F196 := hide (F177.out.below hb193 (by omega))
  have F197 := hide (F178.out.below hb193 (by omega))
  have F198 := hide (F179.out.below hb193 (by omega))
  have F199 := hide ((hb193.block (w.heap.size) (by omega)).trans F180.out)
  have F200 := hide (F181.out.kept hb193)
  have F201 := hide (F182.out.kept hb193)
  have F202 := hide ((hb193.block (W5.heap.size) (by omega)).trans F183.out)
  have F203 := hide (F184.out.kept hb193)
  have F204 := hide (F185.out.kept hb193)
  have F205 := hide (F186.out.kept hb193)
  clear hb193 F176 F177 F178 F179 F180 F181 F182 F183 F184 F185 F186
  clear F205
  clear B187 L188
  have p206 := cells_at0 F199.out
  have p207 := cells_at1 F199.out
  have p208 := cells_at0 F202.out
  have p209 := cells_at1 F202.out
  go_wp2_with fail
  clear p206 p207 p208 p209
  refine (markChipsT_c _ _ l0 m0 W13 _ _ F201.out HSM0.out (by omega) (by omega)).mono ?_
  rintro e W14 ⟨rfl, ho210⟩
  have hz211 := ho210.size
  have F212 := hide (F195.out.trans ((ho210.below (by omega)).mono (by omega)))
  have F213 := hide (F196.out.below (ho210.below (by omega)) (by omega))
  have F214 := hide (F197.out.below (ho210.below (by omega)) (by omega))
  have F215 := hide (F198.out.below (ho210.below (by omega)) (by omega))
  have F216 := hide ((ho210.block (w.heap.size) (by omega) (by omega)).trans F199.out)
  have F217 := hide (F200.out.span ho210 (fun g hg => by have h1 := B64.out g hg; have h2 := L65.out g hg; omega))
  have F219 := hide ((ho210.block (W5.heap.size) (by omega) (by omega)).trans F202.out)
  have F220 := hide (F203.out.span ho210 (fun g hg => by have h1 := B113.out g hg; have h2 := L114.out g hg; omega))
  have F221 := hide (F204.out.span ho210 (fun g hg => by have h1 := B136.out g hg; have h2 := L137.out g hg; omega))
  clear F195 F196 F197 F198 F199 F200 F201 F202 F203 F204 ho210
  have p222 := cells_at0 F216.out
  have p223 := cells_at1 F216.out
  have p224 := cells_at0 F219.out
  have p225 := cells_at1 F219.out
  go_wp2_with fail
  clear p222 p223 p224 p225
  refine (markIntS_c _ l1 (1 + (tot l0 : Int) + (m0.length : Int)) W14 _ F220.out (by omega) (by omega) (by omega)).mono ?_
  rintro e W15 ⟨rfl, hn227, ho226⟩
  have hz228 := ho226.size
  have F229 := hide (F212.out.trans (ho226.below w.heap.size (fun g hg => by have := B113.out g hg; omega) (by omega)))
  have F230 := hide (F213.out.below (ho226.below (w.heap.size) (fun g hg => by have := B113.out g hg; omega) (by omega)) (Nat.le_refl _))
  have F231 := hide (F214.out.below (ho226.below w.heap.size (fun g hg => by have := B113.out g hg; omega) (by omega)) (Nat.le_refl _))
  have F232 := hide (F215.out.below (ho226.below w.heap.size (fun g hg => by have := B113.out g hg; omega) (by omega)) (Nat.le_refl _))
  have F233 := hide ((ho226.block (w.heap.size) (by omega) (fun e => by have h1 := B113.out _ e; have h2 := L114.out _ e; omega)).trans F216.out)
  have F234 := hide (F217.out.other ho226 (fun g hg e => by have h1 := B113.out _ e; have h2 := L114.out _ e; have h3 := B64.out _ hg; have h4 := L65.out _ hg; omega))
  have F235 := hide ((ho226.block (W5.heap.size) (by omega) (fun e => by have h1 := B113.out _ e; have h2 := L114.out _ e; omega)).trans F219.out)
  have F237 := hide (F221.out.other ho226 (fun g hg e => by have h1 := B113.out _ e; have h2 := L114.out _ e; have h3 := B136.out _ hg; have h4 := L137.out _ hg; omega))
  have F238 := hide hn227
  clear F212 F213 F214 F215 F216 F217 F219 F220 F221 hn227 ho226
  have hneg3 : ¬ (1 + (tot l0 : Int) + (m0.length : Int) + (l1.length : Int) < 0) := by omega
  have p239 := cells_at0 F233.out
  have p240 := cells_at1 F233.out
  have p241 := cells_at0 F235.out
  have p242 := cells_at1 F235.out
  go_wp2_with fail
  clear p239 p240 p241 p242
  refine (eqIntS_same_c _ _ R W15 (F237.out.ints) (F234.out.ints) hRL).mono ?_
  rintro e W16 ⟨rfl, hb243⟩
  have hz244 := hb243.size
  have F245 := hide (F229.out.trans (hb243.mono (by omega)))
  have F246 := hide (F230.out.below hb243 (by omega))
  have F247 := hide (F231.out.below hb243 (by omega))
  have F248 := hide (F232.out.below hb243 (by omega))
  have F249 := hide ((hb243.block (w.heap.size) (by omega)).trans F233.out)
  have F250 := hide (F234.out.kept hb243)
  have F251 := hide ((hb243.block (W5.heap.size) (by omega)).trans F235.out)
  have F252 := hide (F238.out.kept hb243)
  have F253 := hide (F237.out.kept hb243)
  clear hb243 F229 F230 F231 F232 F233 F234 F235 F238 F237
  have p254 := cells_at0 F249.out
  have p255 := cells_at1 F249.out
  have p256 := cells_at0 F251.out
  have p257 := cells_at1 F251.out
  go_wp2_with fail
  clear p254 p255 p256 p257
  refine (markIntS_c _ R (1) W16 _ F253.out (by omega) (by omega) (by omega)).mono ?_
  rintro e W17 ⟨rfl, hn259, ho258⟩
  have hz260 := ho258.size
  have F261 := hide (F245.out.trans (ho258.below w.heap.size (fun g hg => by have := B136.out g hg; omega) (by omega)))
  have F262 := hide (F246.out.below (ho258.below (w.heap.size) (fun g hg => by have := B136.out g hg; omega) (by omega)) (Nat.le_refl _))
  have F263 := hide (F247.out.below (ho258.below w.heap.size (fun g hg => by have := B136.out g hg; omega) (by omega)) (Nat.le_refl _))
  have F264 := hide (F248.out.below (ho258.below w.heap.size (fun g hg => by have := B136.out g hg; omega) (by omega)) (Nat.le_refl _))
  have F265 := hide ((ho258.block (w.heap.size) (by omega) (fun e => by have h1 := B136.out _ e; have h2 := L137.out _ e; omega)).trans F249.out)
  have F266 := hide (F250.out.other ho258 (fun g hg e => by have h1 := B136.out _ e; have h2 := L137.out _ e; have h3 := B64.out _ hg; have h4 := L65.out _ hg; omega))
  have F267 := hide ((ho258.block (W5.heap.size) (by omega) (fun e => by have h1 := B136.out _ e; have h2 := L137.out _ e; omega)).trans F251.out)
  have F268 := hide (F252.out.other ho258 (fun g hg e => by have h1 := B136.out _ e; have h2 := L137.out _ e; have h3 := B113.out _ hg; have h4 := L114.out _ hg; omega))
  have F270 := hide hn259
  clear F245 F246 F247 F248 F249 F250 F251 F252 F253 hn259 ho258
  have p271 := cells_at0 F265.out
  have p272 := cells_at1 F265.out
  have p273 := cells_at0 F267.out
  have p274 := cells_at1 F267.out
  go_wp2_with fail
  clear p271 p272 p273 p274
  refine (heldIntS_c _ R.length 1 W17 (F270.out.ints) hRL (by omega) (by omega)).mono ?_
  rintro e _ ⟨rfl, rfl⟩
  clear F268
  clear B113 L114
  have p275 := cells_at0 F265.out
  have p276 := cells_at1 F265.out
  have p277 := cells_at0 F267.out
  have p278 := cells_at1 F267.out
  go_wp2_with fail
  clear p275 p276 p277 p278
  refine (toChips_c v0 u0 l0 m0 W17 (F262.out.mono (by omega)) HSM0.out (F264.out.mono (by omega)) (by omega)).mono ?_
  rintro e W18 ⟨v279, u280, rfl, ho281, hb282⟩
  have hz283 := hb282.size
  have F284 := hide (F261.out.trans (hb282.mono (by omega)))
  have F285 := hide (F262.out.below hb282 (by omega))
  have F286 := hide (F263.out.below hb282 (by omega))
  have F287 := hide (F264.out.below hb282 (by omega))
  have F288 := hide ((hb282.block (w.heap.size) (by omega)).trans F265.out)
  have F289 := hide (F266.out.kept hb282)
  have F290 := hide ((hb282.block (W5.heap.size) (by omega)).trans F267.out)
  have F291 := hide (F270.out.kept hb282)
  have hle292 : W17.heap.size + 3 ≤ W18.heap.size := (by obtain ⟨mm, h1, h2, _⟩ := ho281; omega)
  obtain ⟨q293, q294, q295⟩ := ho281.rows.shape
  obtain ⟨q296, q297, q298⟩ := ho281.ints.shape
  have F299 := hide (ho281)
  clear hb282 F261 F262 F263 F264 F265 F266 F267 F270 ho281
  subst q295
  subst q298
  have p300 := cells_at0 F288.out
  have p301 := cells_at1 F288.out
  have p302 := cells_at0 F290.out
  have p303 := cells_at1 F290.out
  go_wp2_with fail
  clear p300 p301 p302 p303
  refine (toIntS_c v1 l1 W18 (F286.out.mono (by omega)) (by omega)).mono ?_
  rintro e W19 ⟨rfl, hk304, hb305⟩
  have hz306 := hb305.size
  have F307 := hide (F284.out.trans (hb305.mono (by omega)))
  have F308 := hide (F285.out.below hb305 (by omega))
  have F309 := hide (F286.out.below hb305 (by omega))
  have F310 := hide (F287.out.below hb305 (by omega))
  have F311 := hide ((hb305.block (w.heap.size) (by omega)).trans F288.out)
  have F312 := hide (F289.out.kept hb305)
  have F313 := hide ((hb305.block (W5.heap.size) (by omega)).trans F290.out)
  have F314 := hide (F291.out.kept hb305)
  have F315 := hide (F299.out.kept hb305)
  have F316 := hide (hk304.own (Nat.le_refl _) (by unfold maxLen; omega))
  have B317 := hide (F316.out.base)
  have L318 := hide (F316.out.blockLt)
  clear hb305 F284 F285 F286 F287 F288 F289 F290 F291 F299 hk304
  have p319 := cells_at0 F311.out
  have p320 := cells_at1 F311.out
  have p321 := cells_at0 F313.out
  have p322 := cells_at1 F313.out
  go_wp2_with fail
  clear p319 p320 p321 p322
  refine (implRunBy_c _ _ l0 m0 _ l1 W19 F315.out.rows HSM0.out F315.out.ints (by omega) F316.out.ints (by omega) (HT.out.belowB HT.out F307.out (Nat.le_refl _))).mono ?_
  rw [HR.out, HO.out]
  rintro e W20 ⟨v323, rfl, ho324, hb325⟩
  have hz326 := hb325.size
  have F327 := hide (F307.out.trans (hb325.mono (by omega)))
  have F328 := hide (F308.out.below hb325 (by omega))
  have F329 := hide (F309.out.below hb325 (by omega))
  have F330 := hide (F310.out.below hb325 (by omega))
  have F331 := hide ((hb325.block (w.heap.size) (by omega)).trans F311.out)
  have F332 := hide (F312.out.kept hb325)
  have F333 := hide ((hb325.block (W5.heap.size) (by omega)).trans F313.out)
  have F334 := hide (F314.out.kept hb325)
  have F335 := hide (F315.out.kept hb325)
  have F336 := hide (F316.out.kept hb325)
  obtain ⟨aa337, cc338, hv339⟩ := ho324.shape
  have F340 := hide (ho324)
  have B341 := hide (F340.out.base)
  have L342 := hide (F340.out.blockLt)
  clear hb325 F307 F308 F309 F310 F311 F312 F313 F314 F315 F316 ho324
  subst hv339
  have p343 := cells_at0 F331.out
  have p344 := cells_at1 F331.out
  have p345 := cells_at0 F333.out
  have p346 := cells_at1 F333.out
  go_wp2_with fail
  clear p343 p344 p345 p346
  refine (eqIntS_same_c _ _ R W20 (F340.out.ints) (F332.out.ints) hRL).mono ?_
  rintro e W21 ⟨rfl, hb347⟩
  have hz348 := hb347.size
  have F349 := hide (F327.out.trans (hb347.mono (by omega)))
  have F350 := hide (F328.out.below hb347 (by omega))
  have F351 := hide (F329.out.below hb347 (by omega))
  have F352 := hide (F330.out.below hb347 (by omega))
  have F353 := hide ((hb347.block (w.heap.size) (by omega)).trans F331.out)
  have F354 := hide (F332.out.kept hb347)
  have F355 := hide ((hb347.block (W5.heap.size) (by omega)).trans F333.out)
  have F356 := hide (F334.out.kept hb347)
  have F357 := hide (F335.out.kept hb347)
  have F358 := hide (F336.out.kept hb347)
  have F359 := hide (F340.out.kept hb347)
  clear hb347 F327 F328 F329 F330 F331 F332 F333 F334 F335 F336 F340
  have p360 := cells_at0 F353.out
  have p361 := cells_at1 F353.out
  have p362 := cells_at0 F355.out
  have p363 := cells_at1 F355.out
  go_wp2_with fail
  clear p360 p361 p362 p363
  refine (heldIntS_c _ R.length 1 W21 (F356.out.ints) hRL (by omega) (by omega)).mono ?_
  rintro e _ ⟨rfl, rfl⟩
  have p364 := cells_at0 F353.out
  have p365 := cells_at1 F353.out
  have p366 := cells_at0 F355.out
  have p367 := cells_at1 F355.out
  go_wp2
  go_ret
  exact ⟨rfl, F349.out⟩

theorem ownK : ownKnob Tryd.prog.godebug = none := by kernel_rfl
theorem laidOut : laidOutB Tryd.prog = true := by kernel_rfl

/-- What a slice of int is, as it comes in. -/
theorem list_open {W : World} {v : Value} {l : List Int} (h : (v = .slice none 0 0 ∧ l = []) ∨ ∃ (a : Addr) (len c : Nat) (zs : List Int), v = .slice (some a) len c ∧ len ≤ zs.length ∧ len ≤ maxLen ∧ (∀ i, i < zs.length → W.cell? (a.add i) = some (.int .i64 (zs.getD i 0))) ∧ l = zs.take len) : ints W.heap.size W v l ∧ l.length ≤ 9223372036854775807 := by
  rcases h with ⟨rfl, rfl⟩ | ⟨x, len, c, zs, rfl, hlt, hm, hcell, rfl⟩
  · exact ⟨.inl ⟨rfl, none, 0, rfl⟩, by simp⟩
  · have htk : (zs.take len).length = len := by simp; omega
    refine ⟨?_, by unfold maxLen at hm; omega⟩
    rcases Nat.eq_zero_or_pos len with h0 | h0
    · subst h0
      exact .inl ⟨by simp, some x, c, rfl⟩
    · obtain ⟨b, off, rfl, hc⟩ := ints_at hcell (by omega)
      have hbl := block_lt_of_cell (hc 0 (by omega))
      refine .inr ⟨b, off, c, by rw [htk], hbl, hbl, fun j hj => ?_⟩
      rw [htk] at hj
      rw [hc j (by omega), List.getElem?_take, if_pos hj]
      rfl

/-- What chips are, as they come in. -/
theorem chips_open {H : Type} {enc : TypeId × Value → H} {W : World} {b0 : Nat} {v : Value} {d : DataW H} {p : List MemPlace}
    (hv : Value.okWide Tryd.prog W .any b0 25 v) (h : DataW.Trod enc Tryd.prog W 0 (fun _ => true) true 25 v d p) :
    ∃ (x u : Value) (M : List (List Int)) (l : List Int), v = .agg #[x, u] ∧ rows W.heap.size W x M ∧ M.length ≤ 9223372036854775807 ∧ (∀ j, j < M.length → (M[j]?.getD []).length ≤ 9223372036854775807) ∧ ints W.heap.size W u l ∧ l.length ≤ 9223372036854775807 := by
  obtain ⟨v0, v1, y0, y1, m, rfl, rfl, rfl, hy0, hy1⟩ := open_agg2 Tryd.underlying25 (by kernel_rfl) (by kernel_rfl) hv h
  have h0 : ∃ (x : Value) (M : List (List Int)), v0 = x ∧ rows W.heap.size W x M ∧ M.length ≤ 9223372036854775807 ∧ ∀ j, j < M.length → (M[j]?.getD []).length ≤ 9223372036854775807 := by
    rcases Go.Deep.open_int_rows Tryd.underlying22 Tryd.underlying23 Tryd.underlying3 (by kernel_rfl) (by kernel_rfl) hy0 with ⟨hcs, _⟩ | ⟨x, len, c, A, Ln, C, Z, hcs, _, hl, hm, _, hr⟩
    · simp at hcs
      subst hcs
      exact ⟨_, [], rfl, .inl ⟨rfl, none, 0, rfl⟩, by simp, fun j hj => by simp at hj⟩
    · simp at hcs
      subst hcs
      obtain ⟨h1, h2⟩ := rows_in hl hr
      exact ⟨_, _, rfl, h1, by simp; unfold maxLen at hm; omega, fun j hj => h2 j (by simpa using hj)⟩
  obtain ⟨x, M, rfl, hM1, hM2, hM3⟩ := h0
  rcases open_ints Tryd.underlying23 Tryd.underlying3 (by kernel_rfl) hy1 with ⟨hcs, _⟩ | ⟨x, len, c, zs, hcs, _, hl, hm, hz, _, hcell, hwz⟩
  · simp at hcs
    subst hcs
    obtain ⟨k1, k2⟩ := list_open (W := W) (v := .slice none 0 0) (l := []) (.inl ⟨rfl, rfl⟩)
    exact ⟨_, _, M, [], rfl, hM1, hM2, hM3, k1, k2⟩
  · simp at hcs
    subst hcs
    have hz' : zs.length = c := by simpa using hz
    obtain ⟨k1, k2⟩ := list_open (W := W) (v := .slice (some x) len c) (l := zs.take len) (.inr ⟨x, len, c, zs, rfl, by omega, by unfold maxLen at hm ⊢; omega, hcell, rfl⟩)
    exact ⟨_, _, M, zs.take len, rfl, hM1, hM2, hM3, k1, k2⟩

theorem slice_open {H : Type} {enc : TypeId × Value → H} {W : World} {b0 : Nat} {v : Value} {d : DataW H} {p : List MemPlace}
    (hv : Value.okWide Tryd.prog W .any b0 23 v) (h : DataW.Trod enc Tryd.prog W 0 (fun _ => true) true 23 v d p) :
    ∃ (l : List Int), ints W.heap.size W v l ∧ l.length ≤ 9223372036854775807 := by
  obtain ⟨a0, len0, cap0, rfl⟩ := okWide_slice Tryd.underlying23 hv
  obtain ⟨fuel, hf⟩ := h
  rcases open_ints Tryd.underlying23 Tryd.underlying3 (by kernel_rfl) hf with ⟨hcs, _⟩ | ⟨x, len, c, zs, hcs, _, hl, hm, hz, _, hcell, hwz⟩
  · simp [Value.cells] at hcs
    obtain ⟨rfl, rfl, rfl⟩ := hcs
    exact ⟨[], list_open (.inl ⟨rfl, rfl⟩)⟩
  · simp [Value.cells] at hcs
    obtain ⟨rfl, rfl, rfl⟩ := hcs
    have hz' : zs.length = cap0 := by simpa using hz
    exact ⟨zs.take len0, list_open (.inr ⟨x, len0, cap0, zs, rfl, by omega, by omega, hcell, rfl⟩)⟩


/-- What the card's condition gives: the table's cells. -/
theorem tab_of {W : World} (h : laidMetH Tryd.prog Rows.fnExactRunByRow.laid W) : tab W := by
  rw [MakeChecks.laidMetH_plain _ _ _ (by kernel_rfl)] at h
  have h2 := h.tail
  have e : (Rows.laid_math_bits_deBruijn64tab : DataW Unit) = Lib.tabData .u8 (Lib.deBruijn64tab.map fun n : Nat => (n : Int)) := by kernel_rfl
  rw [e] at h2
  have hT := Lib.tabIs_of_head (g := 1) (t := 108) (e := 5) (n := 64) (by kernel_rfl) (by kernel_rfl) (by kernel_rfl) (by kernel_rfl) (by kernel_rfl) (by kernel_rfl) h2
  have hc : ∀ j, j < 64 → W.cell? ⟨1, j, none⟩ = some (.int .u8 (Lib.deBruijn64tab.getD j 0)) := by
    intro j hj
    have h3 := hT.cell (g := 1) (by kernel_rfl) j (by rw [show (Lib.deBruijn64tab.map fun n : Nat => (n : Int)).length = 64 by decide +kernel]; exact hj)
    rw [h3]
    have h4 : ∀ j, j < 64 → (Lib.deBruijn64tab.map fun n : Nat => (n : Int)).getD j 0 = (Lib.deBruijn64tab.getD j 0 : Int) := by decide +kernel
    rw [h4 j hj]
  exact ⟨block_lt_of_cell (hc 0 (by omega)), hc⟩
theorem door_met (os : Os) (args : Array Value) : laidMetH Tryd.prog Rows.fnExactRunByRow.laid ((World.doorLaid Tryd.prog 400 os).forCall (fun _ _ => 0) ⟨#[], args, []⟩).memory :=
  laidMetH_of_parts3 (fuel := 8) (laidMet_of_run' 8 (by kernel_rfl) (by kernel_rfl)) (by kernel_rfl) (by kernel_rfl)

theorem lifted (os : Os) (started : os.Started) (H : Type) (enc : TypeId × Value → H) :
    ReturnsInHanded {} Tryd.checked os 10 .any (fun w args => (Rows.fnExactRunBySpec.pre enc Tryd.prog Tryd.f10 [] false w args ∧ laidMetH Tryd.prog Rows.fnExactRunByRow.laid w) ∧ sizedMet enc Tryd.prog Tryd.f10 (OpenSpec.ofChange Rows.fnExactRunBySpec) false w args)
      (Rows.fnExactRunBySpec.post enc Tryd.prog Tryd.f10 false true false false) := by
  refine returnsInHanded_of_change_and (C := Tryd.checked) (X := fun w _ => laidMetH Tryd.prog Rows.fnExactRunByRow.laid w) (fun _ _ _ hh h => h.of_heap hh) ownK started (by kernel_rfl) Tryd.func10
    (ChangeSpec.witness_shaped (enc := enc) (C := Tryd.checked) (os := os) (X := fun w _ => laidMetH Tryd.prog Rows.fnExactRunByRow.laid w) false (World.doorLaid Tryd.prog 400 os) #[.agg #[.slice none 0 0, .slice none 0 0], .slice none 0 0] 8 rfl (World.shaped_of_RefB (by kernel_rfl) (by kernel_rfl)) (by kernel_rfl) (by kernel_rfl) (by kernel_rfl) (door_met os _)) ?_
  intro W base args ds gs before hval0 hW _ _ hL _
  have hTab := tab_of hL
  have hval : ∀ (j : Nat) t v, Tryd.f10.params[j]? = some t → args[j]? = some v → Value.okWide Tryd.prog W .any base t v := hval0
  have hW' := hW
  obtain ⟨p, q, hA0, hV, rfl, hfz, hnd⟩ := hW
  have hA : DataW.TrodAll enc Tryd.prog W 0 (fun _ => true) true Tryd.f10.params.toList args.toList ds p := hA0
  rw [Tryd.params10] at hA hval
  obtain ⟨v0, vs0, d0, ds0, p0, q0, hargs, rfl, rfl, t0, r0⟩ := trodAll_cons hA
  obtain ⟨v1, vs1, d1, ds1, p1, q1, rfl, rfl, rfl, t1, r1⟩ := trodAll_cons r0
  obtain ⟨rfl, rfl, rfl⟩ := trodAll_nil r1
  obtain rfl : args = #[v0, v1] := by cases args; simp_all
  obtain ⟨rfl, rfl⟩ := trodVars_none hV
  have k0 := t0
  have lt0 : ∀ x ∈ p0, x.block < W.heap.size := by obtain ⟨m, hm⟩ := k0; exact DataW.trod_lt m _ _ _ hm
  obtain ⟨c0, u0, l0, m0, rfl, i0, e0, f0, y0, z0⟩ := chips_open (hval 0 25 v0 rfl rfl) t0
  have k1 := t1
  have lt1 : ∀ x ∈ p1, x.block < W.heap.size := by obtain ⟨m, hm⟩ := k1; exact DataW.trod_lt m _ _ _ hm
  obtain ⟨l1, i1, e1⟩ := slice_open (hval 1 23 v1 rfl rfl) t1
  clear hA0 hval0
  refine (law_c c0 u0 l0 m0 v1 l1 W i0 e0 f0 y0 z0 i1 e1 hTab).mono fun e W' ⟨he, bel⟩ => ?_
  subst he
  exact ⟨_, rfl, _, _, _, [], _, [], hW', trodAll_mk1 (shut_bool Tryd.underlying4 _), (trodAll_cons_mk (Below.trod laidOut (by kernel_rfl) (of_decide_eq_true (by kernel_rfl)) k0 bel lt0) (trodAll_cons_mk (Below.trod laidOut (by kernel_rfl) (of_decide_eq_true (by kernel_rfl)) k1 bel lt1) trodAll_mk0)), rfl, bel.frame _, fun h => by cases h⟩

set_option maxHeartbeats 4000000 in
theorem over : Rows.fnExactRunByRow.holds Tryd.pinned (OpenSpec.ofChange Rows.fnExactRunBySpec) :=
  OpenClaim.holds_of_wide 10 Tryd.f10 rfl rfl rfl rfl rfl rfl rfl ⟨rfl, rfl, rfl, rfl, rfl⟩ rfl rfl rfl rfl rfl (by as_aux_lemma => kernel_rfl) Tryd.func10 (by as_aux_lemma => kernel_rfl)
    (of_decide_eq_true (by as_aux_lemma => kernel_rfl)) (by unfold Func.isWrapper; first | (rw [if_pos (by decide +kernel)]; kernel_rfl) | (rw [if_neg (by decide +kernel)]; exact ⟨rfl, rfl⟩))
    (fun os started H enc _ => lifted os started H enc)

set_option maxHeartbeats 8000000 in
theorem proved : Rows.FnExactRunByCardSaid :=
  Claim7.holds_tied_plain_at .later [] [.data, .data] true _ false
    over (fun _ h => by cases h) (by as_aux_lemma => kernel_rfl) (fun _ h => by cases h) fnExactRunBy_row_tie rfl ⟨rfl, rfl⟩ (by as_aux_lemma => kernel_rfl) rfl
    (fun f fn hf hfn => by
      obtain rfl : f = 10 := Option.some.inj ((show Tryd.prog.funcNamed "loop.example/g01137/laws.FnExactRunBy" = some 10 by as_aux_lemma => kernel_rfl).symm.trans hf) |>.symm
      obtain rfl : fn = Tryd.f10 := (Option.some.inj (Tryd.func10.symm.trans hfn)).symm
      exact ⟨by as_aux_lemma => kernel_rfl, fun j t ht => by
        rw [Tryd.params10] at ht
        have hm : t ∈ [25, 23] := by simpa using Array.mem_of_getElem? ht
        have hall : ([25, 23].all fun u => !Tryd.prog.wantsStandIn u) = true := by as_aux_lemma => kernel_rfl
        exact (show Tryd.prog.wantsStandIn t = false by simpa using List.all_eq_true.1 hall t hm)⟩)
    (by as_aux_lemma => kernel_rfl)
#print axioms proved
end Go.Proofs.YtjmhmmenampgbaaDoor.FRunBy
