/- The program's RunChips answers as the specification's does, at every argument, leaves its arguments as they are, and its answer owns its memory: no condition. -/
import Derived.Test.YtjmhmmenampgbaaDoorRows
import Derived.Test.YtjmhmmenampgbaaDoorYcc
import Derived.Test.YtjmhmmenampgbaaDoorYl
import Derived.Test.YtjmhmmenampgbaaDoorYmk
import Derived.Test.YtjmhmmenampgbaaDoorTie
import Derived.Test.YtjmhmmenampgbaaDoorCards
import Derived.LaidMore
import Derived.Stop.Joined
import Derived.Stop.LaidErr
import Derived.Lib.LaidTab
import Derived.SevenTiedAt
import Derived.Test.YtjmhmmenampgbaaDoorHar
import Derived.ProofKit
import Derived.OpenShut
import Derived.Lib.SmallJoins
namespace Go.Proofs.YtjmhmmenampgbaaDoor.FRunChips
open Go.ChangeShapes Go.WideShapes Go.ChangeAt Go.RowKit Go.Joins
set_option linter.unusedVariables false
set_option linter.unusedSimpArgs false
set_option maxRecDepth 100000

set_option maxHeartbeats 4000000 in
theorem law_c (v0 u0 : Value) (l0 : List (List Int)) (m0 : List Int) (v1 : Value) (l1 : List Int) (w : World) (h0 : rows w.heap.size w v0 l0) (hlen0 : l0.length ≤ 9223372036854775807) (hrow0 : ∀ j, j < l0.length → (l0[j]?.getD []).length ≤ 9223372036854775807) (g0 : ints w.heap.size w u0 m0) (glen0 : m0.length ≤ 9223372036854775807) (h1 : ints w.heap.size w v1 l1) (hlen1 : l1.length ≤ 9223372036854775807) (hT : tab w) :
    Calls Tryd.prog 5 #[.agg #[v0, u0], v1] w fun e w' => e = .returned (.bool true) ∧ Below w.heap.size w w' := by
  have HT := hide hT
  clear hT
  generalize hR : (rcM (irR l0 m0 l1) l0) = R
  generalize hR2 : (rcA l0 m0 l1) = RA
  generalize hO : (irR l0 m0 l1) = ok
  have HR := hide hR
  have HR2 := hide hR2
  have HO := hide hO
  clear hR hR2 hO
  have F1 := hide (((Below.refl w.heap.size w).alloc (Nat.le_refl _) (.cells #[v0, u0] 25)))
  have F2 := hide ((h0.alloc (.cells #[v0, u0] 25)))
  have F3 := hide ((h1.alloc (.cells #[v0, u0] 25)))
  have F4 := hide ((g0.alloc (.cells #[v0, u0] 25)))
  have F5 := hide (show (w.alloc (.cells #[v0, u0] 25)).heap[w.heap.size]? = some (.cells #[v0, u0] 25) from (by have := hp_last w (.cells #[v0, u0] 25); simpa using this))
  have HZ0 := hide (show (w.alloc (.cells #[v0, u0] 25)).heap.size = w.heap.size + 1 by simp)
  clear h0 g0 h1
  by_cases big1 : (1048576 : Int) < (l1.length : Int)
  · have big1n : 1048576 < l1.length := by omega
    go_enter Tryd.func5, Tryd.ntmps5
    go_wp2_with (first | (refine wpList_len sliceT rfl (.tmp _) rfl v1 rfl w.heap.size l1 F3.out ?_))
    go_ret
    exact ⟨rfl, F1.out⟩
  have big1n : ¬ 1048576 < l1.length := by omega
  have big1d : decide (1048576 < l1.length) = false := by simp; omega
  have hsz0 : szOf 1048576 (l0.length + tot l0 + m0.length) = -1 ∨ (0 ≤ szOf 1048576 (l0.length + tot l0 + m0.length) ∧ szOf 1048576 (l0.length + tot l0 + m0.length) ≤ 1048576 ∧ (l0.length + tot l0 + m0.length) ≤ 1048576) := by unfold szOf; split <;> omega
  generalize hq0 : szOf 1048576 (l0.length + tot l0 + m0.length) = q0 at hsz0
  have HQ0 := hide hq0
  clear hq0
  rcases hsz0 with hbig0 | ⟨hq0a, hq0b, hq0c⟩
  · have HBIG := hide hbig0
    have hneg : q0 < 0 := by omega
    clear hbig0
    go_enter Tryd.func5, Tryd.ntmps5
    go_wp2_with (first | (refine wpList_len sliceT rfl (.tmp _) rfl v1 rfl w.heap.size l1 F3.out ?_))
    generalize hX : (w.alloc (.cells #[v0, u0] 25)) = W0 at F1 F2 F3 F4 F5 HZ0 ⊢
    have hz0 := Nat.le_of_eq HZ0.out.symm
    clear hX HZ0
    refine (szChips_c v0 u0 l0 m0 (1048576) W0 (F2.out.mono (by omega)) hlen0 hrow0 (F4.out.mono (by omega)) glen0 (by omega) (by omega)).mono ?_
    rw [HQ0.out]
    rintro e W1 ⟨rfl, hb6⟩
    have hz7 := hb6.size
    have F8 := hide (F1.out.trans (hb6.mono (by omega)))
    have F9 := hide (F2.out.below hb6 (by omega))
    have F10 := hide (F3.out.below hb6 (by omega))
    have F11 := hide (F4.out.below hb6 (by omega))
    have F12 := hide ((hb6.block (w.heap.size) (by omega)).trans F5.out)
    clear hb6 F1 F2 F3 F4 F5
    go_wp2
    go_ret
    exact ⟨rfl, F8.out⟩
  have hneg0 : ¬ q0 < 0 := by omega
  have hsm0 : small2 l0 := ⟨by omega, by omega⟩
  have HSM0 := hide hsm0
  have hmx0 : tot l0 ≤ 1048576 := by omega
  have hmy0 : l0.length ≤ 1048576 := by omega
  clear hsm0
  go_enter Tryd.func5, Tryd.ntmps5
  go_wp2_with (first | (refine wpList_len sliceT rfl (.tmp _) rfl v1 rfl w.heap.size l1 F3.out ?_))
  generalize hX : (w.alloc (.cells #[v0, u0] 25)) = W0 at F1 F2 F3 F4 F5 HZ0 ⊢
  have hz0 := Nat.le_of_eq HZ0.out.symm
  clear hX HZ0
  refine (szChips_c v0 u0 l0 m0 (1048576) W0 (F2.out.mono (by omega)) hlen0 hrow0 (F4.out.mono (by omega)) glen0 (by omega) (by omega)).mono ?_
  rw [HQ0.out]
  rintro e W1 ⟨rfl, hb6⟩
  have hz7 := hb6.size
  have F8 := hide (F1.out.trans (hb6.mono (by omega)))
  have F9 := hide (F2.out.below hb6 (by omega))
  have F10 := hide (F3.out.below hb6 (by omega))
  have F11 := hide (F4.out.below hb6 (by omega))
  have F12 := hide ((hb6.block (w.heap.size) (by omega)).trans F5.out)
  clear hb6 F1 F2 F3 F4 F5
  have hRS : small2 R := by rw [← HR.out]; exact (rcM_smallX HSM0.out)
  have hRL : RA.length < 1000000000 := by rw [← HR2.out]; exact (rcA_len l0 m0 l1)
  have hneg2 : ¬ (1 + (tot R : Int) + (RA.length : Int) < 0) := by omega
  have p13 := cells_at0 F12.out
  have p14 := cells_at1 F12.out
  go_wp2_with fail
  clear p13 p14
  refine (toChips_c v0 u0 l0 m0 W1 (F9.out.mono (by omega)) HSM0.out (F11.out.mono (by omega)) (by omega)).mono ?_
  rintro e W2 ⟨v15, u16, rfl, ho17, hb18⟩
  have hz19 := hb18.size
  have F20 := hide (F8.out.trans (hb18.mono (by omega)))
  have F21 := hide (F9.out.below hb18 (by omega))
  have F22 := hide (F10.out.below hb18 (by omega))
  have F23 := hide (F11.out.below hb18 (by omega))
  have F24 := hide ((hb18.block (w.heap.size) (by omega)).trans F12.out)
  have hle25 : W1.heap.size + 3 ≤ W2.heap.size := (by obtain ⟨mm, h1, h2, _⟩ := ho17; omega)
  obtain ⟨q26, q27, q28⟩ := ho17.rows.shape
  obtain ⟨q29, q30, q31⟩ := ho17.ints.shape
  have F32 := hide (ho17)
  clear hb18 F8 F9 F10 F11 F12 ho17
  subst q28
  subst q31
  have p33 := cells_at0 F24.out
  have p34 := cells_at1 F24.out
  go_wp2_with fail
  clear p33 p34
  refine (toIntS_c v1 l1 W2 (F22.out.mono (by omega)) (by omega)).mono ?_
  rintro e W3 ⟨rfl, hk35, hb36⟩
  have hz37 := hb36.size
  have F38 := hide (F20.out.trans (hb36.mono (by omega)))
  have F39 := hide (F21.out.below hb36 (by omega))
  have F40 := hide (F22.out.below hb36 (by omega))
  have F41 := hide (F23.out.below hb36 (by omega))
  have F42 := hide ((hb36.block (w.heap.size) (by omega)).trans F24.out)
  have F43 := hide (F32.out.kept hb36)
  have F44 := hide (hk35.own (Nat.le_refl _) (by unfold maxLen; omega))
  have B45 := hide (F44.out.base)
  have L46 := hide (F44.out.blockLt)
  clear hb36 F20 F21 F22 F23 F24 F32 hk35
  have p47 := cells_at0 F42.out
  have p48 := cells_at1 F42.out
  go_wp2_with fail
  clear p47 p48
  refine (specRunChips_c _ _ l0 m0 _ l1 W3 F43.out.rows HSM0.out F43.out.ints (by omega) F44.out.ints (by omega) (HT.out.belowB HT.out F38.out (Nat.le_refl _))).mono ?_
  rw [HR.out, HR2.out, HO.out]
  rintro e W4 ⟨v49, u51, rfl, ho50, hb52⟩
  have hz53 := hb52.size
  have F54 := hide (F38.out.trans (hb52.mono (by omega)))
  have F55 := hide (F39.out.below hb52 (by omega))
  have F56 := hide (F40.out.below hb52 (by omega))
  have F57 := hide (F41.out.below hb52 (by omega))
  have F58 := hide ((hb52.block (w.heap.size) (by omega)).trans F42.out)
  have F59 := hide (F43.out.kept hb52)
  have F60 := hide (F44.out.kept hb52)
  obtain ⟨q61, q62, q63, q64, q65, q66⟩ := ho50.toX.shape
  have F67 := hide (ho50.toX)
  clear hb52 F38 F39 F40 F41 F42 F43 F44 ho50
  subst q65
  subst q66
  clear F59
  clear F60
  clear B45 L46
  have F68 := hide (F54.out.alloc (by omega) (.cells #[.slice q61 R.length q62, .slice q63 RA.length q64] 29))
  have F69 := hide (F55.out.alloc (.cells #[.slice q61 R.length q62, .slice q63 RA.length q64] 29))
  have F70 := hide (F56.out.alloc (.cells #[.slice q61 R.length q62, .slice q63 RA.length q64] 29))
  have F71 := hide (F57.out.alloc (.cells #[.slice q61 R.length q62, .slice q63 RA.length q64] 29))
  have F72 := hide ((hp_old W4 (.cells #[.slice q61 R.length q62, .slice q63 RA.length q64] 29) (w.heap.size) (by omega)).trans F58.out)
  have F73 := hide (F67.out.alloc (.cells #[.slice q61 R.length q62, .slice q63 RA.length q64] 29))
  have F74 := hide (hp_last W4 (.cells #[.slice q61 R.length q62, .slice q63 RA.length q64] 29))
  have HZ75 := hide (show (W4.alloc (.cells #[.slice q61 R.length q62, .slice q63 RA.length q64] 29)).heap.size = W4.heap.size + 1 by simp)
  clear F54 F55 F56 F57 F58 F67
  have p76 := cells_at0 F72.out
  have p77 := cells_at1 F72.out
  have p78 := cells_at0 F74.out
  have p79 := cells_at1 F74.out
  go_wp2_with fail
  clear p76 p77 p78 p79
  generalize hX : W4.alloc (.cells #[.slice q61 R.length q62, .slice q63 RA.length q64] 29) = W5 at F68 F69 F70 F71 F72 F73 F74 HZ75 ⊢
  have hz80 := Nat.le_of_eq HZ75.out.symm
  clear hX HZ75
  refine (toChips_c v0 u0 l0 m0 W5 (F69.out.mono (by omega)) HSM0.out (F71.out.mono (by omega)) (by omega)).mono ?_
  rintro e W6 ⟨v81, u82, rfl, ho83, hb84⟩
  have hz85 := hb84.size
  have F86 := hide (F68.out.trans (hb84.mono (by omega)))
  have F87 := hide (F69.out.below hb84 (by omega))
  have F88 := hide (F70.out.below hb84 (by omega))
  have F89 := hide (F71.out.below hb84 (by omega))
  have F90 := hide ((hb84.block (w.heap.size) (by omega)).trans F72.out)
  have F91 := hide (F73.out.kept hb84)
  have F92 := hide ((hb84.block (W4.heap.size) (by omega)).trans F74.out)
  have hle93 : W5.heap.size + 3 ≤ W6.heap.size := (by obtain ⟨mm, h1, h2, _⟩ := ho83; omega)
  obtain ⟨q94, q95, q96⟩ := ho83.rows.shape
  obtain ⟨q97, q98, q99⟩ := ho83.ints.shape
  have F100 := hide (ho83)
  clear hb84 F68 F69 F70 F71 F72 F73 F74 ho83
  subst q96
  subst q99
  have F101 := hide (F86.out.alloc (by omega) (.cells #[.slice q94 l0.length q95, .slice q97 m0.length q98] 29))
  have F102 := hide (F87.out.alloc (.cells #[.slice q94 l0.length q95, .slice q97 m0.length q98] 29))
  have F103 := hide (F88.out.alloc (.cells #[.slice q94 l0.length q95, .slice q97 m0.length q98] 29))
  have F104 := hide (F89.out.alloc (.cells #[.slice q94 l0.length q95, .slice q97 m0.length q98] 29))
  have F105 := hide ((hp_old W6 (.cells #[.slice q94 l0.length q95, .slice q97 m0.length q98] 29) (w.heap.size) (by omega)).trans F90.out)
  have F106 := hide (F91.out.alloc (.cells #[.slice q94 l0.length q95, .slice q97 m0.length q98] 29))
  have F107 := hide ((hp_old W6 (.cells #[.slice q94 l0.length q95, .slice q97 m0.length q98] 29) (W4.heap.size) (by omega)).trans F92.out)
  have F108 := hide (F100.out.alloc (.cells #[.slice q94 l0.length q95, .slice q97 m0.length q98] 29))
  have F109 := hide (hp_last W6 (.cells #[.slice q94 l0.length q95, .slice q97 m0.length q98] 29))
  have HZ110 := hide (show (W6.alloc (.cells #[.slice q94 l0.length q95, .slice q97 m0.length q98] 29)).heap.size = W6.heap.size + 1 by simp)
  clear F86 F87 F88 F89 F90 F91 F92 F100
  have p111 := cells_at0 F105.out
  have p112 := cells_at1 F105.out
  have p113 := cells_at0 F107.out
  have p114 := cells_at1 F107.out
  have p115 := cells_at0 F109.out
  have p116 := cells_at1 F109.out
  go_wp2_with fail
  clear p111 p112 p113 p114 p115 p116
  generalize hX : W6.alloc (.cells #[.slice q94 l0.length q95, .slice q97 m0.length q98] 29) = W7 at F101 F102 F103 F104 F105 F106 F107 F108 F109 HZ110 ⊢
  have hz117 := Nat.le_of_eq HZ110.out.symm
  clear hX HZ110
  refine (toIntS_c v1 l1 W7 (F103.out.mono (by omega)) (by omega)).mono ?_
  rintro e W8 ⟨rfl, hk118, hb119⟩
  have hz120 := hb119.size
  have F121 := hide (F101.out.trans (hb119.mono (by omega)))
  have F122 := hide (F102.out.below hb119 (by omega))
  have F123 := hide (F103.out.below hb119 (by omega))
  have F124 := hide (F104.out.below hb119 (by omega))
  have F125 := hide ((hb119.block (w.heap.size) (by omega)).trans F105.out)
  have F126 := hide (F106.out.kept hb119)
  have F127 := hide ((hb119.block (W4.heap.size) (by omega)).trans F107.out)
  have F128 := hide (F108.out.kept hb119)
  have F129 := hide ((hb119.block (W6.heap.size) (by omega)).trans F109.out)
  have F130 := hide (hk118.own (Nat.le_refl _) (by unfold maxLen; omega))
  have B131 := hide (F130.out.base)
  have L132 := hide (F130.out.blockLt)
  clear hb119 F101 F102 F103 F104 F105 F106 F107 F108 F109 hk118
  have p133 := cells_at0 F125.out
  have p134 := cells_at1 F125.out
  have p135 := cells_at0 F127.out
  have p136 := cells_at1 F127.out
  have p137 := cells_at0 F129.out
  have p138 := cells_at1 F129.out
  go_wp2_with fail
  clear p133 p134 p135 p136 p137 p138
  refine (implRunChips_c _ _ l0 m0 _ l1 W8 F128.out.rows HSM0.out F128.out.ints (by omega) F130.out.ints (by omega) (HT.out.belowB HT.out F121.out (Nat.le_refl _))).mono ?_
  rw [HR.out, HR2.out, HO.out]
  rintro e W9 ⟨v139, u141, rfl, ho140, hb142⟩
  have hz143 := hb142.size
  have F144 := hide (F121.out.trans (hb142.mono (by omega)))
  have F145 := hide (F122.out.below hb142 (by omega))
  have F146 := hide (F123.out.below hb142 (by omega))
  have F147 := hide (F124.out.below hb142 (by omega))
  have F148 := hide ((hb142.block (w.heap.size) (by omega)).trans F125.out)
  have F149 := hide (F126.out.kept hb142)
  have F150 := hide ((hb142.block (W4.heap.size) (by omega)).trans F127.out)
  have F151 := hide (F128.out.kept hb142)
  have F152 := hide ((hb142.block (W6.heap.size) (by omega)).trans F129.out)
  have F153 := hide (F130.out.kept hb142)
  obtain ⟨q154, q155, q156, q157, q158, q159⟩ := ho140.toX.shape
  have F160 := hide (ho140.toX)
  clear hb142 F121 F122 F123 F124 F125 F126 F127 F128 F129 F130 ho140
  subst q158
  subst q159
  have F161 := hide (F144.out.alloc (by omega) (.cells #[.slice q154 R.length q155, .slice q156 RA.length q157] 29))
  have F162 := hide (F145.out.alloc (.cells #[.slice q154 R.length q155, .slice q156 RA.length q157] 29))
  have F163 := hide (F146.out.alloc (.cells #[.slice q154 R.length q155, .slice q156 RA.length q157] 29))
  have F164 := hide (F147.out.alloc (.cells #[.slice q154 R.length q155, .slice q156 RA.length q157] 29))
  have F165 := hide ((hp_old W9 (.cells #[.slice q154 R.length q155, .slice q156 RA.length q157] 29) (w.heap.size) (by omega)).trans F148.out)
  have F166 := hide (F149.out.alloc (.cells #[.slice q154 R.length q155, .slice q156 RA.length q157] 29))
  have F167 := hide ((hp_old W9 (.cells #[.slice q154 R.length q155, .slice q156 RA.length q157] 29) (W4.heap.size) (by omega)).trans F150.out)
  have F168 := hide (F151.out.alloc (.cells #[.slice q154 R.length q155, .slice q156 RA.length q157] 29))
  have F169 := hide ((hp_old W9 (.cells #[.slice q154 R.length q155, .slice q156 RA.length q157] 29) (W6.heap.size) (by omega)).trans F152.out)
  have F170 := hide (F153.out.alloc (.cells #[.slice q154 R.length q155, .slice q156 RA.length q157] 29))
  have F171 := hide (F160.out.alloc (.cells #[.slice q154 R.length q155, .slice q156 RA.length q157] 29))
  have F172 := hide (hp_last W9 (.cells #[.slice q154 R.length q155, .slice q156 RA.length q157] 29))
  have HZ173 := hide (show (W9.alloc (.cells #[.slice q154 R.length q155, .slice q156 RA.length q157] 29)).heap.size = W9.heap.size + 1 by simp)
  clear F144 F145 F146 F147 F148 F149 F150 F151 F152 F153 F160
  have p174 := cells_at0 F165.out
  have p175 := cells_at1 F165.out
  have p176 := cells_at0 F167.out
  have p177 := cells_at1 F167.out
  have p178 := cells_at0 F169.out
  have p179 := cells_at1 F169.out
  have p180 := cells_at0 F172.out
  have p181 := cells_at1 F172.out
  go_wp2_with fail
  clear p174 p175 p176 p177 p178 p179 p180 p181
  generalize hX : W9.alloc (.cells #[.slice q154 R.length q155, .slice q156 RA.length q157] 29) = W10 at F161 F162 F163 F164 F165 F166 F167 F168 F169 F170 F171 F172 HZ173 ⊢
  have hz182 := Nat.le_of_eq HZ173.out.symm
  clear hX HZ173
  refine (eqChips_same_c _ _ _ _ R RA W10 F171.out.rows F171.out.ints F166.out.rows F166.out.ints hRS hRL).mono ?_
  rintro e W11 ⟨rfl, hb183⟩
  have hz184 := hb183.size
  have F185 := hide (F161.out.trans (hb183.mono (by omega)))
  have F186 := hide (F162.out.below hb183 (by omega))
  have F187 := hide (F163.out.below hb183 (by omega))
  have F188 := hide (F164.out.below hb183 (by omega))
  have F189 := hide ((hb183.block (w.heap.size) (by omega)).trans F165.out)
  have F190 := hide (F166.out.kept hb183)
  have F191 := hide ((hb183.block (W4.heap.size) (by omega)).trans F167.out)
  have F192 := hide (F168.out.kept hb183)
  have F193 := hide ((hb183.block (W6.heap.size) (by omega)).trans F169.out)
  have F194 := hide (F170.out.kept hb183)
  have F195 := hide (F171.out.kept hb183)
  have F196 := hide ((hb183.block (W9.heap.size) (by omega)).trans F172.out)
  clear hb183 F161 F162 F163 F164 F165 F166 F167 F168 F169 F170 F171 F172
  have p197 := cells_at0 F189.out
  have p198 := cells_at1 F189.out
  have p199 := cells_at0 F191.out
  have p200 := cells_at1 F191.out
  have p201 := cells_at0 F193.out
  have p202 := cells_at1 F193.out
  have p203 := cells_at0 F196.out
  have p204 := cells_at1 F196.out
  go_wp2
  clear p197 p198 p199 p200 p201 p202 p203 p204
  refine wp_region_held (S := Below W11.heap.size W11) (by kernel_rfl) ?_
  have hS : Below W11.heap.size W11 { W11 with drawn := W11.drawn + 1 } := (Below.refl _ _).drew
  refine wpAnyH_take (i := 0) rfl (by kernel_rfl) (by kernel_rfl) (by kernel_rfl) (fun _ _ _ h => h) (yields_load_two rowCp sizeCp rfl (.tmp _) rfl _ rfl _ _ (fun w' h => (h.cell (p := ⟨W6.heap.size, 0, none⟩) (by show W6.heap.size < _; omega)).trans (cells_at0 F193.out)) (fun w' h => (h.cell (p := ⟨W6.heap.size, 1, none⟩) (by show W6.heap.size < _; omega)).trans (cells_at1 F193.out))) hS ?_
  refine wpAnyH_take (i := 1) rfl (by kernel_rfl) (by kernel_rfl) (by kernel_rfl) (fun _ _ _ h => h) (yields_load_two rowCl sizeCl rfl (.tmp _) rfl _ rfl _ _ (fun w' h => (h.cell (p := ⟨w.heap.size, 0, none⟩) (by show w.heap.size < _; omega)).trans (cells_at0 F189.out)) (fun w' h => (h.cell (p := ⟨w.heap.size, 1, none⟩) (by show w.heap.size < _; omega)).trans (cells_at1 F189.out))) hS ?_
  refine anyH_call (i := 2) (by kernel_rfl) rfl rfl 14 ent_toChips _ _ rfl #[.agg #[v0, u0]] rfl (toChips_c v0 u0 l0 m0 _ ((F186.out.below hS (by omega)).mono (show w.heap.size ≤ W11.heap.size by omega)) HSM0.out ((F188.out.below hS (by omega)).mono (show w.heap.size ≤ W11.heap.size by omega)) (by omega)) ?_
  rintro e W12 ⟨gv, gu, rfl, hkr, hbr⟩
  have hzr : W11.heap.size ≤ W12.heap.size := hbr.size
  have hS6 : Below W11.heap.size W11 W12 := hS.trans hbr
  refine ⟨_, rfl, hS6, ?_⟩
  refine anyH_call (i := 3) (by kernel_rfl) rfl rfl 17 ent_eqChips _ _ rfl #[.agg #[.slice q94 l0.length q95, .slice q97 m0.length q98], .agg #[gv, gu]] rfl (eqChips_same_c _ _ _ _ l0 m0 W12 ((F192.out.kept hS6).rows) ((F192.out.kept hS6).ints) hkr.rows hkr.ints HSM0.out (by omega)) ?_
  rintro e W13 ⟨rfl, hbs⟩
  have hS7 : Below W11.heap.size W11 W13 := hS6.trans (hbs.mono hzr)
  refine ⟨_, rfl, hS7, ?_⟩
  refine anyH_op (i := 4) (by kernel_rfl) rfl rfl (.bool false) W13 ?hq hS7 ?_
  case hq => simp [go_sem, Act.put]
  refine wpAnyH_done (by kernel_rfl) ?_ _
  simp only [Act.put, List.getElem_toArray, List.getElem_cons_zero, List.getElem_cons_succ, List.setIfInBounds_toArray, List.set_cons_zero, List.set_cons_succ]
  have hz205 : W11.heap.size ≤ W13.heap.size := hS7.size
  have F206 := hide (F185.out.trans (hS7.mono (by omega)))
  have F207 := hide (F186.out.below hS7 (by omega))
  have F208 := hide (F187.out.below hS7 (by omega))
  have F209 := hide (F188.out.below hS7 (by omega))
  have F210 := hide ((hS7.block (w.heap.size) (by omega)).trans F189.out)
  have F211 := hide (F190.out.kept hS7)
  have F212 := hide ((hS7.block (W4.heap.size) (by omega)).trans F191.out)
  have F213 := hide (F192.out.kept hS7)
  have F214 := hide ((hS7.block (W6.heap.size) (by omega)).trans F193.out)
  have F215 := hide (F194.out.kept hS7)
  have F216 := hide (F195.out.kept hS7)
  have F217 := hide ((hS7.block (W9.heap.size) (by omega)).trans F196.out)
  clear hS hS6 hS7 hbr hbs hkr hzr F185 F186 F187 F188 F189 F190 F191 F192 F193 F194 F195 F196
  have p218 := cells_at0 F210.out
  have p219 := cells_at1 F210.out
  have p220 := cells_at0 F212.out
  have p221 := cells_at1 F212.out
  have p222 := cells_at0 F214.out
  have p223 := cells_at1 F214.out
  have p224 := cells_at0 F217.out
  have p225 := cells_at1 F217.out
  go_wp2_with fail
  clear p218 p219 p220 p221 p222 p223 p224 p225
  refine (toIntS_c v1 l1 W13 (F208.out.mono (by omega)) (by omega)).mono ?_
  rintro e W14 ⟨rfl, hk226, hb227⟩
  have hz228 := hb227.size
  have F229 := hide (F206.out.trans (hb227.mono (by omega)))
  have F230 := hide (F207.out.below hb227 (by omega))
  have F231 := hide (F208.out.below hb227 (by omega))
  have F232 := hide (F209.out.below hb227 (by omega))
  have F233 := hide ((hb227.block (w.heap.size) (by omega)).trans F210.out)
  have F234 := hide (F211.out.kept hb227)
  have F235 := hide ((hb227.block (W4.heap.size) (by omega)).trans F212.out)
  have F236 := hide (F213.out.kept hb227)
  have F237 := hide ((hb227.block (W6.heap.size) (by omega)).trans F214.out)
  have F238 := hide (F215.out.kept hb227)
  have F239 := hide (F216.out.kept hb227)
  have F240 := hide ((hb227.block (W9.heap.size) (by omega)).trans F217.out)
  have F241 := hide (hk226.own (Nat.le_refl _) (by unfold maxLen; omega))
  have B242 := hide (F241.out.base)
  have L243 := hide (F241.out.blockLt)
  clear hb227 F206 F207 F208 F209 F210 F211 F212 F213 F214 F215 F216 F217 hk226
  have p244 := cells_at0 F233.out
  have p245 := cells_at1 F233.out
  have p246 := cells_at0 F235.out
  have p247 := cells_at1 F235.out
  have p248 := cells_at0 F237.out
  have p249 := cells_at1 F237.out
  have p250 := cells_at0 F240.out
  have p251 := cells_at1 F240.out
  go_wp2_with fail
  clear p244 p245 p246 p247 p248 p249 p250 p251
  refine (eqIntS_same_c _ _ l1 W14 (F238.out.ints) (F241.out.ints) (by omega)).mono ?_
  rintro e W15 ⟨rfl, hb252⟩
  have hz253 := hb252.size
  have F254 := hide (F229.out.trans (hb252.mono (by omega)))
  have F255 := hide (F230.out.below hb252 (by omega))
  have F256 := hide (F231.out.below hb252 (by omega))
  have F257 := hide (F232.out.below hb252 (by omega))
  have F258 := hide ((hb252.block (w.heap.size) (by omega)).trans F233.out)
  have F259 := hide (F234.out.kept hb252)
  have F260 := hide ((hb252.block (W4.heap.size) (by omega)).trans F235.out)
  have F261 := hide (F236.out.kept hb252)
  have F262 := hide ((hb252.block (W6.heap.size) (by omega)).trans F237.out)
  have F263 := hide (F238.out.kept hb252)
  have F264 := hide (F239.out.kept hb252)
  have F265 := hide ((hb252.block (W9.heap.size) (by omega)).trans F240.out)
  have F266 := hide (F241.out.kept hb252)
  clear hb252 F229 F230 F231 F232 F233 F234 F235 F236 F237 F238 F239 F240 F241
  clear F266
  clear B242 L243
  have p267 := cells_at0 F258.out
  have p268 := cells_at1 F258.out
  have p269 := cells_at0 F260.out
  have p270 := cells_at1 F260.out
  have p271 := cells_at0 F262.out
  have p272 := cells_at1 F262.out
  have p273 := cells_at0 F265.out
  have p274 := cells_at1 F265.out
  go_wp2_with fail
  clear p267 p268 p269 p270 p271 p272 p273 p274
  refine (markChipsT_c _ _ l0 m0 W15 _ _ F261.out HSM0.out (by omega) (by omega)).mono ?_
  rintro e W16 ⟨rfl, ho275⟩
  have hz276 := ho275.size
  have F277 := hide (F254.out.trans ((ho275.below (by omega)).mono (by omega)))
  have F278 := hide (F255.out.below (ho275.below (by omega)) (by omega))
  have F279 := hide (F256.out.below (ho275.below (by omega)) (by omega))
  have F280 := hide (F257.out.below (ho275.below (by omega)) (by omega))
  have F281 := hide ((ho275.block (w.heap.size) (by omega) (by omega)).trans F258.out)
  have F282 := hide (F259.out.span ho275 (by omega))
  have F283 := hide ((ho275.block (W4.heap.size) (by omega) (by omega)).trans F260.out)
  have F285 := hide ((ho275.block (W6.heap.size) (by omega) (by omega)).trans F262.out)
  have F286 := hide (F263.out.span ho275 (fun g hg => by have h1 := B131.out g hg; have h2 := L132.out g hg; omega))
  have F287 := hide (F264.out.span ho275 (by omega))
  have F288 := hide ((ho275.block (W9.heap.size) (by omega) (by omega)).trans F265.out)
  clear F254 F255 F256 F257 F258 F259 F260 F261 F262 F263 F264 F265 ho275
  have p289 := cells_at0 F281.out
  have p290 := cells_at1 F281.out
  have p291 := cells_at0 F283.out
  have p292 := cells_at1 F283.out
  have p293 := cells_at0 F285.out
  have p294 := cells_at1 F285.out
  have p295 := cells_at0 F288.out
  have p296 := cells_at1 F288.out
  go_wp2_with fail
  clear p289 p290 p291 p292 p293 p294 p295 p296
  refine (markIntS_c _ l1 (1 + (tot l0 : Int) + (m0.length : Int)) W16 _ F286.out (by omega) (by omega) (by omega)).mono ?_
  rintro e W17 ⟨rfl, hn298, ho297⟩
  have hz299 := ho297.size
  have F300 := hide (F277.out.trans (ho297.below w.heap.size (fun g hg => by have := B131.out g hg; omega) (by omega)))
  have F301 := hide (F278.out.below (ho297.below (w.heap.size) (fun g hg => by have := B131.out g hg; omega) (by omega)) (Nat.le_refl _))
  have F302 := hide (F279.out.below (ho297.below w.heap.size (fun g hg => by have := B131.out g hg; omega) (by omega)) (Nat.le_refl _))
  have F303 := hide (F280.out.below (ho297.below w.heap.size (fun g hg => by have := B131.out g hg; omega) (by omega)) (Nat.le_refl _))
  have F304 := hide ((ho297.block (w.heap.size) (by omega) (fun e => by have h1 := B131.out _ e; have h2 := L132.out _ e; omega)).trans F281.out)
  have F305 := hide (F282.out.otherB ho297 (fun g hg => by have h1 := B131.out g hg; have h2 := L132.out g hg; omega))
  have F306 := hide ((ho297.block (W4.heap.size) (by omega) (fun e => by have h1 := B131.out _ e; have h2 := L132.out _ e; omega)).trans F283.out)
  have F307 := hide ((ho297.block (W6.heap.size) (by omega) (fun e => by have h1 := B131.out _ e; have h2 := L132.out _ e; omega)).trans F285.out)
  have F309 := hide (F287.out.otherB ho297 (fun g hg => by have h1 := B131.out g hg; have h2 := L132.out g hg; omega))
  have F310 := hide ((ho297.block (W9.heap.size) (by omega) (fun e => by have h1 := B131.out _ e; have h2 := L132.out _ e; omega)).trans F288.out)
  have F311 := hide hn298
  clear F277 F278 F279 F280 F281 F282 F283 F285 F286 F287 F288 hn298 ho297
  have hneg3 : ¬ (1 + (tot l0 : Int) + (m0.length : Int) + (l1.length : Int) < 0) := by omega
  have p312 := cells_at0 F304.out
  have p313 := cells_at1 F304.out
  have p314 := cells_at0 F306.out
  have p315 := cells_at1 F306.out
  have p316 := cells_at0 F307.out
  have p317 := cells_at1 F307.out
  have p318 := cells_at0 F310.out
  have p319 := cells_at1 F310.out
  go_wp2_with fail
  clear p312 p313 p314 p315 p316 p317 p318 p319
  refine (eqChips_same_c _ _ _ _ R RA W17 F309.out.rows F309.out.ints F305.out.rows F305.out.ints hRS hRL).mono ?_
  rintro e W18 ⟨rfl, hb320⟩
  have hz321 := hb320.size
  have F322 := hide (F300.out.trans (hb320.mono (by omega)))
  have F323 := hide (F301.out.below hb320 (by omega))
  have F324 := hide (F302.out.below hb320 (by omega))
  have F325 := hide (F303.out.below hb320 (by omega))
  have F326 := hide ((hb320.block (w.heap.size) (by omega)).trans F304.out)
  have F327 := hide (F305.out.kept hb320)
  have F328 := hide ((hb320.block (W4.heap.size) (by omega)).trans F306.out)
  have F329 := hide ((hb320.block (W6.heap.size) (by omega)).trans F307.out)
  have F330 := hide (F311.out.kept hb320)
  have F331 := hide (F309.out.kept hb320)
  have F332 := hide ((hb320.block (W9.heap.size) (by omega)).trans F310.out)
  clear hb320 F300 F301 F302 F303 F304 F305 F306 F307 F311 F309 F310
  have p333 := cells_at0 F326.out
  have p334 := cells_at1 F326.out
  have p335 := cells_at0 F328.out
  have p336 := cells_at1 F328.out
  have p337 := cells_at0 F329.out
  have p338 := cells_at1 F329.out
  have p339 := cells_at0 F332.out
  have p340 := cells_at1 F332.out
  go_wp2_with fail
  clear p333 p334 p335 p336 p337 p338 p339 p340
  refine (markChipsX_c _ _ R RA W18 _ _ F331.out hRS hRL (by omega)).mono ?_
  rintro e W19 ⟨rfl, hn342, ho341⟩
  have hz343 := ho341.size
  have F344 := hide (F322.out.trans ((ho341.below (by omega)).mono (by omega)))
  have F345 := hide (F323.out.below (ho341.below (by omega)) (by omega))
  have F346 := hide (F324.out.below (ho341.below (by omega)) (by omega))
  have F347 := hide (F325.out.below (ho341.below (by omega)) (by omega))
  have F348 := hide ((ho341.block (w.heap.size) (by omega) (by omega)).trans F326.out)
  have F349 := hide (F327.out.span ho341 (by omega))
  have F350 := hide ((ho341.block (W4.heap.size) (by omega) (by omega)).trans F328.out)
  have F351 := hide ((ho341.block (W6.heap.size) (by omega) (by omega)).trans F329.out)
  have F352 := hide (F330.out.span ho341 (fun g hg => by have h1 := B131.out g hg; have h2 := L132.out g hg; omega))
  have F354 := hide ((ho341.block (W9.heap.size) (by omega) (by omega)).trans F332.out)
  have F355 := hide hn342
  clear F322 F323 F324 F325 F326 F327 F328 F329 F330 F331 F332 hn342 ho341
  have p356 := cells_at0 F348.out
  have p357 := cells_at1 F348.out
  have p358 := cells_at0 F350.out
  have p359 := cells_at1 F350.out
  have p360 := cells_at0 F351.out
  have p361 := cells_at1 F351.out
  have p362 := cells_at0 F354.out
  have p363 := cells_at1 F354.out
  go_wp2_with fail
  clear p356 p357 p358 p359 p360 p361 p362 p363
  refine (heldChips_c _ _ R RA.length W19 F355.out.rows F355.out.ints hRS hRL).mono ?_
  rintro e W20 ⟨rfl, hb364⟩
  have hz365 := hb364.size
  have F366 := hide (F344.out.trans (hb364.mono (by omega)))
  have F367 := hide (F345.out.below hb364 (by omega))
  have F368 := hide (F346.out.below hb364 (by omega))
  have F369 := hide (F347.out.below hb364 (by omega))
  have F370 := hide ((hb364.block (w.heap.size) (by omega)).trans F348.out)
  have F371 := hide (F349.out.kept hb364)
  have F372 := hide ((hb364.block (W4.heap.size) (by omega)).trans F350.out)
  have F373 := hide ((hb364.block (W6.heap.size) (by omega)).trans F351.out)
  have F374 := hide (F352.out.kept hb364)
  have F375 := hide (F355.out.kept hb364)
  have F376 := hide ((hb364.block (W9.heap.size) (by omega)).trans F354.out)
  clear hb364 F344 F345 F346 F347 F348 F349 F350 F351 F352 F355 F354
  clear F374
  clear B131 L132
  have p377 := cells_at0 F370.out
  have p378 := cells_at1 F370.out
  have p379 := cells_at0 F372.out
  have p380 := cells_at1 F372.out
  have p381 := cells_at0 F373.out
  have p382 := cells_at1 F373.out
  have p383 := cells_at0 F376.out
  have p384 := cells_at1 F376.out
  go_wp2_with fail
  clear p377 p378 p379 p380 p381 p382 p383 p384
  refine (toChips_c v0 u0 l0 m0 W20 (F367.out.mono (by omega)) HSM0.out (F369.out.mono (by omega)) (by omega)).mono ?_
  rintro e W21 ⟨v385, u386, rfl, ho387, hb388⟩
  have hz389 := hb388.size
  have F390 := hide (F366.out.trans (hb388.mono (by omega)))
  have F391 := hide (F367.out.below hb388 (by omega))
  have F392 := hide (F368.out.below hb388 (by omega))
  have F393 := hide (F369.out.below hb388 (by omega))
  have F394 := hide ((hb388.block (w.heap.size) (by omega)).trans F370.out)
  have F395 := hide (F371.out.kept hb388)
  have F396 := hide ((hb388.block (W4.heap.size) (by omega)).trans F372.out)
  have F397 := hide ((hb388.block (W6.heap.size) (by omega)).trans F373.out)
  have F398 := hide (F375.out.kept hb388)
  have F399 := hide ((hb388.block (W9.heap.size) (by omega)).trans F376.out)
  have hle400 : W20.heap.size + 3 ≤ W21.heap.size := (by obtain ⟨mm, h1, h2, _⟩ := ho387; omega)
  obtain ⟨q401, q402, q403⟩ := ho387.rows.shape
  obtain ⟨q404, q405, q406⟩ := ho387.ints.shape
  have F407 := hide (ho387)
  clear hb388 F366 F367 F368 F369 F370 F371 F372 F373 F375 F376 ho387
  subst q403
  subst q406
  have p408 := cells_at0 F394.out
  have p409 := cells_at1 F394.out
  have p410 := cells_at0 F396.out
  have p411 := cells_at1 F396.out
  have p412 := cells_at0 F397.out
  have p413 := cells_at1 F397.out
  have p414 := cells_at0 F399.out
  have p415 := cells_at1 F399.out
  go_wp2_with fail
  clear p408 p409 p410 p411 p412 p413 p414 p415
  refine (toIntS_c v1 l1 W21 (F392.out.mono (by omega)) (by omega)).mono ?_
  rintro e W22 ⟨rfl, hk416, hb417⟩
  have hz418 := hb417.size
  have F419 := hide (F390.out.trans (hb417.mono (by omega)))
  have F420 := hide (F391.out.below hb417 (by omega))
  have F421 := hide (F392.out.below hb417 (by omega))
  have F422 := hide (F393.out.below hb417 (by omega))
  have F423 := hide ((hb417.block (w.heap.size) (by omega)).trans F394.out)
  have F424 := hide (F395.out.kept hb417)
  have F425 := hide ((hb417.block (W4.heap.size) (by omega)).trans F396.out)
  have F426 := hide ((hb417.block (W6.heap.size) (by omega)).trans F397.out)
  have F427 := hide (F398.out.kept hb417)
  have F428 := hide ((hb417.block (W9.heap.size) (by omega)).trans F399.out)
  have F429 := hide (F407.out.kept hb417)
  have F430 := hide (hk416.own (Nat.le_refl _) (by unfold maxLen; omega))
  have B431 := hide (F430.out.base)
  have L432 := hide (F430.out.blockLt)
  clear hb417 F390 F391 F392 F393 F394 F395 F396 F397 F398 F399 F407 hk416
  have p433 := cells_at0 F423.out
  have p434 := cells_at1 F423.out
  have p435 := cells_at0 F425.out
  have p436 := cells_at1 F425.out
  have p437 := cells_at0 F426.out
  have p438 := cells_at1 F426.out
  have p439 := cells_at0 F428.out
  have p440 := cells_at1 F428.out
  go_wp2_with fail
  clear p433 p434 p435 p436 p437 p438 p439 p440
  refine (implRunChips_c _ _ l0 m0 _ l1 W22 F429.out.rows HSM0.out F429.out.ints (by omega) F430.out.ints (by omega) (HT.out.belowB HT.out F419.out (Nat.le_refl _))).mono ?_
  rw [HR.out, HR2.out, HO.out]
  rintro e W23 ⟨v441, u443, rfl, ho442, hb444⟩
  have hz445 := hb444.size
  have F446 := hide (F419.out.trans (hb444.mono (by omega)))
  have F447 := hide (F420.out.below hb444 (by omega))
  have F448 := hide (F421.out.below hb444 (by omega))
  have F449 := hide (F422.out.below hb444 (by omega))
  have F450 := hide ((hb444.block (w.heap.size) (by omega)).trans F423.out)
  have F451 := hide (F424.out.kept hb444)
  have F452 := hide ((hb444.block (W4.heap.size) (by omega)).trans F425.out)
  have F453 := hide ((hb444.block (W6.heap.size) (by omega)).trans F426.out)
  have F454 := hide (F427.out.kept hb444)
  have F455 := hide ((hb444.block (W9.heap.size) (by omega)).trans F428.out)
  have F456 := hide (F429.out.kept hb444)
  have F457 := hide (F430.out.kept hb444)
  obtain ⟨q458, q459, q460, q461, q462, q463⟩ := ho442.toX.shape
  have F464 := hide (ho442.toX)
  clear hb444 F419 F420 F421 F422 F423 F424 F425 F426 F427 F428 F429 F430 ho442
  subst q462
  subst q463
  have F465 := hide (F446.out.alloc (by omega) (.cells #[.slice q458 R.length q459, .slice q460 RA.length q461] 29))
  have F466 := hide (F447.out.alloc (.cells #[.slice q458 R.length q459, .slice q460 RA.length q461] 29))
  have F467 := hide (F448.out.alloc (.cells #[.slice q458 R.length q459, .slice q460 RA.length q461] 29))
  have F468 := hide (F449.out.alloc (.cells #[.slice q458 R.length q459, .slice q460 RA.length q461] 29))
  have F469 := hide ((hp_old W23 (.cells #[.slice q458 R.length q459, .slice q460 RA.length q461] 29) (w.heap.size) (by omega)).trans F450.out)
  have F470 := hide (F451.out.alloc (.cells #[.slice q458 R.length q459, .slice q460 RA.length q461] 29))
  have F471 := hide ((hp_old W23 (.cells #[.slice q458 R.length q459, .slice q460 RA.length q461] 29) (W4.heap.size) (by omega)).trans F452.out)
  have F472 := hide ((hp_old W23 (.cells #[.slice q458 R.length q459, .slice q460 RA.length q461] 29) (W6.heap.size) (by omega)).trans F453.out)
  have F473 := hide (F454.out.alloc (.cells #[.slice q458 R.length q459, .slice q460 RA.length q461] 29))
  have F474 := hide ((hp_old W23 (.cells #[.slice q458 R.length q459, .slice q460 RA.length q461] 29) (W9.heap.size) (by omega)).trans F455.out)
  have F475 := hide (F456.out.alloc (.cells #[.slice q458 R.length q459, .slice q460 RA.length q461] 29))
  have F476 := hide (F457.out.alloc (.cells #[.slice q458 R.length q459, .slice q460 RA.length q461] 29))
  have F477 := hide (F464.out.alloc (.cells #[.slice q458 R.length q459, .slice q460 RA.length q461] 29))
  have F478 := hide (hp_last W23 (.cells #[.slice q458 R.length q459, .slice q460 RA.length q461] 29))
  have HZ479 := hide (show (W23.alloc (.cells #[.slice q458 R.length q459, .slice q460 RA.length q461] 29)).heap.size = W23.heap.size + 1 by simp)
  clear F446 F447 F448 F449 F450 F451 F452 F453 F454 F455 F456 F457 F464
  have p480 := cells_at0 F469.out
  have p481 := cells_at1 F469.out
  have p482 := cells_at0 F471.out
  have p483 := cells_at1 F471.out
  have p484 := cells_at0 F472.out
  have p485 := cells_at1 F472.out
  have p486 := cells_at0 F474.out
  have p487 := cells_at1 F474.out
  have p488 := cells_at0 F478.out
  have p489 := cells_at1 F478.out
  go_wp2_with fail
  clear p480 p481 p482 p483 p484 p485 p486 p487 p488 p489
  generalize hX : W23.alloc (.cells #[.slice q458 R.length q459, .slice q460 RA.length q461] 29) = W24 at F465 F466 F467 F468 F469 F470 F471 F472 F473 F474 F475 F476 F477 F478 HZ479 ⊢
  have hz490 := Nat.le_of_eq HZ479.out.symm
  clear hX HZ479
  refine (eqChips_same_c _ _ _ _ R RA W24 F477.out.rows F477.out.ints F470.out.rows F470.out.ints hRS hRL).mono ?_
  rintro e W25 ⟨rfl, hb491⟩
  have hz492 := hb491.size
  have F493 := hide (F465.out.trans (hb491.mono (by omega)))
  have F494 := hide (F466.out.below hb491 (by omega))
  have F495 := hide (F467.out.below hb491 (by omega))
  have F496 := hide (F468.out.below hb491 (by omega))
  have F497 := hide ((hb491.block (w.heap.size) (by omega)).trans F469.out)
  have F498 := hide (F470.out.kept hb491)
  have F499 := hide ((hb491.block (W4.heap.size) (by omega)).trans F471.out)
  have F500 := hide ((hb491.block (W6.heap.size) (by omega)).trans F472.out)
  have F501 := hide (F473.out.kept hb491)
  have F502 := hide ((hb491.block (W9.heap.size) (by omega)).trans F474.out)
  have F503 := hide (F475.out.kept hb491)
  have F504 := hide (F476.out.kept hb491)
  have F505 := hide (F477.out.kept hb491)
  have F506 := hide ((hb491.block (W23.heap.size) (by omega)).trans F478.out)
  clear hb491 F465 F466 F467 F468 F469 F470 F471 F472 F473 F474 F475 F476 F477 F478
  have p507 := cells_at0 F497.out
  have p508 := cells_at1 F497.out
  have p509 := cells_at0 F499.out
  have p510 := cells_at1 F499.out
  have p511 := cells_at0 F500.out
  have p512 := cells_at1 F500.out
  have p513 := cells_at0 F502.out
  have p514 := cells_at1 F502.out
  have p515 := cells_at0 F506.out
  have p516 := cells_at1 F506.out
  go_wp2_with fail
  clear p507 p508 p509 p510 p511 p512 p513 p514 p515 p516
  refine (heldChips_c _ _ R RA.length W25 F501.out.rows F501.out.ints hRS hRL).mono ?_
  rintro e W26 ⟨rfl, hb517⟩
  have hz518 := hb517.size
  have F519 := hide (F493.out.trans (hb517.mono (by omega)))
  have F520 := hide (F494.out.below hb517 (by omega))
  have F521 := hide (F495.out.below hb517 (by omega))
  have F522 := hide (F496.out.below hb517 (by omega))
  have F523 := hide ((hb517.block (w.heap.size) (by omega)).trans F497.out)
  have F524 := hide (F498.out.kept hb517)
  have F525 := hide ((hb517.block (W4.heap.size) (by omega)).trans F499.out)
  have F526 := hide ((hb517.block (W6.heap.size) (by omega)).trans F500.out)
  have F527 := hide (F501.out.kept hb517)
  have F528 := hide ((hb517.block (W9.heap.size) (by omega)).trans F502.out)
  have F529 := hide (F503.out.kept hb517)
  have F530 := hide (F504.out.kept hb517)
  have F531 := hide (F505.out.kept hb517)
  have F532 := hide ((hb517.block (W23.heap.size) (by omega)).trans F506.out)
  clear hb517 F493 F494 F495 F496 F497 F498 F499 F500 F501 F502 F503 F504 F505 F506
  have p533 := cells_at0 F523.out
  have p534 := cells_at1 F523.out
  have p535 := cells_at0 F525.out
  have p536 := cells_at1 F525.out
  have p537 := cells_at0 F526.out
  have p538 := cells_at1 F526.out
  have p539 := cells_at0 F528.out
  have p540 := cells_at1 F528.out
  have p541 := cells_at0 F532.out
  have p542 := cells_at1 F532.out
  go_wp2
  go_ret
  exact ⟨rfl, F519.out⟩

theorem ownK : ownKnob Tryd.prog.godebug = none := by kernel_rfl
theorem laidOut : laidOutB Tryd.prog = true := by kernel_rfl

/-- What a slice of int is, as it comes in. -/
theorem list_open {W : World} {v : Value} {l : List Int} (h : (v = .slice none 0 0 ∧ l = []) ∨ ∃ (a : Addr) (len c : Nat) (zs : List Int), v = .slice (some a) len c ∧ len ≤ zs.length ∧ len ≤ maxLen ∧ (∀ i, i < zs.length → W.cell? (a.add i) = some (.int .i64 (zs.getD i 0))) ∧ l = zs.take len) : ints W.heap.size W v l ∧ l.length ≤ 9223372036854775807 := by
  rcases h with ⟨rfl, rfl⟩ | ⟨x, len, c, zs, rfl, hlt, hm, hcell, rfl⟩
  · exact ⟨.inl ⟨rfl, none, 0, rfl⟩, by simp⟩
  · have htk : (zs.take len).length = len := by simp; omega
    refine ⟨?_, by unfold maxLen at hm; omega⟩
    rcases Nat.eq_zero_or_pos len with h0 | h0
    · subst h0
      exact .inl ⟨by simp, some x, c, rfl⟩
    · obtain ⟨b, off, rfl, hc⟩ := ints_at hcell (by omega)
      have hbl := block_lt_of_cell (hc 0 (by omega))
      refine .inr ⟨b, off, c, by rw [htk], hbl, hbl, fun j hj => ?_⟩
      rw [htk] at hj
      rw [hc j (by omega), List.getElem?_take, if_pos hj]
      rfl

/-- What chips are, as they come in. -/
theorem chips_open {H : Type} {enc : TypeId × Value → H} {W : World} {b0 : Nat} {v : Value} {d : DataW H} {p : List MemPlace}
    (hv : Value.okWide Tryd.prog W .any b0 25 v) (h : DataW.Trod enc Tryd.prog W 0 (fun _ => true) true 25 v d p) :
    ∃ (x u : Value) (M : List (List Int)) (l : List Int), v = .agg #[x, u] ∧ rows W.heap.size W x M ∧ M.length ≤ 9223372036854775807 ∧ (∀ j, j < M.length → (M[j]?.getD []).length ≤ 9223372036854775807) ∧ ints W.heap.size W u l ∧ l.length ≤ 9223372036854775807 := by
  obtain ⟨v0, v1, y0, y1, m, rfl, rfl, rfl, hy0, hy1⟩ := open_agg2 Tryd.underlying25 (by kernel_rfl) (by kernel_rfl) hv h
  have h0 : ∃ (x : Value) (M : List (List Int)), v0 = x ∧ rows W.heap.size W x M ∧ M.length ≤ 9223372036854775807 ∧ ∀ j, j < M.length → (M[j]?.getD []).length ≤ 9223372036854775807 := by
    rcases Go.Deep.open_int_rows Tryd.underlying22 Tryd.underlying23 Tryd.underlying3 (by kernel_rfl) (by kernel_rfl) hy0 with ⟨hcs, _⟩ | ⟨x, len, c, A, Ln, C, Z, hcs, _, hl, hm, _, hr⟩
    · simp at hcs
      subst hcs
      exact ⟨_, [], rfl, .inl ⟨rfl, none, 0, rfl⟩, by simp, fun j hj => by simp at hj⟩
    · simp at hcs
      subst hcs
      obtain ⟨h1, h2⟩ := rows_in hl hr
      exact ⟨_, _, rfl, h1, by simp; unfold maxLen at hm; omega, fun j hj => h2 j (by simpa using hj)⟩
  obtain ⟨x, M, rfl, hM1, hM2, hM3⟩ := h0
  rcases open_ints Tryd.underlying23 Tryd.underlying3 (by kernel_rfl) hy1 with ⟨hcs, _⟩ | ⟨x, len, c, zs, hcs, _, hl, hm, hz, _, hcell, hwz⟩
  · simp at hcs
    subst hcs
    obtain ⟨k1, k2⟩ := list_open (W := W) (v := .slice none 0 0) (l := []) (.inl ⟨rfl, rfl⟩)
    exact ⟨_, _, M, [], rfl, hM1, hM2, hM3, k1, k2⟩
  · simp at hcs
    subst hcs
    have hz' : zs.length = c := by simpa using hz
    obtain ⟨k1, k2⟩ := list_open (W := W) (v := .slice (some x) len c) (l := zs.take len) (.inr ⟨x, len, c, zs, rfl, by omega, by unfold maxLen at hm ⊢; omega, hcell, rfl⟩)
    exact ⟨_, _, M, zs.take len, rfl, hM1, hM2, hM3, k1, k2⟩

theorem slice_open {H : Type} {enc : TypeId × Value → H} {W : World} {b0 : Nat} {v : Value} {d : DataW H} {p : List MemPlace}
    (hv : Value.okWide Tryd.prog W .any b0 23 v) (h : DataW.Trod enc Tryd.prog W 0 (fun _ => true) true 23 v d p) :
    ∃ (l : List Int), ints W.heap.size W v l ∧ l.length ≤ 9223372036854775807 := by
  obtain ⟨a0, len0, cap0, rfl⟩ := okWide_slice Tryd.underlying23 hv
  obtain ⟨fuel, hf⟩ := h
  rcases open_ints Tryd.underlying23 Tryd.underlying3 (by kernel_rfl) hf with ⟨hcs, _⟩ | ⟨x, len, c, zs, hcs, _, hl, hm, hz, _, hcell, hwz⟩
  · simp [Value.cells] at hcs
    obtain ⟨rfl, rfl, rfl⟩ := hcs
    exact ⟨[], list_open (.inl ⟨rfl, rfl⟩)⟩
  · simp [Value.cells] at hcs
    obtain ⟨rfl, rfl, rfl⟩ := hcs
    have hz' : zs.length = cap0 := by simpa using hz
    exact ⟨zs.take len0, list_open (.inr ⟨x, len0, cap0, zs, rfl, by omega, by omega, hcell, rfl⟩)⟩


/-- What the card's condition gives: the table's cells. -/
theorem tab_of {W : World} (h : laidMetH Tryd.prog Rows.fnExactRunChipsRow.laid W) : tab W := by
  rw [MakeChecks.laidMetH_plain _ _ _ (by kernel_rfl)] at h
  have h2 := h.tail
  have e : (Rows.laid_math_bits_deBruijn64tab : DataW Unit) = Lib.tabData .u8 (Lib.deBruijn64tab.map fun n : Nat => (n : Int)) := by kernel_rfl
  rw [e] at h2
  have hT := Lib.tabIs_of_head (g := 1) (t := 108) (e := 5) (n := 64) (by kernel_rfl) (by kernel_rfl) (by kernel_rfl) (by kernel_rfl) (by kernel_rfl) (by kernel_rfl) h2
  have hc : ∀ j, j < 64 → W.cell? ⟨1, j, none⟩ = some (.int .u8 (Lib.deBruijn64tab.getD j 0)) := by
    intro j hj
    have h3 := hT.cell (g := 1) (by kernel_rfl) j (by rw [show (Lib.deBruijn64tab.map fun n : Nat => (n : Int)).length = 64 by decide +kernel]; exact hj)
    rw [h3]
    have h4 : ∀ j, j < 64 → (Lib.deBruijn64tab.map fun n : Nat => (n : Int)).getD j 0 = (Lib.deBruijn64tab.getD j 0 : Int) := by decide +kernel
    rw [h4 j hj]
  exact ⟨block_lt_of_cell (hc 0 (by omega)), hc⟩
theorem door_met (os : Os) (args : Array Value) : laidMetH Tryd.prog Rows.fnExactRunChipsRow.laid ((World.doorLaid Tryd.prog 400 os).forCall (fun _ _ => 0) ⟨#[], args, []⟩).memory :=
  laidMetH_of_parts3 (fuel := 8) (laidMet_of_run' 8 (by kernel_rfl) (by kernel_rfl)) (by kernel_rfl) (by kernel_rfl)

theorem lifted (os : Os) (started : os.Started) (H : Type) (enc : TypeId × Value → H) :
    ReturnsInHanded {} Tryd.checked os 5 .any (fun w args => (Rows.fnExactRunChipsSpec.pre enc Tryd.prog Tryd.f5 [] false w args ∧ laidMetH Tryd.prog Rows.fnExactRunChipsRow.laid w) ∧ sizedMet enc Tryd.prog Tryd.f5 (OpenSpec.ofChange Rows.fnExactRunChipsSpec) false w args)
      (Rows.fnExactRunChipsSpec.post enc Tryd.prog Tryd.f5 false true false false) := by
  refine returnsInHanded_of_change_and (C := Tryd.checked) (X := fun w _ => laidMetH Tryd.prog Rows.fnExactRunChipsRow.laid w) (fun _ _ _ hh h => h.of_heap hh) ownK started (by kernel_rfl) Tryd.func5
    (ChangeSpec.witness_shaped (enc := enc) (C := Tryd.checked) (os := os) (X := fun w _ => laidMetH Tryd.prog Rows.fnExactRunChipsRow.laid w) false (World.doorLaid Tryd.prog 400 os) #[.agg #[.slice none 0 0, .slice none 0 0], .slice none 0 0] 8 rfl (World.shaped_of_RefB (by kernel_rfl) (by kernel_rfl)) (by kernel_rfl) (by kernel_rfl) (by kernel_rfl) (door_met os _)) ?_
  intro W base args ds gs before hval0 hW _ _ hL _
  have hTab := tab_of hL
  have hval : ∀ (j : Nat) t v, Tryd.f5.params[j]? = some t → args[j]? = some v → Value.okWide Tryd.prog W .any base t v := hval0
  have hW' := hW
  obtain ⟨p, q, hA0, hV, rfl, hfz, hnd⟩ := hW
  have hA : DataW.TrodAll enc Tryd.prog W 0 (fun _ => true) true Tryd.f5.params.toList args.toList ds p := hA0
  rw [Tryd.params5] at hA hval
  obtain ⟨v0, vs0, d0, ds0, p0, q0, hargs, rfl, rfl, t0, r0⟩ := trodAll_cons hA
  obtain ⟨v1, vs1, d1, ds1, p1, q1, rfl, rfl, rfl, t1, r1⟩ := trodAll_cons r0
  obtain ⟨rfl, rfl, rfl⟩ := trodAll_nil r1
  obtain rfl : args = #[v0, v1] := by cases args; simp_all
  obtain ⟨rfl, rfl⟩ := trodVars_none hV
  have k0 := t0
  have lt0 : ∀ x ∈ p0, x.block < W.heap.size := by obtain ⟨m, hm⟩ := k0; exact DataW.trod_lt m _ _ _ hm
  obtain ⟨c0, u0, l0, m0, rfl, i0, e0, f0, y0, z0⟩ := chips_open (hval 0 25 v0 rfl rfl) t0
  have k1 := t1
  have lt1 : ∀ x ∈ p1, x.block < W.heap.size := by obtain ⟨m, hm⟩ := k1; exact DataW.trod_lt m _ _ _ hm
  obtain ⟨l1, i1, e1⟩ := slice_open (hval 1 23 v1 rfl rfl) t1
  clear hA0 hval0
  refine (law_c c0 u0 l0 m0 v1 l1 W i0 e0 f0 y0 z0 i1 e1 hTab).mono fun e W' ⟨he, bel⟩ => ?_
  subst he
  exact ⟨_, rfl, _, _, _, [], _, [], hW', trodAll_mk1 (shut_bool Tryd.underlying4 _), (trodAll_cons_mk (Below.trod laidOut (by kernel_rfl) (of_decide_eq_true (by kernel_rfl)) k0 bel lt0) (trodAll_cons_mk (Below.trod laidOut (by kernel_rfl) (of_decide_eq_true (by kernel_rfl)) k1 bel lt1) trodAll_mk0)), rfl, bel.frame _, fun h => by cases h⟩

set_option maxHeartbeats 4000000 in
theorem over : Rows.fnExactRunChipsRow.holds Tryd.pinned (OpenSpec.ofChange Rows.fnExactRunChipsSpec) :=
  OpenClaim.holds_of_wide 5 Tryd.f5 rfl rfl rfl rfl rfl rfl rfl ⟨rfl, rfl, rfl, rfl, rfl⟩ rfl rfl rfl rfl rfl (by as_aux_lemma => kernel_rfl) Tryd.func5 (by as_aux_lemma => kernel_rfl)
    (of_decide_eq_true (by as_aux_lemma => kernel_rfl)) (by unfold Func.isWrapper; first | (rw [if_pos (by decide +kernel)]; kernel_rfl) | (rw [if_neg (by decide +kernel)]; exact ⟨rfl, rfl⟩))
    (fun os started H enc _ => lifted os started H enc)

set_option maxHeartbeats 8000000 in
theorem proved : Rows.FnExactRunChipsCardSaid :=
  Claim7.holds_tied_plain_at .later [] [.data, .data] true _ false
    over (fun _ h => by cases h) (by as_aux_lemma => kernel_rfl) (fun _ h => by cases h) fnExactRunChips_row_tie rfl ⟨rfl, rfl⟩ (by as_aux_lemma => kernel_rfl) rfl
    (fun f fn hf hfn => by
      obtain rfl : f = 5 := Option.some.inj ((show Tryd.prog.funcNamed "loop.example/g01137/laws.FnExactRunChips" = some 5 by as_aux_lemma => kernel_rfl).symm.trans hf) |>.symm
      obtain rfl : fn = Tryd.f5 := (Option.some.inj (Tryd.func5.symm.trans hfn)).symm
      exact ⟨by as_aux_lemma => kernel_rfl, fun j t ht => by
        rw [Tryd.params5] at ht
        have hm : t ∈ [25, 23] := by simpa using Array.mem_of_getElem? ht
        have hall : ([25, 23].all fun u => !Tryd.prog.wantsStandIn u) = true := by as_aux_lemma => kernel_rfl
        exact (show Tryd.prog.wantsStandIn t = false by simpa using List.all_eq_true.1 hall t hm)⟩)
    (by as_aux_lemma => kernel_rfl)
#print axioms proved
end Go.Proofs.YtjmhmmenampgbaaDoor.FRunChips
