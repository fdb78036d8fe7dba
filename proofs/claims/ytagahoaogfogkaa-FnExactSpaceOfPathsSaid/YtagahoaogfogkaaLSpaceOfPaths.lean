/- The program's SpaceOfPaths answers as the specification's does, at every argument, leaves its arguments as they are, and its answer owns its memory: no condition. -/
import Derived.Test.YtagahoaogfogkaaRows
import Derived.Test.YtagahoaogfogkaaSpq
import Derived.Test.YtagahoaogfogkaaHar
import Derived.ProofKit
import Derived.OpenShut
import Derived.Lib.SmallJoins
namespace Go.Proofs.Ytagahoaogfogkaa.FSpaceOfPaths
open Go.ChangeShapes Go.WideShapes Go.ChangeAt Go.RowKit Go.Joins
set_option linter.unusedVariables false
set_option linter.unusedSimpArgs false
set_option maxRecDepth 100000

set_option maxHeartbeats 4000000 in
theorem law_c (x0 : Int) (v1 : Value) (l1 : List Int) (w : World) (h1 : ints w.heap.size w v1 l1) (hlen1 : l1.length ≤ 9223372036854775807) :
    Calls Try.prog 9 #[.int .i64 x0, v1] w fun e w' => e = .returned (.bool true) ∧ Below w.heap.size w w' := by
  have hRL := (spL_len x0 l1)
  generalize hN : (spN x0 l1) = N
  generalize hR : (spL x0 l1) = R at hRL
  generalize hO : (spB x0 l1) = ok
  have HN := hide hN
  have HR := hide hR
  have HO := hide hO
  clear hN hR hO
  have F1 := hide ((Below.refl w.heap.size w))
  have F2 := hide (h1)
  clear h1
  by_cases big1 : (1048576 : Int) < (l1.length : Int)
  · have big1n : 1048576 < l1.length := by omega
    go_enter Try.func9, Try.ntmps9
    go_wp2_with (first | (refine wpList_len sliceT rfl (.tmp _) rfl v1 rfl w.heap.size l1 F2.out ?_))
    go_ret
    exact ⟨rfl, F1.out⟩
  have big1n : ¬ 1048576 < l1.length := by omega
  have big1d : decide (1048576 < l1.length) = false := by simp; omega
  go_enter Try.func9, Try.ntmps9
  go_wp2_with (first | (refine wpList_len sliceT rfl (.tmp _) rfl v1 rfl w.heap.size l1 F2.out ?_))
  have hneg2 : ¬ (1 + (R.length : Int) < 0) := by omega
  refine (toIntS_c v1 l1 w (F2.out.mono (by omega)) (by omega)).mono ?_
  rintro e W1 ⟨rfl, hk3, hb4⟩
  have hz5 := hb4.size
  have F6 := hide (F1.out.trans (hb4.mono (by omega)))
  have F7 := hide (F2.out.below hb4 (by omega))
  have F8 := hide (hk3.own (Nat.le_refl _) (by unfold maxLen; omega))
  have B9 := hide (F8.out.base)
  have L10 := hide (F8.out.blockLt)
  clear hb4 F1 F2 hk3
  go_wp2_with fail
  refine (specSpaceOfPaths_c x0 _ l1 W1 F8.out.ints (by omega)).mono ?_
  rw [HN.out, HR.out, HO.out]
  rintro e W2 ⟨v11, rfl, ho12, hb13⟩
  have hz14 := hb13.size
  have F15 := hide (F6.out.trans (hb13.mono (by omega)))
  have F16 := hide (F7.out.below hb13 (by omega))
  have F17 := hide (F8.out.kept hb13)
  obtain ⟨aa18, cc19, hv20⟩ := ho12.shape
  have F21 := hide (ho12)
  have B22 := hide (F21.out.base)
  have L23 := hide (F21.out.blockLt)
  clear hb13 F6 F7 F8 ho12
  subst hv20
  clear F17
  clear B9 L10
  have F24 := hide (F15.out.alloc (by omega) (.cells #[.int .i64 N, .slice aa18 R.length cc19] 26))
  have F25 := hide (F16.out.alloc (.cells #[.int .i64 N, .slice aa18 R.length cc19] 26))
  have F26 := hide (F21.out.alloc (.cells #[.int .i64 N, .slice aa18 R.length cc19] 26))
  have F27 := hide (hp_last W2 (.cells #[.int .i64 N, .slice aa18 R.length cc19] 26))
  have HZ28 := hide (show (W2.alloc (.cells #[.int .i64 N, .slice aa18 R.length cc19] 26)).heap.size = W2.heap.size + 1 by simp)
  clear F15 F16 F21
  have p29 := cells_at0 F27.out
  have p30 := cells_at1 F27.out
  go_wp2_with fail
  clear p29 p30
  generalize hX : W2.alloc (.cells #[.int .i64 N, .slice aa18 R.length cc19] 26) = W3 at F24 F25 F26 F27 HZ28 ⊢
  have hz31 := Nat.le_of_eq HZ28.out.symm
  clear hX HZ28
  refine (toIntS_c v1 l1 W3 (F25.out.mono (by omega)) (by omega)).mono ?_
  rintro e W4 ⟨rfl, hk32, hb33⟩
  have hz34 := hb33.size
  have F35 := hide (F24.out.trans (hb33.mono (by omega)))
  have F36 := hide (F25.out.below hb33 (by omega))
  have F37 := hide (F26.out.kept hb33)
  have F38 := hide ((hb33.block (W2.heap.size) (by omega)).trans F27.out)
  have F39 := hide (hk32.own (Nat.le_refl _) (by unfold maxLen; omega))
  have B40 := hide (F39.out.base)
  have L41 := hide (F39.out.blockLt)
  clear hb33 F24 F25 F26 F27 hk32
  have p42 := cells_at0 F38.out
  have p43 := cells_at1 F38.out
  go_wp2_with fail
  clear p42 p43
  refine (implSpaceOfPaths_c x0 _ l1 W4 F39.out.ints (by omega)).mono ?_
  rw [HN.out, HR.out, HO.out]
  rintro e W5 ⟨v44, rfl, ho45, hb46⟩
  have hz47 := hb46.size
  have F48 := hide (F35.out.trans (hb46.mono (by omega)))
  have F49 := hide (F36.out.below hb46 (by omega))
  have F50 := hide (F37.out.kept hb46)
  have F51 := hide ((hb46.block (W2.heap.size) (by omega)).trans F38.out)
  have F52 := hide (F39.out.kept hb46)
  obtain ⟨aa53, cc54, hv55⟩ := ho45.shape
  have F56 := hide (ho45)
  have B57 := hide (F56.out.base)
  have L58 := hide (F56.out.blockLt)
  clear hb46 F35 F36 F37 F38 F39 ho45
  subst hv55
  have F59 := hide (F48.out.alloc (by omega) (.cells #[.int .i64 N, .slice aa53 R.length cc54] 26))
  have F60 := hide (F49.out.alloc (.cells #[.int .i64 N, .slice aa53 R.length cc54] 26))
  have F61 := hide (F50.out.alloc (.cells #[.int .i64 N, .slice aa53 R.length cc54] 26))
  have F62 := hide ((hp_old W5 (.cells #[.int .i64 N, .slice aa53 R.length cc54] 26) (W2.heap.size) (by omega)).trans F51.out)
  have F63 := hide (F52.out.alloc (.cells #[.int .i64 N, .slice aa53 R.length cc54] 26))
  have F64 := hide (F56.out.alloc (.cells #[.int .i64 N, .slice aa53 R.length cc54] 26))
  have F65 := hide (hp_last W5 (.cells #[.int .i64 N, .slice aa53 R.length cc54] 26))
  have HZ66 := hide (show (W5.alloc (.cells #[.int .i64 N, .slice aa53 R.length cc54] 26)).heap.size = W5.heap.size + 1 by simp)
  clear F48 F49 F50 F51 F52 F56
  have p67 := cells_at0 F62.out
  have p68 := cells_at1 F62.out
  have p69 := cells_at0 F65.out
  have p70 := cells_at1 F65.out
  go_wp2_with fail
  clear p67 p68 p69 p70
  generalize hX : W5.alloc (.cells #[.int .i64 N, .slice aa53 R.length cc54] 26) = W6 at F59 F60 F61 F62 F63 F64 F65 HZ66 ⊢
  have hz71 := Nat.le_of_eq HZ66.out.symm
  clear hX HZ66
  refine (eqSpace_same_c N _ _ R W6 (F64.out.ints) (F61.out.ints) hRL).mono ?_
  rintro e W7 ⟨rfl, hb72⟩
  have hz73 := hb72.size
  have F74 := hide (F59.out.trans (hb72.mono (by omega)))
  have F75 := hide (F60.out.below hb72 (by omega))
  have F76 := hide (F61.out.kept hb72)
  have F77 := hide ((hb72.block (W2.heap.size) (by omega)).trans F62.out)
  have F78 := hide (F63.out.kept hb72)
  have F79 := hide (F64.out.kept hb72)
  have F80 := hide ((hb72.block (W5.heap.size) (by omega)).trans F65.out)
  clear hb72 F59 F60 F61 F62 F63 F64 F65
  have p81 := cells_at0 F77.out
  have p82 := cells_at1 F77.out
  have p83 := cells_at0 F80.out
  have p84 := cells_at1 F80.out
  go_wp2_with fail
  clear p81 p82 p83 p84
  refine (toIntS_c v1 l1 W7 (F75.out.mono (by omega)) (by omega)).mono ?_
  rintro e W8 ⟨rfl, hk85, hb86⟩
  have hz87 := hb86.size
  have F88 := hide (F74.out.trans (hb86.mono (by omega)))
  have F89 := hide (F75.out.below hb86 (by omega))
  have F90 := hide (F76.out.kept hb86)
  have F91 := hide ((hb86.block (W2.heap.size) (by omega)).trans F77.out)
  have F92 := hide (F78.out.kept hb86)
  have F93 := hide (F79.out.kept hb86)
  have F94 := hide ((hb86.block (W5.heap.size) (by omega)).trans F80.out)
  have F95 := hide (hk85.own (Nat.le_refl _) (by unfold maxLen; omega))
  have B96 := hide (F95.out.base)
  have L97 := hide (F95.out.blockLt)
  clear hb86 F74 F75 F76 F77 F78 F79 F80 hk85
  have p98 := cells_at0 F91.out
  have p99 := cells_at1 F91.out
  have p100 := cells_at0 F94.out
  have p101 := cells_at1 F94.out
  go_wp2_with fail
  clear p98 p99 p100 p101
  refine (eqIntS_same_c _ _ l1 W8 (F92.out.ints) (F95.out.ints) (by omega)).mono ?_
  rintro e W9 ⟨rfl, hb102⟩
  have hz103 := hb102.size
  have F104 := hide (F88.out.trans (hb102.mono (by omega)))
  have F105 := hide (F89.out.below hb102 (by omega))
  have F106 := hide (F90.out.kept hb102)
  have F107 := hide ((hb102.block (W2.heap.size) (by omega)).trans F91.out)
  have F108 := hide (F92.out.kept hb102)
  have F109 := hide (F93.out.kept hb102)
  have F110 := hide ((hb102.block (W5.heap.size) (by omega)).trans F94.out)
  have F111 := hide (F95.out.kept hb102)
  clear hb102 F88 F89 F90 F91 F92 F93 F94 F95
  clear F111
  clear B96 L97
  have p112 := cells_at0 F107.out
  have p113 := cells_at1 F107.out
  have p114 := cells_at0 F110.out
  have p115 := cells_at1 F110.out
  go_wp2_with fail
  clear p112 p113 p114 p115
  refine (markIntS_c _ l1 (1) W9 _ F108.out (by omega) (by omega) (by omega)).mono ?_
  rintro e W10 ⟨rfl, hn117, ho116⟩
  have hz118 := ho116.size
  have F119 := hide (F104.out.trans (ho116.below w.heap.size (fun g hg => by have := B40.out g hg; omega) (by omega)))
  have F120 := hide (F105.out.below (ho116.below w.heap.size (fun g hg => by have := B40.out g hg; omega) (by omega)) (Nat.le_refl _))
  have F121 := hide (F106.out.other ho116 (fun g hg e => by have h1 := B40.out _ e; have h2 := L41.out _ e; have h3 := B22.out _ hg; have h4 := L23.out _ hg; omega))
  have F122 := hide ((ho116.block (W2.heap.size) (by omega) (fun e => by have h1 := B40.out _ e; have h2 := L41.out _ e; omega)).trans F107.out)
  have F124 := hide (F109.out.other ho116 (fun g hg e => by have h1 := B40.out _ e; have h2 := L41.out _ e; have h3 := B57.out _ hg; have h4 := L58.out _ hg; omega))
  have F125 := hide ((ho116.block (W5.heap.size) (by omega) (fun e => by have h1 := B40.out _ e; have h2 := L41.out _ e; omega)).trans F110.out)
  have F126 := hide hn117
  clear F104 F105 F106 F107 F108 F109 F110 hn117 ho116
  have hneg3 : ¬ (1 + (l1.length : Int) < 0) := by omega
  have p127 := cells_at0 F122.out
  have p128 := cells_at1 F122.out
  have p129 := cells_at0 F125.out
  have p130 := cells_at1 F125.out
  go_wp2_with fail
  clear p127 p128 p129 p130
  refine (eqSpace_same_c N _ _ R W10 (F124.out.ints) (F121.out.ints) hRL).mono ?_
  rintro e W11 ⟨rfl, hb131⟩
  have hz132 := hb131.size
  have F133 := hide (F119.out.trans (hb131.mono (by omega)))
  have F134 := hide (F120.out.below hb131 (by omega))
  have F135 := hide (F121.out.kept hb131)
  have F136 := hide ((hb131.block (W2.heap.size) (by omega)).trans F122.out)
  have F137 := hide (F126.out.kept hb131)
  have F138 := hide (F124.out.kept hb131)
  have F139 := hide ((hb131.block (W5.heap.size) (by omega)).trans F125.out)
  clear hb131 F119 F120 F121 F122 F126 F124 F125
  have p140 := cells_at0 F136.out
  have p141 := cells_at1 F136.out
  have p142 := cells_at0 F139.out
  have p143 := cells_at1 F139.out
  go_wp2_with fail
  clear p140 p141 p142 p143
  refine (markSpace_c N _ R (1) W11 _ F138.out (by omega) (by omega) (by omega)).mono ?_
  rintro e W12 ⟨rfl, hn145, ho144⟩
  have hz146 := ho144.size
  have F147 := hide (F133.out.trans (ho144.below w.heap.size (fun g hg => by have := B57.out g hg; omega) (by omega)))
  have F148 := hide (F134.out.below (ho144.below w.heap.size (fun g hg => by have := B57.out g hg; omega) (by omega)) (Nat.le_refl _))
  have F149 := hide (F135.out.other ho144 (fun g hg e => by have h1 := B57.out _ e; have h2 := L58.out _ e; have h3 := B22.out _ hg; have h4 := L23.out _ hg; omega))
  have F150 := hide ((ho144.block (W2.heap.size) (by omega) (fun e => by have h1 := B57.out _ e; have h2 := L58.out _ e; omega)).trans F136.out)
  have F151 := hide (F137.out.other ho144 (fun g hg e => by have h1 := B57.out _ e; have h2 := L58.out _ e; have h3 := B40.out _ hg; have h4 := L41.out _ hg; omega))
  have F153 := hide ((ho144.block (W5.heap.size) (by omega) (fun e => by have h1 := B57.out _ e; have h2 := L58.out _ e; omega)).trans F139.out)
  have F154 := hide hn145
  clear F133 F134 F135 F136 F137 F138 F139 hn145 ho144
  have p155 := cells_at0 F150.out
  have p156 := cells_at1 F150.out
  have p157 := cells_at0 F153.out
  have p158 := cells_at1 F153.out
  go_wp2_with fail
  clear p155 p156 p157 p158
  refine (heldSpace_c N _ R.length 1 W12 (F154.out.ints) hRL (by omega) (by omega)).mono ?_
  rintro e W13 ⟨rfl, hb159⟩
  have hz160 := hb159.size
  have F161 := hide (F147.out.trans (hb159.mono (by omega)))
  have F162 := hide (F148.out.below hb159 (by omega))
  have F163 := hide (F149.out.kept hb159)
  have F164 := hide ((hb159.block (W2.heap.size) (by omega)).trans F150.out)
  have F165 := hide (F151.out.kept hb159)
  have F166 := hide (F154.out.kept hb159)
  have F167 := hide ((hb159.block (W5.heap.size) (by omega)).trans F153.out)
  clear hb159 F147 F148 F149 F150 F151 F154 F153
  clear F165
  clear B40 L41
  have p168 := cells_at0 F164.out
  have p169 := cells_at1 F164.out
  have p170 := cells_at0 F167.out
  have p171 := cells_at1 F167.out
  go_wp2_with fail
  clear p168 p169 p170 p171
  refine (toIntS_c v1 l1 W13 (F162.out.mono (by omega)) (by omega)).mono ?_
  rintro e W14 ⟨rfl, hk172, hb173⟩
  have hz174 := hb173.size
  have F175 := hide (F161.out.trans (hb173.mono (by omega)))
  have F176 := hide (F162.out.below hb173 (by omega))
  have F177 := hide (F163.out.kept hb173)
  have F178 := hide ((hb173.block (W2.heap.size) (by omega)).trans F164.out)
  have F179 := hide (F166.out.kept hb173)
  have F180 := hide ((hb173.block (W5.heap.size) (by omega)).trans F167.out)
  have F181 := hide (hk172.own (Nat.le_refl _) (by unfold maxLen; omega))
  have B182 := hide (F181.out.base)
  have L183 := hide (F181.out.blockLt)
  clear hb173 F161 F162 F163 F164 F166 F167 hk172
  have p184 := cells_at0 F178.out
  have p185 := cells_at1 F178.out
  have p186 := cells_at0 F180.out
  have p187 := cells_at1 F180.out
  go_wp2_with fail
  clear p184 p185 p186 p187
  refine (implSpaceOfPaths_c x0 _ l1 W14 F181.out.ints (by omega)).mono ?_
  rw [HN.out, HR.out, HO.out]
  rintro e W15 ⟨v188, rfl, ho189, hb190⟩
  have hz191 := hb190.size
  have F192 := hide (F175.out.trans (hb190.mono (by omega)))
  have F193 := hide (F176.out.below hb190 (by omega))
  have F194 := hide (F177.out.kept hb190)
  have F195 := hide ((hb190.block (W2.heap.size) (by omega)).trans F178.out)
  have F196 := hide (F179.out.kept hb190)
  have F197 := hide ((hb190.block (W5.heap.size) (by omega)).trans F180.out)
  have F198 := hide (F181.out.kept hb190)
  obtain ⟨aa199, cc200, hv201⟩ := ho189.shape
  have F202 := hide (ho189)
  have B203 := hide (F202.out.base)
  have L204 := hide (F202.out.blockLt)
  clear hb190 F175 F176 F177 F178 F179 F180 F181 ho189
  subst hv201
  have F205 := hide (F192.out.alloc (by omega) (.cells #[.int .i64 N, .slice aa199 R.length cc200] 26))
  have F206 := hide (F193.out.alloc (.cells #[.int .i64 N, .slice aa199 R.length cc200] 26))
  have F207 := hide (F194.out.alloc (.cells #[.int .i64 N, .slice aa199 R.length cc200] 26))
  have F208 := hide ((hp_old W15 (.cells #[.int .i64 N, .slice aa199 R.length cc200] 26) (W2.heap.size) (by omega)).trans F195.out)
  have F209 := hide (F196.out.alloc (.cells #[.int .i64 N, .slice aa199 R.length cc200] 26))
  have F210 := hide ((hp_old W15 (.cells #[.int .i64 N, .slice aa199 R.length cc200] 26) (W5.heap.size) (by omega)).trans F197.out)
  have F211 := hide (F198.out.alloc (.cells #[.int .i64 N, .slice aa199 R.length cc200] 26))
  have F212 := hide (F202.out.alloc (.cells #[.int .i64 N, .slice aa199 R.length cc200] 26))
  have F213 := hide (hp_last W15 (.cells #[.int .i64 N, .slice aa199 R.length cc200] 26))
  have HZ214 := hide (show (W15.alloc (.cells #[.int .i64 N, .slice aa199 R.length cc200] 26)).heap.size = W15.heap.size + 1 by simp)
  clear F192 F193 F194 F195 F196 F197 F198 F202
  have p215 := cells_at0 F208.out
  have p216 := cells_at1 F208.out
  have p217 := cells_at0 F210.out
  have p218 := cells_at1 F210.out
  have p219 := cells_at0 F213.out
  have p220 := cells_at1 F213.out
  go_wp2_with fail
  clear p215 p216 p217 p218 p219 p220
  generalize hX : W15.alloc (.cells #[.int .i64 N, .slice aa199 R.length cc200] 26) = W16 at F205 F206 F207 F208 F209 F210 F211 F212 F213 HZ214 ⊢
  have hz221 := Nat.le_of_eq HZ214.out.symm
  clear hX HZ214
  refine (eqSpace_same_c N _ _ R W16 (F212.out.ints) (F207.out.ints) hRL).mono ?_
  rintro e W17 ⟨rfl, hb222⟩
  have hz223 := hb222.size
  have F224 := hide (F205.out.trans (hb222.mono (by omega)))
  have F225 := hide (F206.out.below hb222 (by omega))
  have F226 := hide (F207.out.kept hb222)
  have F227 := hide ((hb222.block (W2.heap.size) (by omega)).trans F208.out)
  have F228 := hide (F209.out.kept hb222)
  have F229 := hide ((hb222.block (W5.heap.size) (by omega)).trans F210.out)
  have F230 := hide (F211.out.kept hb222)
  have F231 := hide (F212.out.kept hb222)
  have F232 := hide ((hb222.block (W15.heap.size) (by omega)).trans F213.out)
  clear hb222 F205 F206 F207 F208 F209 F210 F211 F212 F213
  have p233 := cells_at0 F227.out
  have p234 := cells_at1 F227.out
  have p235 := cells_at0 F229.out
  have p236 := cells_at1 F229.out
  have p237 := cells_at0 F232.out
  have p238 := cells_at1 F232.out
  go_wp2_with fail
  clear p233 p234 p235 p236 p237 p238
  refine (heldSpace_c N _ R.length 1 W17 (F228.out.ints) hRL (by omega) (by omega)).mono ?_
  rintro e W18 ⟨rfl, hb239⟩
  have hz240 := hb239.size
  have F241 := hide (F224.out.trans (hb239.mono (by omega)))
  have F242 := hide (F225.out.below hb239 (by omega))
  have F243 := hide (F226.out.kept hb239)
  have F244 := hide ((hb239.block (W2.heap.size) (by omega)).trans F227.out)
  have F245 := hide (F228.out.kept hb239)
  have F246 := hide ((hb239.block (W5.heap.size) (by omega)).trans F229.out)
  have F247 := hide (F230.out.kept hb239)
  have F248 := hide (F231.out.kept hb239)
  have F249 := hide ((hb239.block (W15.heap.size) (by omega)).trans F232.out)
  clear hb239 F224 F225 F226 F227 F228 F229 F230 F231 F232
  have p250 := cells_at0 F244.out
  have p251 := cells_at1 F244.out
  have p252 := cells_at0 F246.out
  have p253 := cells_at1 F246.out
  have p254 := cells_at0 F249.out
  have p255 := cells_at1 F249.out
  go_wp2
  go_ret
  exact ⟨rfl, F241.out⟩

theorem ownK : ownKnob Try.prog.godebug = none := by kernel_rfl
theorem laidOut : laidOutB Try.prog = true := by kernel_rfl

/-- What a slice of int is, as it comes in. -/
theorem list_open {W : World} {v : Value} {l : List Int} (h : (v = .slice none 0 0 ∧ l = []) ∨ ∃ (a : Addr) (len c : Nat) (zs : List Int), v = .slice (some a) len c ∧ len ≤ zs.length ∧ len ≤ maxLen ∧ (∀ i, i < zs.length → W.cell? (a.add i) = some (.int .i64 (zs.getD i 0))) ∧ l = zs.take len) : ints W.heap.size W v l ∧ l.length ≤ 9223372036854775807 := by
  rcases h with ⟨rfl, rfl⟩ | ⟨x, len, c, zs, rfl, hlt, hm, hcell, rfl⟩
  · exact ⟨.inl ⟨rfl, none, 0, rfl⟩, by simp⟩
  · have htk : (zs.take len).length = len := by simp; omega
    refine ⟨?_, by unfold maxLen at hm; omega⟩
    rcases Nat.eq_zero_or_pos len with h0 | h0
    · subst h0
      exact .inl ⟨by simp, some x, c, rfl⟩
    · obtain ⟨b, off, rfl, hc⟩ := ints_at hcell (by omega)
      have hbl := block_lt_of_cell (hc 0 (by omega))
      refine .inr ⟨b, off, c, by rw [htk], hbl, hbl, fun j hj => ?_⟩
      rw [htk] at hj
      rw [hc j (by omega), List.getElem?_take, if_pos hj]
      rfl

theorem slice_open {H : Type} {enc : TypeId × Value → H} {W : World} {b0 : Nat} {v : Value} {d : DataW H} {p : List MemPlace}
    (hv : Value.okWide Try.prog W .any b0 24 v) (h : DataW.Trod enc Try.prog W 0 (fun _ => true) true 24 v d p) :
    ∃ (l : List Int), ints W.heap.size W v l ∧ l.length ≤ 9223372036854775807 := by
  obtain ⟨a0, len0, cap0, rfl⟩ := okWide_slice Try.underlying24 hv
  obtain ⟨fuel, hf⟩ := h
  rcases open_ints Try.underlying24 Try.underlying3 (by kernel_rfl) hf with ⟨hcs, _⟩ | ⟨x, len, c, zs, hcs, _, hl, hm, hz, _, hcell, hwz⟩
  · simp [Value.cells] at hcs
    obtain ⟨rfl, rfl, rfl⟩ := hcs
    exact ⟨[], list_open (.inl ⟨rfl, rfl⟩)⟩
  · simp [Value.cells] at hcs
    obtain ⟨rfl, rfl, rfl⟩ := hcs
    have hz' : zs.length = cap0 := by simpa using hz
    exact ⟨zs.take len0, list_open (.inr ⟨x, len0, cap0, zs, rfl, by omega, by omega, hcell, rfl⟩)⟩

theorem lifted (os : Os) (started : os.Started) (H : Type) (enc : TypeId × Value → H) :
    ReturnsInHanded {} Try.checked os 9 .any (Rows.fnExactSpaceOfPathsSpec.pre6 enc Try.prog Try.f9 Rows.fnExactSpaceOfPathsRow.domain false) (Rows.fnExactSpaceOfPathsSpec.post enc Try.prog Try.f9 false true false false) := by
  refine returnsInHanded_of_change (C := Try.checked) ownK started (by kernel_rfl) Try.func9
    (ChangeSpec.witness6 (enc := enc) (C := Try.checked) false ⟨#[], #[.int .i64 0, .slice none 0 0], []⟩ 8 (by kernel_rfl) (by kernel_rfl) (by kernel_rfl) (by kernel_rfl)) ?_
  intro W base args ds gs before hval0 hW hcnd _
  have hval : ∀ (j : Nat) t v, Try.f9.params[j]? = some t → args[j]? = some v → Value.okWide Try.prog W .any base t v := hval0
  have hW' := hW
  obtain ⟨p, q, hA0, hV, rfl, hfz, hnd⟩ := hW
  have hA : DataW.TrodAll enc Try.prog W 0 (fun _ => true) true Try.f9.params.toList args.toList ds p := hA0
  rw [Try.params9] at hA hval
  obtain ⟨v0, vs0, d0, ds0, p0, q0, hargs, rfl, rfl, t0, r0⟩ := trodAll_cons hA
  obtain ⟨v1, vs1, d1, ds1, p1, q1, rfl, rfl, rfl, t1, r1⟩ := trodAll_cons r0
  obtain ⟨rfl, rfl, rfl⟩ := trodAll_nil r1
  obtain rfl : args = #[v0, v1] := by cases args; simp_all
  obtain ⟨rfl, rfl⟩ := trodVars_none hV
  obtain ⟨a0, rfl, rfl, rfl, w0⟩ := open_int Try.underlying3 (hval 0 3 v0 rfl rfl) t0
  have k1 := t1
  have lt1 : ∀ x ∈ p1, x.block < W.heap.size := by obtain ⟨m, hm⟩ := k1; exact DataW.trod_lt m _ _ _ hm
  obtain ⟨l1, i1, e1⟩ := slice_open (hval 1 24 v1 rfl rfl) t1
  clear hA0 hval0
  refine (law_c a0 v1 l1 W i1 e1).mono fun e W' ⟨he, bel⟩ => ?_
  subst he
  exact ⟨_, rfl, _, _, _, [], _, [], hW', trodAll_mk1 (shut_bool Try.underlying4 _), (trodAll_cons_mk (shut_int Try.underlying3 w0) (trodAll_cons_mk (Below.trod laidOut (by kernel_rfl) (of_decide_eq_true (by kernel_rfl)) k1 bel lt1) trodAll_mk0)), rfl, bel.frame _, fun h => by cases h⟩

theorem over : Rows.fnExactSpaceOfPathsRow.holds Try.pinned (OpenSpec.ofChange Rows.fnExactSpaceOfPathsSpec) :=
  OpenClaim.holds_of_wide 9 Try.f9 rfl rfl rfl rfl rfl rfl rfl ⟨rfl, rfl, rfl, rfl, rfl⟩ rfl rfl rfl rfl rfl (by as_aux_lemma => kernel_rfl) Try.func9 (by as_aux_lemma => kernel_rfl)
    (of_decide_eq_true (by as_aux_lemma => kernel_rfl)) (by unfold Func.isWrapper; first | (rw [if_pos (by decide +kernel)]; kernel_rfl) | (rw [if_neg (by decide +kernel)]; exact ⟨rfl, rfl⟩))
    (fun os started H enc _ => lifted os started H enc)

theorem proved : Rows.FnExactSpaceOfPathsSaid := over
#print axioms proved
end Go.Proofs.Ytagahoaogfogkaa.FSpaceOfPaths
