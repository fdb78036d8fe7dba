/- The program's SpaceOfClauses answers as the specification's does, at every argument, leaves its arguments as they are, and its answer owns its memory: no condition. -/
import Derived.Test.YtonimjpfaalniaaDoorRows
import Derived.Test.YtonimjpfaalniaaDoorSf
import Derived.Test.YtonimjpfaalniaaDoorSg
import Derived.Test.YtonimjpfaalniaaDoorTie
import Derived.Test.YtonimjpfaalniaaDoorCards
import Derived.LaidMore
import Derived.Stop.Joined
import Derived.Stop.LaidErr
import Derived.Lib.LaidTab
import Derived.SevenTiedAt
import Derived.Test.YtonimjpfaalniaaDoorHar
import Derived.ProofKit
import Derived.OpenShut
import Derived.Lib.SmallJoins
namespace Go.Proofs.YtonimjpfaalniaaDoor.FSpaceOfClauses
open Go.ChangeShapes Go.WideShapes Go.ChangeAt Go.RowKit Go.Joins
set_option linter.unusedVariables false
set_option linter.unusedSimpArgs false
set_option maxRecDepth 100000

set_option maxHeartbeats 4000000 in
theorem law_c (x0 : Int) (v1 : Value) (l1 : List (List Int)) (w : World) (h1 : rows w.heap.size w v1 l1) (hlen1 : l1.length ≤ 9223372036854775807) (hrow1 : ∀ j, j < l1.length → (l1[j]?.getD []).length ≤ 9223372036854775807) (hT : tab w) :
    Calls Tryd.prog 9 #[.int .i64 x0, v1] w fun e w' => e = .returned (.bool true) ∧ Below w.heap.size w w' := by
  have HT := hide hT
  clear hT
  have hRL := (scL_len x0 l1)
  generalize hN : (scN x0 l1) = N
  generalize hR : (scL x0 l1) = R at hRL
  generalize hO : (scB x0 l1) = ok
  have HN := hide hN
  have HR := hide hR
  have HO := hide hO
  clear hN hR hO
  have F1 := hide ((Below.refl w.heap.size w))
  have F2 := hide (h1)
  clear h1
  have hsz0 : szOf 1048576 (l1.length + tot l1) = -1 ∨ (0 ≤ szOf 1048576 (l1.length + tot l1) ∧ szOf 1048576 (l1.length + tot l1) ≤ 1048576 ∧ (l1.length + tot l1) ≤ 1048576) := by unfold szOf; split <;> omega
  generalize hq0 : szOf 1048576 (l1.length + tot l1) = q0 at hsz0
  have HQ0 := hide hq0
  clear hq0
  rcases hsz0 with hbig0 | ⟨hq0a, hq0b, hq0c⟩
  · have HBIG := hide hbig0
    have hneg : q0 < 0 := by omega
    clear hbig0
    go_enter Tryd.func9, Tryd.ntmps9
    go_wp2_with fail
    refine (szIntSS_c v1 l1 (1048576) w (F2.out.mono (by omega)) hlen1 hrow1 (by omega) (by omega)).mono ?_
    rw [HQ0.out]
    rintro e _ ⟨rfl, rfl⟩
    go_wp2
    go_ret
    exact ⟨rfl, F1.out⟩
  have hneg0 : ¬ q0 < 0 := by omega
  have hsm1 : small2 l1 := ⟨by omega, by omega⟩
  have HSM1 := hide hsm1
  have hmx1 : tot l1 ≤ 1048576 := by omega
  have hmy1 : l1.length ≤ 1048576 := by omega
  clear hsm1
  go_enter Tryd.func9, Tryd.ntmps9
  go_wp2_with fail
  refine (szIntSS_c v1 l1 (1048576) w (F2.out.mono (by omega)) hlen1 hrow1 (by omega) (by omega)).mono ?_
  rw [HQ0.out]
  rintro e _ ⟨rfl, rfl⟩
  have hneg2 : ¬ (1 + (R.length : Int) < 0) := by omega
  go_wp2_with fail
  refine (toIntSS_c v1 l1 w (F2.out.mono (by omega)) (.inl HSM1.out)).mono ?_
  rintro e W1 ⟨v3, rfl, ho4, hb5⟩
  have hz6 := hb5.size
  have F7 := hide (F1.out.trans (hb5.mono (by omega)))
  have F8 := hide (F2.out.below hb5 (by omega))
  have F9 := hide (ho4.toT)
  clear hb5 F1 F2 ho4
  go_wp2_with fail
  refine (specSpaceOfClauses_c x0 _ l1 W1 F9.out.rows HSM1.out (HT.out.belowB HT.out F7.out (Nat.le_refl _))).mono ?_
  rw [HN.out, HR.out, HO.out]
  rintro e W2 ⟨v10, rfl, ho11, hb12⟩
  have hz13 := hb12.size
  have F14 := hide (F7.out.trans (hb12.mono (by omega)))
  have F15 := hide (F8.out.below hb12 (by omega))
  have F16 := hide (F9.out.kept hb12)
  obtain ⟨aa17, cc18, hv19⟩ := ho11.shape
  have F20 := hide (ho11)
  have B21 := hide (F20.out.base)
  have L22 := hide (F20.out.blockLt)
  clear hb12 F7 F8 F9 ho11
  subst hv19
  clear F16
  have F23 := hide (F14.out.alloc (by omega) (.cells #[.int .i64 N, .slice aa17 R.length cc18] 30))
  have F24 := hide (F15.out.alloc (.cells #[.int .i64 N, .slice aa17 R.length cc18] 30))
  have F25 := hide (F20.out.alloc (.cells #[.int .i64 N, .slice aa17 R.length cc18] 30))
  have F26 := hide (hp_last W2 (.cells #[.int .i64 N, .slice aa17 R.length cc18] 30))
  have HZ27 := hide (show (W2.alloc (.cells #[.int .i64 N, .slice aa17 R.length cc18] 30)).heap.size = W2.heap.size + 1 by simp)
  clear F14 F15 F20
  have p28 := cells_at0 F26.out
  have p29 := cells_at1 F26.out
  go_wp2_with fail
  clear p28 p29
  generalize hX : W2.alloc (.cells #[.int .i64 N, .slice aa17 R.length cc18] 30) = W3 at F23 F24 F25 F26 HZ27 ⊢
  have hz30 := Nat.le_of_eq HZ27.out.symm
  clear hX HZ27
  refine (toIntSS_c v1 l1 W3 (F24.out.mono (by omega)) (.inl HSM1.out)).mono ?_
  rintro e W4 ⟨v31, rfl, ho32, hb33⟩
  have hz34 := hb33.size
  have F35 := hide (F23.out.trans (hb33.mono (by omega)))
  have F36 := hide (F24.out.below hb33 (by omega))
  have F37 := hide (F25.out.kept hb33)
  have F38 := hide ((hb33.block (W2.heap.size) (by omega)).trans F26.out)
  have F39 := hide (ho32.toT)
  clear hb33 F23 F24 F25 F26 ho32
  have p40 := cells_at0 F38.out
  have p41 := cells_at1 F38.out
  go_wp2_with fail
  clear p40 p41
  refine (implSpaceOfClauses_c x0 _ l1 W4 F39.out.rows HSM1.out (HT.out.belowB HT.out F35.out (Nat.le_refl _))).mono ?_
  rw [HN.out, HR.out, HO.out]
  rintro e W5 ⟨v42, rfl, ho43, hb44⟩
  have hz45 := hb44.size
  have F46 := hide (F35.out.trans (hb44.mono (by omega)))
  have F47 := hide (F36.out.below hb44 (by omega))
  have F48 := hide (F37.out.kept hb44)
  have F49 := hide ((hb44.block (W2.heap.size) (by omega)).trans F38.out)
  have F50 := hide (F39.out.kept hb44)
  obtain ⟨aa51, cc52, hv53⟩ := ho43.shape
  have F54 := hide (ho43)
  have B55 := hide (F54.out.base)
  have L56 := hide (F54.out.blockLt)
  clear hb44 F35 F36 F37 F38 F39 ho43
  subst hv53
  have F57 := hide (F46.out.alloc (by omega) (.cells #[.int .i64 N, .slice aa51 R.length cc52] 30))
  have F58 := hide (F47.out.alloc (.cells #[.int .i64 N, .slice aa51 R.length cc52] 30))
  have F59 := hide (F48.out.alloc (.cells #[.int .i64 N, .slice aa51 R.length cc52] 30))
  have F60 := hide ((hp_old W5 (.cells #[.int .i64 N, .slice aa51 R.length cc52] 30) (W2.heap.size) (by omega)).trans F49.out)
  have F61 := hide (F50.out.alloc (.cells #[.int .i64 N, .slice aa51 R.length cc52] 30))
  have F62 := hide (F54.out.alloc (.cells #[.int .i64 N, .slice aa51 R.length cc52] 30))
  have F63 := hide (hp_last W5 (.cells #[.int .i64 N, .slice aa51 R.length cc52] 30))
  have HZ64 := hide (show (W5.alloc (.cells #[.int .i64 N, .slice aa51 R.length cc52] 30)).heap.size = W5.heap.size + 1 by simp)
  clear F46 F47 F48 F49 F50 F54
  have p65 := cells_at0 F60.out
  have p66 := cells_at1 F60.out
  have p67 := cells_at0 F63.out
  have p68 := cells_at1 F63.out
  go_wp2_with fail
  clear p65 p66 p67 p68
  generalize hX : W5.alloc (.cells #[.int .i64 N, .slice aa51 R.length cc52] 30) = W6 at F57 F58 F59 F60 F61 F62 F63 HZ64 ⊢
  have hz69 := Nat.le_of_eq HZ64.out.symm
  clear hX HZ64
  refine (eqSpace_same_c N _ _ R W6 (F62.out.ints) (F59.out.ints) hRL).mono ?_
  rintro e W7 ⟨rfl, hb70⟩
  have hz71 := hb70.size
  have F72 := hide (F57.out.trans (hb70.mono (by omega)))
  have F73 := hide (F58.out.below hb70 (by omega))
  have F74 := hide (F59.out.kept hb70)
  have F75 := hide ((hb70.block (W2.heap.size) (by omega)).trans F60.out)
  have F76 := hide (F61.out.kept hb70)
  have F77 := hide (F62.out.kept hb70)
  have F78 := hide ((hb70.block (W5.heap.size) (by omega)).trans F63.out)
  clear hb70 F57 F58 F59 F60 F61 F62 F63
  have p79 := cells_at0 F75.out
  have p80 := cells_at1 F75.out
  have p81 := cells_at0 F78.out
  have p82 := cells_at1 F78.out
  go_wp2_with fail
  clear p79 p80 p81 p82
  refine (toIntSS_c v1 l1 W7 (F73.out.mono (by omega)) (.inl HSM1.out)).mono ?_
  rintro e W8 ⟨v83, rfl, ho84, hb85⟩
  have hz86 := hb85.size
  have F87 := hide (F72.out.trans (hb85.mono (by omega)))
  have F88 := hide (F73.out.below hb85 (by omega))
  have F89 := hide (F74.out.kept hb85)
  have F90 := hide ((hb85.block (W2.heap.size) (by omega)).trans F75.out)
  have F91 := hide (F76.out.kept hb85)
  have F92 := hide (F77.out.kept hb85)
  have F93 := hide ((hb85.block (W5.heap.size) (by omega)).trans F78.out)
  have F94 := hide (ho84.toT)
  clear hb85 F72 F73 F74 F75 F76 F77 F78 ho84
  have p95 := cells_at0 F90.out
  have p96 := cells_at1 F90.out
  have p97 := cells_at0 F93.out
  have p98 := cells_at1 F93.out
  go_wp2_with fail
  clear p95 p96 p97 p98
  refine (eqIntSS_same_c _ _ l1 W8 (F91.out.rows) (F94.out.rows) HSM1.out).mono ?_
  rintro e W9 ⟨rfl, hb99⟩
  have hz100 := hb99.size
  have F101 := hide (F87.out.trans (hb99.mono (by omega)))
  have F102 := hide (F88.out.below hb99 (by omega))
  have F103 := hide (F89.out.kept hb99)
  have F104 := hide ((hb99.block (W2.heap.size) (by omega)).trans F90.out)
  have F105 := hide (F91.out.kept hb99)
  have F106 := hide (F92.out.kept hb99)
  have F107 := hide ((hb99.block (W5.heap.size) (by omega)).trans F93.out)
  have F108 := hide (F94.out.kept hb99)
  clear hb99 F87 F88 F89 F90 F91 F92 F93 F94
  clear F108
  have p109 := cells_at0 F104.out
  have p110 := cells_at1 F104.out
  have p111 := cells_at0 F107.out
  have p112 := cells_at1 F107.out
  go_wp2_with fail
  clear p109 p110 p111 p112
  refine (markIntSST1_c _ l1 W9 _ _ F105.out HSM1.out).mono ?_
  rintro e W10 ⟨rfl, hn114, ho113⟩
  have hz115 := ho113.size
  have F116 := hide (F101.out.trans ((ho113.below (by omega)).mono (by omega)))
  have F117 := hide (F102.out.below (ho113.below (by omega)) (by omega))
  have F118 := hide (F103.out.span ho113 (fun g hg => by have h1 := B21.out g hg; have h2 := L22.out g hg; omega))
  have F119 := hide ((ho113.block (W2.heap.size) (by omega) (by omega)).trans F104.out)
  have F121 := hide (F106.out.span ho113 (fun g hg => by have h1 := B55.out g hg; have h2 := L56.out g hg; omega))
  have F122 := hide ((ho113.block (W5.heap.size) (by omega) (by omega)).trans F107.out)
  clear F101 F102 F103 F104 F105 F106 F107 hn114 ho113
  have hneg3 : ¬ (1 + (tot l1 : Int) < 0) := by omega
  have p123 := cells_at0 F119.out
  have p124 := cells_at1 F119.out
  have p125 := cells_at0 F122.out
  have p126 := cells_at1 F122.out
  go_wp2_with fail
  clear p123 p124 p125 p126
  refine (eqSpace_same_c N _ _ R W10 (F121.out.ints) (F118.out.ints) hRL).mono ?_
  rintro e W11 ⟨rfl, hb127⟩
  have hz128 := hb127.size
  have F129 := hide (F116.out.trans (hb127.mono (by omega)))
  have F130 := hide (F117.out.below hb127 (by omega))
  have F131 := hide (F118.out.kept hb127)
  have F132 := hide ((hb127.block (W2.heap.size) (by omega)).trans F119.out)
  have F133 := hide (F121.out.kept hb127)
  have F134 := hide ((hb127.block (W5.heap.size) (by omega)).trans F122.out)
  clear hb127 F116 F117 F118 F119 F121 F122
  have p135 := cells_at0 F132.out
  have p136 := cells_at1 F132.out
  have p137 := cells_at0 F134.out
  have p138 := cells_at1 F134.out
  go_wp2_with fail
  clear p135 p136 p137 p138
  refine (markSpace_c N _ R (1) W11 _ F133.out (by omega) (by omega) (by omega)).mono ?_
  rintro e W12 ⟨rfl, hn140, ho139⟩
  have hz141 := ho139.size
  have F142 := hide (F129.out.trans (ho139.below w.heap.size (fun g hg => by have := B55.out g hg; omega) (by omega)))
  have F143 := hide (F130.out.below (ho139.below (w.heap.size) (fun g hg => by have := B55.out g hg; omega) (by omega)) (Nat.le_refl _))
  have F144 := hide (F131.out.other ho139 (fun g hg e => by have h1 := B55.out _ e; have h2 := L56.out _ e; have h3 := B21.out _ hg; have h4 := L22.out _ hg; omega))
  have F145 := hide ((ho139.block (W2.heap.size) (by omega) (fun e => by have h1 := B55.out _ e; have h2 := L56.out _ e; omega)).trans F132.out)
  have F147 := hide ((ho139.block (W5.heap.size) (by omega) (fun e => by have h1 := B55.out _ e; have h2 := L56.out _ e; omega)).trans F134.out)
  have F148 := hide hn140
  clear F129 F130 F131 F132 F133 F134 hn140 ho139
  have p149 := cells_at0 F145.out
  have p150 := cells_at1 F145.out
  have p151 := cells_at0 F147.out
  have p152 := cells_at1 F147.out
  go_wp2_with fail
  clear p149 p150 p151 p152
  refine (heldSpace_c N _ R.length 1 W12 (F148.out.ints) hRL (by omega) (by omega)).mono ?_
  rintro e W13 ⟨rfl, hb153⟩
  have hz154 := hb153.size
  have F155 := hide (F142.out.trans (hb153.mono (by omega)))
  have F156 := hide (F143.out.below hb153 (by omega))
  have F157 := hide (F144.out.kept hb153)
  have F158 := hide ((hb153.block (W2.heap.size) (by omega)).trans F145.out)
  have F159 := hide (F148.out.kept hb153)
  have F160 := hide ((hb153.block (W5.heap.size) (by omega)).trans F147.out)
  clear hb153 F142 F143 F144 F145 F148 F147
  have p161 := cells_at0 F158.out
  have p162 := cells_at1 F158.out
  have p163 := cells_at0 F160.out
  have p164 := cells_at1 F160.out
  go_wp2_with fail
  clear p161 p162 p163 p164
  refine (toIntSS_c v1 l1 W13 (F156.out.mono (by omega)) (.inl HSM1.out)).mono ?_
  rintro e W14 ⟨v165, rfl, ho166, hb167⟩
  have hz168 := hb167.size
  have F169 := hide (F155.out.trans (hb167.mono (by omega)))
  have F170 := hide (F156.out.below hb167 (by omega))
  have F171 := hide (F157.out.kept hb167)
  have F172 := hide ((hb167.block (W2.heap.size) (by omega)).trans F158.out)
  have F173 := hide (F159.out.kept hb167)
  have F174 := hide ((hb167.block (W5.heap.size) (by omega)).trans F160.out)
  have F175 := hide (ho166.toT)
  clear hb167 F155 F156 F157 F158 F159 F160 ho166
  have p176 := cells_at0 F172.out
  have p177 := cells_at1 F172.out
  have p178 := cells_at0 F174.out
  have p179 := cells_at1 F174.out
  go_wp2_with fail
  clear p176 p177 p178 p179
  refine (implSpaceOfClauses_c x0 _ l1 W14 F175.out.rows HSM1.out (HT.out.belowB HT.out F169.out (Nat.le_refl _))).mono ?_
  rw [HN.out, HR.out, HO.out]
  rintro e W15 ⟨v180, rfl, ho181, hb182⟩
  have hz183 := hb182.size
  have F184 := hide (F169.out.trans (hb182.mono (by omega)))
  have F185 := hide (F170.out.below hb182 (by omega))
  have F186 := hide (F171.out.kept hb182)
  have F187 := hide ((hb182.block (W2.heap.size) (by omega)).trans F172.out)
  have F188 := hide (F173.out.kept hb182)
  have F189 := hide ((hb182.block (W5.heap.size) (by omega)).trans F174.out)
  have F190 := hide (F175.out.kept hb182)
  obtain ⟨aa191, cc192, hv193⟩ := ho181.shape
  have F194 := hide (ho181)
  have B195 := hide (F194.out.base)
  have L196 := hide (F194.out.blockLt)
  clear hb182 F169 F170 F171 F172 F173 F174 F175 ho181
  subst hv193
  have F197 := hide (F184.out.alloc (by omega) (.cells #[.int .i64 N, .slice aa191 R.length cc192] 30))
  have F198 := hide (F185.out.alloc (.cells #[.int .i64 N, .slice aa191 R.length cc192] 30))
  have F199 := hide (F186.out.alloc (.cells #[.int .i64 N, .slice aa191 R.length cc192] 30))
  have F200 := hide ((hp_old W15 (.cells #[.int .i64 N, .slice aa191 R.length cc192] 30) (W2.heap.size) (by omega)).trans F187.out)
  have F201 := hide (F188.out.alloc (.cells #[.int .i64 N, .slice aa191 R.length cc192] 30))
  have F202 := hide ((hp_old W15 (.cells #[.int .i64 N, .slice aa191 R.length cc192] 30) (W5.heap.size) (by omega)).trans F189.out)
  have F203 := hide (F190.out.alloc (.cells #[.int .i64 N, .slice aa191 R.length cc192] 30))
  have F204 := hide (F194.out.alloc (.cells #[.int .i64 N, .slice aa191 R.length cc192] 30))
  have F205 := hide (hp_last W15 (.cells #[.int .i64 N, .slice aa191 R.length cc192] 30))
  have HZ206 := hide (show (W15.alloc (.cells #[.int .i64 N, .slice aa191 R.length cc192] 30)).heap.size = W15.heap.size + 1 by simp)
  clear F184 F185 F186 F187 F188 F189 F190 F194
  have p207 := cells_at0 F200.out
  have p208 := cells_at1 F200.out
  have p209 := cells_at0 F202.out
  have p210 := cells_at1 F202.out
  have p211 := cells_at0 F205.out
  have p212 := cells_at1 F205.out
  go_wp2_with fail
  clear p207 p208 p209 p210 p211 p212
  generalize hX : W15.alloc (.cells #[.int .i64 N, .slice aa191 R.length cc192] 30) = W16 at F197 F198 F199 F200 F201 F202 F203 F204 F205 HZ206 ⊢
  have hz213 := Nat.le_of_eq HZ206.out.symm
  clear hX HZ206
  refine (eqSpace_same_c N _ _ R W16 (F204.out.ints) (F199.out.ints) hRL).mono ?_
  rintro e W17 ⟨rfl, hb214⟩
  have hz215 := hb214.size
  have F216 := hide (F197.out.trans (hb214.mono (by omega)))
  have F217 := hide (F198.out.below hb214 (by omega))
  have F218 := hide (F199.out.kept hb214)
  have F219 := hide ((hb214.block (W2.heap.size) (by omega)).trans F200.out)
  have F220 := hide (F201.out.kept hb214)
  have F221 := hide ((hb214.block (W5.heap.size) (by omega)).trans F202.out)
  have F222 := hide (F203.out.kept hb214)
  have F223 := hide (F204.out.kept hb214)
  have F224 := hide ((hb214.block (W15.heap.size) (by omega)).trans F205.out)
  clear hb214 F197 F198 F199 F200 F201 F202 F203 F204 F205
  have p225 := cells_at0 F219.out
  have p226 := cells_at1 F219.out
  have p227 := cells_at0 F221.out
  have p228 := cells_at1 F221.out
  have p229 := cells_at0 F224.out
  have p230 := cells_at1 F224.out
  go_wp2_with fail
  clear p225 p226 p227 p228 p229 p230
  refine (heldSpace_c N _ R.length 1 W17 (F220.out.ints) hRL (by omega) (by omega)).mono ?_
  rintro e W18 ⟨rfl, hb231⟩
  have hz232 := hb231.size
  have F233 := hide (F216.out.trans (hb231.mono (by omega)))
  have F234 := hide (F217.out.below hb231 (by omega))
  have F235 := hide (F218.out.kept hb231)
  have F236 := hide ((hb231.block (W2.heap.size) (by omega)).trans F219.out)
  have F237 := hide (F220.out.kept hb231)
  have F238 := hide ((hb231.block (W5.heap.size) (by omega)).trans F221.out)
  have F239 := hide (F222.out.kept hb231)
  have F240 := hide (F223.out.kept hb231)
  have F241 := hide ((hb231.block (W15.heap.size) (by omega)).trans F224.out)
  clear hb231 F216 F217 F218 F219 F220 F221 F222 F223 F224
  have p242 := cells_at0 F236.out
  have p243 := cells_at1 F236.out
  have p244 := cells_at0 F238.out
  have p245 := cells_at1 F238.out
  have p246 := cells_at0 F241.out
  have p247 := cells_at1 F241.out
  go_wp2
  go_ret
  exact ⟨rfl, F233.out⟩

theorem ownK : ownKnob Tryd.prog.godebug = none := by kernel_rfl
theorem laidOut : laidOutB Tryd.prog = true := by kernel_rfl

/-- What a slice of int is, as it comes in. -/
theorem list_open {W : World} {v : Value} {l : List Int} (h : (v = .slice none 0 0 ∧ l = []) ∨ ∃ (a : Addr) (len c : Nat) (zs : List Int), v = .slice (some a) len c ∧ len ≤ zs.length ∧ len ≤ maxLen ∧ (∀ i, i < zs.length → W.cell? (a.add i) = some (.int .i64 (zs.getD i 0))) ∧ l = zs.take len) : ints W.heap.size W v l ∧ l.length ≤ 9223372036854775807 := by
  rcases h with ⟨rfl, rfl⟩ | ⟨x, len, c, zs, rfl, hlt, hm, hcell, rfl⟩
  · exact ⟨.inl ⟨rfl, none, 0, rfl⟩, by simp⟩
  · have htk : (zs.take len).length = len := by simp; omega
    refine ⟨?_, by unfold maxLen at hm; omega⟩
    rcases Nat.eq_zero_or_pos len with h0 | h0
    · subst h0
      exact .inl ⟨by simp, some x, c, rfl⟩
    · obtain ⟨b, off, rfl, hc⟩ := ints_at hcell (by omega)
      have hbl := block_lt_of_cell (hc 0 (by omega))
      refine .inr ⟨b, off, c, by rw [htk], hbl, hbl, fun j hj => ?_⟩
      rw [htk] at hj
      rw [hc j (by omega), List.getElem?_take, if_pos hj]
      rfl

/-- What a slice of slices of int is, as it comes in. -/
theorem rows_open {H : Type} {enc : TypeId × Value → H} {W : World} {b0 : Nat} {v : Value} {d : DataW H} {p : List MemPlace}
    (hv : Value.okWide Tryd.prog W .any b0 37 v) (h : DataW.Trod enc Tryd.prog W 0 (fun _ => true) true 37 v d p) :
    ∃ (L : List (List Int)), rows W.heap.size W v L ∧ L.length ≤ 9223372036854775807 ∧ ∀ j, j < L.length → (L[j]?.getD []).length ≤ 9223372036854775807 := by
  obtain ⟨a0, len0, cap0, rfl⟩ := okWide_slice Tryd.underlying37 hv
  obtain ⟨fuel, hf⟩ := h
  rcases Go.Deep.open_int_rows Tryd.underlying37 Tryd.underlying22 Tryd.underlying3 (by kernel_rfl) (by kernel_rfl) hf with ⟨hcs, _⟩ | ⟨x, len, c, A, Ln, C, Z, hcs, _, hl, hm, _, hr⟩
  · simp [Value.cells] at hcs
    obtain ⟨rfl, rfl, rfl⟩ := hcs
    exact ⟨[], .inl ⟨rfl, none, 0, rfl⟩, by simp, fun j hj => by simp at hj⟩
  · simp [Value.cells] at hcs
    obtain ⟨rfl, rfl, rfl⟩ := hcs
    obtain ⟨h1, h2⟩ := rows_in hl hr
    exact ⟨_, h1, by simp; unfold maxLen at hm; omega, fun j hj => h2 j (by simpa using hj)⟩


/-- What the card's condition gives: the table's cells. -/
theorem tab_of {W : World} (h : laidMetH Tryd.prog Rows.fnExactSpaceOfClausesRow.laid W) : tab W := by
  rw [MakeChecks.laidMetH_plain _ _ _ (by kernel_rfl)] at h
  have h2 := h.tail
  have e : (Rows.laid_math_bits_deBruijn64tab : DataW Unit) = Lib.tabData .u8 (Lib.deBruijn64tab.map fun n : Nat => (n : Int)) := by kernel_rfl
  rw [e] at h2
  have hT := Lib.tabIs_of_head (g := 1) (t := 195) (e := 5) (n := 64) (by kernel_rfl) (by kernel_rfl) (by kernel_rfl) (by kernel_rfl) (by kernel_rfl) (by kernel_rfl) h2
  have hc : ∀ j, j < 64 → W.cell? ⟨1, j, none⟩ = some (.int .u8 (Lib.deBruijn64tab.getD j 0)) := by
    intro j hj
    have h3 := hT.cell (g := 1) (by kernel_rfl) j (by rw [show (Lib.deBruijn64tab.map fun n : Nat => (n : Int)).length = 64 by decide +kernel]; exact hj)
    rw [h3]
    have h4 : ∀ j, j < 64 → (Lib.deBruijn64tab.map fun n : Nat => (n : Int)).getD j 0 = (Lib.deBruijn64tab.getD j 0 : Int) := by decide +kernel
    rw [h4 j hj]
  exact ⟨block_lt_of_cell (hc 0 (by omega)), hc⟩
theorem door_met (os : Os) (args : Array Value) : laidMetH Tryd.prog Rows.fnExactSpaceOfClausesRow.laid ((World.doorLaid Tryd.prog 400 os).forCall (fun _ _ => 0) ⟨#[], args, []⟩).memory :=
  laidMetH_of_parts3 (fuel := 8) (laidMet_of_run' 8 (by kernel_rfl) (by kernel_rfl)) (by kernel_rfl) (by kernel_rfl)

theorem lifted (os : Os) (started : os.Started) (H : Type) (enc : TypeId × Value → H) :
    ReturnsInHanded {} Tryd.checked os 9 .any (fun w args => (Rows.fnExactSpaceOfClausesSpec.pre enc Tryd.prog Tryd.f9 [] false w args ∧ laidMetH Tryd.prog Rows.fnExactSpaceOfClausesRow.laid w) ∧ sizedMet enc Tryd.prog Tryd.f9 (OpenSpec.ofChange Rows.fnExactSpaceOfClausesSpec) false w args)
      (Rows.fnExactSpaceOfClausesSpec.post enc Tryd.prog Tryd.f9 false true false false) := by
  refine returnsInHanded_of_change_and (C := Tryd.checked) (X := fun w _ => laidMetH Tryd.prog Rows.fnExactSpaceOfClausesRow.laid w) (fun _ _ _ hh h => h.of_heap hh) ownK started (by kernel_rfl) Tryd.func9
    (ChangeSpec.witness_shaped (enc := enc) (C := Tryd.checked) (os := os) (X := fun w _ => laidMetH Tryd.prog Rows.fnExactSpaceOfClausesRow.laid w) false (World.doorLaid Tryd.prog 400 os) #[.int .i64 0, .slice none 0 0] 8 rfl (World.shaped_of_RefB (by kernel_rfl) (by kernel_rfl)) (by kernel_rfl) (by kernel_rfl) (by kernel_rfl) (door_met os _)) ?_
  intro W base args ds gs before hval0 hW _ _ hL _
  have hTab := tab_of hL
  have hval : ∀ (j : Nat) t v, Tryd.f9.params[j]? = some t → args[j]? = some v → Value.okWide Tryd.prog W .any base t v := hval0
  have hW' := hW
  obtain ⟨p, q, hA0, hV, rfl, hfz, hnd⟩ := hW
  have hA : DataW.TrodAll enc Tryd.prog W 0 (fun _ => true) true Tryd.f9.params.toList args.toList ds p := hA0
  rw [Tryd.params9] at hA hval
  obtain ⟨v0, vs0, d0, ds0, p0, q0, hargs, rfl, rfl, t0, r0⟩ := trodAll_cons hA
  obtain ⟨v1, vs1, d1, ds1, p1, q1, rfl, rfl, rfl, t1, r1⟩ := trodAll_cons r0
  obtain ⟨rfl, rfl, rfl⟩ := trodAll_nil r1
  obtain rfl : args = #[v0, v1] := by cases args; simp_all
  obtain ⟨rfl, rfl⟩ := trodVars_none hV
  obtain ⟨a0, rfl, rfl, rfl, w0⟩ := open_int Tryd.underlying3 (hval 0 3 v0 rfl rfl) t0
  have k1 := t1
  have lt1 : ∀ x ∈ p1, x.block < W.heap.size := by obtain ⟨m, hm⟩ := k1; exact DataW.trod_lt m _ _ _ hm
  obtain ⟨l1, i1, e1, f1⟩ := rows_open (hval 1 37 v1 rfl rfl) t1
  clear hA0 hval0
  refine (law_c a0 v1 l1 W i1 e1 f1 hTab).mono fun e W' ⟨he, bel⟩ => ?_
  subst he
  exact ⟨_, rfl, _, _, _, [], _, [], hW', trodAll_mk1 (shut_bool Tryd.underlying4 _), (trodAll_cons_mk (shut_int Tryd.underlying3 w0) (trodAll_cons_mk (Below.trod laidOut (by kernel_rfl) (of_decide_eq_true (by kernel_rfl)) k1 bel lt1) trodAll_mk0)), rfl, bel.frame _, fun h => by cases h⟩

set_option maxHeartbeats 4000000 in
theorem over : Rows.fnExactSpaceOfClausesRow.holds Tryd.pinned (OpenSpec.ofChange Rows.fnExactSpaceOfClausesSpec) :=
  OpenClaim.holds_of_wide 9 Tryd.f9 rfl rfl rfl rfl rfl rfl rfl ⟨rfl, rfl, rfl, rfl, rfl⟩ rfl rfl rfl rfl rfl (by as_aux_lemma => kernel_rfl) Tryd.func9 (by as_aux_lemma => kernel_rfl)
    (of_decide_eq_true (by as_aux_lemma => kernel_rfl)) (by unfold Func.isWrapper; first | (rw [if_pos (by decide +kernel)]; kernel_rfl) | (rw [if_neg (by decide +kernel)]; exact ⟨rfl, rfl⟩))
    (fun os started H enc _ => lifted os started H enc)

set_option maxHeartbeats 8000000 in
theorem proved : Rows.FnExactSpaceOfClausesCardSaid :=
  Claim7.holds_tied_plain_at .later [] [.data, .data] true _ false
    over (fun _ h => by cases h) (by as_aux_lemma => kernel_rfl) (fun _ h => by cases h) fnExactSpaceOfClauses_row_tie rfl ⟨rfl, rfl⟩ (by as_aux_lemma => kernel_rfl) rfl
    (fun f fn hf hfn => by
      obtain rfl : f = 9 := Option.some.inj ((show Tryd.prog.funcNamed "loop.example/g01137/laws.FnExactSpaceOfClauses" = some 9 by as_aux_lemma => kernel_rfl).symm.trans hf) |>.symm
      obtain rfl : fn = Tryd.f9 := (Option.some.inj (Tryd.func9.symm.trans hfn)).symm
      exact ⟨by as_aux_lemma => kernel_rfl, fun j t ht => by
        rw [Tryd.params9] at ht
        have hm : t ∈ [3, 37] := by simpa using Array.mem_of_getElem? ht
        have hall : ([3, 37].all fun u => !Tryd.prog.wantsStandIn u) = true := by as_aux_lemma => kernel_rfl
        exact (show Tryd.prog.wantsStandIn t = false by simpa using List.all_eq_true.1 hall t hm)⟩)
    (by as_aux_lemma => kernel_rfl)
#print axioms proved
end Go.Proofs.YtonimjpfaalniaaDoor.FSpaceOfClauses
