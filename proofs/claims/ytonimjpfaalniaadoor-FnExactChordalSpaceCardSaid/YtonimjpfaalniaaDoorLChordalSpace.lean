/- The program's ChordalSpace answers as the specification's does, at every argument, leaves its arguments as they are, and its answer owns its memory: no condition. -/
import Derived.Test.YtonimjpfaalniaaDoorRows
import Derived.Test.YtonimjpfaalniaaDoorNe
import Derived.Test.YtonimjpfaalniaaDoorNv
import Derived.Test.YtonimjpfaalniaaDoorTie
import Derived.Test.YtonimjpfaalniaaDoorCards
import Derived.LaidMore
import Derived.Stop.Joined
import Derived.Stop.LaidErr
import Derived.Lib.LaidTab
import Derived.SevenTiedAt
import Derived.Test.YtonimjpfaalniaaDoorHar
import Derived.ProofKit
import Derived.OpenShut
import Derived.Lib.SmallJoins
namespace Go.Proofs.YtonimjpfaalniaaDoor.FChordalSpace
open Go.ChangeShapes Go.WideShapes Go.ChangeAt Go.RowKit Go.Joins
set_option linter.unusedVariables false
set_option linter.unusedSimpArgs false
set_option maxRecDepth 100000

set_option maxHeartbeats 4000000 in
theorem law_c (v0 : Value) (l0 : List Int) (w : World) (h0 : ints w.heap.size w v0 l0) (hlen0 : l0.length ≤ 9223372036854775807) (hT : tab w) :
    Calls Tryd.prog 13 #[.agg #[v0]] w fun e w' => e = .returned (.bool true) ∧ Below w.heap.size w w' := by
  have HT := hide hT
  clear hT
  have hRL := csL_len l0
  generalize hN : cfN l0 = N
  generalize hR : csL l0 = R at hRL
  generalize hO : cfB l0 = ok
  have HN := hide hN
  have HR := hide hR
  have HO := hide hO
  clear hN hR hO
  have F1 := hide (((Below.refl w.heap.size w).alloc (Nat.le_refl _) (.cells #[v0] 59)))
  have F2 := hide ((h0.alloc (.cells #[v0] 59)))
  have F3 := hide (show (w.alloc (.cells #[v0] 59)).heap[w.heap.size]? = some (.cells #[v0] 59) from (by have := hp_last w (.cells #[v0] 59); simpa using this))
  have HZ0 := hide (show (w.alloc (.cells #[v0] 59)).heap.size = w.heap.size + 1 by simp)
  clear h0
  have hsz0 : szOf 1048576 l0.length = -1 ∨ (0 ≤ szOf 1048576 l0.length ∧ szOf 1048576 l0.length ≤ 1048576 ∧ l0.length ≤ 1048576) := by unfold szOf; split <;> omega
  generalize hq0 : szOf 1048576 l0.length = q0 at hsz0
  have HQ0 := hide hq0
  clear hq0
  rcases hsz0 with hbig0 | ⟨hq0a, hq0b, hq0c⟩
  · have HBIG := hide hbig0
    have hneg : q0 < 0 := by omega
    clear hbig0
    go_enter Tryd.func13, Tryd.ntmps13
    go_wp2_with fail
    generalize hX : (w.alloc (.cells #[v0] 59)) = W0 at F1 F2 F3 HZ0 ⊢
    have hz0 := Nat.le_of_eq HZ0.out.symm
    clear hX HZ0
    refine (szNet_c v0 l0 (1048576) W0 (F2.out.mono (by omega)) hlen0 (by omega) (by omega)).mono ?_
    rw [HQ0.out]
    rintro e W1 ⟨rfl, hb4⟩
    have hz5 := hb4.size
    have F6 := hide (F1.out.trans (hb4.mono (by omega)))
    have F7 := hide (F2.out.below hb4 (by omega))
    have F8 := hide ((hb4.block (w.heap.size) (by omega)).trans F3.out)
    clear hb4 F1 F2 F3
    go_wp2
    go_ret
    exact ⟨rfl, F6.out⟩
  have hneg0 : ¬ q0 < 0 := by omega
  go_enter Tryd.func13, Tryd.ntmps13
  go_wp2_with fail
  generalize hX : (w.alloc (.cells #[v0] 59)) = W0 at F1 F2 F3 HZ0 ⊢
  have hz0 := Nat.le_of_eq HZ0.out.symm
  clear hX HZ0
  refine (szNet_c v0 l0 (1048576) W0 (F2.out.mono (by omega)) hlen0 (by omega) (by omega)).mono ?_
  rw [HQ0.out]
  rintro e W1 ⟨rfl, hb4⟩
  have hz5 := hb4.size
  have F6 := hide (F1.out.trans (hb4.mono (by omega)))
  have F7 := hide (F2.out.below hb4 (by omega))
  have F8 := hide ((hb4.block (w.heap.size) (by omega)).trans F3.out)
  clear hb4 F1 F2 F3
  have hneg2 : ¬ (1 + (R.length : Int) < 0) := by omega
  have p9 := cell1_at0 F8.out
  go_wp2_with fail
  clear p9
  refine (toNet_c v0 l0 W1 (F7.out.mono (by omega)) (by omega)).mono ?_
  rintro e W2 ⟨g10, rfl, hg11, hk12, hb13⟩
  have hz14 := hb13.size
  have F15 := hide (F6.out.trans (hb13.mono (by omega)))
  have F16 := hide (F7.out.below hb13 (by omega))
  have F17 := hide ((hb13.block (w.heap.size) (by omega)).trans F8.out)
  have F18 := hide (hk12.own hg11 (by unfold maxLen; omega))
  have B19 := hide (F18.out.base)
  have L20 := hide (F18.out.blockLt)
  clear hb13 F6 F7 F8 hk12 hg11
  have p21 := cell1_at0 F17.out
  go_wp2_with fail
  clear p21
  refine (specChordalSpace_c _ l0 W2 F18.out.ints (by omega) (HT.out.belowB HT.out F15.out (Nat.le_refl _))).mono ?_
  rw [HN.out, HR.out, HO.out]
  rintro e W3 ⟨v22, rfl, ho23, hb24⟩
  have hz25 := hb24.size
  have F26 := hide (F15.out.trans (hb24.mono (by omega)))
  have F27 := hide (F16.out.below hb24 (by omega))
  have F28 := hide ((hb24.block (w.heap.size) (by omega)).trans F17.out)
  have F29 := hide (F18.out.kept hb24)
  obtain ⟨aa30, cc31, hv32⟩ := ho23.shape
  have F33 := hide (ho23)
  have B34 := hide (F33.out.base)
  have L35 := hide (F33.out.blockLt)
  clear hb24 F15 F16 F17 F18 ho23
  subst hv32
  clear F29
  clear B19 L20
  have F36 := hide (F26.out.alloc (by omega) (.cells #[.int .i64 N, .slice aa30 R.length cc31] 30))
  have F37 := hide (F27.out.alloc (.cells #[.int .i64 N, .slice aa30 R.length cc31] 30))
  have F38 := hide ((hp_old W3 (.cells #[.int .i64 N, .slice aa30 R.length cc31] 30) (w.heap.size) (by omega)).trans F28.out)
  have F39 := hide (F33.out.alloc (.cells #[.int .i64 N, .slice aa30 R.length cc31] 30))
  have F40 := hide (hp_last W3 (.cells #[.int .i64 N, .slice aa30 R.length cc31] 30))
  have HZ41 := hide (show (W3.alloc (.cells #[.int .i64 N, .slice aa30 R.length cc31] 30)).heap.size = W3.heap.size + 1 by simp)
  clear F26 F27 F28 F33
  have p42 := cell1_at0 F38.out
  have p43 := cells_at0 F40.out
  have p44 := cells_at1 F40.out
  go_wp2_with fail
  clear p42 p43 p44
  generalize hX : W3.alloc (.cells #[.int .i64 N, .slice aa30 R.length cc31] 30) = W4 at F36 F37 F38 F39 F40 HZ41 ⊢
  have hz45 := Nat.le_of_eq HZ41.out.symm
  clear hX HZ41
  refine (toNet_c v0 l0 W4 (F37.out.mono (by omega)) (by omega)).mono ?_
  rintro e W5 ⟨g46, rfl, hg47, hk48, hb49⟩
  have hz50 := hb49.size
  have F51 := hide (F36.out.trans (hb49.mono (by omega)))
  have F52 := hide (F37.out.below hb49 (by omega))
  have F53 := hide ((hb49.block (w.heap.size) (by omega)).trans F38.out)
  have F54 := hide (F39.out.kept hb49)
  have F55 := hide ((hb49.block (W3.heap.size) (by omega)).trans F40.out)
  have F56 := hide (hk48.own hg47 (by unfold maxLen; omega))
  have B57 := hide (F56.out.base)
  have L58 := hide (F56.out.blockLt)
  clear hb49 F36 F37 F38 F39 F40 hk48 hg47
  have F59 := hide (F51.out.alloc (by omega) (.cells #[.slice (some ⟨g46, 0, none⟩) l0.length l0.length] 62))
  have F60 := hide (F52.out.alloc (.cells #[.slice (some ⟨g46, 0, none⟩) l0.length l0.length] 62))
  have F61 := hide ((hp_old W5 (.cells #[.slice (some ⟨g46, 0, none⟩) l0.length l0.length] 62) (w.heap.size) (by omega)).trans F53.out)
  have F62 := hide (F54.out.alloc (.cells #[.slice (some ⟨g46, 0, none⟩) l0.length l0.length] 62))
  have F63 := hide ((hp_old W5 (.cells #[.slice (some ⟨g46, 0, none⟩) l0.length l0.length] 62) (W3.heap.size) (by omega)).trans F55.out)
  have F64 := hide (F56.out.alloc (.cells #[.slice (some ⟨g46, 0, none⟩) l0.length l0.length] 62))
  have F65 := hide (hp_last W5 (.cells #[.slice (some ⟨g46, 0, none⟩) l0.length l0.length] 62))
  have HZ66 := hide (show (W5.alloc (.cells #[.slice (some ⟨g46, 0, none⟩) l0.length l0.length] 62)).heap.size = W5.heap.size + 1 by simp)
  clear F51 F52 F53 F54 F55 F56
  have p67 := cell1_at0 F61.out
  have p68 := cells_at0 F63.out
  have p69 := cells_at1 F63.out
  have p70 := cell1_at0 F65.out
  go_wp2_with fail
  clear p67 p68 p69 p70
  generalize hX : W5.alloc (.cells #[.slice (some ⟨g46, 0, none⟩) l0.length l0.length] 62) = W6 at F59 F60 F61 F62 F63 F64 F65 HZ66 ⊢
  have hz71 := Nat.le_of_eq HZ66.out.symm
  clear hX HZ66
  refine (implChordalSpace_c _ l0 W6 F64.out.ints (by omega) (HT.out.belowB HT.out F59.out (Nat.le_refl _))).mono ?_
  rw [HN.out, HR.out, HO.out]
  rintro e W7 ⟨v72, rfl, ho73, hb74⟩
  have hz75 := hb74.size
  have F76 := hide (F59.out.trans (hb74.mono (by omega)))
  have F77 := hide (F60.out.below hb74 (by omega))
  have F78 := hide ((hb74.block (w.heap.size) (by omega)).trans F61.out)
  have F79 := hide (F62.out.kept hb74)
  have F80 := hide ((hb74.block (W3.heap.size) (by omega)).trans F63.out)
  have F81 := hide (F64.out.kept hb74)
  have F82 := hide ((hb74.block (W5.heap.size) (by omega)).trans F65.out)
  obtain ⟨aa83, cc84, hv85⟩ := ho73.shape
  have F86 := hide (ho73)
  have B87 := hide (F86.out.base)
  have L88 := hide (F86.out.blockLt)
  clear hb74 F59 F60 F61 F62 F63 F64 F65 ho73
  subst hv85
  have F89 := hide (F76.out.alloc (by omega) (.cells #[.int .i64 N, .slice aa83 R.length cc84] 30))
  have F90 := hide (F77.out.alloc (.cells #[.int .i64 N, .slice aa83 R.length cc84] 30))
  have F91 := hide ((hp_old W7 (.cells #[.int .i64 N, .slice aa83 R.length cc84] 30) (w.heap.size) (by omega)).trans F78.out)
  have F92 := hide (F79.out.alloc (.cells #[.int .i64 N, .slice aa83 R.length cc84] 30))
  have F93 := hide ((hp_old W7 (.cells #[.int .i64 N, .slice aa83 R.length cc84] 30) (W3.heap.size) (by omega)).trans F80.out)
  have F94 := hide (F81.out.alloc (.cells #[.int .i64 N, .slice aa83 R.length cc84] 30))
  have F95 := hide ((hp_old W7 (.cells #[.int .i64 N, .slice aa83 R.length cc84] 30) (W5.heap.size) (by omega)).trans F82.out)
  have F96 := hide (F86.out.alloc (.cells #[.int .i64 N, .slice aa83 R.length cc84] 30))
  have F97 := hide (hp_last W7 (.cells #[.int .i64 N, .slice aa83 R.length cc84] 30))
  have HZ98 := hide (show (W7.alloc (.cells #[.int .i64 N, .slice aa83 R.length cc84] 30)).heap.size = W7.heap.size + 1 by simp)
  clear F76 F77 F78 F79 F80 F81 F82 F86
  have p99 := cell1_at0 F91.out
  have p100 := cells_at0 F93.out
  have p101 := cells_at1 F93.out
  have p102 := cell1_at0 F95.out
  have p103 := cells_at0 F97.out
  have p104 := cells_at1 F97.out
  go_wp2_with fail
  clear p99 p100 p101 p102 p103 p104
  generalize hX : W7.alloc (.cells #[.int .i64 N, .slice aa83 R.length cc84] 30) = W8 at F89 F90 F91 F92 F93 F94 F95 F96 F97 HZ98 ⊢
  have hz105 := Nat.le_of_eq HZ98.out.symm
  clear hX HZ98
  refine (eqSpace_same_c N _ _ R W8 (F96.out.ints) (F92.out.ints) hRL).mono ?_
  rintro e W9 ⟨rfl, hb106⟩
  have hz107 := hb106.size
  have F108 := hide (F89.out.trans (hb106.mono (by omega)))
  have F109 := hide (F90.out.below hb106 (by omega))
  have F110 := hide ((hb106.block (w.heap.size) (by omega)).trans F91.out)
  have F111 := hide (F92.out.kept hb106)
  have F112 := hide ((hb106.block (W3.heap.size) (by omega)).trans F93.out)
  have F113 := hide (F94.out.kept hb106)
  have F114 := hide ((hb106.block (W5.heap.size) (by omega)).trans F95.out)
  have F115 := hide (F96.out.kept hb106)
  have F116 := hide ((hb106.block (W7.heap.size) (by omega)).trans F97.out)
  clear hb106 F89 F90 F91 F92 F93 F94 F95 F96 F97
  have p117 := cell1_at0 F110.out
  have p118 := cells_at0 F112.out
  have p119 := cells_at1 F112.out
  have p120 := cell1_at0 F114.out
  have p121 := cells_at0 F116.out
  have p122 := cells_at1 F116.out
  go_wp2
  clear p117 p118 p119 p120 p121 p122
  refine wp_region_held (S := Below W9.heap.size W9) (by kernel_rfl) ?_
  have hS : Below W9.heap.size W9 { W9 with drawn := W9.drawn + 1 } := (Below.refl _ _).drew
  refine wpAnyH_take (i := 0) rfl (by kernel_rfl) (by kernel_rfl) (by kernel_rfl) (fun _ _ _ h => h) (yields_load_one rowNp sizeNp rfl (.tmp _) rfl _ rfl _ (fun w' h => (h.cell (p := ⟨W5.heap.size, 0, none⟩) (by show W5.heap.size < _; omega)).trans (cell1_at0 F114.out))) hS ?_
  refine wpAnyH_take (i := 1) rfl (by kernel_rfl) (by kernel_rfl) (by kernel_rfl) (fun _ _ _ h => h) (yields_load_one rowNl sizeNl rfl (.tmp _) rfl _ rfl _ (fun w' h => (h.cell (p := ⟨w.heap.size, 0, none⟩) (by show w.heap.size < _; omega)).trans (cell1_at0 F110.out))) hS ?_
  refine anyH_call (i := 2) (by kernel_rfl) rfl rfl 48 ent_toNet _ _ rfl #[.agg #[v0]] rfl (toNet_c v0 l0 _ ((F109.out.below hS (by omega)).mono (show w.heap.size ≤ W9.heap.size by omega)) (by omega)) ?_
  rintro e W10 ⟨g123, rfl, hgr, hkr, hbr⟩
  have hzr : W9.heap.size ≤ W10.heap.size := hbr.size
  have hS6 : Below W9.heap.size W9 W10 := hS.trans hbr
  refine ⟨_, rfl, hS6, ?_⟩
  refine anyH_call (i := 3) (by kernel_rfl) rfl rfl 50 ent_eqNet _ _ rfl #[.agg #[.slice (some ⟨g46, 0, none⟩) l0.length l0.length], .agg #[.slice (some ⟨g123, 0, none⟩) l0.length l0.length]] rfl (eqNet_same_c _ _ l0 W10 ((F113.out.kept hS6).ints) (hkr.ints _) (by omega)) ?_
  rintro e W11 ⟨rfl, hbs⟩
  have hS7 : Below W9.heap.size W9 W11 := hS6.trans (hbs.mono hzr)
  refine ⟨_, rfl, hS7, ?_⟩
  refine anyH_op (i := 4) (by kernel_rfl) rfl rfl (.bool false) W11 ?hq hS7 ?_
  case hq => simp [go_sem, Act.put]
  refine wpAnyH_done (by kernel_rfl) ?_ _
  simp only [Act.put, List.getElem_toArray, List.getElem_cons_zero, List.getElem_cons_succ, List.setIfInBounds_toArray, List.set_cons_zero, List.set_cons_succ]
  have hz124 : W9.heap.size ≤ W11.heap.size := hS7.size
  have F125 := hide (F108.out.trans (hS7.mono (by omega)))
  have F126 := hide (F109.out.below hS7 (by omega))
  have F127 := hide ((hS7.block (w.heap.size) (by omega)).trans F110.out)
  have F128 := hide (F111.out.kept hS7)
  have F129 := hide ((hS7.block (W3.heap.size) (by omega)).trans F112.out)
  have F130 := hide (F113.out.kept hS7)
  have F131 := hide ((hS7.block (W5.heap.size) (by omega)).trans F114.out)
  have F132 := hide (F115.out.kept hS7)
  have F133 := hide ((hS7.block (W7.heap.size) (by omega)).trans F116.out)
  clear hS hS6 hS7 hbr hbs hkr hgr hzr F108 F109 F110 F111 F112 F113 F114 F115 F116
  have p134 := cell1_at0 F127.out
  have p135 := cells_at0 F129.out
  have p136 := cells_at1 F129.out
  have p137 := cell1_at0 F131.out
  have p138 := cells_at0 F133.out
  have p139 := cells_at1 F133.out
  go_wp2_with fail
  clear p134 p135 p136 p137 p138 p139
  refine (markNet_c _ l0 (1) W11 _ F130.out (by omega) (by omega) (by omega)).mono ?_
  rintro e W12 ⟨rfl, hn141, ho140⟩
  have hz142 := ho140.size
  have F143 := hide (F125.out.trans (ho140.below w.heap.size (fun g hg => by have := B57.out g hg; omega) (by omega)))
  have F144 := hide (F126.out.below (ho140.below w.heap.size (fun g hg => by have := B57.out g hg; omega) (by omega)) (Nat.le_refl _))
  have F145 := hide ((ho140.block (w.heap.size) (by omega) (fun e => by have h1 := B57.out _ e; have h2 := L58.out _ e; omega)).trans F127.out)
  have F146 := hide (F128.out.other ho140 (fun g hg e => by have h1 := B57.out _ e; have h2 := L58.out _ e; have h3 := B34.out _ hg; have h4 := L35.out _ hg; omega))
  have F147 := hide ((ho140.block (W3.heap.size) (by omega) (fun e => by have h1 := B57.out _ e; have h2 := L58.out _ e; omega)).trans F129.out)
  have F149 := hide ((ho140.block (W5.heap.size) (by omega) (fun e => by have h1 := B57.out _ e; have h2 := L58.out _ e; omega)).trans F131.out)
  have F150 := hide (F132.out.other ho140 (fun g hg e => by have h1 := B57.out _ e; have h2 := L58.out _ e; have h3 := B87.out _ hg; have h4 := L88.out _ hg; omega))
  have F151 := hide ((ho140.block (W7.heap.size) (by omega) (fun e => by have h1 := B57.out _ e; have h2 := L58.out _ e; omega)).trans F133.out)
  have F152 := hide hn141
  clear F125 F126 F127 F128 F129 F130 F131 F132 F133 hn141 ho140
  have hneg3 : ¬ (1 + (l0.length : Int) < 0) := by omega
  have p153 := cell1_at0 F145.out
  have p154 := cells_at0 F147.out
  have p155 := cells_at1 F147.out
  have p156 := cell1_at0 F149.out
  have p157 := cells_at0 F151.out
  have p158 := cells_at1 F151.out
  go_wp2_with fail
  clear p153 p154 p155 p156 p157 p158
  refine (eqSpace_same_c N _ _ R W12 (F150.out.ints) (F146.out.ints) hRL).mono ?_
  rintro e W13 ⟨rfl, hb159⟩
  have hz160 := hb159.size
  have F161 := hide (F143.out.trans (hb159.mono (by omega)))
  have F162 := hide (F144.out.below hb159 (by omega))
  have F163 := hide ((hb159.block (w.heap.size) (by omega)).trans F145.out)
  have F164 := hide (F146.out.kept hb159)
  have F165 := hide ((hb159.block (W3.heap.size) (by omega)).trans F147.out)
  have F166 := hide (F152.out.kept hb159)
  have F167 := hide ((hb159.block (W5.heap.size) (by omega)).trans F149.out)
  have F168 := hide (F150.out.kept hb159)
  have F169 := hide ((hb159.block (W7.heap.size) (by omega)).trans F151.out)
  clear hb159 F143 F144 F145 F146 F147 F152 F149 F150 F151
  have p170 := cell1_at0 F163.out
  have p171 := cells_at0 F165.out
  have p172 := cells_at1 F165.out
  have p173 := cell1_at0 F167.out
  have p174 := cells_at0 F169.out
  have p175 := cells_at1 F169.out
  go_wp2_with fail
  clear p170 p171 p172 p173 p174 p175
  refine (markSpace_c N _ R (1) W13 _ F168.out (by omega) (by omega) (by omega)).mono ?_
  rintro e W14 ⟨rfl, hn177, ho176⟩
  have hz178 := ho176.size
  have F179 := hide (F161.out.trans (ho176.below w.heap.size (fun g hg => by have := B87.out g hg; omega) (by omega)))
  have F180 := hide (F162.out.below (ho176.below w.heap.size (fun g hg => by have := B87.out g hg; omega) (by omega)) (Nat.le_refl _))
  have F181 := hide ((ho176.block (w.heap.size) (by omega) (fun e => by have h1 := B87.out _ e; have h2 := L88.out _ e; omega)).trans F163.out)
  have F182 := hide (F164.out.other ho176 (fun g hg e => by have h1 := B87.out _ e; have h2 := L88.out _ e; have h3 := B34.out _ hg; have h4 := L35.out _ hg; omega))
  have F183 := hide ((ho176.block (W3.heap.size) (by omega) (fun e => by have h1 := B87.out _ e; have h2 := L88.out _ e; omega)).trans F165.out)
  have F184 := hide (F166.out.other ho176 (fun g hg e => by have h1 := B87.out _ e; have h2 := L88.out _ e; have h3 := B57.out _ hg; have h4 := L58.out _ hg; omega))
  have F185 := hide ((ho176.block (W5.heap.size) (by omega) (fun e => by have h1 := B87.out _ e; have h2 := L88.out _ e; omega)).trans F167.out)
  have F187 := hide ((ho176.block (W7.heap.size) (by omega) (fun e => by have h1 := B87.out _ e; have h2 := L88.out _ e; omega)).trans F169.out)
  have F188 := hide hn177
  clear F161 F162 F163 F164 F165 F166 F167 F168 F169 hn177 ho176
  have p189 := cell1_at0 F181.out
  have p190 := cells_at0 F183.out
  have p191 := cells_at1 F183.out
  have p192 := cell1_at0 F185.out
  have p193 := cells_at0 F187.out
  have p194 := cells_at1 F187.out
  go_wp2_with fail
  clear p189 p190 p191 p192 p193 p194
  refine (heldSpace_c N _ R.length 1 W14 (F188.out.ints) hRL (by omega) (by omega)).mono ?_
  rintro e W15 ⟨rfl, hb195⟩
  have hz196 := hb195.size
  have F197 := hide (F179.out.trans (hb195.mono (by omega)))
  have F198 := hide (F180.out.below hb195 (by omega))
  have F199 := hide ((hb195.block (w.heap.size) (by omega)).trans F181.out)
  have F200 := hide (F182.out.kept hb195)
  have F201 := hide ((hb195.block (W3.heap.size) (by omega)).trans F183.out)
  have F202 := hide (F184.out.kept hb195)
  have F203 := hide ((hb195.block (W5.heap.size) (by omega)).trans F185.out)
  have F204 := hide (F188.out.kept hb195)
  have F205 := hide ((hb195.block (W7.heap.size) (by omega)).trans F187.out)
  clear hb195 F179 F180 F181 F182 F183 F184 F185 F188 F187
  clear F202
  clear B57 L58
  have p206 := cell1_at0 F199.out
  have p207 := cells_at0 F201.out
  have p208 := cells_at1 F201.out
  have p209 := cell1_at0 F203.out
  have p210 := cells_at0 F205.out
  have p211 := cells_at1 F205.out
  go_wp2_with fail
  clear p206 p207 p208 p209 p210 p211
  refine (toNet_c v0 l0 W15 (F198.out.mono (by omega)) (by omega)).mono ?_
  rintro e W16 ⟨g212, rfl, hg213, hk214, hb215⟩
  have hz216 := hb215.size
  have F217 := hide (F197.out.trans (hb215.mono (by omega)))
  have F218 := hide (F198.out.below hb215 (by omega))
  have F219 := hide ((hb215.block (w.heap.size) (by omega)).trans F199.out)
  have F220 := hide (F200.out.kept hb215)
  have F221 := hide ((hb215.block (W3.heap.size) (by omega)).trans F201.out)
  have F222 := hide ((hb215.block (W5.heap.size) (by omega)).trans F203.out)
  have F223 := hide (F204.out.kept hb215)
  have F224 := hide ((hb215.block (W7.heap.size) (by omega)).trans F205.out)
  have F225 := hide (hk214.own hg213 (by unfold maxLen; omega))
  have B226 := hide (F225.out.base)
  have L227 := hide (F225.out.blockLt)
  clear hb215 F197 F198 F199 F200 F201 F203 F204 F205 hk214 hg213
  have p228 := cell1_at0 F219.out
  have p229 := cells_at0 F221.out
  have p230 := cells_at1 F221.out
  have p231 := cell1_at0 F222.out
  have p232 := cells_at0 F224.out
  have p233 := cells_at1 F224.out
  go_wp2_with fail
  clear p228 p229 p230 p231 p232 p233
  refine (implChordalSpace_c _ l0 W16 F225.out.ints (by omega) (HT.out.belowB HT.out F217.out (Nat.le_refl _))).mono ?_
  rw [HN.out, HR.out, HO.out]
  rintro e W17 ⟨v234, rfl, ho235, hb236⟩
  have hz237 := hb236.size
  have F238 := hide (F217.out.trans (hb236.mono (by omega)))
  have F239 := hide (F218.out.below hb236 (by omega))
  have F240 := hide ((hb236.block (w.heap.size) (by omega)).trans F219.out)
  have F241 := hide (F220.out.kept hb236)
  have F242 := hide ((hb236.block (W3.heap.size) (by omega)).trans F221.out)
  have F243 := hide ((hb236.block (W5.heap.size) (by omega)).trans F222.out)
  have F244 := hide (F223.out.kept hb236)
  have F245 := hide ((hb236.block (W7.heap.size) (by omega)).trans F224.out)
  have F246 := hide (F225.out.kept hb236)
  obtain ⟨aa247, cc248, hv249⟩ := ho235.shape
  have F250 := hide (ho235)
  have B251 := hide (F250.out.base)
  have L252 := hide (F250.out.blockLt)
  clear hb236 F217 F218 F219 F220 F221 F222 F223 F224 F225 ho235
  subst hv249
  have F253 := hide (F238.out.alloc (by omega) (.cells #[.int .i64 N, .slice aa247 R.length cc248] 30))
  have F254 := hide (F239.out.alloc (.cells #[.int .i64 N, .slice aa247 R.length cc248] 30))
  have F255 := hide ((hp_old W17 (.cells #[.int .i64 N, .slice aa247 R.length cc248] 30) (w.heap.size) (by omega)).trans F240.out)
  have F256 := hide (F241.out.alloc (.cells #[.int .i64 N, .slice aa247 R.length cc248] 30))
  have F257 := hide ((hp_old W17 (.cells #[.int .i64 N, .slice aa247 R.length cc248] 30) (W3.heap.size) (by omega)).trans F242.out)
  have F258 := hide ((hp_old W17 (.cells #[.int .i64 N, .slice aa247 R.length cc248] 30) (W5.heap.size) (by omega)).trans F243.out)
  have F259 := hide (F244.out.alloc (.cells #[.int .i64 N, .slice aa247 R.length cc248] 30))
  have F260 := hide ((hp_old W17 (.cells #[.int .i64 N, .slice aa247 R.length cc248] 30) (W7.heap.size) (by omega)).trans F245.out)
  have F261 := hide (F246.out.alloc (.cells #[.int .i64 N, .slice aa247 R.length cc248] 30))
  have F262 := hide (F250.out.alloc (.cells #[.int .i64 N, .slice aa247 R.length cc248] 30))
  have F263 := hide (hp_last W17 (.cells #[.int .i64 N, .slice aa247 R.length cc248] 30))
  have HZ264 := hide (show (W17.alloc (.cells #[.int .i64 N, .slice aa247 R.length cc248] 30)).heap.size = W17.heap.size + 1 by simp)
  clear F238 F239 F240 F241 F242 F243 F244 F245 F246 F250
  have p265 := cell1_at0 F255.out
  have p266 := cells_at0 F257.out
  have p267 := cells_at1 F257.out
  have p268 := cell1_at0 F258.out
  have p269 := cells_at0 F260.out
  have p270 := cells_at1 F260.out
  have p271 := cells_at0 F263.out
  have p272 := cells_at1 F263.out
  go_wp2_with fail
  clear p265 p266 p267 p268 p269 p270 p271 p272
  generalize hX : W17.alloc (.cells #[.int .i64 N, .slice aa247 R.length cc248] 30) = W18 at F253 F254 F255 F256 F257 F258 F259 F260 F261 F262 F263 HZ264 ⊢
  have hz273 := Nat.le_of_eq HZ264.out.symm
  clear hX HZ264
  refine (eqSpace_same_c N _ _ R W18 (F262.out.ints) (F256.out.ints) hRL).mono ?_
  rintro e W19 ⟨rfl, hb274⟩
  have hz275 := hb274.size
  have F276 := hide (F253.out.trans (hb274.mono (by omega)))
  have F277 := hide (F254.out.below hb274 (by omega))
  have F278 := hide ((hb274.block (w.heap.size) (by omega)).trans F255.out)
  have F279 := hide (F256.out.kept hb274)
  have F280 := hide ((hb274.block (W3.heap.size) (by omega)).trans F257.out)
  have F281 := hide ((hb274.block (W5.heap.size) (by omega)).trans F258.out)
  have F282 := hide (F259.out.kept hb274)
  have F283 := hide ((hb274.block (W7.heap.size) (by omega)).trans F260.out)
  have F284 := hide (F261.out.kept hb274)
  have F285 := hide (F262.out.kept hb274)
  have F286 := hide ((hb274.block (W17.heap.size) (by omega)).trans F263.out)
  clear hb274 F253 F254 F255 F256 F257 F258 F259 F260 F261 F262 F263
  have p287 := cell1_at0 F278.out
  have p288 := cells_at0 F280.out
  have p289 := cells_at1 F280.out
  have p290 := cell1_at0 F281.out
  have p291 := cells_at0 F283.out
  have p292 := cells_at1 F283.out
  have p293 := cells_at0 F286.out
  have p294 := cells_at1 F286.out
  go_wp2_with fail
  clear p287 p288 p289 p290 p291 p292 p293 p294
  refine (heldSpace_c N _ R.length 1 W19 (F282.out.ints) hRL (by omega) (by omega)).mono ?_
  rintro e W20 ⟨rfl, hb295⟩
  have hz296 := hb295.size
  have F297 := hide (F276.out.trans (hb295.mono (by omega)))
  have F298 := hide (F277.out.below hb295 (by omega))
  have F299 := hide ((hb295.block (w.heap.size) (by omega)).trans F278.out)
  have F300 := hide (F279.out.kept hb295)
  have F301 := hide ((hb295.block (W3.heap.size) (by omega)).trans F280.out)
  have F302 := hide ((hb295.block (W5.heap.size) (by omega)).trans F281.out)
  have F303 := hide (F282.out.kept hb295)
  have F304 := hide ((hb295.block (W7.heap.size) (by omega)).trans F283.out)
  have F305 := hide (F284.out.kept hb295)
  have F306 := hide (F285.out.kept hb295)
  have F307 := hide ((hb295.block (W17.heap.size) (by omega)).trans F286.out)
  clear hb295 F276 F277 F278 F279 F280 F281 F282 F283 F284 F285 F286
  have p308 := cell1_at0 F299.out
  have p309 := cells_at0 F301.out
  have p310 := cells_at1 F301.out
  have p311 := cell1_at0 F302.out
  have p312 := cells_at0 F304.out
  have p313 := cells_at1 F304.out
  have p314 := cells_at0 F307.out
  have p315 := cells_at1 F307.out
  go_wp2
  go_ret
  exact ⟨rfl, F297.out⟩

theorem ownK : ownKnob Tryd.prog.godebug = none := by kernel_rfl
theorem laidOut : laidOutB Tryd.prog = true := by kernel_rfl

/-- What a slice of int is, as it comes in. -/
theorem list_open {W : World} {v : Value} {l : List Int} (h : (v = .slice none 0 0 ∧ l = []) ∨ ∃ (a : Addr) (len c : Nat) (zs : List Int), v = .slice (some a) len c ∧ len ≤ zs.length ∧ len ≤ maxLen ∧ (∀ i, i < zs.length → W.cell? (a.add i) = some (.int .i64 (zs.getD i 0))) ∧ l = zs.take len) : ints W.heap.size W v l ∧ l.length ≤ 9223372036854775807 := by
  rcases h with ⟨rfl, rfl⟩ | ⟨x, len, c, zs, rfl, hlt, hm, hcell, rfl⟩
  · exact ⟨.inl ⟨rfl, none, 0, rfl⟩, by simp⟩
  · have htk : (zs.take len).length = len := by simp; omega
    refine ⟨?_, by unfold maxLen at hm; omega⟩
    rcases Nat.eq_zero_or_pos len with h0 | h0
    · subst h0
      exact .inl ⟨by simp, some x, c, rfl⟩
    · obtain ⟨b, off, rfl, hc⟩ := ints_at hcell (by omega)
      have hbl := block_lt_of_cell (hc 0 (by omega))
      refine .inr ⟨b, off, c, by rw [htk], hbl, hbl, fun j hj => ?_⟩
      rw [htk] at hj
      rw [hc j (by omega), List.getElem?_take, if_pos hj]
      rfl

/-- What a struct of one slice of int is, as it comes in. -/
theorem net_open {H : Type} {enc : TypeId × Value → H} {W : World} {b0 : Nat} {v : Value} {d : DataW H} {p : List MemPlace}
    (hv : Value.okWide Tryd.prog W .any b0 59 v) (h : DataW.Trod enc Tryd.prog W 0 (fun _ => true) true 59 v d p) :
    ∃ (u : Value) (l : List Int), v = .agg #[u] ∧ ints W.heap.size W u l ∧ l.length ≤ 9223372036854775807 := by
  obtain ⟨v0, y0, m, rfl, rfl, rfl, hy0⟩ := open_agg1 Tryd.underlying59 (by kernel_rfl) (by kernel_rfl) hv h
  rcases open_ints Tryd.underlying22 Tryd.underlying3 (by kernel_rfl) hy0 with ⟨hcs, _⟩ | ⟨x, len, c, zs, hcs, _, hl, hm, hz, _, hcell, hwz⟩
  · simp at hcs
    subst hcs
    exact ⟨_, [], rfl, list_open (.inl ⟨rfl, rfl⟩)⟩
  · simp at hcs
    subst hcs
    have hz' : zs.length = c := by simpa using hz
    exact ⟨_, zs.take len, rfl, list_open (.inr ⟨x, len, c, zs, rfl, by omega, by unfold maxLen at hm ⊢; omega, hcell, rfl⟩)⟩


/-- What the card's condition gives: the table's cells. -/
theorem tab_of {W : World} (h : laidMetH Tryd.prog Rows.fnExactChordalSpaceRow.laid W) : tab W := by
  rw [MakeChecks.laidMetH_plain _ _ _ (by kernel_rfl)] at h
  have h2 := h.tail
  have e : (Rows.laid_math_bits_deBruijn64tab : DataW Unit) = Lib.tabData .u8 (Lib.deBruijn64tab.map fun n : Nat => (n : Int)) := by kernel_rfl
  rw [e] at h2
  have hT := Lib.tabIs_of_head (g := 1) (t := 195) (e := 5) (n := 64) (by kernel_rfl) (by kernel_rfl) (by kernel_rfl) (by kernel_rfl) (by kernel_rfl) (by kernel_rfl) h2
  have hc : ∀ j, j < 64 → W.cell? ⟨1, j, none⟩ = some (.int .u8 (Lib.deBruijn64tab.getD j 0)) := by
    intro j hj
    have h3 := hT.cell (g := 1) (by kernel_rfl) j (by rw [show (Lib.deBruijn64tab.map fun n : Nat => (n : Int)).length = 64 by decide +kernel]; exact hj)
    rw [h3]
    have h4 : ∀ j, j < 64 → (Lib.deBruijn64tab.map fun n : Nat => (n : Int)).getD j 0 = (Lib.deBruijn64tab.getD j 0 : Int) := by decide +kernel
    rw [h4 j hj]
  exact ⟨block_lt_of_cell (hc 0 (by omega)), hc⟩
theorem door_met (os : Os) (args : Array Value) : laidMetH Tryd.prog Rows.fnExactChordalSpaceRow.laid ((World.doorLaid Tryd.prog 400 os).forCall (fun _ _ => 0) ⟨#[], args, []⟩).memory :=
  laidMetH_of_parts3 (fuel := 8) (laidMet_of_run' 8 (by kernel_rfl) (by kernel_rfl)) (by kernel_rfl) (by kernel_rfl)

theorem lifted (os : Os) (started : os.Started) (H : Type) (enc : TypeId × Value → H) :
    ReturnsInHanded {} Tryd.checked os 13 .any (fun w args => (Rows.fnExactChordalSpaceSpec.pre enc Tryd.prog Tryd.f13 [] false w args ∧ laidMetH Tryd.prog Rows.fnExactChordalSpaceRow.laid w) ∧ sizedMet enc Tryd.prog Tryd.f13 (OpenSpec.ofChange Rows.fnExactChordalSpaceSpec) false w args)
      (Rows.fnExactChordalSpaceSpec.post enc Tryd.prog Tryd.f13 false true false false) := by
  refine returnsInHanded_of_change_and (C := Tryd.checked) (X := fun w _ => laidMetH Tryd.prog Rows.fnExactChordalSpaceRow.laid w) (fun _ _ _ hh h => h.of_heap hh) ownK started (by kernel_rfl) Tryd.func13
    (ChangeSpec.witness_shaped (enc := enc) (C := Tryd.checked) (os := os) (X := fun w _ => laidMetH Tryd.prog Rows.fnExactChordalSpaceRow.laid w) false (World.doorLaid Tryd.prog 400 os) #[.agg #[.slice none 0 0]] 8 rfl (World.shaped_of_RefB (by kernel_rfl) (by kernel_rfl)) (by kernel_rfl) (by kernel_rfl) (by kernel_rfl) (door_met os _)) ?_
  intro W base args ds gs before hval0 hW _ _ hL _
  have hTab := tab_of hL
  have hval : ∀ (j : Nat) t v, Tryd.f13.params[j]? = some t → args[j]? = some v → Value.okWide Tryd.prog W .any base t v := hval0
  have hW' := hW
  obtain ⟨p, q, hA0, hV, rfl, hfz, hnd⟩ := hW
  have hA : DataW.TrodAll enc Tryd.prog W 0 (fun _ => true) true Tryd.f13.params.toList args.toList ds p := hA0
  rw [Tryd.params13] at hA hval
  obtain ⟨v0, vs0, d0, ds0, p0, q0, hargs, rfl, rfl, t0, r0⟩ := trodAll_cons hA
  obtain ⟨rfl, rfl, rfl⟩ := trodAll_nil r0
  obtain rfl : args = #[v0] := by cases args; simp_all
  obtain ⟨rfl, rfl⟩ := trodVars_none hV
  have k0 := t0
  have lt0 : ∀ x ∈ p0, x.block < W.heap.size := by obtain ⟨m, hm⟩ := k0; exact DataW.trod_lt m _ _ _ hm
  obtain ⟨u0, l0, rfl, i0, e0⟩ := net_open (hval 0 59 v0 rfl rfl) t0
  clear hA0 hval0
  refine (law_c u0 l0 W i0 e0 hTab).mono fun e W' ⟨he, bel⟩ => ?_
  subst he
  exact ⟨_, rfl, _, _, _, [], _, [], hW', trodAll_mk1 (shut_bool Tryd.underlying4 _), (trodAll_cons_mk (Below.trod laidOut (by kernel_rfl) (of_decide_eq_true (by kernel_rfl)) k0 bel lt0) trodAll_mk0), rfl, bel.frame _, fun h => by cases h⟩

set_option maxHeartbeats 4000000 in
theorem over : Rows.fnExactChordalSpaceRow.holds Tryd.pinned (OpenSpec.ofChange Rows.fnExactChordalSpaceSpec) :=
  OpenClaim.holds_of_wide 13 Tryd.f13 rfl rfl rfl rfl rfl rfl rfl ⟨rfl, rfl, rfl, rfl, rfl⟩ rfl rfl rfl rfl rfl (by as_aux_lemma => kernel_rfl) Tryd.func13 (by as_aux_lemma => kernel_rfl)
    (of_decide_eq_true (by as_aux_lemma => kernel_rfl)) (by unfold Func.isWrapper; first | (rw [if_pos (by decide +kernel)]; kernel_rfl) | (rw [if_neg (by decide +kernel)]; exact ⟨rfl, rfl⟩))
    (fun os started H enc _ => lifted os started H enc)

set_option maxHeartbeats 8000000 in
theorem proved : Rows.FnExactChordalSpaceCardSaid :=
  Claim7.holds_tied_plain_at .later [] [.data, .data] true _ false
    over (fun _ h => by cases h) (by as_aux_lemma => kernel_rfl) (fun _ h => by cases h) fnExactChordalSpace_row_tie rfl ⟨rfl, rfl⟩ (by as_aux_lemma => kernel_rfl) rfl
    (fun f fn hf hfn => by
      obtain rfl : f = 13 := Option.some.inj ((show Tryd.prog.funcNamed "loop.example/g01137/laws.FnExactChordalSpace" = some 13 by as_aux_lemma => kernel_rfl).symm.trans hf) |>.symm
      obtain rfl : fn = Tryd.f13 := (Option.some.inj (Tryd.func13.symm.trans hfn)).symm
      exact ⟨by as_aux_lemma => kernel_rfl, fun j t ht => by
        rw [Tryd.params13] at ht
        have hm : t ∈ [59] := by simpa using Array.mem_of_getElem? ht
        have hall : ([59].all fun u => !Tryd.prog.wantsStandIn u) = true := by as_aux_lemma => kernel_rfl
        exact (show Tryd.prog.wantsStandIn t = false by simpa using List.all_eq_true.1 hall t hm)⟩)
    (by as_aux_lemma => kernel_rfl)
#print axioms proved
end Go.Proofs.YtonimjpfaalniaaDoor.FChordalSpace
