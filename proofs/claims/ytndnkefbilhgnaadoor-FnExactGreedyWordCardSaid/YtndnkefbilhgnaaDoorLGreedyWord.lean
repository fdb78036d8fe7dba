/- The program's GreedyWord answers as the specification's does, at every argument, leaves its arguments as they are, and its answer owns its memory: no condition. -/
import Derived.Test.YtndnkefbilhgnaaDoorRows
import Derived.Test.YtndnkefbilhgnaaDoorKp
import Derived.Test.YtndnkefbilhgnaaDoorTie
import Derived.Test.YtndnkefbilhgnaaDoorCards
import Derived.LaidMore
import Derived.Stop.Joined
import Derived.Stop.LaidErr
import Derived.Lib.LaidTab
import Derived.SevenTiedAt
import Derived.Test.YtndnkefbilhgnaaDoorHar
import Derived.ProofKit
import Derived.OpenShut
import Derived.Lib.SmallJoins
namespace Go.Proofs.YtndnkefbilhgnaaDoor.FGreedyWord
open Go.ChangeShapes Go.WideShapes Go.ChangeAt Go.RowKit Go.Joins
set_option linter.unusedVariables false
set_option linter.unusedSimpArgs false
set_option maxRecDepth 100000

set_option maxHeartbeats 4000000 in
theorem law_c (n0 : Int) (v0 : Value) (l0 : List Int) (v1 : Value) (l1 : List Tsk) (w : World) (h0 : ints w.heap.size w v0 l0) (hlen0 : l0.length ≤ 9223372036854775807) (h1 : tks w.heap.size w v1 l1) (hlen1 : l1.length ≤ 9223372036854775807) (hT : tab w) :
    Calls Tryd.prog 5 #[.agg #[.int .i64 n0, v0], v1] w fun e w' => e = .returned (.bool true) ∧ Below w.heap.size w w' := by
  have HT := hide hT
  clear hT
  have hRL := (gwL_len n0 l0 l1)
  generalize hR : (gwL n0 l0 l1) = R at hRL
  generalize hO : (gvB n0 l0 l1) = ok
  have HR := hide hR
  have HO := hide hO
  clear hR hO
  have F1 := hide (((Below.refl w.heap.size w).alloc (Nat.le_refl _) (.cells #[.int .i64 n0, v0] 24)))
  have F2 := hide ((h0.alloc (.cells #[.int .i64 n0, v0] 24)))
  have F3 := hide ((h1.alloc (.cells #[.int .i64 n0, v0] 24)))
  have F4 := hide (show (w.alloc (.cells #[.int .i64 n0, v0] 24)).heap[w.heap.size]? = some (.cells #[.int .i64 n0, v0] 24) from (by have := hp_last w (.cells #[.int .i64 n0, v0] 24); simpa using this))
  have HZ0 := hide (show (w.alloc (.cells #[.int .i64 n0, v0] 24)).heap.size = w.heap.size + 1 by simp)
  clear h0 h1
  have hsz0 : szOf 1048576 l0.length = -1 ∨ (0 ≤ szOf 1048576 l0.length ∧ szOf 1048576 l0.length ≤ 1048576 ∧ l0.length ≤ 1048576) := by unfold szOf; split <;> omega
  generalize hq0 : szOf 1048576 l0.length = q0 at hsz0
  have HQ0 := hide hq0
  clear hq0
  have hsz1 : szOf q0 l1.length = -1 ∨ (0 ≤ szOf q0 l1.length ∧ szOf q0 l1.length ≤ 1048576 ∧ l1.length ≤ 1048576) := by unfold szOf; split <;> omega
  generalize hq1 : szOf q0 l1.length = q1 at hsz1
  have HQ1 := hide hq1
  clear hq1
  rcases hsz0 with hbig0 | ⟨hq0a, hq0b, hq0c⟩
  · have HBIG := hide hbig0
    have hneg : q0 < 0 := by omega
    clear hbig0
    go_enter Tryd.func5, Tryd.ntmps5
    go_wp2_with fail
    generalize hX : (w.alloc (.cells #[.int .i64 n0, v0] 24)) = W0 at F1 F2 F3 F4 HZ0 ⊢
    have hz0 := Nat.le_of_eq HZ0.out.symm
    clear hX HZ0
    refine (szSpace_c n0 v0 l0 (1048576) W0 (F2.out.mono (by omega)) hlen0 (by omega) (by omega)).mono ?_
    rw [HQ0.out]
    rintro e W1 ⟨rfl, hb5⟩
    have hz6 := hb5.size
    have F7 := hide (F1.out.trans (hb5.mono (by omega)))
    have F8 := hide (F2.out.below hb5 (by omega))
    have F9 := hide (F3.out.below hb5 (by omega))
    have F10 := hide ((hb5.block (w.heap.size) (by omega)).trans F4.out)
    clear hb5 F1 F2 F3 F4
    go_wp2
    go_ret
    exact ⟨rfl, F7.out⟩
  have hneg0 : ¬ q0 < 0 := by omega
  rcases hsz1 with hbig1 | ⟨hq1a, hq1b, hq1c⟩
  · have HBIG := hide hbig1
    have hneg : q1 < 0 := by omega
    clear hbig1
    go_enter Tryd.func5, Tryd.ntmps5
    go_wp2_with fail
    generalize hX : (w.alloc (.cells #[.int .i64 n0, v0] 24)) = W0 at F1 F2 F3 F4 HZ0 ⊢
    have hz0 := Nat.le_of_eq HZ0.out.symm
    clear hX HZ0
    refine (szSpace_c n0 v0 l0 (1048576) W0 (F2.out.mono (by omega)) hlen0 (by omega) (by omega)).mono ?_
    rw [HQ0.out]
    rintro e W1 ⟨rfl, hb5⟩
    have hz6 := hb5.size
    have F7 := hide (F1.out.trans (hb5.mono (by omega)))
    have F8 := hide (F2.out.below hb5 (by omega))
    have F9 := hide (F3.out.below hb5 (by omega))
    have F10 := hide ((hb5.block (w.heap.size) (by omega)).trans F4.out)
    clear hb5 F1 F2 F3 F4
    have p11 := cells_at0 F10.out
    have p12 := cells_at1 F10.out
    go_wp2_with fail
    clear p11 p12
    refine (szTaskS_c v1 l1 (q0) W1 (F9.out.mono (by omega)) hlen1 (by omega) (by omega)).mono ?_
    rw [HQ1.out]
    rintro e _ ⟨rfl, rfl⟩
    go_wp2
    go_ret
    exact ⟨rfl, F7.out⟩
  have hneg1 : ¬ q1 < 0 := by omega
  go_enter Tryd.func5, Tryd.ntmps5
  go_wp2_with fail
  generalize hX : (w.alloc (.cells #[.int .i64 n0, v0] 24)) = W0 at F1 F2 F3 F4 HZ0 ⊢
  have hz0 := Nat.le_of_eq HZ0.out.symm
  clear hX HZ0
  refine (szSpace_c n0 v0 l0 (1048576) W0 (F2.out.mono (by omega)) hlen0 (by omega) (by omega)).mono ?_
  rw [HQ0.out]
  rintro e W1 ⟨rfl, hb5⟩
  have hz6 := hb5.size
  have F7 := hide (F1.out.trans (hb5.mono (by omega)))
  have F8 := hide (F2.out.below hb5 (by omega))
  have F9 := hide (F3.out.below hb5 (by omega))
  have F10 := hide ((hb5.block (w.heap.size) (by omega)).trans F4.out)
  clear hb5 F1 F2 F3 F4
  have p11 := cells_at0 F10.out
  have p12 := cells_at1 F10.out
  go_wp2_with fail
  clear p11 p12
  refine (szTaskS_c v1 l1 (q0) W1 (F9.out.mono (by omega)) hlen1 (by omega) (by omega)).mono ?_
  rw [HQ1.out]
  rintro e _ ⟨rfl, rfl⟩
  have hneg2 : ¬ (1 + (R.length : Int) < 0) := by omega
  have p13 := cells_at0 F10.out
  have p14 := cells_at1 F10.out
  go_wp2_with fail
  clear p13 p14
  refine (toSpace_c n0 v0 l0 W1 (F8.out.mono (by omega)) (by omega)).mono ?_
  rintro e W2 ⟨g15, rfl, hg16, hk17, hb18⟩
  have hz19 := hb18.size
  have F20 := hide (F7.out.trans (hb18.mono (by omega)))
  have F21 := hide (F8.out.below hb18 (by omega))
  have F22 := hide (F9.out.below hb18 (by omega))
  have F23 := hide ((hb18.block (w.heap.size) (by omega)).trans F10.out)
  have F24 := hide (hk17.own hg16 (by unfold maxLen; omega))
  have B25 := hide (F24.out.base)
  have L26 := hide (F24.out.blockLt)
  clear hb18 F7 F8 F9 F10 hk17 hg16
  have p27 := cells_at0 F23.out
  have p28 := cells_at1 F23.out
  go_wp2_with fail
  clear p27 p28
  refine (toTaskS_c v1 l1 W2 (F22.out.mono (by omega)) (by omega)).mono ?_
  rintro e W3 ⟨v29, rfl, ho30, hb31⟩
  have hz32 := hb31.size
  have F33 := hide (F20.out.trans (hb31.mono (by omega)))
  have F34 := hide (F21.out.below hb31 (by omega))
  have F35 := hide (F22.out.below hb31 (by omega))
  have F36 := hide ((hb31.block (w.heap.size) (by omega)).trans F23.out)
  have F37 := hide (F24.out.kept hb31)
  have F38 := hide (ho30)
  have B39 := hide (F38.out.base)
  have L40 := hide (F38.out.blockLt)
  clear hb31 F20 F21 F22 F23 F24 ho30
  have p41 := cells_at0 F36.out
  have p42 := cells_at1 F36.out
  go_wp2_with fail
  clear p41 p42
  refine (specGreedyWord_c n0 _ l0 _ l1 W3 F37.out.ints (by omega) F38.out.tks (by omega) (HT.out.belowB HT.out F33.out (Nat.le_refl _))).mono ?_
  rw [HR.out, HO.out]
  rintro e W4 ⟨v43, rfl, ho44, hb45⟩
  have hz46 := hb45.size
  have F47 := hide (F33.out.trans (hb45.mono (by omega)))
  have F48 := hide (F34.out.below hb45 (by omega))
  have F49 := hide (F35.out.below hb45 (by omega))
  have F50 := hide ((hb45.block (w.heap.size) (by omega)).trans F36.out)
  have F51 := hide (F37.out.kept hb45)
  have F52 := hide (F38.out.kept hb45)
  obtain ⟨aa53, cc54, hv55⟩ := ho44.shape
  have F56 := hide (ho44)
  have B57 := hide (F56.out.base)
  have L58 := hide (F56.out.blockLt)
  clear hb45 F33 F34 F35 F36 F37 F38 ho44
  subst hv55
  clear F51
  clear B25 L26
  clear F52
  clear B39 L40
  have p59 := cells_at0 F50.out
  have p60 := cells_at1 F50.out
  go_wp2_with fail
  clear p59 p60
  refine (toSpace_c n0 v0 l0 W4 (F48.out.mono (by omega)) (by omega)).mono ?_
  rintro e W5 ⟨g61, rfl, hg62, hk63, hb64⟩
  have hz65 := hb64.size
  have F66 := hide (F47.out.trans (hb64.mono (by omega)))
  have F67 := hide (F48.out.below hb64 (by omega))
  have F68 := hide (F49.out.below hb64 (by omega))
  have F69 := hide ((hb64.block (w.heap.size) (by omega)).trans F50.out)
  have F70 := hide (F56.out.kept hb64)
  have F71 := hide (hk63.own hg62 (by unfold maxLen; omega))
  have B72 := hide (F71.out.base)
  have L73 := hide (F71.out.blockLt)
  clear hb64 F47 F48 F49 F50 F56 hk63 hg62
  have F74 := hide (F66.out.alloc (by omega) (.cells #[.int .i64 n0, .slice (some ⟨g61, 0, none⟩) l0.length l0.length] 30))
  have F75 := hide (F67.out.alloc (.cells #[.int .i64 n0, .slice (some ⟨g61, 0, none⟩) l0.length l0.length] 30))
  have F76 := hide (F68.out.alloc (.cells #[.int .i64 n0, .slice (some ⟨g61, 0, none⟩) l0.length l0.length] 30))
  have F77 := hide ((hp_old W5 (.cells #[.int .i64 n0, .slice (some ⟨g61, 0, none⟩) l0.length l0.length] 30) (w.heap.size) (by omega)).trans F69.out)
  have F78 := hide (F70.out.alloc (.cells #[.int .i64 n0, .slice (some ⟨g61, 0, none⟩) l0.length l0.length] 30))
  have F79 := hide (F71.out.alloc (.cells #[.int .i64 n0, .slice (some ⟨g61, 0, none⟩) l0.length l0.length] 30))
  have F80 := hide (hp_last W5 (.cells #[.int .i64 n0, .slice (some ⟨g61, 0, none⟩) l0.length l0.length] 30))
  have HZ81 := hide (show (W5.alloc (.cells #[.int .i64 n0, .slice (some ⟨g61, 0, none⟩) l0.length l0.length] 30)).heap.size = W5.heap.size + 1 by simp)
  clear F66 F67 F68 F69 F70 F71
  have p82 := cells_at0 F77.out
  have p83 := cells_at1 F77.out
  have p84 := cells_at0 F80.out
  have p85 := cells_at1 F80.out
  go_wp2_with fail
  clear p82 p83 p84 p85
  generalize hX : W5.alloc (.cells #[.int .i64 n0, .slice (some ⟨g61, 0, none⟩) l0.length l0.length] 30) = W6 at F74 F75 F76 F77 F78 F79 F80 HZ81 ⊢
  have hz86 := Nat.le_of_eq HZ81.out.symm
  clear hX HZ81
  refine (toTaskS_c v1 l1 W6 (F76.out.mono (by omega)) (by omega)).mono ?_
  rintro e W7 ⟨v87, rfl, ho88, hb89⟩
  have hz90 := hb89.size
  have F91 := hide (F74.out.trans (hb89.mono (by omega)))
  have F92 := hide (F75.out.below hb89 (by omega))
  have F93 := hide (F76.out.below hb89 (by omega))
  have F94 := hide ((hb89.block (w.heap.size) (by omega)).trans F77.out)
  have F95 := hide (F78.out.kept hb89)
  have F96 := hide (F79.out.kept hb89)
  have F97 := hide ((hb89.block (W5.heap.size) (by omega)).trans F80.out)
  have F98 := hide (ho88)
  have B99 := hide (F98.out.base)
  have L100 := hide (F98.out.blockLt)
  clear hb89 F74 F75 F76 F77 F78 F79 F80 ho88
  have p101 := cells_at0 F94.out
  have p102 := cells_at1 F94.out
  have p103 := cells_at0 F97.out
  have p104 := cells_at1 F97.out
  go_wp2_with fail
  clear p101 p102 p103 p104
  refine (implGreedyWord_c n0 _ l0 _ l1 W7 F96.out.ints (by omega) F98.out.tks (by omega) (HT.out.belowB HT.out F91.out (Nat.le_refl _))).mono ?_
  rw [HR.out, HO.out]
  rintro e W8 ⟨v105, rfl, ho106, hb107⟩
  have hz108 := hb107.size
  have F109 := hide (F91.out.trans (hb107.mono (by omega)))
  have F110 := hide (F92.out.below hb107 (by omega))
  have F111 := hide (F93.out.below hb107 (by omega))
  have F112 := hide ((hb107.block (w.heap.size) (by omega)).trans F94.out)
  have F113 := hide (F95.out.kept hb107)
  have F114 := hide (F96.out.kept hb107)
  have F115 := hide ((hb107.block (W5.heap.size) (by omega)).trans F97.out)
  have F116 := hide (F98.out.kept hb107)
  obtain ⟨aa117, cc118, hv119⟩ := ho106.shape
  have F120 := hide (ho106)
  have B121 := hide (F120.out.base)
  have L122 := hide (F120.out.blockLt)
  clear hb107 F91 F92 F93 F94 F95 F96 F97 F98 ho106
  subst hv119
  have p123 := cells_at0 F112.out
  have p124 := cells_at1 F112.out
  have p125 := cells_at0 F115.out
  have p126 := cells_at1 F115.out
  go_wp2_with fail
  clear p123 p124 p125 p126
  refine (eqIntS_same_c _ _ R W8 (F120.out.ints) (F113.out.ints) hRL).mono ?_
  rintro e W9 ⟨rfl, hb127⟩
  have hz128 := hb127.size
  have F129 := hide (F109.out.trans (hb127.mono (by omega)))
  have F130 := hide (F110.out.below hb127 (by omega))
  have F131 := hide (F111.out.below hb127 (by omega))
  have F132 := hide ((hb127.block (w.heap.size) (by omega)).trans F112.out)
  have F133 := hide (F113.out.kept hb127)
  have F134 := hide (F114.out.kept hb127)
  have F135 := hide ((hb127.block (W5.heap.size) (by omega)).trans F115.out)
  have F136 := hide (F116.out.kept hb127)
  have F137 := hide (F120.out.kept hb127)
  clear hb127 F109 F110 F111 F112 F113 F114 F115 F116 F120
  have p138 := cells_at0 F132.out
  have p139 := cells_at1 F132.out
  have p140 := cells_at0 F135.out
  have p141 := cells_at1 F135.out
  go_wp2
  clear p138 p139 p140 p141
  refine wp_region_held (S := Below W9.heap.size W9) (by kernel_rfl) ?_
  have hS : Below W9.heap.size W9 { W9 with drawn := W9.drawn + 1 } := (Below.refl _ _).drew
  refine wpAnyH_take (i := 0) rfl (by kernel_rfl) (by kernel_rfl) (by kernel_rfl) (fun _ _ _ h => h) (yields_load_two rowSp sizeSp rfl (.tmp _) rfl _ rfl _ _ (fun w' h => (h.cell (p := ⟨W5.heap.size, 0, none⟩) (by show W5.heap.size < _; omega)).trans (cells_at0 F135.out)) (fun w' h => (h.cell (p := ⟨W5.heap.size, 1, none⟩) (by show W5.heap.size < _; omega)).trans (cells_at1 F135.out))) hS ?_
  refine wpAnyH_take (i := 1) rfl (by kernel_rfl) (by kernel_rfl) (by kernel_rfl) (fun _ _ _ h => h) (yields_load_two rowSl sizeSl rfl (.tmp _) rfl _ rfl _ _ (fun w' h => (h.cell (p := ⟨w.heap.size, 0, none⟩) (by show w.heap.size < _; omega)).trans (cells_at0 F132.out)) (fun w' h => (h.cell (p := ⟨w.heap.size, 1, none⟩) (by show w.heap.size < _; omega)).trans (cells_at1 F132.out))) hS ?_
  refine anyH_call (i := 2) (by kernel_rfl) rfl rfl 17 ent_toSpace _ _ rfl #[.agg #[.int .i64 n0, v0]] rfl (toSpace_c n0 v0 l0 _ ((F130.out.below hS (by omega)).mono (show w.heap.size ≤ W9.heap.size by omega)) (by omega)) ?_
  rintro e W10 ⟨g142, rfl, hgr, hkr, hbr⟩
  have hzr : W9.heap.size ≤ W10.heap.size := hbr.size
  have hS6 : Below W9.heap.size W9 W10 := hS.trans hbr
  refine ⟨_, rfl, hS6, ?_⟩
  refine anyH_call (i := 3) (by kernel_rfl) rfl rfl 20 ent_eqSpace _ _ rfl #[.agg #[.int .i64 n0, .slice (some ⟨g61, 0, none⟩) l0.length l0.length], .agg #[.int .i64 n0, .slice (some ⟨g142, 0, none⟩) l0.length l0.length]] rfl (eqSpace_same_c n0 _ _ l0 W10 ((F134.out.kept hS6).ints) (hkr.ints _) (by omega)) ?_
  rintro e W11 ⟨rfl, hbs⟩
  have hS7 : Below W9.heap.size W9 W11 := hS6.trans (hbs.mono hzr)
  refine ⟨_, rfl, hS7, ?_⟩
  refine anyH_op (i := 4) (by kernel_rfl) rfl rfl (.bool false) W11 ?hq hS7 ?_
  case hq => simp [go_sem, Act.put]
  refine wpAnyH_done (by kernel_rfl) ?_ _
  simp only [Act.put, List.getElem_toArray, List.getElem_cons_zero, List.getElem_cons_succ, List.setIfInBounds_toArray, List.set_cons_zero, List.set_cons_succ]
  have hz143 : W9.heap.size ≤ W11.heap.size := hS7.size
  have F144 := hide (F129.out.trans (hS7.mono (by omega)))
  have F145 := hide (F130.out.below hS7 (by omega))
  have F146 := hide (F131.out.below hS7 (by omega))
  have F147 := hide ((hS7.block (w.heap.size) (by omega)).trans F132.out)
  have F148 := hide (F133.out.kept hS7)
  have F149 := hide (F134.out.kept hS7)
  have F150 := hide ((hS7.block (W5.heap.size) (by omega)).trans F135.out)
  have F151 := hide (F136.out.kept hS7)
  have F152 := hide (F137.out.kept hS7)
  clear hS hS6 hS7 hbr hbs hkr hgr hzr F129 F130 F131 F132 F133 F134 F135 F136 F137
  have p153 := cells_at0 F147.out
  have p154 := cells_at1 F147.out
  have p155 := cells_at0 F150.out
  have p156 := cells_at1 F150.out
  go_wp2_with fail
  clear p153 p154 p155 p156
  refine (toTaskS_c v1 l1 W11 (F146.out.mono (by omega)) (by omega)).mono ?_
  rintro e W12 ⟨v157, rfl, ho158, hb159⟩
  have hz160 := hb159.size
  have F161 := hide (F144.out.trans (hb159.mono (by omega)))
  have F162 := hide (F145.out.below hb159 (by omega))
  have F163 := hide (F146.out.below hb159 (by omega))
  have F164 := hide ((hb159.block (w.heap.size) (by omega)).trans F147.out)
  have F165 := hide (F148.out.kept hb159)
  have F166 := hide (F149.out.kept hb159)
  have F167 := hide ((hb159.block (W5.heap.size) (by omega)).trans F150.out)
  have F168 := hide (F151.out.kept hb159)
  have F169 := hide (F152.out.kept hb159)
  have F170 := hide (ho158)
  have B171 := hide (F170.out.base)
  have L172 := hide (F170.out.blockLt)
  clear hb159 F144 F145 F146 F147 F148 F149 F150 F151 F152 ho158
  have p173 := cells_at0 F164.out
  have p174 := cells_at1 F164.out
  have p175 := cells_at0 F167.out
  have p176 := cells_at1 F167.out
  go_wp2_with fail
  clear p173 p174 p175 p176
  refine (eqTaskS_same_c _ _ l1 W12 (F168.out.tks) (F170.out.tks) (by omega)).mono ?_
  rintro e W13 ⟨rfl, hb177⟩
  have hz178 := hb177.size
  have F179 := hide (F161.out.trans (hb177.mono (by omega)))
  have F180 := hide (F162.out.below hb177 (by omega))
  have F181 := hide (F163.out.below hb177 (by omega))
  have F182 := hide ((hb177.block (w.heap.size) (by omega)).trans F164.out)
  have F183 := hide (F165.out.kept hb177)
  have F184 := hide (F166.out.kept hb177)
  have F185 := hide ((hb177.block (W5.heap.size) (by omega)).trans F167.out)
  have F186 := hide (F168.out.kept hb177)
  have F187 := hide (F169.out.kept hb177)
  have F188 := hide (F170.out.kept hb177)
  clear hb177 F161 F162 F163 F164 F165 F166 F167 F168 F169 F170
  clear F188
  clear B171 L172
  have p189 := cells_at0 F182.out
  have p190 := cells_at1 F182.out
  have p191 := cells_at0 F185.out
  have p192 := cells_at1 F185.out
  go_wp2_with fail
  clear p189 p190 p191 p192
  refine (markSpace_c n0 _ l0 (1) W13 _ F184.out (by omega) (by omega) (by omega)).mono ?_
  rintro e W14 ⟨rfl, hn194, ho193⟩
  have hz195 := ho193.size
  have F196 := hide (F179.out.trans (ho193.below w.heap.size (fun g hg => by have := B72.out g hg; omega) (by omega)))
  have F197 := hide (F180.out.below (ho193.below w.heap.size (fun g hg => by have := B72.out g hg; omega) (by omega)) (Nat.le_refl _))
  have F198 := hide (F181.out.below (ho193.below w.heap.size (fun g hg => by have := B72.out g hg; omega) (by omega)) (Nat.le_refl _))
  have F199 := hide ((ho193.block (w.heap.size) (by omega) (fun e => by have h1 := B72.out _ e; have h2 := L73.out _ e; omega)).trans F182.out)
  have F200 := hide (F183.out.other ho193 (fun g hg e => by have h1 := B72.out _ e; have h2 := L73.out _ e; have h3 := B57.out _ hg; have h4 := L58.out _ hg; omega))
  have F202 := hide ((ho193.block (W5.heap.size) (by omega) (fun e => by have h1 := B72.out _ e; have h2 := L73.out _ e; omega)).trans F185.out)
  have F203 := hide (F186.out.other ho193 (fun g hg e => by have h1 := B72.out _ e; have h2 := L73.out _ e; have h3 := B99.out _ hg; have h4 := L100.out _ hg; omega))
  have F204 := hide (F187.out.other ho193 (fun g hg e => by have h1 := B72.out _ e; have h2 := L73.out _ e; have h3 := B121.out _ hg; have h4 := L122.out _ hg; omega))
  have F205 := hide hn194
  clear F179 F180 F181 F182 F183 F184 F185 F186 F187 hn194 ho193
  have p206 := cells_at0 F199.out
  have p207 := cells_at1 F199.out
  have p208 := cells_at0 F202.out
  have p209 := cells_at1 F202.out
  go_wp2_with fail
  clear p206 p207 p208 p209
  refine (markTaskS_c _ l1 (1 + (l0.length : Int)) W14 _ F203.out (by omega) (by omega) (by omega)).mono ?_
  rintro e W15 ⟨rfl, ho210⟩
  have hz211 := ho210.size
  have F212 := hide (F196.out.trans (ho210.below w.heap.size (fun g hg => by have := B99.out g hg; omega) (by omega)))
  have F213 := hide (F197.out.below (ho210.below w.heap.size (fun g hg => by have := B99.out g hg; omega) (by omega)) (Nat.le_refl _))
  have F214 := hide (F198.out.below (ho210.below w.heap.size (fun g hg => by have := B99.out g hg; omega) (by omega)) (Nat.le_refl _))
  have F215 := hide ((ho210.block (w.heap.size) (by omega) (fun e => by have h1 := B99.out _ e; have h2 := L100.out _ e; omega)).trans F199.out)
  have F216 := hide (F200.out.other ho210 (fun g hg e => by have h1 := B99.out _ e; have h2 := L100.out _ e; have h3 := B57.out _ hg; have h4 := L58.out _ hg; omega))
  have F217 := hide (F205.out.other ho210 (fun g hg e => by have h1 := B99.out _ e; have h2 := L100.out _ e; have h3 := B72.out _ hg; have h4 := L73.out _ hg; omega))
  have F218 := hide ((ho210.block (W5.heap.size) (by omega) (fun e => by have h1 := B99.out _ e; have h2 := L100.out _ e; omega)).trans F202.out)
  have F220 := hide (F204.out.other ho210 (fun g hg e => by have h1 := B99.out _ e; have h2 := L100.out _ e; have h3 := B121.out _ hg; have h4 := L122.out _ hg; omega))
  clear F196 F197 F198 F199 F200 F205 F202 F204 ho210 F203 B99 L100
  have hneg3 : ¬ (1 + (l0.length : Int) + 3 * (l1.length : Int) < 0) := by omega
  have p221 := cells_at0 F215.out
  have p222 := cells_at1 F215.out
  have p223 := cells_at0 F218.out
  have p224 := cells_at1 F218.out
  go_wp2_with fail
  clear p221 p222 p223 p224
  refine (eqIntS_same_c _ _ R W15 (F220.out.ints) (F216.out.ints) hRL).mono ?_
  rintro e W16 ⟨rfl, hb225⟩
  have hz226 := hb225.size
  have F227 := hide (F212.out.trans (hb225.mono (by omega)))
  have F228 := hide (F213.out.below hb225 (by omega))
  have F229 := hide (F214.out.below hb225 (by omega))
  have F230 := hide ((hb225.block (w.heap.size) (by omega)).trans F215.out)
  have F231 := hide (F216.out.kept hb225)
  have F232 := hide (F217.out.kept hb225)
  have F233 := hide ((hb225.block (W5.heap.size) (by omega)).trans F218.out)
  have F234 := hide (F220.out.kept hb225)
  clear hb225 F212 F213 F214 F215 F216 F217 F218 F220
  have p235 := cells_at0 F230.out
  have p236 := cells_at1 F230.out
  have p237 := cells_at0 F233.out
  have p238 := cells_at1 F233.out
  go_wp2_with fail
  clear p235 p236 p237 p238
  refine (markIntS_c _ R (1) W16 _ F234.out (by omega) (by omega) (by omega)).mono ?_
  rintro e W17 ⟨rfl, hn240, ho239⟩
  have hz241 := ho239.size
  have F242 := hide (F227.out.trans (ho239.below w.heap.size (fun g hg => by have := B121.out g hg; omega) (by omega)))
  have F243 := hide (F228.out.below (ho239.below w.heap.size (fun g hg => by have := B121.out g hg; omega) (by omega)) (Nat.le_refl _))
  have F244 := hide (F229.out.below (ho239.below w.heap.size (fun g hg => by have := B121.out g hg; omega) (by omega)) (Nat.le_refl _))
  have F245 := hide ((ho239.block (w.heap.size) (by omega) (fun e => by have h1 := B121.out _ e; have h2 := L122.out _ e; omega)).trans F230.out)
  have F246 := hide (F231.out.other ho239 (fun g hg e => by have h1 := B121.out _ e; have h2 := L122.out _ e; have h3 := B57.out _ hg; have h4 := L58.out _ hg; omega))
  have F247 := hide (F232.out.other ho239 (fun g hg e => by have h1 := B121.out _ e; have h2 := L122.out _ e; have h3 := B72.out _ hg; have h4 := L73.out _ hg; omega))
  have F248 := hide ((ho239.block (W5.heap.size) (by omega) (fun e => by have h1 := B121.out _ e; have h2 := L122.out _ e; omega)).trans F233.out)
  have F250 := hide hn240
  clear F227 F228 F229 F230 F231 F232 F233 F234 hn240 ho239
  have p251 := cells_at0 F245.out
  have p252 := cells_at1 F245.out
  have p253 := cells_at0 F248.out
  have p254 := cells_at1 F248.out
  go_wp2_with fail
  clear p251 p252 p253 p254
  refine (heldIntS_c _ R.length 1 W17 (F250.out.ints) hRL (by omega) (by omega)).mono ?_
  rintro e _ ⟨rfl, rfl⟩
  clear F247
  clear B72 L73
  have p255 := cells_at0 F245.out
  have p256 := cells_at1 F245.out
  have p257 := cells_at0 F248.out
  have p258 := cells_at1 F248.out
  go_wp2_with fail
  clear p255 p256 p257 p258
  refine (toSpace_c n0 v0 l0 W17 (F243.out.mono (by omega)) (by omega)).mono ?_
  rintro e W18 ⟨g259, rfl, hg260, hk261, hb262⟩
  have hz263 := hb262.size
  have F264 := hide (F242.out.trans (hb262.mono (by omega)))
  have F265 := hide (F243.out.below hb262 (by omega))
  have F266 := hide (F244.out.below hb262 (by omega))
  have F267 := hide ((hb262.block (w.heap.size) (by omega)).trans F245.out)
  have F268 := hide (F246.out.kept hb262)
  have F269 := hide ((hb262.block (W5.heap.size) (by omega)).trans F248.out)
  have F270 := hide (F250.out.kept hb262)
  have F271 := hide (hk261.own hg260 (by unfold maxLen; omega))
  have B272 := hide (F271.out.base)
  have L273 := hide (F271.out.blockLt)
  clear hb262 F242 F243 F244 F245 F246 F248 F250 hk261 hg260
  have p274 := cells_at0 F267.out
  have p275 := cells_at1 F267.out
  have p276 := cells_at0 F269.out
  have p277 := cells_at1 F269.out
  go_wp2_with fail
  clear p274 p275 p276 p277
  refine (toTaskS_c v1 l1 W18 (F266.out.mono (by omega)) (by omega)).mono ?_
  rintro e W19 ⟨v278, rfl, ho279, hb280⟩
  have hz281 := hb280.size
  have F282 := hide (F264.out.trans (hb280.mono (by omega)))
  have F283 := hide (F265.out.below hb280 (by omega))
  have F284 := hide (F266.out.below hb280 (by omega))
  have F285 := hide ((hb280.block (w.heap.size) (by omega)).trans F267.out)
  have F286 := hide (F268.out.kept hb280)
  have F287 := hide ((hb280.block (W5.heap.size) (by omega)).trans F269.out)
  have F288 := hide (F270.out.kept hb280)
  have F289 := hide (F271.out.kept hb280)
  have F290 := hide (ho279)
  have B291 := hide (F290.out.base)
  have L292 := hide (F290.out.blockLt)
  clear hb280 F264 F265 F266 F267 F268 F269 F270 F271 ho279
  have p293 := cells_at0 F285.out
  have p294 := cells_at1 F285.out
  have p295 := cells_at0 F287.out
  have p296 := cells_at1 F287.out
  go_wp2_with fail
  clear p293 p294 p295 p296
  refine (implGreedyWord_c n0 _ l0 _ l1 W19 F289.out.ints (by omega) F290.out.tks (by omega) (HT.out.belowB HT.out F282.out (Nat.le_refl _))).mono ?_
  rw [HR.out, HO.out]
  rintro e W20 ⟨v297, rfl, ho298, hb299⟩
  have hz300 := hb299.size
  have F301 := hide (F282.out.trans (hb299.mono (by omega)))
  have F302 := hide (F283.out.below hb299 (by omega))
  have F303 := hide (F284.out.below hb299 (by omega))
  have F304 := hide ((hb299.block (w.heap.size) (by omega)).trans F285.out)
  have F305 := hide (F286.out.kept hb299)
  have F306 := hide ((hb299.block (W5.heap.size) (by omega)).trans F287.out)
  have F307 := hide (F288.out.kept hb299)
  have F308 := hide (F289.out.kept hb299)
  have F309 := hide (F290.out.kept hb299)
  obtain ⟨aa310, cc311, hv312⟩ := ho298.shape
  have F313 := hide (ho298)
  have B314 := hide (F313.out.base)
  have L315 := hide (F313.out.blockLt)
  clear hb299 F282 F283 F284 F285 F286 F287 F288 F289 F290 ho298
  subst hv312
  have p316 := cells_at0 F304.out
  have p317 := cells_at1 F304.out
  have p318 := cells_at0 F306.out
  have p319 := cells_at1 F306.out
  go_wp2_with fail
  clear p316 p317 p318 p319
  refine (eqIntS_same_c _ _ R W20 (F313.out.ints) (F305.out.ints) hRL).mono ?_
  rintro e W21 ⟨rfl, hb320⟩
  have hz321 := hb320.size
  have F322 := hide (F301.out.trans (hb320.mono (by omega)))
  have F323 := hide (F302.out.below hb320 (by omega))
  have F324 := hide (F303.out.below hb320 (by omega))
  have F325 := hide ((hb320.block (w.heap.size) (by omega)).trans F304.out)
  have F326 := hide (F305.out.kept hb320)
  have F327 := hide ((hb320.block (W5.heap.size) (by omega)).trans F306.out)
  have F328 := hide (F307.out.kept hb320)
  have F329 := hide (F308.out.kept hb320)
  have F330 := hide (F309.out.kept hb320)
  have F331 := hide (F313.out.kept hb320)
  clear hb320 F301 F302 F303 F304 F305 F306 F307 F308 F309 F313
  have p332 := cells_at0 F325.out
  have p333 := cells_at1 F325.out
  have p334 := cells_at0 F327.out
  have p335 := cells_at1 F327.out
  go_wp2_with fail
  clear p332 p333 p334 p335
  refine (heldIntS_c _ R.length 1 W21 (F328.out.ints) hRL (by omega) (by omega)).mono ?_
  rintro e _ ⟨rfl, rfl⟩
  have p336 := cells_at0 F325.out
  have p337 := cells_at1 F325.out
  have p338 := cells_at0 F327.out
  have p339 := cells_at1 F327.out
  go_wp2
  go_ret
  exact ⟨rfl, F322.out⟩

theorem ownK : ownKnob Tryd.prog.godebug = none := by kernel_rfl
theorem laidOut : laidOutB Tryd.prog = true := by kernel_rfl

/-- What a slice of int is, as it comes in. -/
theorem list_open {W : World} {v : Value} {l : List Int} (h : (v = .slice none 0 0 ∧ l = []) ∨ ∃ (a : Addr) (len c : Nat) (zs : List Int), v = .slice (some a) len c ∧ len ≤ zs.length ∧ len ≤ maxLen ∧ (∀ i, i < zs.length → W.cell? (a.add i) = some (.int .i64 (zs.getD i 0))) ∧ l = zs.take len) : ints W.heap.size W v l ∧ l.length ≤ 9223372036854775807 := by
  rcases h with ⟨rfl, rfl⟩ | ⟨x, len, c, zs, rfl, hlt, hm, hcell, rfl⟩
  · exact ⟨.inl ⟨rfl, none, 0, rfl⟩, by simp⟩
  · have htk : (zs.take len).length = len := by simp; omega
    refine ⟨?_, by unfold maxLen at hm; omega⟩
    rcases Nat.eq_zero_or_pos len with h0 | h0
    · subst h0
      exact .inl ⟨by simp, some x, c, rfl⟩
    · obtain ⟨b, off, rfl, hc⟩ := ints_at hcell (by omega)
      have hbl := block_lt_of_cell (hc 0 (by omega))
      refine .inr ⟨b, off, c, by rw [htk], hbl, hbl, fun j hj => ?_⟩
      rw [htk] at hj
      rw [hc j (by omega), List.getElem?_take, if_pos hj]
      rfl

/-- What a struct of an int and a slice of int is, as it comes in. -/
theorem space_open {H : Type} {enc : TypeId × Value → H} {W : World} {b0 : Nat} {v : Value} {d : DataW H} {p : List MemPlace}
    (hv : Value.okWide Tryd.prog W .any b0 24 v) (h : DataW.Trod enc Tryd.prog W 0 (fun _ => true) true 24 v d p) :
    ∃ (n : Int) (u : Value) (l : List Int), v = .agg #[.int .i64 n, u] ∧ ints W.heap.size W u l ∧ l.length ≤ 9223372036854775807 := by
  obtain ⟨v0, v1, y0, y1, m, rfl, rfl, rfl, hy0, hy1⟩ := open_agg2 Tryd.underlying24 (by kernel_rfl) (by kernel_rfl) hv h
  obtain ⟨n, e0, _, _⟩ := DataW.trod_int Tryd.underlying3 hy0
  simp at e0
  subst e0
  rcases open_ints Tryd.underlying22 Tryd.underlying3 (by kernel_rfl) hy1 with ⟨hcs, _⟩ | ⟨x, len, c, zs, hcs, _, hl, hm, hz, _, hcell, hwz⟩
  · simp at hcs
    subst hcs
    exact ⟨n, _, [], rfl, list_open (.inl ⟨rfl, rfl⟩)⟩
  · simp at hcs
    subst hcs
    have hz' : zs.length = c := by simpa using hz
    exact ⟨n, _, zs.take len, rfl, list_open (.inr ⟨x, len, c, zs, rfl, by omega, by unfold maxLen at hm ⊢; omega, hcell, rfl⟩)⟩


/-- What the card's condition gives: the table's cells. -/
theorem tab_of {W : World} (h : laidMetH Tryd.prog Rows.fnExactGreedyWordRow.laid W) : tab W := by
  rw [MakeChecks.laidMetH_plain _ _ _ (by kernel_rfl)] at h
  have h2 := h.tail
  have e : (Rows.laid_math_bits_deBruijn64tab : DataW Unit) = Lib.tabData .u8 (Lib.deBruijn64tab.map fun n : Nat => (n : Int)) := by kernel_rfl
  rw [e] at h2
  have hT := Lib.tabIs_of_head (g := 1) (t := 145) (e := 5) (n := 64) (by kernel_rfl) (by kernel_rfl) (by kernel_rfl) (by kernel_rfl) (by kernel_rfl) (by kernel_rfl) h2
  have hc : ∀ j, j < 64 → W.cell? ⟨1, j, none⟩ = some (.int .u8 (Lib.deBruijn64tab.getD j 0)) := by
    intro j hj
    have h3 := hT.cell (g := 1) (by kernel_rfl) j (by rw [show (Lib.deBruijn64tab.map fun n : Nat => (n : Int)).length = 64 by decide +kernel]; exact hj)
    rw [h3]
    have h4 : ∀ j, j < 64 → (Lib.deBruijn64tab.map fun n : Nat => (n : Int)).getD j 0 = (Lib.deBruijn64tab.getD j 0 : Int) := by decide +kernel
    rw [h4 j hj]
  exact ⟨block_lt_of_cell (hc 0 (by omega)), hc⟩
theorem door_met (os : Os) (args : Array Value) : laidMetH Tryd.prog Rows.fnExactGreedyWordRow.laid ((World.doorLaid Tryd.prog 400 os).forCall (fun _ _ => 0) ⟨#[], args, []⟩).memory :=
  laidMetH_of_parts3 (fuel := 8) (laidMet_of_run' 8 (by kernel_rfl) (by kernel_rfl)) (by kernel_rfl) (by kernel_rfl)

theorem lifted (os : Os) (started : os.Started) (H : Type) (enc : TypeId × Value → H) :
    ReturnsInHanded {} Tryd.checked os 5 .any (fun w args => (Rows.fnExactGreedyWordSpec.pre enc Tryd.prog Tryd.f5 [] false w args ∧ laidMetH Tryd.prog Rows.fnExactGreedyWordRow.laid w) ∧ sizedMet enc Tryd.prog Tryd.f5 (OpenSpec.ofChange Rows.fnExactGreedyWordSpec) false w args)
      (Rows.fnExactGreedyWordSpec.post enc Tryd.prog Tryd.f5 false true false false) := by
  refine returnsInHanded_of_change_and (C := Tryd.checked) (X := fun w _ => laidMetH Tryd.prog Rows.fnExactGreedyWordRow.laid w) (fun _ _ _ hh h => h.of_heap hh) ownK started (by kernel_rfl) Tryd.func5
    (ChangeSpec.witness_shaped (enc := enc) (C := Tryd.checked) (os := os) (X := fun w _ => laidMetH Tryd.prog Rows.fnExactGreedyWordRow.laid w) false (World.doorLaid Tryd.prog 400 os) #[.agg #[.int .i64 0, .slice none 0 0], .slice none 0 0] 8 rfl (World.shaped_of_RefB (by kernel_rfl) (by kernel_rfl)) (by kernel_rfl) (by kernel_rfl) (by kernel_rfl) (door_met os _)) ?_
  intro W base args ds gs before hval0 hW _ _ hL _
  have hTab := tab_of hL
  have hval : ∀ (j : Nat) t v, Tryd.f5.params[j]? = some t → args[j]? = some v → Value.okWide Tryd.prog W .any base t v := hval0
  have hW' := hW
  obtain ⟨p, q, hA0, hV, rfl, hfz, hnd⟩ := hW
  have hA : DataW.TrodAll enc Tryd.prog W 0 (fun _ => true) true Tryd.f5.params.toList args.toList ds p := hA0
  rw [Tryd.params5] at hA hval
  obtain ⟨v0, vs0, d0, ds0, p0, q0, hargs, rfl, rfl, t0, r0⟩ := trodAll_cons hA
  obtain ⟨v1, vs1, d1, ds1, p1, q1, rfl, rfl, rfl, t1, r1⟩ := trodAll_cons r0
  obtain ⟨rfl, rfl, rfl⟩ := trodAll_nil r1
  obtain rfl : args = #[v0, v1] := by cases args; simp_all
  obtain ⟨rfl, rfl⟩ := trodVars_none hV
  have k0 := t0
  have lt0 : ∀ x ∈ p0, x.block < W.heap.size := by obtain ⟨m, hm⟩ := k0; exact DataW.trod_lt m _ _ _ hm
  obtain ⟨n0, u0, l0, rfl, i0, e0⟩ := space_open (hval 0 24 v0 rfl rfl) t0
  have k1 := t1
  have lt1 : ∀ x ∈ p1, x.block < W.heap.size := by obtain ⟨m, hm⟩ := k1; exact DataW.trod_lt m _ _ _ hm
  obtain ⟨l1, i1, e1⟩ := tasks_open (hval 1 25 v1 rfl rfl) t1
  clear hA0 hval0
  refine (law_c n0 u0 l0 v1 l1 W i0 e0 i1 e1 hTab).mono fun e W' ⟨he, bel⟩ => ?_
  subst he
  exact ⟨_, rfl, _, _, _, [], _, [], hW', trodAll_mk1 (shut_bool Tryd.underlying4 _), (trodAll_cons_mk (Below.trod laidOut (by kernel_rfl) (of_decide_eq_true (by kernel_rfl)) k0 bel lt0) (trodAll_cons_mk (Below.trod laidOut (by kernel_rfl) (of_decide_eq_true (by kernel_rfl)) k1 bel lt1) trodAll_mk0)), rfl, bel.frame _, fun h => by cases h⟩

set_option maxHeartbeats 4000000 in
theorem over : Rows.fnExactGreedyWordRow.holds Tryd.pinned (OpenSpec.ofChange Rows.fnExactGreedyWordSpec) :=
  OpenClaim.holds_of_wide 5 Tryd.f5 rfl rfl rfl rfl rfl rfl rfl ⟨rfl, rfl, rfl, rfl, rfl⟩ rfl rfl rfl rfl rfl (by as_aux_lemma => kernel_rfl) Tryd.func5 (by as_aux_lemma => kernel_rfl)
    (of_decide_eq_true (by as_aux_lemma => kernel_rfl)) (by unfold Func.isWrapper; first | (rw [if_pos (by decide +kernel)]; kernel_rfl) | (rw [if_neg (by decide +kernel)]; exact ⟨rfl, rfl⟩))
    (fun os started H enc _ => lifted os started H enc)

theorem proved : Rows.FnExactGreedyWordCardSaid :=
  Claim7.holds_tied_plain_at .later [] [.data, .data] true _ false
    over (fun _ h => by cases h) (by kernel_rfl) (fun _ h => by cases h) fnExactGreedyWord_row_tie rfl ⟨rfl, rfl⟩ (by kernel_rfl) rfl
    (fun f fn hf hfn => by
      obtain rfl : f = 5 := Option.some.inj ((show Tryd.prog.funcNamed "loop.example/g01137/laws.FnExactGreedyWord" = some 5 by kernel_rfl).symm.trans hf) |>.symm
      obtain rfl : fn = Tryd.f5 := (Option.some.inj (Tryd.func5.symm.trans hfn)).symm
      exact ⟨by kernel_rfl, fun j t ht => by
        rw [Tryd.params5] at ht
        have hm : t ∈ [24, 25] := by simpa using Array.mem_of_getElem? ht
        have hall : ([24, 25].all fun u => !Tryd.prog.wantsStandIn u) = true := by kernel_rfl
        exact (show Tryd.prog.wantsStandIn t = false by simpa using List.all_eq_true.1 hall t hm)⟩)
    (by kernel_rfl)
#print axioms proved
end Go.Proofs.YtndnkefbilhgnaaDoor.FGreedyWord
