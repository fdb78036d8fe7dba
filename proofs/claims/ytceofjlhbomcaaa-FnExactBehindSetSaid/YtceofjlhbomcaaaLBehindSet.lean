/- The program's BehindSet answers as the specification's does, at every argument, leaves its arguments as they are, and its answer owns its memory: no condition. -/
import Derived.Test.YtceofjlhbomcaaaRows
import Derived.Test.YtceofjlhbomcaaaBe
import Derived.Test.YtceofjlhbomcaaaHar
import Derived.ProofKit
import Derived.OpenShut
import Derived.Lib.SmallJoins
namespace Go.Proofs.Ytceofjlhbomcaaa.FBehindSet
open Go.ChangeShapes Go.WideShapes Go.ChangeAt Go.RowKit Go.Joins
set_option linter.unusedVariables false
set_option maxRecDepth 100000

set_option maxHeartbeats 4000000 in
theorem law_c (n0 : Int) (v0 : Value) (l0 : List Int) (x1 : Int) (w : World) (h0 : ints w.heap.size w v0 l0) (hlen0 : l0.length ≤ 9223372036854775807) :
    Calls Try.prog 7 #[.agg #[.int .i64 n0, v0], .int .i64 x1] w fun e w' => e = .returned (.bool true) ∧ Below w.heap.size w w' := by
  have hRL := beL_len n0 l0 x1
  generalize hN : beN n0 l0 x1 = N
  generalize hR : beL n0 l0 x1 = R at hRL
  generalize hO : beB n0 l0 x1 = ok
  have HN := hide hN
  have HR := hide hR
  have HO := hide hO
  clear hN hR hO
  have F1 := hide (((Below.refl w.heap.size w).alloc (Nat.le_refl _) (.cells #[.int .i64 n0, v0] 39)))
  have F2 := hide ((h0.alloc (.cells #[.int .i64 n0, v0] 39)))
  have F3 := hide (show (w.alloc (.cells #[.int .i64 n0, v0] 39)).heap[w.heap.size]? = some (.cells #[.int .i64 n0, v0] 39) from (by have := hp_last w (.cells #[.int .i64 n0, v0] 39); simpa using this))
  have HZ0 := hide (show (w.alloc (.cells #[.int .i64 n0, v0] 39)).heap.size = w.heap.size + 1 by simp)
  clear h0
  have hsz0 : szOf 1048576 l0.length = -1 ∨ (0 ≤ szOf 1048576 l0.length ∧ szOf 1048576 l0.length ≤ 1048576 ∧ l0.length ≤ 1048576) := by unfold szOf; split <;> omega
  generalize hq0 : szOf 1048576 l0.length = q0 at hsz0
  have HQ0 := hide hq0
  clear hq0
  rcases hsz0 with hbig0 | ⟨hq0a, hq0b, hq0c⟩
  · have HBIG := hide hbig0
    have hneg : q0 < 0 := by omega
    clear hbig0
    go_enter Try.func7, Try.ntmps7
    go_wp2_with fail
    generalize hX : (w.alloc (.cells #[.int .i64 n0, v0] 39)) = W0 at F1 F2 F3 HZ0 ⊢
    have hz0 := Nat.le_of_eq HZ0.out.symm
    clear hX HZ0
    refine (szSpace_c n0 v0 l0 (1048576) W0 (F2.out.mono (by omega)) hlen0 (by omega) (by omega)).mono ?_
    rw [HQ0.out]
    rintro e W1 ⟨rfl, hb4⟩
    have hz5 := hb4.size
    have F6 := hide (F1.out.trans (hb4.mono (by omega)))
    have F7 := hide (F2.out.below hb4 (by omega))
    have F8 := hide ((hb4.block (w.heap.size) (by omega)).trans F3.out)
    clear hb4 F1 F2 F3
    go_wp2
    go_ret
    exact ⟨rfl, F6.out⟩
  have hneg0 : ¬ q0 < 0 := by omega
  go_enter Try.func7, Try.ntmps7
  go_wp2_with fail
  generalize hX : (w.alloc (.cells #[.int .i64 n0, v0] 39)) = W0 at F1 F2 F3 HZ0 ⊢
  have hz0 := Nat.le_of_eq HZ0.out.symm
  clear hX HZ0
  refine (szSpace_c n0 v0 l0 (1048576) W0 (F2.out.mono (by omega)) hlen0 (by omega) (by omega)).mono ?_
  rw [HQ0.out]
  rintro e W1 ⟨rfl, hb4⟩
  have hz5 := hb4.size
  have F6 := hide (F1.out.trans (hb4.mono (by omega)))
  have F7 := hide (F2.out.below hb4 (by omega))
  have F8 := hide ((hb4.block (w.heap.size) (by omega)).trans F3.out)
  clear hb4 F1 F2 F3
  have hneg2 : ¬ (1 + (R.length : Int) < 0) := by omega
  have p9 := cells_at0 F8.out
  have p10 := cells_at1 F8.out
  go_wp2_with fail
  clear p9 p10
  refine (toSpace_c n0 v0 l0 W1 (F7.out.mono (by omega)) (by omega)).mono ?_
  rintro e W2 ⟨g11, rfl, hg12, hk13, hb14⟩
  have hz15 := hb14.size
  have F16 := hide (F6.out.trans (hb14.mono (by omega)))
  have F17 := hide (F7.out.below hb14 (by omega))
  have F18 := hide ((hb14.block (w.heap.size) (by omega)).trans F8.out)
  have F19 := hide (hk13.own hg12 (by unfold maxLen; omega))
  have B20 := hide (F19.out.base)
  have L21 := hide (F19.out.blockLt)
  clear hb14 F6 F7 F8 hk13 hg12
  have p22 := cells_at0 F18.out
  have p23 := cells_at1 F18.out
  go_wp2_with fail
  clear p22 p23
  refine (specBehindSet_c n0 _ l0 x1 W2 F19.out.ints (by omega)).mono ?_
  rw [HN.out, HR.out, HO.out]
  rintro e W3 ⟨v24, rfl, ho25, hb26⟩
  have hz27 := hb26.size
  have F28 := hide (F16.out.trans (hb26.mono (by omega)))
  have F29 := hide (F17.out.below hb26 (by omega))
  have F30 := hide ((hb26.block (w.heap.size) (by omega)).trans F18.out)
  have F31 := hide (F19.out.kept hb26)
  obtain ⟨aa32, cc33, hv34⟩ := ho25.shape
  have F35 := hide (ho25)
  have B36 := hide (F35.out.base)
  have L37 := hide (F35.out.blockLt)
  clear hb26 F16 F17 F18 F19 ho25
  subst hv34
  clear F31
  clear B20 L21
  have F38 := hide (F28.out.alloc (by omega) (.cells #[.int .i64 N, .slice aa32 R.length cc33] 24))
  have F39 := hide (F29.out.alloc (.cells #[.int .i64 N, .slice aa32 R.length cc33] 24))
  have F40 := hide ((hp_old W3 (.cells #[.int .i64 N, .slice aa32 R.length cc33] 24) (w.heap.size) (by omega)).trans F30.out)
  have F41 := hide (F35.out.alloc (.cells #[.int .i64 N, .slice aa32 R.length cc33] 24))
  have F42 := hide (hp_last W3 (.cells #[.int .i64 N, .slice aa32 R.length cc33] 24))
  have HZ43 := hide (show (W3.alloc (.cells #[.int .i64 N, .slice aa32 R.length cc33] 24)).heap.size = W3.heap.size + 1 by simp)
  clear F28 F29 F30 F35
  have p44 := cells_at0 F40.out
  have p45 := cells_at1 F40.out
  have p46 := cells_at0 F42.out
  have p47 := cells_at1 F42.out
  go_wp2_with fail
  clear p44 p45 p46 p47
  generalize hX : W3.alloc (.cells #[.int .i64 N, .slice aa32 R.length cc33] 24) = W4 at F38 F39 F40 F41 F42 HZ43 ⊢
  have hz48 := Nat.le_of_eq HZ43.out.symm
  clear hX HZ43
  refine (toSpace_c n0 v0 l0 W4 (F39.out.mono (by omega)) (by omega)).mono ?_
  rintro e W5 ⟨g49, rfl, hg50, hk51, hb52⟩
  have hz53 := hb52.size
  have F54 := hide (F38.out.trans (hb52.mono (by omega)))
  have F55 := hide (F39.out.below hb52 (by omega))
  have F56 := hide ((hb52.block (w.heap.size) (by omega)).trans F40.out)
  have F57 := hide (F41.out.kept hb52)
  have F58 := hide ((hb52.block (W3.heap.size) (by omega)).trans F42.out)
  have F59 := hide (hk51.own hg50 (by unfold maxLen; omega))
  have B60 := hide (F59.out.base)
  have L61 := hide (F59.out.blockLt)
  clear hb52 F38 F39 F40 F41 F42 hk51 hg50
  have F62 := hide (F54.out.alloc (by omega) (.cells #[.int .i64 n0, .slice (some ⟨g49, 0, none⟩) l0.length l0.length] 24))
  have F63 := hide (F55.out.alloc (.cells #[.int .i64 n0, .slice (some ⟨g49, 0, none⟩) l0.length l0.length] 24))
  have F64 := hide ((hp_old W5 (.cells #[.int .i64 n0, .slice (some ⟨g49, 0, none⟩) l0.length l0.length] 24) (w.heap.size) (by omega)).trans F56.out)
  have F65 := hide (F57.out.alloc (.cells #[.int .i64 n0, .slice (some ⟨g49, 0, none⟩) l0.length l0.length] 24))
  have F66 := hide ((hp_old W5 (.cells #[.int .i64 n0, .slice (some ⟨g49, 0, none⟩) l0.length l0.length] 24) (W3.heap.size) (by omega)).trans F58.out)
  have F67 := hide (F59.out.alloc (.cells #[.int .i64 n0, .slice (some ⟨g49, 0, none⟩) l0.length l0.length] 24))
  have F68 := hide (hp_last W5 (.cells #[.int .i64 n0, .slice (some ⟨g49, 0, none⟩) l0.length l0.length] 24))
  have HZ69 := hide (show (W5.alloc (.cells #[.int .i64 n0, .slice (some ⟨g49, 0, none⟩) l0.length l0.length] 24)).heap.size = W5.heap.size + 1 by simp)
  clear F54 F55 F56 F57 F58 F59
  have p70 := cells_at0 F64.out
  have p71 := cells_at1 F64.out
  have p72 := cells_at0 F66.out
  have p73 := cells_at1 F66.out
  have p74 := cells_at0 F68.out
  have p75 := cells_at1 F68.out
  go_wp2_with fail
  clear p70 p71 p72 p73 p74 p75
  generalize hX : W5.alloc (.cells #[.int .i64 n0, .slice (some ⟨g49, 0, none⟩) l0.length l0.length] 24) = W6 at F62 F63 F64 F65 F66 F67 F68 HZ69 ⊢
  have hz76 := Nat.le_of_eq HZ69.out.symm
  clear hX HZ69
  refine (implBehindSet_c n0 _ l0 x1 W6 F67.out.ints (by omega)).mono ?_
  rw [HN.out, HR.out, HO.out]
  rintro e W7 ⟨v77, rfl, ho78, hb79⟩
  have hz80 := hb79.size
  have F81 := hide (F62.out.trans (hb79.mono (by omega)))
  have F82 := hide (F63.out.below hb79 (by omega))
  have F83 := hide ((hb79.block (w.heap.size) (by omega)).trans F64.out)
  have F84 := hide (F65.out.kept hb79)
  have F85 := hide ((hb79.block (W3.heap.size) (by omega)).trans F66.out)
  have F86 := hide (F67.out.kept hb79)
  have F87 := hide ((hb79.block (W5.heap.size) (by omega)).trans F68.out)
  obtain ⟨aa88, cc89, hv90⟩ := ho78.shape
  have F91 := hide (ho78)
  have B92 := hide (F91.out.base)
  have L93 := hide (F91.out.blockLt)
  clear hb79 F62 F63 F64 F65 F66 F67 F68 ho78
  subst hv90
  have F94 := hide (F81.out.alloc (by omega) (.cells #[.int .i64 N, .slice aa88 R.length cc89] 24))
  have F95 := hide (F82.out.alloc (.cells #[.int .i64 N, .slice aa88 R.length cc89] 24))
  have F96 := hide ((hp_old W7 (.cells #[.int .i64 N, .slice aa88 R.length cc89] 24) (w.heap.size) (by omega)).trans F83.out)
  have F97 := hide (F84.out.alloc (.cells #[.int .i64 N, .slice aa88 R.length cc89] 24))
  have F98 := hide ((hp_old W7 (.cells #[.int .i64 N, .slice aa88 R.length cc89] 24) (W3.heap.size) (by omega)).trans F85.out)
  have F99 := hide (F86.out.alloc (.cells #[.int .i64 N, .slice aa88 R.length cc89] 24))
  have F100 := hide ((hp_old W7 (.cells #[.int .i64 N, .slice aa88 R.length cc89] 24) (W5.heap.size) (by omega)).trans F87.out)
  have F101 := hide (F91.out.alloc (.cells #[.int .i64 N, .slice aa88 R.length cc89] 24))
  have F102 := hide (hp_last W7 (.cells #[.int .i64 N, .slice aa88 R.length cc89] 24))
  have HZ103 := hide (show (W7.alloc (.cells #[.int .i64 N, .slice aa88 R.length cc89] 24)).heap.size = W7.heap.size + 1 by simp)
  clear F81 F82 F83 F84 F85 F86 F87 F91
  have p104 := cells_at0 F96.out
  have p105 := cells_at1 F96.out
  have p106 := cells_at0 F98.out
  have p107 := cells_at1 F98.out
  have p108 := cells_at0 F100.out
  have p109 := cells_at1 F100.out
  have p110 := cells_at0 F102.out
  have p111 := cells_at1 F102.out
  go_wp2_with fail
  clear p104 p105 p106 p107 p108 p109 p110 p111
  generalize hX : W7.alloc (.cells #[.int .i64 N, .slice aa88 R.length cc89] 24) = W8 at F94 F95 F96 F97 F98 F99 F100 F101 F102 HZ103 ⊢
  have hz112 := Nat.le_of_eq HZ103.out.symm
  clear hX HZ103
  refine (eqSpace_same_c N _ _ R W8 (F101.out.ints) (F97.out.ints) hRL).mono ?_
  rintro e W9 ⟨rfl, hb113⟩
  have hz114 := hb113.size
  have F115 := hide (F94.out.trans (hb113.mono (by omega)))
  have F116 := hide (F95.out.below hb113 (by omega))
  have F117 := hide ((hb113.block (w.heap.size) (by omega)).trans F96.out)
  have F118 := hide (F97.out.kept hb113)
  have F119 := hide ((hb113.block (W3.heap.size) (by omega)).trans F98.out)
  have F120 := hide (F99.out.kept hb113)
  have F121 := hide ((hb113.block (W5.heap.size) (by omega)).trans F100.out)
  have F122 := hide (F101.out.kept hb113)
  have F123 := hide ((hb113.block (W7.heap.size) (by omega)).trans F102.out)
  clear hb113 F94 F95 F96 F97 F98 F99 F100 F101 F102
  have p124 := cells_at0 F117.out
  have p125 := cells_at1 F117.out
  have p126 := cells_at0 F119.out
  have p127 := cells_at1 F119.out
  have p128 := cells_at0 F121.out
  have p129 := cells_at1 F121.out
  have p130 := cells_at0 F123.out
  have p131 := cells_at1 F123.out
  go_wp2
  clear p124 p125 p126 p127 p128 p129 p130 p131
  refine wp_region_held (S := Below W9.heap.size W9) (by kernel_rfl) ?_
  have hS : Below W9.heap.size W9 { W9 with drawn := W9.drawn + 1 } := (Below.refl _ _).drew
  refine wpAnyH_take (i := 0) rfl (by kernel_rfl) (by kernel_rfl) (by kernel_rfl) (fun _ _ _ h => h) (yields_load_two rowSp sizeSp rfl (.tmp _) rfl _ rfl _ _ (fun w' h => (h.cell (p := ⟨W5.heap.size, 0, none⟩) (by show W5.heap.size < _; omega)).trans (cells_at0 F121.out)) (fun w' h => (h.cell (p := ⟨W5.heap.size, 1, none⟩) (by show W5.heap.size < _; omega)).trans (cells_at1 F121.out))) hS ?_
  refine wpAnyH_take (i := 1) rfl (by kernel_rfl) (by kernel_rfl) (by kernel_rfl) (fun _ _ _ h => h) (yields_load_two rowSl sizeSl rfl (.tmp _) rfl _ rfl _ _ (fun w' h => (h.cell (p := ⟨w.heap.size, 0, none⟩) (by show w.heap.size < _; omega)).trans (cells_at0 F117.out)) (fun w' h => (h.cell (p := ⟨w.heap.size, 1, none⟩) (by show w.heap.size < _; omega)).trans (cells_at1 F117.out))) hS ?_
  refine anyH_call (i := 2) (by kernel_rfl) rfl rfl 29 ent_toSpace _ _ rfl #[.agg #[.int .i64 n0, v0]] rfl (toSpace_c n0 v0 l0 _ ((F116.out.below hS (by omega)).mono (show w.heap.size ≤ W9.heap.size by omega)) (by omega)) ?_
  rintro e W10 ⟨g132, rfl, hgr, hkr, hbr⟩
  have hzr : W9.heap.size ≤ W10.heap.size := hbr.size
  have hS6 : Below W9.heap.size W9 W10 := hS.trans hbr
  refine ⟨_, rfl, hS6, ?_⟩
  refine anyH_call (i := 3) (by kernel_rfl) rfl rfl 16 ent_eqSpace _ _ rfl #[.agg #[.int .i64 n0, .slice (some ⟨g49, 0, none⟩) l0.length l0.length], .agg #[.int .i64 n0, .slice (some ⟨g132, 0, none⟩) l0.length l0.length]] rfl (eqSpace_same_c n0 _ _ l0 W10 ((F120.out.kept hS6).ints) (hkr.ints _) (by omega)) ?_
  rintro e W11 ⟨rfl, hbs⟩
  have hS7 : Below W9.heap.size W9 W11 := hS6.trans (hbs.mono hzr)
  refine ⟨_, rfl, hS7, ?_⟩
  refine anyH_op (i := 4) (by kernel_rfl) rfl rfl (.bool false) W11 ?hq hS7 ?_
  case hq => simp [go_sem, Act.put]
  refine wpAnyH_done (by kernel_rfl) ?_ _
  simp only [Act.put, List.getElem_toArray, List.getElem_cons_zero, List.getElem_cons_succ, List.setIfInBounds_toArray, List.set_cons_zero, List.set_cons_succ]
  have hz133 : W9.heap.size ≤ W11.heap.size := hS7.size
  have F134 := hide (F115.out.trans (hS7.mono (by omega)))
  have F135 := hide (F116.out.below hS7 (by omega))
  have F136 := hide ((hS7.block (w.heap.size) (by omega)).trans F117.out)
  have F137 := hide (F118.out.kept hS7)
  have F138 := hide ((hS7.block (W3.heap.size) (by omega)).trans F119.out)
  have F139 := hide (F120.out.kept hS7)
  have F140 := hide ((hS7.block (W5.heap.size) (by omega)).trans F121.out)
  have F141 := hide (F122.out.kept hS7)
  have F142 := hide ((hS7.block (W7.heap.size) (by omega)).trans F123.out)
  clear hS hS6 hS7 hbr hbs hkr hgr hzr F115 F116 F117 F118 F119 F120 F121 F122 F123
  have p143 := cells_at0 F136.out
  have p144 := cells_at1 F136.out
  have p145 := cells_at0 F138.out
  have p146 := cells_at1 F138.out
  have p147 := cells_at0 F140.out
  have p148 := cells_at1 F140.out
  have p149 := cells_at0 F142.out
  have p150 := cells_at1 F142.out
  go_wp2_with fail
  clear p143 p144 p145 p146 p147 p148 p149 p150
  refine (markSpace_c n0 _ l0 (1) W11 _ F139.out (by omega) (by omega) (by omega)).mono ?_
  rintro e W12 ⟨rfl, hn152, ho151⟩
  have hz153 := ho151.size
  have F154 := hide (F134.out.trans (ho151.below w.heap.size (fun g hg => by have := B60.out g hg; omega) (by omega)))
  have F155 := hide (F135.out.below (ho151.below w.heap.size (fun g hg => by have := B60.out g hg; omega) (by omega)) (Nat.le_refl _))
  have F156 := hide ((ho151.block (w.heap.size) (by omega) (fun e => by have h1 := B60.out _ e; have h2 := L61.out _ e; omega)).trans F136.out)
  have F157 := hide (F137.out.other ho151 (fun g hg e => by have h1 := B60.out _ e; have h2 := L61.out _ e; have h3 := B36.out _ hg; have h4 := L37.out _ hg; omega))
  have F158 := hide ((ho151.block (W3.heap.size) (by omega) (fun e => by have h1 := B60.out _ e; have h2 := L61.out _ e; omega)).trans F138.out)
  have F160 := hide ((ho151.block (W5.heap.size) (by omega) (fun e => by have h1 := B60.out _ e; have h2 := L61.out _ e; omega)).trans F140.out)
  have F161 := hide (F141.out.other ho151 (fun g hg e => by have h1 := B60.out _ e; have h2 := L61.out _ e; have h3 := B92.out _ hg; have h4 := L93.out _ hg; omega))
  have F162 := hide ((ho151.block (W7.heap.size) (by omega) (fun e => by have h1 := B60.out _ e; have h2 := L61.out _ e; omega)).trans F142.out)
  have F163 := hide hn152
  clear F134 F135 F136 F137 F138 F139 F140 F141 F142 hn152 ho151
  have hneg3 : ¬ (1 + (l0.length : Int) < 0) := by omega
  have p164 := cells_at0 F156.out
  have p165 := cells_at1 F156.out
  have p166 := cells_at0 F158.out
  have p167 := cells_at1 F158.out
  have p168 := cells_at0 F160.out
  have p169 := cells_at1 F160.out
  have p170 := cells_at0 F162.out
  have p171 := cells_at1 F162.out
  go_wp2_with fail
  clear p164 p165 p166 p167 p168 p169 p170 p171
  refine (eqSpace_same_c N _ _ R W12 (F161.out.ints) (F157.out.ints) hRL).mono ?_
  rintro e W13 ⟨rfl, hb172⟩
  have hz173 := hb172.size
  have F174 := hide (F154.out.trans (hb172.mono (by omega)))
  have F175 := hide (F155.out.below hb172 (by omega))
  have F176 := hide ((hb172.block (w.heap.size) (by omega)).trans F156.out)
  have F177 := hide (F157.out.kept hb172)
  have F178 := hide ((hb172.block (W3.heap.size) (by omega)).trans F158.out)
  have F179 := hide (F163.out.kept hb172)
  have F180 := hide ((hb172.block (W5.heap.size) (by omega)).trans F160.out)
  have F181 := hide (F161.out.kept hb172)
  have F182 := hide ((hb172.block (W7.heap.size) (by omega)).trans F162.out)
  clear hb172 F154 F155 F156 F157 F158 F163 F160 F161 F162
  have p183 := cells_at0 F176.out
  have p184 := cells_at1 F176.out
  have p185 := cells_at0 F178.out
  have p186 := cells_at1 F178.out
  have p187 := cells_at0 F180.out
  have p188 := cells_at1 F180.out
  have p189 := cells_at0 F182.out
  have p190 := cells_at1 F182.out
  go_wp2_with fail
  clear p183 p184 p185 p186 p187 p188 p189 p190
  refine (markSpace_c N _ R (1) W13 _ F181.out (by omega) (by omega) (by omega)).mono ?_
  rintro e W14 ⟨rfl, hn192, ho191⟩
  have hz193 := ho191.size
  have F194 := hide (F174.out.trans (ho191.below w.heap.size (fun g hg => by have := B92.out g hg; omega) (by omega)))
  have F195 := hide (F175.out.below (ho191.below w.heap.size (fun g hg => by have := B92.out g hg; omega) (by omega)) (Nat.le_refl _))
  have F196 := hide ((ho191.block (w.heap.size) (by omega) (fun e => by have h1 := B92.out _ e; have h2 := L93.out _ e; omega)).trans F176.out)
  have F197 := hide (F177.out.other ho191 (fun g hg e => by have h1 := B92.out _ e; have h2 := L93.out _ e; have h3 := B36.out _ hg; have h4 := L37.out _ hg; omega))
  have F198 := hide ((ho191.block (W3.heap.size) (by omega) (fun e => by have h1 := B92.out _ e; have h2 := L93.out _ e; omega)).trans F178.out)
  have F199 := hide (F179.out.other ho191 (fun g hg e => by have h1 := B92.out _ e; have h2 := L93.out _ e; have h3 := B60.out _ hg; have h4 := L61.out _ hg; omega))
  have F200 := hide ((ho191.block (W5.heap.size) (by omega) (fun e => by have h1 := B92.out _ e; have h2 := L93.out _ e; omega)).trans F180.out)
  have F202 := hide ((ho191.block (W7.heap.size) (by omega) (fun e => by have h1 := B92.out _ e; have h2 := L93.out _ e; omega)).trans F182.out)
  have F203 := hide hn192
  clear F174 F175 F176 F177 F178 F179 F180 F181 F182 hn192 ho191
  have p204 := cells_at0 F196.out
  have p205 := cells_at1 F196.out
  have p206 := cells_at0 F198.out
  have p207 := cells_at1 F198.out
  have p208 := cells_at0 F200.out
  have p209 := cells_at1 F200.out
  have p210 := cells_at0 F202.out
  have p211 := cells_at1 F202.out
  go_wp2_with fail
  clear p204 p205 p206 p207 p208 p209 p210 p211
  refine (heldSpace_c N _ R.length 1 W14 (F203.out.ints) hRL (by omega) (by omega)).mono ?_
  rintro e W15 ⟨rfl, hb212⟩
  have hz213 := hb212.size
  have F214 := hide (F194.out.trans (hb212.mono (by omega)))
  have F215 := hide (F195.out.below hb212 (by omega))
  have F216 := hide ((hb212.block (w.heap.size) (by omega)).trans F196.out)
  have F217 := hide (F197.out.kept hb212)
  have F218 := hide ((hb212.block (W3.heap.size) (by omega)).trans F198.out)
  have F219 := hide (F199.out.kept hb212)
  have F220 := hide ((hb212.block (W5.heap.size) (by omega)).trans F200.out)
  have F221 := hide (F203.out.kept hb212)
  have F222 := hide ((hb212.block (W7.heap.size) (by omega)).trans F202.out)
  clear hb212 F194 F195 F196 F197 F198 F199 F200 F203 F202
  clear F219
  clear B60 L61
  have p223 := cells_at0 F216.out
  have p224 := cells_at1 F216.out
  have p225 := cells_at0 F218.out
  have p226 := cells_at1 F218.out
  have p227 := cells_at0 F220.out
  have p228 := cells_at1 F220.out
  have p229 := cells_at0 F222.out
  have p230 := cells_at1 F222.out
  go_wp2_with fail
  clear p223 p224 p225 p226 p227 p228 p229 p230
  refine (toSpace_c n0 v0 l0 W15 (F215.out.mono (by omega)) (by omega)).mono ?_
  rintro e W16 ⟨g231, rfl, hg232, hk233, hb234⟩
  have hz235 := hb234.size
  have F236 := hide (F214.out.trans (hb234.mono (by omega)))
  have F237 := hide (F215.out.below hb234 (by omega))
  have F238 := hide ((hb234.block (w.heap.size) (by omega)).trans F216.out)
  have F239 := hide (F217.out.kept hb234)
  have F240 := hide ((hb234.block (W3.heap.size) (by omega)).trans F218.out)
  have F241 := hide ((hb234.block (W5.heap.size) (by omega)).trans F220.out)
  have F242 := hide (F221.out.kept hb234)
  have F243 := hide ((hb234.block (W7.heap.size) (by omega)).trans F222.out)
  have F244 := hide (hk233.own hg232 (by unfold maxLen; omega))
  have B245 := hide (F244.out.base)
  have L246 := hide (F244.out.blockLt)
  clear hb234 F214 F215 F216 F217 F218 F220 F221 F222 hk233 hg232
  have p247 := cells_at0 F238.out
  have p248 := cells_at1 F238.out
  have p249 := cells_at0 F240.out
  have p250 := cells_at1 F240.out
  have p251 := cells_at0 F241.out
  have p252 := cells_at1 F241.out
  have p253 := cells_at0 F243.out
  have p254 := cells_at1 F243.out
  go_wp2_with fail
  clear p247 p248 p249 p250 p251 p252 p253 p254
  refine (implBehindSet_c n0 _ l0 x1 W16 F244.out.ints (by omega)).mono ?_
  rw [HN.out, HR.out, HO.out]
  rintro e W17 ⟨v255, rfl, ho256, hb257⟩
  have hz258 := hb257.size
  have F259 := hide (F236.out.trans (hb257.mono (by omega)))
  have F260 := hide (F237.out.below hb257 (by omega))
  have F261 := hide ((hb257.block (w.heap.size) (by omega)).trans F238.out)
  have F262 := hide (F239.out.kept hb257)
  have F263 := hide ((hb257.block (W3.heap.size) (by omega)).trans F240.out)
  have F264 := hide ((hb257.block (W5.heap.size) (by omega)).trans F241.out)
  have F265 := hide (F242.out.kept hb257)
  have F266 := hide ((hb257.block (W7.heap.size) (by omega)).trans F243.out)
  have F267 := hide (F244.out.kept hb257)
  obtain ⟨aa268, cc269, hv270⟩ := ho256.shape
  have F271 := hide (ho256)
  have B272 := hide (F271.out.base)
  have L273 := hide (F271.out.blockLt)
  clear hb257 F236 F237 F238 F239 F240 F241 F242 F243 F244 ho256
  subst hv270
  have F274 := hide (F259.out.alloc (by omega) (.cells #[.int .i64 N, .slice aa268 R.length cc269] 24))
  have F275 := hide (F260.out.alloc (.cells #[.int .i64 N, .slice aa268 R.length cc269] 24))
  have F276 := hide ((hp_old W17 (.cells #[.int .i64 N, .slice aa268 R.length cc269] 24) (w.heap.size) (by omega)).trans F261.out)
  have F277 := hide (F262.out.alloc (.cells #[.int .i64 N, .slice aa268 R.length cc269] 24))
  have F278 := hide ((hp_old W17 (.cells #[.int .i64 N, .slice aa268 R.length cc269] 24) (W3.heap.size) (by omega)).trans F263.out)
  have F279 := hide ((hp_old W17 (.cells #[.int .i64 N, .slice aa268 R.length cc269] 24) (W5.heap.size) (by omega)).trans F264.out)
  have F280 := hide (F265.out.alloc (.cells #[.int .i64 N, .slice aa268 R.length cc269] 24))
  have F281 := hide ((hp_old W17 (.cells #[.int .i64 N, .slice aa268 R.length cc269] 24) (W7.heap.size) (by omega)).trans F266.out)
  have F282 := hide (F267.out.alloc (.cells #[.int .i64 N, .slice aa268 R.length cc269] 24))
  have F283 := hide (F271.out.alloc (.cells #[.int .i64 N, .slice aa268 R.length cc269] 24))
  have F284 := hide (hp_last W17 (.cells #[.int .i64 N, .slice aa268 R.length cc269] 24))
  have HZ285 := hide (show (W17.alloc (.cells #[.int .i64 N, .slice aa268 R.length cc269] 24)).heap.size = W17.heap.size + 1 by simp)
  clear F259 F260 F261 F262 F263 F264 F265 F266 F267 F271
  have p286 := cells_at0 F276.out
  have p287 := cells_at1 F276.out
  have p288 := cells_at0 F278.out
  have p289 := cells_at1 F278.out
  have p290 := cells_at0 F279.out
  have p291 := cells_at1 F279.out
  have p292 := cells_at0 F281.out
  have p293 := cells_at1 F281.out
  have p294 := cells_at0 F284.out
  have p295 := cells_at1 F284.out
  go_wp2_with fail
  clear p286 p287 p288 p289 p290 p291 p292 p293 p294 p295
  generalize hX : W17.alloc (.cells #[.int .i64 N, .slice aa268 R.length cc269] 24) = W18 at F274 F275 F276 F277 F278 F279 F280 F281 F282 F283 F284 HZ285 ⊢
  have hz296 := Nat.le_of_eq HZ285.out.symm
  clear hX HZ285
  refine (eqSpace_same_c N _ _ R W18 (F283.out.ints) (F277.out.ints) hRL).mono ?_
  rintro e W19 ⟨rfl, hb297⟩
  have hz298 := hb297.size
  have F299 := hide (F274.out.trans (hb297.mono (by omega)))
  have F300 := hide (F275.out.below hb297 (by omega))
  have F301 := hide ((hb297.block (w.heap.size) (by omega)).trans F276.out)
  have F302 := hide (F277.out.kept hb297)
  have F303 := hide ((hb297.block (W3.heap.size) (by omega)).trans F278.out)
  have F304 := hide ((hb297.block (W5.heap.size) (by omega)).trans F279.out)
  have F305 := hide (F280.out.kept hb297)
  have F306 := hide ((hb297.block (W7.heap.size) (by omega)).trans F281.out)
  have F307 := hide (F282.out.kept hb297)
  have F308 := hide (F283.out.kept hb297)
  have F309 := hide ((hb297.block (W17.heap.size) (by omega)).trans F284.out)
  clear hb297 F274 F275 F276 F277 F278 F279 F280 F281 F282 F283 F284
  have p310 := cells_at0 F301.out
  have p311 := cells_at1 F301.out
  have p312 := cells_at0 F303.out
  have p313 := cells_at1 F303.out
  have p314 := cells_at0 F304.out
  have p315 := cells_at1 F304.out
  have p316 := cells_at0 F306.out
  have p317 := cells_at1 F306.out
  have p318 := cells_at0 F309.out
  have p319 := cells_at1 F309.out
  go_wp2_with fail
  clear p310 p311 p312 p313 p314 p315 p316 p317 p318 p319
  refine (heldSpace_c N _ R.length 1 W19 (F305.out.ints) hRL (by omega) (by omega)).mono ?_
  rintro e W20 ⟨rfl, hb320⟩
  have hz321 := hb320.size
  have F322 := hide (F299.out.trans (hb320.mono (by omega)))
  have F323 := hide (F300.out.below hb320 (by omega))
  have F324 := hide ((hb320.block (w.heap.size) (by omega)).trans F301.out)
  have F325 := hide (F302.out.kept hb320)
  have F326 := hide ((hb320.block (W3.heap.size) (by omega)).trans F303.out)
  have F327 := hide ((hb320.block (W5.heap.size) (by omega)).trans F304.out)
  have F328 := hide (F305.out.kept hb320)
  have F329 := hide ((hb320.block (W7.heap.size) (by omega)).trans F306.out)
  have F330 := hide (F307.out.kept hb320)
  have F331 := hide (F308.out.kept hb320)
  have F332 := hide ((hb320.block (W17.heap.size) (by omega)).trans F309.out)
  clear hb320 F299 F300 F301 F302 F303 F304 F305 F306 F307 F308 F309
  have p333 := cells_at0 F324.out
  have p334 := cells_at1 F324.out
  have p335 := cells_at0 F326.out
  have p336 := cells_at1 F326.out
  have p337 := cells_at0 F327.out
  have p338 := cells_at1 F327.out
  have p339 := cells_at0 F329.out
  have p340 := cells_at1 F329.out
  have p341 := cells_at0 F332.out
  have p342 := cells_at1 F332.out
  go_wp2
  go_ret
  exact ⟨rfl, F322.out⟩

theorem ownK : ownKnob Try.prog.godebug = none := by kernel_rfl
theorem laidOut : laidOutB Try.prog = true := by kernel_rfl

/-- What a slice of int is, as it comes in. -/
theorem list_open {W : World} {v : Value} {l : List Int} (h : (v = .slice none 0 0 ∧ l = []) ∨ ∃ (a : Addr) (len c : Nat) (zs : List Int), v = .slice (some a) len c ∧ len ≤ zs.length ∧ len ≤ maxLen ∧ (∀ i, i < zs.length → W.cell? (a.add i) = some (.int .i64 (zs.getD i 0))) ∧ l = zs.take len) : ints W.heap.size W v l ∧ l.length ≤ 9223372036854775807 := by
  rcases h with ⟨rfl, rfl⟩ | ⟨x, len, c, zs, rfl, hlt, hm, hcell, rfl⟩
  · exact ⟨.inl ⟨rfl, none, 0, rfl⟩, by simp⟩
  · have htk : (zs.take len).length = len := by simp; omega
    refine ⟨?_, by unfold maxLen at hm; omega⟩
    rcases Nat.eq_zero_or_pos len with h0 | h0
    · subst h0
      exact .inl ⟨by simp, some x, c, rfl⟩
    · obtain ⟨b, off, rfl, hc⟩ := ints_at hcell (by omega)
      have hbl := block_lt_of_cell (hc 0 (by omega))
      refine .inr ⟨b, off, c, by rw [htk], hbl, hbl, fun j hj => ?_⟩
      rw [htk] at hj
      rw [hc j (by omega), List.getElem?_take, if_pos hj]
      rfl

/-- What a struct of an int and a slice of int is, as it comes in. -/
theorem space_open {H : Type} {enc : TypeId × Value → H} {W : World} {b0 : Nat} {v : Value} {d : DataW H} {p : List MemPlace}
    (hv : Value.okWide Try.prog W .any b0 39 v) (h : DataW.Trod enc Try.prog W 0 (fun _ => true) true 39 v d p) :
    ∃ (n : Int) (u : Value) (l : List Int), v = .agg #[.int .i64 n, u] ∧ ints W.heap.size W u l ∧ l.length ≤ 9223372036854775807 := by
  obtain ⟨v0, v1, y0, y1, m, rfl, rfl, rfl, hy0, hy1⟩ := open_agg2 Try.underlying39 (by kernel_rfl) (by kernel_rfl) hv h
  obtain ⟨n, e0, _, _⟩ := DataW.trod_int Try.underlying3 hy0
  simp at e0
  subst e0
  rcases open_ints Try.underlying22 Try.underlying3 (by kernel_rfl) hy1 with ⟨hcs, _⟩ | ⟨x, len, c, zs, hcs, _, hl, hm, hz, _, hcell, hwz⟩
  · simp at hcs
    subst hcs
    exact ⟨n, _, [], rfl, list_open (.inl ⟨rfl, rfl⟩)⟩
  · simp at hcs
    subst hcs
    have hz' : zs.length = c := by simpa using hz
    exact ⟨n, _, zs.take len, rfl, list_open (.inr ⟨x, len, c, zs, rfl, by omega, by unfold maxLen at hm ⊢; omega, hcell, rfl⟩)⟩

theorem lifted (os : Os) (started : os.Started) (H : Type) (enc : TypeId × Value → H) :
    ReturnsInHanded {} Try.checked os 7 .any (Rows.fnExactBehindSetSpec.pre6 enc Try.prog Try.f7 Rows.fnExactBehindSetRow.domain false) (Rows.fnExactBehindSetSpec.post enc Try.prog Try.f7 false true false false) := by
  refine returnsInHanded_of_change (C := Try.checked) ownK started (by kernel_rfl) Try.func7
    (ChangeSpec.witness6 (enc := enc) (C := Try.checked) false ⟨#[], #[.agg #[.int .i64 0, .slice none 0 0], .int .i64 0], []⟩ 8 (by kernel_rfl) (by kernel_rfl) (by kernel_rfl) (by kernel_rfl)) ?_
  intro W base args ds gs before hval0 hW hcnd _
  have hval : ∀ (j : Nat) t v, Try.f7.params[j]? = some t → args[j]? = some v → Value.okWide Try.prog W .any base t v := hval0
  have hW' := hW
  obtain ⟨p, q, hA0, hV, rfl, hfz, hnd⟩ := hW
  have hA : DataW.TrodAll enc Try.prog W 0 (fun _ => true) true Try.f7.params.toList args.toList ds p := hA0
  rw [Try.params7] at hA hval
  obtain ⟨v0, vs0, d0, ds0, p0, q0, hargs, rfl, rfl, t0, r0⟩ := trodAll_cons hA
  obtain ⟨v1, vs1, d1, ds1, p1, q1, rfl, rfl, rfl, t1, r1⟩ := trodAll_cons r0
  obtain ⟨rfl, rfl, rfl⟩ := trodAll_nil r1
  obtain rfl : args = #[v0, v1] := by cases args; simp_all
  obtain ⟨rfl, rfl⟩ := trodVars_none hV
  have k0 := t0
  have lt0 : ∀ x ∈ p0, x.block < W.heap.size := by obtain ⟨m, hm⟩ := k0; exact DataW.trod_lt m _ _ _ hm
  obtain ⟨n0, u0, l0, rfl, i0, e0⟩ := space_open (hval 0 39 v0 rfl rfl) t0
  obtain ⟨a1, rfl, rfl, rfl, w1⟩ := open_int Try.underlying3 (hval 1 3 v1 rfl rfl) t1
  clear hA0 hval0
  refine (law_c n0 u0 l0 a1 W i0 e0).mono fun e W' ⟨he, bel⟩ => ?_
  subst he
  exact ⟨_, rfl, _, _, _, [], _, [], hW', trodAll_mk1 (shut_bool Try.underlying4 _), (trodAll_cons_mk (Below.trod laidOut (by kernel_rfl) (of_decide_eq_true (by kernel_rfl)) k0 bel lt0) (trodAll_cons_mk (shut_int Try.underlying3 w1) trodAll_mk0)), rfl, bel.frame _, fun h => by cases h⟩

theorem over : Rows.fnExactBehindSetRow.holds Try.pinned (OpenSpec.ofChange Rows.fnExactBehindSetSpec) :=
  OpenClaim.holds_of_wide 7 Try.f7 rfl rfl rfl rfl rfl rfl rfl ⟨rfl, rfl, rfl, rfl, rfl⟩ rfl rfl rfl rfl rfl (by as_aux_lemma => kernel_rfl) Try.func7 (by as_aux_lemma => kernel_rfl)
    (of_decide_eq_true (by as_aux_lemma => kernel_rfl)) (by unfold Func.isWrapper; first | (rw [if_pos (by decide +kernel)]; kernel_rfl) | (rw [if_neg (by decide +kernel)]; exact ⟨rfl, rfl⟩))
    (fun os started H enc _ => lifted os started H enc)

theorem proved : Rows.FnExactBehindSetSaid := over
#print axioms proved
end Go.Proofs.Ytceofjlhbomcaaa.FBehindSet
