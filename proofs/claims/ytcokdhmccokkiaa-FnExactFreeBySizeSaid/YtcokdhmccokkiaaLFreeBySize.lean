/- The program's FreeBySize answers as the specification's does, at every argument, leaves its arguments as they are, and its answer owns its memory: no condition. -/
import Derived.Test.YtcokdhmccokkiaaRows
import Derived.Test.YtcokdhmccokkiaaZg
import Derived.Test.YtcokdhmccokkiaaHar
import Derived.ProofKit
import Derived.OpenShut
import Derived.Lib.SmallJoins
namespace Go.Proofs.Ytcokdhmccokkiaa.FFreeBySize
open Go.ChangeShapes Go.WideShapes Go.ChangeAt Go.RowKit Go.Joins
set_option linter.unusedVariables false
set_option linter.unusedSimpArgs false
set_option maxRecDepth 100000

set_option maxHeartbeats 4000000 in
theorem law_c (n0 : Int) (v0 : Value) (l0 : List Int) (w : World) (h0 : ints w.heap.size w v0 l0) (hlen0 : l0.length ≤ 9223372036854775807) :
    Calls Try.prog 9 #[.agg #[.int .i64 n0, v0]] w fun e w' => e = .returned (.bool true) ∧ Below w.heap.size w w' := by
  have hRL := (fbL_len n0 l0)
  generalize hR : (fbL n0 l0) = R at hRL
  generalize hO : (okSp n0 l0) = ok
  have HR := hide hR
  have HO := hide hO
  clear hR hO
  have F1 := hide (((Below.refl w.heap.size w).alloc (Nat.le_refl _) (.cells #[.int .i64 n0, v0] 38)))
  have F2 := hide ((h0.alloc (.cells #[.int .i64 n0, v0] 38)))
  have F3 := hide (show (w.alloc (.cells #[.int .i64 n0, v0] 38)).heap[w.heap.size]? = some (.cells #[.int .i64 n0, v0] 38) from (by have := hp_last w (.cells #[.int .i64 n0, v0] 38); simpa using this))
  have HZ0 := hide (show (w.alloc (.cells #[.int .i64 n0, v0] 38)).heap.size = w.heap.size + 1 by simp)
  clear h0
  have hsz0 : szOf 1048576 l0.length = -1 ∨ (0 ≤ szOf 1048576 l0.length ∧ szOf 1048576 l0.length ≤ 1048576 ∧ l0.length ≤ 1048576) := by unfold szOf; split <;> omega
  generalize hq0 : szOf 1048576 l0.length = q0 at hsz0
  have HQ0 := hide hq0
  clear hq0
  rcases hsz0 with hbig0 | ⟨hq0a, hq0b, hq0c⟩
  · have HBIG := hide hbig0
    have hneg : q0 < 0 := by omega
    clear hbig0
    go_enter Try.func9, Try.ntmps9
    go_wp2_with fail
    generalize hX : (w.alloc (.cells #[.int .i64 n0, v0] 38)) = W0 at F1 F2 F3 HZ0 ⊢
    have hz0 := Nat.le_of_eq HZ0.out.symm
    clear hX HZ0
    refine (szSpace_c n0 v0 l0 (1048576) W0 (F2.out.mono (by omega)) hlen0 (by omega) (by omega)).mono ?_
    rw [HQ0.out]
    rintro e W1 ⟨rfl, hb4⟩
    have hz5 := hb4.size
    have F6 := hide (F1.out.trans (hb4.mono (by omega)))
    have F7 := hide (F2.out.below hb4 (by omega))
    have F8 := hide ((hb4.block (w.heap.size) (by omega)).trans F3.out)
    clear hb4 F1 F2 F3
    go_wp2
    go_ret
    exact ⟨rfl, F6.out⟩
  have hneg0 : ¬ q0 < 0 := by omega
  go_enter Try.func9, Try.ntmps9
  go_wp2_with fail
  generalize hX : (w.alloc (.cells #[.int .i64 n0, v0] 38)) = W0 at F1 F2 F3 HZ0 ⊢
  have hz0 := Nat.le_of_eq HZ0.out.symm
  clear hX HZ0
  refine (szSpace_c n0 v0 l0 (1048576) W0 (F2.out.mono (by omega)) hlen0 (by omega) (by omega)).mono ?_
  rw [HQ0.out]
  rintro e W1 ⟨rfl, hb4⟩
  have hz5 := hb4.size
  have F6 := hide (F1.out.trans (hb4.mono (by omega)))
  have F7 := hide (F2.out.below hb4 (by omega))
  have F8 := hide ((hb4.block (w.heap.size) (by omega)).trans F3.out)
  clear hb4 F1 F2 F3
  have hneg2 : ¬ (1 + (R.length : Int) < 0) := by omega
  have p9 := cells_at0 F8.out
  have p10 := cells_at1 F8.out
  go_wp2_with fail
  clear p9 p10
  refine (toSpace_c n0 v0 l0 W1 (F7.out.mono (by omega)) (by omega)).mono ?_
  rintro e W2 ⟨g11, rfl, hg12, hk13, hb14⟩
  have hz15 := hb14.size
  have F16 := hide (F6.out.trans (hb14.mono (by omega)))
  have F17 := hide (F7.out.below hb14 (by omega))
  have F18 := hide ((hb14.block (w.heap.size) (by omega)).trans F8.out)
  have F19 := hide (hk13.own hg12 (by unfold maxLen; omega))
  have B20 := hide (F19.out.base)
  have L21 := hide (F19.out.blockLt)
  clear hb14 F6 F7 F8 hk13 hg12
  have p22 := cells_at0 F18.out
  have p23 := cells_at1 F18.out
  go_wp2_with fail
  clear p22 p23
  refine (specFreeBySize_c n0 _ l0 W2 F19.out.ints (by omega)).mono ?_
  rw [HR.out, HO.out]
  rintro e W3 ⟨v24, rfl, ho25, hb26⟩
  have hz27 := hb26.size
  have F28 := hide (F16.out.trans (hb26.mono (by omega)))
  have F29 := hide (F17.out.below hb26 (by omega))
  have F30 := hide ((hb26.block (w.heap.size) (by omega)).trans F18.out)
  have F31 := hide (F19.out.kept hb26)
  obtain ⟨aa32, cc33, hv34⟩ := ho25.shape
  have F35 := hide (ho25)
  have B36 := hide (F35.out.base)
  have L37 := hide (F35.out.blockLt)
  clear hb26 F16 F17 F18 F19 ho25
  subst hv34
  clear F31
  clear B20 L21
  have p38 := cells_at0 F30.out
  have p39 := cells_at1 F30.out
  go_wp2_with fail
  clear p38 p39
  refine (toSpace_c n0 v0 l0 W3 (F29.out.mono (by omega)) (by omega)).mono ?_
  rintro e W4 ⟨g40, rfl, hg41, hk42, hb43⟩
  have hz44 := hb43.size
  have F45 := hide (F28.out.trans (hb43.mono (by omega)))
  have F46 := hide (F29.out.below hb43 (by omega))
  have F47 := hide ((hb43.block (w.heap.size) (by omega)).trans F30.out)
  have F48 := hide (F35.out.kept hb43)
  have F49 := hide (hk42.own hg41 (by unfold maxLen; omega))
  have B50 := hide (F49.out.base)
  have L51 := hide (F49.out.blockLt)
  clear hb43 F28 F29 F30 F35 hk42 hg41
  have F52 := hide (F45.out.alloc (by omega) (.cells #[.int .i64 n0, .slice (some ⟨g40, 0, none⟩) l0.length l0.length] 32))
  have F53 := hide (F46.out.alloc (.cells #[.int .i64 n0, .slice (some ⟨g40, 0, none⟩) l0.length l0.length] 32))
  have F54 := hide ((hp_old W4 (.cells #[.int .i64 n0, .slice (some ⟨g40, 0, none⟩) l0.length l0.length] 32) (w.heap.size) (by omega)).trans F47.out)
  have F55 := hide (F48.out.alloc (.cells #[.int .i64 n0, .slice (some ⟨g40, 0, none⟩) l0.length l0.length] 32))
  have F56 := hide (F49.out.alloc (.cells #[.int .i64 n0, .slice (some ⟨g40, 0, none⟩) l0.length l0.length] 32))
  have F57 := hide (hp_last W4 (.cells #[.int .i64 n0, .slice (some ⟨g40, 0, none⟩) l0.length l0.length] 32))
  have HZ58 := hide (show (W4.alloc (.cells #[.int .i64 n0, .slice (some ⟨g40, 0, none⟩) l0.length l0.length] 32)).heap.size = W4.heap.size + 1 by simp)
  clear F45 F46 F47 F48 F49
  have p59 := cells_at0 F54.out
  have p60 := cells_at1 F54.out
  have p61 := cells_at0 F57.out
  have p62 := cells_at1 F57.out
  go_wp2_with fail
  clear p59 p60 p61 p62
  generalize hX : W4.alloc (.cells #[.int .i64 n0, .slice (some ⟨g40, 0, none⟩) l0.length l0.length] 32) = W5 at F52 F53 F54 F55 F56 F57 HZ58 ⊢
  have hz63 := Nat.le_of_eq HZ58.out.symm
  clear hX HZ58
  refine (implFreeBySize_c n0 _ l0 W5 F56.out.ints (by omega)).mono ?_
  rw [HR.out, HO.out]
  rintro e W6 ⟨v64, rfl, ho65, hb66⟩
  have hz67 := hb66.size
  have F68 := hide (F52.out.trans (hb66.mono (by omega)))
  have F69 := hide (F53.out.below hb66 (by omega))
  have F70 := hide ((hb66.block (w.heap.size) (by omega)).trans F54.out)
  have F71 := hide (F55.out.kept hb66)
  have F72 := hide (F56.out.kept hb66)
  have F73 := hide ((hb66.block (W4.heap.size) (by omega)).trans F57.out)
  obtain ⟨aa74, cc75, hv76⟩ := ho65.shape
  have F77 := hide (ho65)
  have B78 := hide (F77.out.base)
  have L79 := hide (F77.out.blockLt)
  clear hb66 F52 F53 F54 F55 F56 F57 ho65
  subst hv76
  have p80 := cells_at0 F70.out
  have p81 := cells_at1 F70.out
  have p82 := cells_at0 F73.out
  have p83 := cells_at1 F73.out
  go_wp2_with fail
  clear p80 p81 p82 p83
  refine (eqIntS_same_c _ _ R W6 (F77.out.ints) (F71.out.ints) hRL).mono ?_
  rintro e W7 ⟨rfl, hb84⟩
  have hz85 := hb84.size
  have F86 := hide (F68.out.trans (hb84.mono (by omega)))
  have F87 := hide (F69.out.below hb84 (by omega))
  have F88 := hide ((hb84.block (w.heap.size) (by omega)).trans F70.out)
  have F89 := hide (F71.out.kept hb84)
  have F90 := hide (F72.out.kept hb84)
  have F91 := hide ((hb84.block (W4.heap.size) (by omega)).trans F73.out)
  have F92 := hide (F77.out.kept hb84)
  clear hb84 F68 F69 F70 F71 F72 F73 F77
  have p93 := cells_at0 F88.out
  have p94 := cells_at1 F88.out
  have p95 := cells_at0 F91.out
  have p96 := cells_at1 F91.out
  go_wp2
  clear p93 p94 p95 p96
  refine wp_region_held (S := Below W7.heap.size W7) (by kernel_rfl) ?_
  have hS : Below W7.heap.size W7 { W7 with drawn := W7.drawn + 1 } := (Below.refl _ _).drew
  refine wpAnyH_take (i := 0) rfl (by kernel_rfl) (by kernel_rfl) (by kernel_rfl) (fun _ _ _ h => h) (yields_load_two rowSp sizeSp rfl (.tmp _) rfl _ rfl _ _ (fun w' h => (h.cell (p := ⟨W4.heap.size, 0, none⟩) (by show W4.heap.size < _; omega)).trans (cells_at0 F91.out)) (fun w' h => (h.cell (p := ⟨W4.heap.size, 1, none⟩) (by show W4.heap.size < _; omega)).trans (cells_at1 F91.out))) hS ?_
  refine wpAnyH_take (i := 1) rfl (by kernel_rfl) (by kernel_rfl) (by kernel_rfl) (fun _ _ _ h => h) (yields_load_two rowSl sizeSl rfl (.tmp _) rfl _ rfl _ _ (fun w' h => (h.cell (p := ⟨w.heap.size, 0, none⟩) (by show w.heap.size < _; omega)).trans (cells_at0 F88.out)) (fun w' h => (h.cell (p := ⟨w.heap.size, 1, none⟩) (by show w.heap.size < _; omega)).trans (cells_at1 F88.out))) hS ?_
  refine anyH_call (i := 2) (by kernel_rfl) rfl rfl 27 ent_toSpace _ _ rfl #[.agg #[.int .i64 n0, v0]] rfl (toSpace_c n0 v0 l0 _ ((F87.out.below hS (by omega)).mono (show w.heap.size ≤ W7.heap.size by omega)) (by omega)) ?_
  rintro e W8 ⟨g97, rfl, hgr, hkr, hbr⟩
  have hzr : W7.heap.size ≤ W8.heap.size := hbr.size
  have hS6 : Below W7.heap.size W7 W8 := hS.trans hbr
  refine ⟨_, rfl, hS6, ?_⟩
  refine anyH_call (i := 3) (by kernel_rfl) rfl rfl 22 ent_eqSpace _ _ rfl #[.agg #[.int .i64 n0, .slice (some ⟨g40, 0, none⟩) l0.length l0.length], .agg #[.int .i64 n0, .slice (some ⟨g97, 0, none⟩) l0.length l0.length]] rfl (eqSpace_same_c n0 _ _ l0 W8 ((F90.out.kept hS6).ints) (hkr.ints _) (by omega)) ?_
  rintro e W9 ⟨rfl, hbs⟩
  have hS7 : Below W7.heap.size W7 W9 := hS6.trans (hbs.mono hzr)
  refine ⟨_, rfl, hS7, ?_⟩
  refine anyH_op (i := 4) (by kernel_rfl) rfl rfl (.bool false) W9 ?hq hS7 ?_
  case hq => simp [go_sem, Act.put]
  refine wpAnyH_done (by kernel_rfl) ?_ _
  simp only [Act.put, List.getElem_toArray, List.getElem_cons_zero, List.getElem_cons_succ, List.setIfInBounds_toArray, List.set_cons_zero, List.set_cons_succ]
  have hz98 : W7.heap.size ≤ W9.heap.size := hS7.size
  have F99 := hide (F86.out.trans (hS7.mono (by omega)))
  have F100 := hide (F87.out.below hS7 (by omega))
  have F101 := hide ((hS7.block (w.heap.size) (by omega)).trans F88.out)
  have F102 := hide (F89.out.kept hS7)
  have F103 := hide (F90.out.kept hS7)
  have F104 := hide ((hS7.block (W4.heap.size) (by omega)).trans F91.out)
  have F105 := hide (F92.out.kept hS7)
  clear hS hS6 hS7 hbr hbs hkr hgr hzr F86 F87 F88 F89 F90 F91 F92
  have p106 := cells_at0 F101.out
  have p107 := cells_at1 F101.out
  have p108 := cells_at0 F104.out
  have p109 := cells_at1 F104.out
  go_wp2_with fail
  clear p106 p107 p108 p109
  refine (markSpace_c n0 _ l0 (1) W9 _ F103.out (by omega) (by omega) (by omega)).mono ?_
  rintro e W10 ⟨rfl, hn111, ho110⟩
  have hz112 := ho110.size
  have F113 := hide (F99.out.trans (ho110.below w.heap.size (fun g hg => by have := B50.out g hg; omega) (by omega)))
  have F114 := hide (F100.out.below (ho110.below w.heap.size (fun g hg => by have := B50.out g hg; omega) (by omega)) (Nat.le_refl _))
  have F115 := hide ((ho110.block (w.heap.size) (by omega) (fun e => by have h1 := B50.out _ e; have h2 := L51.out _ e; omega)).trans F101.out)
  have F116 := hide (F102.out.other ho110 (fun g hg e => by have h1 := B50.out _ e; have h2 := L51.out _ e; have h3 := B36.out _ hg; have h4 := L37.out _ hg; omega))
  have F118 := hide ((ho110.block (W4.heap.size) (by omega) (fun e => by have h1 := B50.out _ e; have h2 := L51.out _ e; omega)).trans F104.out)
  have F119 := hide (F105.out.other ho110 (fun g hg e => by have h1 := B50.out _ e; have h2 := L51.out _ e; have h3 := B78.out _ hg; have h4 := L79.out _ hg; omega))
  have F120 := hide hn111
  clear F99 F100 F101 F102 F103 F104 F105 hn111 ho110
  have hneg3 : ¬ (1 + (l0.length : Int) < 0) := by omega
  have p121 := cells_at0 F115.out
  have p122 := cells_at1 F115.out
  have p123 := cells_at0 F118.out
  have p124 := cells_at1 F118.out
  go_wp2_with fail
  clear p121 p122 p123 p124
  refine (eqIntS_same_c _ _ R W10 (F119.out.ints) (F116.out.ints) hRL).mono ?_
  rintro e W11 ⟨rfl, hb125⟩
  have hz126 := hb125.size
  have F127 := hide (F113.out.trans (hb125.mono (by omega)))
  have F128 := hide (F114.out.below hb125 (by omega))
  have F129 := hide ((hb125.block (w.heap.size) (by omega)).trans F115.out)
  have F130 := hide (F116.out.kept hb125)
  have F131 := hide (F120.out.kept hb125)
  have F132 := hide ((hb125.block (W4.heap.size) (by omega)).trans F118.out)
  have F133 := hide (F119.out.kept hb125)
  clear hb125 F113 F114 F115 F116 F120 F118 F119
  have p134 := cells_at0 F129.out
  have p135 := cells_at1 F129.out
  have p136 := cells_at0 F132.out
  have p137 := cells_at1 F132.out
  go_wp2_with fail
  clear p134 p135 p136 p137
  refine (markIntS_c _ R (1) W11 _ F133.out (by omega) (by omega) (by omega)).mono ?_
  rintro e W12 ⟨rfl, hn139, ho138⟩
  have hz140 := ho138.size
  have F141 := hide (F127.out.trans (ho138.below w.heap.size (fun g hg => by have := B78.out g hg; omega) (by omega)))
  have F142 := hide (F128.out.below (ho138.below w.heap.size (fun g hg => by have := B78.out g hg; omega) (by omega)) (Nat.le_refl _))
  have F143 := hide ((ho138.block (w.heap.size) (by omega) (fun e => by have h1 := B78.out _ e; have h2 := L79.out _ e; omega)).trans F129.out)
  have F144 := hide (F130.out.other ho138 (fun g hg e => by have h1 := B78.out _ e; have h2 := L79.out _ e; have h3 := B36.out _ hg; have h4 := L37.out _ hg; omega))
  have F145 := hide (F131.out.other ho138 (fun g hg e => by have h1 := B78.out _ e; have h2 := L79.out _ e; have h3 := B50.out _ hg; have h4 := L51.out _ hg; omega))
  have F146 := hide ((ho138.block (W4.heap.size) (by omega) (fun e => by have h1 := B78.out _ e; have h2 := L79.out _ e; omega)).trans F132.out)
  have F148 := hide hn139
  clear F127 F128 F129 F130 F131 F132 F133 hn139 ho138
  have p149 := cells_at0 F143.out
  have p150 := cells_at1 F143.out
  have p151 := cells_at0 F146.out
  have p152 := cells_at1 F146.out
  go_wp2_with fail
  clear p149 p150 p151 p152
  refine (heldIntS_c _ R.length 1 W12 (F148.out.ints) hRL (by omega) (by omega)).mono ?_
  rintro e _ ⟨rfl, rfl⟩
  clear F145
  clear B50 L51
  have p153 := cells_at0 F143.out
  have p154 := cells_at1 F143.out
  have p155 := cells_at0 F146.out
  have p156 := cells_at1 F146.out
  go_wp2_with fail
  clear p153 p154 p155 p156
  refine (toSpace_c n0 v0 l0 W12 (F142.out.mono (by omega)) (by omega)).mono ?_
  rintro e W13 ⟨g157, rfl, hg158, hk159, hb160⟩
  have hz161 := hb160.size
  have F162 := hide (F141.out.trans (hb160.mono (by omega)))
  have F163 := hide (F142.out.below hb160 (by omega))
  have F164 := hide ((hb160.block (w.heap.size) (by omega)).trans F143.out)
  have F165 := hide (F144.out.kept hb160)
  have F166 := hide ((hb160.block (W4.heap.size) (by omega)).trans F146.out)
  have F167 := hide (F148.out.kept hb160)
  have F168 := hide (hk159.own hg158 (by unfold maxLen; omega))
  have B169 := hide (F168.out.base)
  have L170 := hide (F168.out.blockLt)
  clear hb160 F141 F142 F143 F144 F146 F148 hk159 hg158
  have p171 := cells_at0 F164.out
  have p172 := cells_at1 F164.out
  have p173 := cells_at0 F166.out
  have p174 := cells_at1 F166.out
  go_wp2_with fail
  clear p171 p172 p173 p174
  refine (implFreeBySize_c n0 _ l0 W13 F168.out.ints (by omega)).mono ?_
  rw [HR.out, HO.out]
  rintro e W14 ⟨v175, rfl, ho176, hb177⟩
  have hz178 := hb177.size
  have F179 := hide (F162.out.trans (hb177.mono (by omega)))
  have F180 := hide (F163.out.below hb177 (by omega))
  have F181 := hide ((hb177.block (w.heap.size) (by omega)).trans F164.out)
  have F182 := hide (F165.out.kept hb177)
  have F183 := hide ((hb177.block (W4.heap.size) (by omega)).trans F166.out)
  have F184 := hide (F167.out.kept hb177)
  have F185 := hide (F168.out.kept hb177)
  obtain ⟨aa186, cc187, hv188⟩ := ho176.shape
  have F189 := hide (ho176)
  have B190 := hide (F189.out.base)
  have L191 := hide (F189.out.blockLt)
  clear hb177 F162 F163 F164 F165 F166 F167 F168 ho176
  subst hv188
  have p192 := cells_at0 F181.out
  have p193 := cells_at1 F181.out
  have p194 := cells_at0 F183.out
  have p195 := cells_at1 F183.out
  go_wp2_with fail
  clear p192 p193 p194 p195
  refine (eqIntS_same_c _ _ R W14 (F189.out.ints) (F182.out.ints) hRL).mono ?_
  rintro e W15 ⟨rfl, hb196⟩
  have hz197 := hb196.size
  have F198 := hide (F179.out.trans (hb196.mono (by omega)))
  have F199 := hide (F180.out.below hb196 (by omega))
  have F200 := hide ((hb196.block (w.heap.size) (by omega)).trans F181.out)
  have F201 := hide (F182.out.kept hb196)
  have F202 := hide ((hb196.block (W4.heap.size) (by omega)).trans F183.out)
  have F203 := hide (F184.out.kept hb196)
  have F204 := hide (F185.out.kept hb196)
  have F205 := hide (F189.out.kept hb196)
  clear hb196 F179 F180 F181 F182 F183 F184 F185 F189
  have p206 := cells_at0 F200.out
  have p207 := cells_at1 F200.out
  have p208 := cells_at0 F202.out
  have p209 := cells_at1 F202.out
  go_wp2_with fail
  clear p206 p207 p208 p209
  refine (heldIntS_c _ R.length 1 W15 (F203.out.ints) hRL (by omega) (by omega)).mono ?_
  rintro e _ ⟨rfl, rfl⟩
  have p210 := cells_at0 F200.out
  have p211 := cells_at1 F200.out
  have p212 := cells_at0 F202.out
  have p213 := cells_at1 F202.out
  go_wp2
  go_ret
  exact ⟨rfl, F198.out⟩

theorem ownK : ownKnob Try.prog.godebug = none := by kernel_rfl
theorem laidOut : laidOutB Try.prog = true := by kernel_rfl

/-- What a slice of int is, as it comes in. -/
theorem list_open {W : World} {v : Value} {l : List Int} (h : (v = .slice none 0 0 ∧ l = []) ∨ ∃ (a : Addr) (len c : Nat) (zs : List Int), v = .slice (some a) len c ∧ len ≤ zs.length ∧ len ≤ maxLen ∧ (∀ i, i < zs.length → W.cell? (a.add i) = some (.int .i64 (zs.getD i 0))) ∧ l = zs.take len) : ints W.heap.size W v l ∧ l.length ≤ 9223372036854775807 := by
  rcases h with ⟨rfl, rfl⟩ | ⟨x, len, c, zs, rfl, hlt, hm, hcell, rfl⟩
  · exact ⟨.inl ⟨rfl, none, 0, rfl⟩, by simp⟩
  · have htk : (zs.take len).length = len := by simp; omega
    refine ⟨?_, by unfold maxLen at hm; omega⟩
    rcases Nat.eq_zero_or_pos len with h0 | h0
    · subst h0
      exact .inl ⟨by simp, some x, c, rfl⟩
    · obtain ⟨b, off, rfl, hc⟩ := ints_at hcell (by omega)
      have hbl := block_lt_of_cell (hc 0 (by omega))
      refine .inr ⟨b, off, c, by rw [htk], hbl, hbl, fun j hj => ?_⟩
      rw [htk] at hj
      rw [hc j (by omega), List.getElem?_take, if_pos hj]
      rfl

/-- What a struct of an int and a slice of int is, as it comes in. -/
theorem space_open {H : Type} {enc : TypeId × Value → H} {W : World} {b0 : Nat} {v : Value} {d : DataW H} {p : List MemPlace}
    (hv : Value.okWide Try.prog W .any b0 38 v) (h : DataW.Trod enc Try.prog W 0 (fun _ => true) true 38 v d p) :
    ∃ (n : Int) (u : Value) (l : List Int), v = .agg #[.int .i64 n, u] ∧ ints W.heap.size W u l ∧ l.length ≤ 9223372036854775807 := by
  obtain ⟨v0, v1, y0, y1, m, rfl, rfl, rfl, hy0, hy1⟩ := open_agg2 Try.underlying38 (by kernel_rfl) (by kernel_rfl) hv h
  obtain ⟨n, e0, _, _⟩ := DataW.trod_int Try.underlying3 hy0
  simp at e0
  subst e0
  rcases open_ints Try.underlying30 Try.underlying3 (by kernel_rfl) hy1 with ⟨hcs, _⟩ | ⟨x, len, c, zs, hcs, _, hl, hm, hz, _, hcell, hwz⟩
  · simp at hcs
    subst hcs
    exact ⟨n, _, [], rfl, list_open (.inl ⟨rfl, rfl⟩)⟩
  · simp at hcs
    subst hcs
    have hz' : zs.length = c := by simpa using hz
    exact ⟨n, _, zs.take len, rfl, list_open (.inr ⟨x, len, c, zs, rfl, by omega, by unfold maxLen at hm ⊢; omega, hcell, rfl⟩)⟩

theorem lifted (os : Os) (started : os.Started) (H : Type) (enc : TypeId × Value → H) :
    ReturnsInHanded {} Try.checked os 9 .any (Rows.fnExactFreeBySizeSpec.pre6 enc Try.prog Try.f9 Rows.fnExactFreeBySizeRow.domain false) (Rows.fnExactFreeBySizeSpec.post enc Try.prog Try.f9 false true false false) := by
  refine returnsInHanded_of_change (C := Try.checked) ownK started (by kernel_rfl) Try.func9
    (ChangeSpec.witness6 (enc := enc) (C := Try.checked) false ⟨#[], #[.agg #[.int .i64 0, .slice none 0 0]], []⟩ 8 (by kernel_rfl) (by kernel_rfl) (by kernel_rfl) (by kernel_rfl)) ?_
  intro W base args ds gs before hval0 hW hcnd _
  have hval : ∀ (j : Nat) t v, Try.f9.params[j]? = some t → args[j]? = some v → Value.okWide Try.prog W .any base t v := hval0
  have hW' := hW
  obtain ⟨p, q, hA0, hV, rfl, hfz, hnd⟩ := hW
  have hA : DataW.TrodAll enc Try.prog W 0 (fun _ => true) true Try.f9.params.toList args.toList ds p := hA0
  rw [Try.params9] at hA hval
  obtain ⟨v0, vs0, d0, ds0, p0, q0, hargs, rfl, rfl, t0, r0⟩ := trodAll_cons hA
  obtain ⟨rfl, rfl, rfl⟩ := trodAll_nil r0
  obtain rfl : args = #[v0] := by cases args; simp_all
  obtain ⟨rfl, rfl⟩ := trodVars_none hV
  have k0 := t0
  have lt0 : ∀ x ∈ p0, x.block < W.heap.size := by obtain ⟨m, hm⟩ := k0; exact DataW.trod_lt m _ _ _ hm
  obtain ⟨n0, u0, l0, rfl, i0, e0⟩ := space_open (hval 0 38 v0 rfl rfl) t0
  clear hA0 hval0
  refine (law_c n0 u0 l0 W i0 e0).mono fun e W' ⟨he, bel⟩ => ?_
  subst he
  exact ⟨_, rfl, _, _, _, [], _, [], hW', trodAll_mk1 (shut_bool Try.underlying4 _), (trodAll_cons_mk (Below.trod laidOut (by kernel_rfl) (of_decide_eq_true (by kernel_rfl)) k0 bel lt0) trodAll_mk0), rfl, bel.frame _, fun h => by cases h⟩

set_option maxHeartbeats 4000000 in
theorem over : Rows.fnExactFreeBySizeRow.holds Try.pinned (OpenSpec.ofChange Rows.fnExactFreeBySizeSpec) :=
  OpenClaim.holds_of_wide 9 Try.f9 rfl rfl rfl rfl rfl rfl rfl ⟨rfl, rfl, rfl, rfl, rfl⟩ rfl rfl rfl rfl rfl (by as_aux_lemma => kernel_rfl) Try.func9 (by as_aux_lemma => kernel_rfl)
    (of_decide_eq_true (by as_aux_lemma => kernel_rfl)) (by unfold Func.isWrapper; first | (rw [if_pos (by decide +kernel)]; kernel_rfl) | (rw [if_neg (by decide +kernel)]; exact ⟨rfl, rfl⟩))
    (fun os started H enc _ => lifted os started H enc)

theorem proved : Rows.FnExactFreeBySizeSaid := over
#print axioms proved
end Go.Proofs.Ytcokdhmccokkiaa.FFreeBySize
