/- The program's ChainsThrough answers as the specification's does, at every argument, leaves its arguments as they are, and its answer owns its memory: no condition. -/
import Derived.Test.YtblglkgmnaklbaaRows
import Derived.Test.YtblglkgmnaklbaaWdj
import Derived.Test.YtblglkgmnaklbaaHar
import Derived.ProofKit
import Derived.OpenShut
import Derived.Lib.SmallJoins
namespace Go.Proofs.Ytblglkgmnaklbaa.FChainsThrough
open Go.ChangeShapes Go.WideShapes Go.ChangeAt Go.RowKit Go.Joins
set_option linter.unusedVariables false
set_option linter.unusedSimpArgs false
set_option maxRecDepth 100000

set_option maxHeartbeats 4000000 in
theorem law_c (n0 : Int) (v0 : Value) (l0 : List Int) (w : World) (h0 : ints w.heap.size w v0 l0) (hlen0 : l0.length ≤ 9223372036854775807) :
    Calls Try.prog 4 #[.agg #[.int .i64 n0, v0]] w fun e w' => e = .returned (.bool true) ∧ Below w.heap.size w w' := by
  have hRL := (chV_small n0 l0)
  generalize hR : (chV n0 l0) = R at hRL
  generalize hO : (okSp n0 l0) = ok
  have HR := hide hR
  have HO := hide hO
  clear hR hO
  have F1 := hide (((Below.refl w.heap.size w).alloc (Nat.le_refl _) (.cells #[.int .i64 n0, v0] 24)))
  have F2 := hide ((h0.alloc (.cells #[.int .i64 n0, v0] 24)))
  have F3 := hide (show (w.alloc (.cells #[.int .i64 n0, v0] 24)).heap[w.heap.size]? = some (.cells #[.int .i64 n0, v0] 24) from (by have := hp_last w (.cells #[.int .i64 n0, v0] 24); simpa using this))
  have HZ0 := hide (show (w.alloc (.cells #[.int .i64 n0, v0] 24)).heap.size = w.heap.size + 1 by simp)
  clear h0
  have hsz0 : szOf 1048576 l0.length = -1 ∨ (0 ≤ szOf 1048576 l0.length ∧ szOf 1048576 l0.length ≤ 1048576 ∧ l0.length ≤ 1048576) := by unfold szOf; split <;> omega
  generalize hq0 : szOf 1048576 l0.length = q0 at hsz0
  have HQ0 := hide hq0
  clear hq0
  rcases hsz0 with hbig0 | ⟨hq0a, hq0b, hq0c⟩
  · have HBIG := hide hbig0
    have hneg : q0 < 0 := by omega
    clear hbig0
    go_enter Try.func4, Try.ntmps4
    go_wp2_with fail
    generalize hX : (w.alloc (.cells #[.int .i64 n0, v0] 24)) = W0 at F1 F2 F3 HZ0 ⊢
    have hz0 := Nat.le_of_eq HZ0.out.symm
    clear hX HZ0
    refine (szSpace_c n0 v0 l0 (1048576) W0 (F2.out.mono (by omega)) hlen0 (by omega) (by omega)).mono ?_
    rw [HQ0.out]
    rintro e W1 ⟨rfl, hb4⟩
    have hz5 := hb4.size
    have F6 := hide (F1.out.trans (hb4.mono (by omega)))
    have F7 := hide (F2.out.below hb4 (by omega))
    have F8 := hide ((hb4.block (w.heap.size) (by omega)).trans F3.out)
    clear hb4 F1 F2 F3
    go_wp2
    go_ret
    exact ⟨rfl, F6.out⟩
  have hneg0 : ¬ q0 < 0 := by omega
  go_enter Try.func4, Try.ntmps4
  go_wp2_with fail
  generalize hX : (w.alloc (.cells #[.int .i64 n0, v0] 24)) = W0 at F1 F2 F3 HZ0 ⊢
  have hz0 := Nat.le_of_eq HZ0.out.symm
  clear hX HZ0
  refine (szSpace_c n0 v0 l0 (1048576) W0 (F2.out.mono (by omega)) hlen0 (by omega) (by omega)).mono ?_
  rw [HQ0.out]
  rintro e W1 ⟨rfl, hb4⟩
  have hz5 := hb4.size
  have F6 := hide (F1.out.trans (hb4.mono (by omega)))
  have F7 := hide (F2.out.below hb4 (by omega))
  have F8 := hide ((hb4.block (w.heap.size) (by omega)).trans F3.out)
  clear hb4 F1 F2 F3
  have hneg2 : ¬ (1 + (tot R : Int) < 0) := by omega
  have p9 := cells_at0 F8.out
  have p10 := cells_at1 F8.out
  go_wp2_with fail
  clear p9 p10
  refine (toSpace_c n0 v0 l0 W1 (F7.out.mono (by omega)) (by omega)).mono ?_
  rintro e W2 ⟨g11, rfl, hg12, hk13, hb14⟩
  have hz15 := hb14.size
  have F16 := hide (F6.out.trans (hb14.mono (by omega)))
  have F17 := hide (F7.out.below hb14 (by omega))
  have F18 := hide ((hb14.block (w.heap.size) (by omega)).trans F8.out)
  have F19 := hide (hk13.own hg12 (by unfold maxLen; omega))
  have B20 := hide (F19.out.base)
  have L21 := hide (F19.out.blockLt)
  clear hb14 F6 F7 F8 hk13 hg12
  have p22 := cells_at0 F18.out
  have p23 := cells_at1 F18.out
  go_wp2_with fail
  clear p22 p23
  refine (specChainsThrough_c n0 _ l0 W2 F19.out.ints (by omega)).mono ?_
  rw [HR.out, HO.out]
  rintro e W3 ⟨v24, rfl, ho25, hb26⟩
  have hz27 := hb26.size
  have F28 := hide (F16.out.trans (hb26.mono (by omega)))
  have F29 := hide (F17.out.below hb26 (by omega))
  have F30 := hide ((hb26.block (w.heap.size) (by omega)).trans F18.out)
  have F31 := hide (F19.out.kept hb26)
  have F32 := hide (ho25.rows)
  clear hb26 F16 F17 F18 F19 ho25
  clear F31
  clear B20 L21
  have p33 := cells_at0 F30.out
  have p34 := cells_at1 F30.out
  go_wp2_with fail
  clear p33 p34
  refine (toSpace_c n0 v0 l0 W3 (F29.out.mono (by omega)) (by omega)).mono ?_
  rintro e W4 ⟨g35, rfl, hg36, hk37, hb38⟩
  have hz39 := hb38.size
  have F40 := hide (F28.out.trans (hb38.mono (by omega)))
  have F41 := hide (F29.out.below hb38 (by omega))
  have F42 := hide ((hb38.block (w.heap.size) (by omega)).trans F30.out)
  have F43 := hide (F32.out.below hb38 (by omega))
  have F44 := hide (hk37.own hg36 (by unfold maxLen; omega))
  have B45 := hide (F44.out.base)
  have L46 := hide (F44.out.blockLt)
  clear hb38 F28 F29 F30 F32 hk37 hg36
  have F47 := hide (F40.out.alloc (by omega) (.cells #[.int .i64 n0, .slice (some ⟨g35, 0, none⟩) l0.length l0.length] 28))
  have F48 := hide (F41.out.alloc (.cells #[.int .i64 n0, .slice (some ⟨g35, 0, none⟩) l0.length l0.length] 28))
  have F49 := hide ((hp_old W4 (.cells #[.int .i64 n0, .slice (some ⟨g35, 0, none⟩) l0.length l0.length] 28) (w.heap.size) (by omega)).trans F42.out)
  have F50 := hide (F43.out.alloc (.cells #[.int .i64 n0, .slice (some ⟨g35, 0, none⟩) l0.length l0.length] 28))
  have F51 := hide (F44.out.alloc (.cells #[.int .i64 n0, .slice (some ⟨g35, 0, none⟩) l0.length l0.length] 28))
  have F52 := hide (hp_last W4 (.cells #[.int .i64 n0, .slice (some ⟨g35, 0, none⟩) l0.length l0.length] 28))
  have HZ53 := hide (show (W4.alloc (.cells #[.int .i64 n0, .slice (some ⟨g35, 0, none⟩) l0.length l0.length] 28)).heap.size = W4.heap.size + 1 by simp)
  clear F40 F41 F42 F43 F44
  have p54 := cells_at0 F49.out
  have p55 := cells_at1 F49.out
  have p56 := cells_at0 F52.out
  have p57 := cells_at1 F52.out
  go_wp2_with fail
  clear p54 p55 p56 p57
  generalize hX : W4.alloc (.cells #[.int .i64 n0, .slice (some ⟨g35, 0, none⟩) l0.length l0.length] 28) = W5 at F47 F48 F49 F50 F51 F52 HZ53 ⊢
  have hz58 := Nat.le_of_eq HZ53.out.symm
  clear hX HZ53
  refine (implChainsThrough_c n0 _ l0 W5 F51.out.ints (by omega)).mono ?_
  rw [HR.out, HO.out]
  rintro e W6 ⟨v59, rfl, ho60, hb61⟩
  have hz62 := hb61.size
  have F63 := hide (F47.out.trans (hb61.mono (by omega)))
  have F64 := hide (F48.out.below hb61 (by omega))
  have F65 := hide ((hb61.block (w.heap.size) (by omega)).trans F49.out)
  have F66 := hide (F50.out.below hb61 (by omega))
  have F67 := hide (F51.out.kept hb61)
  have F68 := hide ((hb61.block (W4.heap.size) (by omega)).trans F52.out)
  have F69 := hide (ho60)
  clear hb61 F47 F48 F49 F50 F51 F52 ho60
  have p70 := cells_at0 F65.out
  have p71 := cells_at1 F65.out
  have p72 := cells_at0 F68.out
  have p73 := cells_at1 F68.out
  go_wp2_with fail
  clear p70 p71 p72 p73
  refine (eqIntSS_same_c _ _ R W6 (F69.out.rows) ((F66.out.mono (by omega))) hRL).mono ?_
  rintro e W7 ⟨rfl, hb74⟩
  have hz75 := hb74.size
  have F76 := hide (F63.out.trans (hb74.mono (by omega)))
  have F77 := hide (F64.out.below hb74 (by omega))
  have F78 := hide ((hb74.block (w.heap.size) (by omega)).trans F65.out)
  have F79 := hide (F66.out.below hb74 (by omega))
  have F80 := hide (F67.out.kept hb74)
  have F81 := hide ((hb74.block (W4.heap.size) (by omega)).trans F68.out)
  have F82 := hide (F69.out.kept hb74)
  clear hb74 F63 F64 F65 F66 F67 F68 F69
  have p83 := cells_at0 F78.out
  have p84 := cells_at1 F78.out
  have p85 := cells_at0 F81.out
  have p86 := cells_at1 F81.out
  go_wp2
  clear p83 p84 p85 p86
  refine wp_region_held (S := Below W7.heap.size W7) (by kernel_rfl) ?_
  have hS : Below W7.heap.size W7 { W7 with drawn := W7.drawn + 1 } := (Below.refl _ _).drew
  refine wpAnyH_take (i := 0) rfl (by kernel_rfl) (by kernel_rfl) (by kernel_rfl) (fun _ _ _ h => h) (yields_load_two rowSp sizeSp rfl (.tmp _) rfl _ rfl _ _ (fun w' h => (h.cell (p := ⟨W4.heap.size, 0, none⟩) (by show W4.heap.size < _; omega)).trans (cells_at0 F81.out)) (fun w' h => (h.cell (p := ⟨W4.heap.size, 1, none⟩) (by show W4.heap.size < _; omega)).trans (cells_at1 F81.out))) hS ?_
  refine wpAnyH_take (i := 1) rfl (by kernel_rfl) (by kernel_rfl) (by kernel_rfl) (fun _ _ _ h => h) (yields_load_two rowSl sizeSl rfl (.tmp _) rfl _ rfl _ _ (fun w' h => (h.cell (p := ⟨w.heap.size, 0, none⟩) (by show w.heap.size < _; omega)).trans (cells_at0 F78.out)) (fun w' h => (h.cell (p := ⟨w.heap.size, 1, none⟩) (by show w.heap.size < _; omega)).trans (cells_at1 F78.out))) hS ?_
  refine anyH_call (i := 2) (by kernel_rfl) rfl rfl 9 ent_toSpace _ _ rfl #[.agg #[.int .i64 n0, v0]] rfl (toSpace_c n0 v0 l0 _ ((F77.out.below hS (by omega)).mono (show w.heap.size ≤ W7.heap.size by omega)) (by omega)) ?_
  rintro e W8 ⟨g87, rfl, hgr, hkr, hbr⟩
  have hzr : W7.heap.size ≤ W8.heap.size := hbr.size
  have hS6 : Below W7.heap.size W7 W8 := hS.trans hbr
  refine ⟨_, rfl, hS6, ?_⟩
  refine anyH_call (i := 3) (by kernel_rfl) rfl rfl 11 ent_eqSpace _ _ rfl #[.agg #[.int .i64 n0, .slice (some ⟨g35, 0, none⟩) l0.length l0.length], .agg #[.int .i64 n0, .slice (some ⟨g87, 0, none⟩) l0.length l0.length]] rfl (eqSpace_same_c n0 _ _ l0 W8 ((F80.out.kept hS6).ints) (hkr.ints _) (by omega)) ?_
  rintro e W9 ⟨rfl, hbs⟩
  have hS7 : Below W7.heap.size W7 W9 := hS6.trans (hbs.mono hzr)
  refine ⟨_, rfl, hS7, ?_⟩
  refine anyH_op (i := 4) (by kernel_rfl) rfl rfl (.bool false) W9 ?hq hS7 ?_
  case hq => simp [go_sem, Act.put]
  refine wpAnyH_done (by kernel_rfl) ?_ _
  simp only [Act.put, List.getElem_toArray, List.getElem_cons_zero, List.getElem_cons_succ, List.setIfInBounds_toArray, List.set_cons_zero, List.set_cons_succ]
  have hz88 : W7.heap.size ≤ W9.heap.size := hS7.size
  have F89 := hide (F76.out.trans (hS7.mono (by omega)))
  have F90 := hide (F77.out.below hS7 (by omega))
  have F91 := hide ((hS7.block (w.heap.size) (by omega)).trans F78.out)
  have F92 := hide (F79.out.below hS7 (by omega))
  have F93 := hide (F80.out.kept hS7)
  have F94 := hide ((hS7.block (W4.heap.size) (by omega)).trans F81.out)
  have F95 := hide (F82.out.kept hS7)
  clear hS hS6 hS7 hbr hbs hkr hgr hzr F76 F77 F78 F79 F80 F81 F82
  have p96 := cells_at0 F91.out
  have p97 := cells_at1 F91.out
  have p98 := cells_at0 F94.out
  have p99 := cells_at1 F94.out
  go_wp2_with fail
  clear p96 p97 p98 p99
  refine (markSpace_c n0 _ l0 (1) W9 _ F93.out (by omega) (by omega) (by omega)).mono ?_
  rintro e W10 ⟨rfl, hn101, ho100⟩
  have hz102 := ho100.size
  have F103 := hide (F89.out.trans (ho100.below w.heap.size (fun g hg => by have := B45.out g hg; omega) (by omega)))
  have F104 := hide (F90.out.below (ho100.below w.heap.size (fun g hg => by have := B45.out g hg; omega) (by omega)) (Nat.le_refl _))
  have F105 := hide ((ho100.block (w.heap.size) (by omega) (fun e => by have h1 := B45.out _ e; have h2 := L46.out _ e; omega)).trans F91.out)
  have F106 := hide (F92.out.below (ho100.below (W3.heap.size) (fun g hg => by have := B45.out g hg; omega) (by omega)) (Nat.le_refl _))
  have F108 := hide ((ho100.block (W4.heap.size) (by omega) (fun e => by have h1 := B45.out _ e; have h2 := L46.out _ e; omega)).trans F94.out)
  have F109 := hide (F95.out.otherB ho100 (fun g hg => by have h1 := B45.out g hg; have h2 := L46.out g hg; omega))
  have F110 := hide hn101
  clear F89 F90 F91 F92 F93 F94 F95 hn101 ho100
  have hneg3 : ¬ (1 + (l0.length : Int) < 0) := by omega
  have p111 := cells_at0 F105.out
  have p112 := cells_at1 F105.out
  have p113 := cells_at0 F108.out
  have p114 := cells_at1 F108.out
  go_wp2_with fail
  clear p111 p112 p113 p114
  refine (eqIntSS_same_c _ _ R W10 (F109.out.rows) ((F106.out.mono (by omega))) hRL).mono ?_
  rintro e W11 ⟨rfl, hb115⟩
  have hz116 := hb115.size
  have F117 := hide (F103.out.trans (hb115.mono (by omega)))
  have F118 := hide (F104.out.below hb115 (by omega))
  have F119 := hide ((hb115.block (w.heap.size) (by omega)).trans F105.out)
  have F120 := hide (F106.out.below hb115 (by omega))
  have F121 := hide (F110.out.kept hb115)
  have F122 := hide ((hb115.block (W4.heap.size) (by omega)).trans F108.out)
  have F123 := hide (F109.out.kept hb115)
  clear hb115 F103 F104 F105 F106 F110 F108 F109
  clear F121
  clear B45 L46
  have p124 := cells_at0 F119.out
  have p125 := cells_at1 F119.out
  have p126 := cells_at0 F122.out
  have p127 := cells_at1 F122.out
  go_wp2_with fail
  clear p124 p125 p126 p127
  refine (markIntSS1_c _ R W11 _ F123.out hRL (by omega)).mono ?_
  rintro e W12 ⟨rfl, hn128, hb129⟩
  have hz130 := hb129.size
  have F131 := hide (F117.out.trans (hb129.mono (by omega)))
  have F132 := hide (F118.out.below hb129 (by omega))
  have F133 := hide ((hb129.block (w.heap.size) (by omega)).trans F119.out)
  have F134 := hide (F120.out.below hb129 (by omega))
  have F135 := hide ((hb129.block (W4.heap.size) (by omega)).trans F122.out)
  have F136 := hide (hn128)
  clear hb129 F117 F118 F119 F120 F122 hn128 F123
  have p137 := cells_at0 F133.out
  have p138 := cells_at1 F133.out
  have p139 := cells_at0 F135.out
  have p140 := cells_at1 F135.out
  go_wp2_with fail
  clear p137 p138 p139 p140
  refine (heldIntSS1_c _ R W12 (F136.out.rows) hRL).mono ?_
  rintro e _ ⟨rfl, rfl⟩
  have p141 := cells_at0 F133.out
  have p142 := cells_at1 F133.out
  have p143 := cells_at0 F135.out
  have p144 := cells_at1 F135.out
  go_wp2_with fail
  clear p141 p142 p143 p144
  refine (toSpace_c n0 v0 l0 W12 (F132.out.mono (by omega)) (by omega)).mono ?_
  rintro e W13 ⟨g145, rfl, hg146, hk147, hb148⟩
  have hz149 := hb148.size
  have F150 := hide (F131.out.trans (hb148.mono (by omega)))
  have F151 := hide (F132.out.below hb148 (by omega))
  have F152 := hide ((hb148.block (w.heap.size) (by omega)).trans F133.out)
  have F153 := hide (F134.out.below hb148 (by omega))
  have F154 := hide ((hb148.block (W4.heap.size) (by omega)).trans F135.out)
  have F155 := hide (F136.out.kept hb148)
  have F156 := hide (hk147.own hg146 (by unfold maxLen; omega))
  have B157 := hide (F156.out.base)
  have L158 := hide (F156.out.blockLt)
  clear hb148 F131 F132 F133 F134 F135 F136 hk147 hg146
  have p159 := cells_at0 F152.out
  have p160 := cells_at1 F152.out
  have p161 := cells_at0 F154.out
  have p162 := cells_at1 F154.out
  go_wp2_with fail
  clear p159 p160 p161 p162
  refine (implChainsThrough_c n0 _ l0 W13 F156.out.ints (by omega)).mono ?_
  rw [HR.out, HO.out]
  rintro e W14 ⟨v163, rfl, ho164, hb165⟩
  have hz166 := hb165.size
  have F167 := hide (F150.out.trans (hb165.mono (by omega)))
  have F168 := hide (F151.out.below hb165 (by omega))
  have F169 := hide ((hb165.block (w.heap.size) (by omega)).trans F152.out)
  have F170 := hide (F153.out.below hb165 (by omega))
  have F171 := hide ((hb165.block (W4.heap.size) (by omega)).trans F154.out)
  have F172 := hide (F155.out.kept hb165)
  have F173 := hide (F156.out.kept hb165)
  have F174 := hide (ho164)
  clear hb165 F150 F151 F152 F153 F154 F155 F156 ho164
  have p175 := cells_at0 F169.out
  have p176 := cells_at1 F169.out
  have p177 := cells_at0 F171.out
  have p178 := cells_at1 F171.out
  go_wp2_with fail
  clear p175 p176 p177 p178
  refine (eqIntSS_same_c _ _ R W14 (F174.out.rows) ((F170.out.mono (by omega))) hRL).mono ?_
  rintro e W15 ⟨rfl, hb179⟩
  have hz180 := hb179.size
  have F181 := hide (F167.out.trans (hb179.mono (by omega)))
  have F182 := hide (F168.out.below hb179 (by omega))
  have F183 := hide ((hb179.block (w.heap.size) (by omega)).trans F169.out)
  have F184 := hide (F170.out.below hb179 (by omega))
  have F185 := hide ((hb179.block (W4.heap.size) (by omega)).trans F171.out)
  have F186 := hide (F172.out.kept hb179)
  have F187 := hide (F173.out.kept hb179)
  have F188 := hide (F174.out.kept hb179)
  clear hb179 F167 F168 F169 F170 F171 F172 F173 F174
  have p189 := cells_at0 F183.out
  have p190 := cells_at1 F183.out
  have p191 := cells_at0 F185.out
  have p192 := cells_at1 F185.out
  go_wp2_with fail
  clear p189 p190 p191 p192
  refine (heldIntSS1_c _ R W15 (F186.out.rows) hRL).mono ?_
  rintro e _ ⟨rfl, rfl⟩
  have p193 := cells_at0 F183.out
  have p194 := cells_at1 F183.out
  have p195 := cells_at0 F185.out
  have p196 := cells_at1 F185.out
  go_wp2
  go_ret
  exact ⟨rfl, F181.out⟩

theorem ownK : ownKnob Try.prog.godebug = none := by kernel_rfl
theorem laidOut : laidOutB Try.prog = true := by kernel_rfl

/-- What a slice of int is, as it comes in. -/
theorem list_open {W : World} {v : Value} {l : List Int} (h : (v = .slice none 0 0 ∧ l = []) ∨ ∃ (a : Addr) (len c : Nat) (zs : List Int), v = .slice (some a) len c ∧ len ≤ zs.length ∧ len ≤ maxLen ∧ (∀ i, i < zs.length → W.cell? (a.add i) = some (.int .i64 (zs.getD i 0))) ∧ l = zs.take len) : ints W.heap.size W v l ∧ l.length ≤ 9223372036854775807 := by
  rcases h with ⟨rfl, rfl⟩ | ⟨x, len, c, zs, rfl, hlt, hm, hcell, rfl⟩
  · exact ⟨.inl ⟨rfl, none, 0, rfl⟩, by simp⟩
  · have htk : (zs.take len).length = len := by simp; omega
    refine ⟨?_, by unfold maxLen at hm; omega⟩
    rcases Nat.eq_zero_or_pos len with h0 | h0
    · subst h0
      exact .inl ⟨by simp, some x, c, rfl⟩
    · obtain ⟨b, off, rfl, hc⟩ := ints_at hcell (by omega)
      have hbl := block_lt_of_cell (hc 0 (by omega))
      refine .inr ⟨b, off, c, by rw [htk], hbl, hbl, fun j hj => ?_⟩
      rw [htk] at hj
      rw [hc j (by omega), List.getElem?_take, if_pos hj]
      rfl

/-- What a struct of an int and a slice of int is, as it comes in. -/
theorem space_open {H : Type} {enc : TypeId × Value → H} {W : World} {b0 : Nat} {v : Value} {d : DataW H} {p : List MemPlace}
    (hv : Value.okWide Try.prog W .any b0 24 v) (h : DataW.Trod enc Try.prog W 0 (fun _ => true) true 24 v d p) :
    ∃ (n : Int) (u : Value) (l : List Int), v = .agg #[.int .i64 n, u] ∧ ints W.heap.size W u l ∧ l.length ≤ 9223372036854775807 := by
  obtain ⟨v0, v1, y0, y1, m, rfl, rfl, rfl, hy0, hy1⟩ := open_agg2 Try.underlying24 (by kernel_rfl) (by kernel_rfl) hv h
  obtain ⟨n, e0, _, _⟩ := DataW.trod_int Try.underlying3 hy0
  simp at e0
  subst e0
  rcases open_ints Try.underlying22 Try.underlying3 (by kernel_rfl) hy1 with ⟨hcs, _⟩ | ⟨x, len, c, zs, hcs, _, hl, hm, hz, _, hcell, hwz⟩
  · simp at hcs
    subst hcs
    exact ⟨n, _, [], rfl, list_open (.inl ⟨rfl, rfl⟩)⟩
  · simp at hcs
    subst hcs
    have hz' : zs.length = c := by simpa using hz
    exact ⟨n, _, zs.take len, rfl, list_open (.inr ⟨x, len, c, zs, rfl, by omega, by unfold maxLen at hm ⊢; omega, hcell, rfl⟩)⟩

theorem lifted (os : Os) (started : os.Started) (H : Type) (enc : TypeId × Value → H) :
    ReturnsInHanded {} Try.checked os 4 .any (Rows.fnExactChainsThroughSpec.pre6 enc Try.prog Try.f4 Rows.fnExactChainsThroughRow.domain false) (Rows.fnExactChainsThroughSpec.post enc Try.prog Try.f4 false true false false) := by
  refine returnsInHanded_of_change (C := Try.checked) ownK started (by kernel_rfl) Try.func4
    (ChangeSpec.witness6 (enc := enc) (C := Try.checked) false ⟨#[], #[.agg #[.int .i64 0, .slice none 0 0]], []⟩ 8 (by kernel_rfl) (by kernel_rfl) (by kernel_rfl) (by kernel_rfl)) ?_
  intro W base args ds gs before hval0 hW hcnd _
  have hval : ∀ (j : Nat) t v, Try.f4.params[j]? = some t → args[j]? = some v → Value.okWide Try.prog W .any base t v := hval0
  have hW' := hW
  obtain ⟨p, q, hA0, hV, rfl, hfz, hnd⟩ := hW
  have hA : DataW.TrodAll enc Try.prog W 0 (fun _ => true) true Try.f4.params.toList args.toList ds p := hA0
  rw [Try.params4] at hA hval
  obtain ⟨v0, vs0, d0, ds0, p0, q0, hargs, rfl, rfl, t0, r0⟩ := trodAll_cons hA
  obtain ⟨rfl, rfl, rfl⟩ := trodAll_nil r0
  obtain rfl : args = #[v0] := by cases args; simp_all
  obtain ⟨rfl, rfl⟩ := trodVars_none hV
  have k0 := t0
  have lt0 : ∀ x ∈ p0, x.block < W.heap.size := by obtain ⟨m, hm⟩ := k0; exact DataW.trod_lt m _ _ _ hm
  obtain ⟨n0, u0, l0, rfl, i0, e0⟩ := space_open (hval 0 24 v0 rfl rfl) t0
  clear hA0 hval0
  refine (law_c n0 u0 l0 W i0 e0).mono fun e W' ⟨he, bel⟩ => ?_
  subst he
  exact ⟨_, rfl, _, _, _, [], _, [], hW', trodAll_mk1 (shut_bool Try.underlying4 _), (trodAll_cons_mk (Below.trod laidOut (by kernel_rfl) (of_decide_eq_true (by kernel_rfl)) k0 bel lt0) trodAll_mk0), rfl, bel.frame _, fun h => by cases h⟩

set_option maxHeartbeats 4000000 in
theorem over : Rows.fnExactChainsThroughRow.holds Try.pinned (OpenSpec.ofChange Rows.fnExactChainsThroughSpec) :=
  OpenClaim.holds_of_wide 4 Try.f4 rfl rfl rfl rfl rfl rfl rfl ⟨rfl, rfl, rfl, rfl, rfl⟩ rfl rfl rfl rfl rfl (by as_aux_lemma => kernel_rfl) Try.func4 (by as_aux_lemma => kernel_rfl)
    (of_decide_eq_true (by as_aux_lemma => kernel_rfl)) (by unfold Func.isWrapper; first | (rw [if_pos (by decide +kernel)]; kernel_rfl) | (rw [if_neg (by decide +kernel)]; exact ⟨rfl, rfl⟩))
    (fun os started H enc _ => lifted os started H enc)

theorem proved : Rows.FnExactChainsThroughSaid := over
#print axioms proved
end Go.Proofs.Ytblglkgmnaklbaa.FChainsThrough
