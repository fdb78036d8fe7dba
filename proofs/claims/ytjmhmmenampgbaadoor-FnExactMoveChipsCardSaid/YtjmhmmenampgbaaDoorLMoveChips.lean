/- The program's MoveChips answers as the specification's does, at every argument, leaves its arguments as they are, and its answer owns its memory: no condition. -/
import Derived.Test.YtjmhmmenampgbaaDoorRows
import Derived.Test.YtjmhmmenampgbaaDoorYdd
import Derived.Test.YtjmhmmenampgbaaDoorYl
import Derived.Test.YtjmhmmenampgbaaDoorYmk
import Derived.Test.YtjmhmmenampgbaaDoorTie
import Derived.Test.YtjmhmmenampgbaaDoorCards
import Derived.LaidMore
import Derived.Stop.Joined
import Derived.Stop.LaidErr
import Derived.Lib.LaidTab
import Derived.SevenTiedAt
import Derived.Test.YtjmhmmenampgbaaDoorHar
import Derived.ProofKit
import Derived.OpenShut
import Derived.Lib.SmallJoins
namespace Go.Proofs.YtjmhmmenampgbaaDoor.FMoveChips
open Go.ChangeShapes Go.WideShapes Go.ChangeAt Go.RowKit Go.Joins
set_option linter.unusedVariables false
set_option linter.unusedSimpArgs false
set_option maxRecDepth 100000

set_option maxHeartbeats 4000000 in
theorem law_c (v0 u0 : Value) (l0 : List (List Int)) (m0 : List Int) (x1 : Int) (w : World) (h0 : rows w.heap.size w v0 l0) (hlen0 : l0.length ≤ 9223372036854775807) (hrow0 : ∀ j, j < l0.length → (l0[j]?.getD []).length ≤ 9223372036854775807) (g0 : ints w.heap.size w u0 m0) (glen0 : m0.length ≤ 9223372036854775807) (hT : tab w) :
    Calls Tryd.prog 4 #[.agg #[v0, u0], .int .i64 x1] w fun e w' => e = .returned (.bool true) ∧ Below w.heap.size w w' := by
  have HT := hide hT
  clear hT
  generalize hR : (rcM (irR l0 m0 [x1]) l0) = R
  generalize hR2 : (rcA l0 m0 [x1]) = RA
  generalize hO : (irR l0 m0 [x1]) = ok
  have HR := hide hR
  have HR2 := hide hR2
  have HO := hide hO
  clear hR hR2 hO
  have F1 := hide (((Below.refl w.heap.size w).alloc (Nat.le_refl _) (.cells #[v0, u0] 25)))
  have F2 := hide ((h0.alloc (.cells #[v0, u0] 25)))
  have F3 := hide ((g0.alloc (.cells #[v0, u0] 25)))
  have F4 := hide (show (w.alloc (.cells #[v0, u0] 25)).heap[w.heap.size]? = some (.cells #[v0, u0] 25) from (by have := hp_last w (.cells #[v0, u0] 25); simpa using this))
  have HZ0 := hide (show (w.alloc (.cells #[v0, u0] 25)).heap.size = w.heap.size + 1 by simp)
  clear h0 g0
  have hsz0 : szOf 1048576 (l0.length + tot l0 + m0.length) = -1 ∨ (0 ≤ szOf 1048576 (l0.length + tot l0 + m0.length) ∧ szOf 1048576 (l0.length + tot l0 + m0.length) ≤ 1048576 ∧ (l0.length + tot l0 + m0.length) ≤ 1048576) := by unfold szOf; split <;> omega
  generalize hq0 : szOf 1048576 (l0.length + tot l0 + m0.length) = q0 at hsz0
  have HQ0 := hide hq0
  clear hq0
  rcases hsz0 with hbig0 | ⟨hq0a, hq0b, hq0c⟩
  · have HBIG := hide hbig0
    have hneg : q0 < 0 := by omega
    clear hbig0
    go_enter Tryd.func4, Tryd.ntmps4
    go_wp2_with fail
    generalize hX : (w.alloc (.cells #[v0, u0] 25)) = W0 at F1 F2 F3 F4 HZ0 ⊢
    have hz0 := Nat.le_of_eq HZ0.out.symm
    clear hX HZ0
    refine (szChips_c v0 u0 l0 m0 (1048576) W0 (F2.out.mono (by omega)) hlen0 hrow0 (F3.out.mono (by omega)) glen0 (by omega) (by omega)).mono ?_
    rw [HQ0.out]
    rintro e W1 ⟨rfl, hb5⟩
    have hz6 := hb5.size
    have F7 := hide (F1.out.trans (hb5.mono (by omega)))
    have F8 := hide (F2.out.below hb5 (by omega))
    have F9 := hide (F3.out.below hb5 (by omega))
    have F10 := hide ((hb5.block (w.heap.size) (by omega)).trans F4.out)
    clear hb5 F1 F2 F3 F4
    go_wp2
    go_ret
    exact ⟨rfl, F7.out⟩
  have hneg0 : ¬ q0 < 0 := by omega
  have hsm0 : small2 l0 := ⟨by omega, by omega⟩
  have HSM0 := hide hsm0
  have hmx0 : tot l0 ≤ 1048576 := by omega
  have hmy0 : l0.length ≤ 1048576 := by omega
  clear hsm0
  go_enter Tryd.func4, Tryd.ntmps4
  go_wp2_with fail
  generalize hX : (w.alloc (.cells #[v0, u0] 25)) = W0 at F1 F2 F3 F4 HZ0 ⊢
  have hz0 := Nat.le_of_eq HZ0.out.symm
  clear hX HZ0
  refine (szChips_c v0 u0 l0 m0 (1048576) W0 (F2.out.mono (by omega)) hlen0 hrow0 (F3.out.mono (by omega)) glen0 (by omega) (by omega)).mono ?_
  rw [HQ0.out]
  rintro e W1 ⟨rfl, hb5⟩
  have hz6 := hb5.size
  have F7 := hide (F1.out.trans (hb5.mono (by omega)))
  have F8 := hide (F2.out.below hb5 (by omega))
  have F9 := hide (F3.out.below hb5 (by omega))
  have F10 := hide ((hb5.block (w.heap.size) (by omega)).trans F4.out)
  clear hb5 F1 F2 F3 F4
  have hRS : small2 R := by rw [← HR.out]; exact (rcM_smallX HSM0.out)
  have hRL : RA.length < 1000000000 := by rw [← HR2.out]; exact (rcA_len l0 m0 [x1])
  have hneg2 : ¬ (1 + (tot R : Int) + (RA.length : Int) < 0) := by omega
  have p11 := cells_at0 F10.out
  have p12 := cells_at1 F10.out
  go_wp2_with fail
  clear p11 p12
  refine (toChips_c v0 u0 l0 m0 W1 (F8.out.mono (by omega)) HSM0.out (F9.out.mono (by omega)) (by omega)).mono ?_
  rintro e W2 ⟨v13, u14, rfl, ho15, hb16⟩
  have hz17 := hb16.size
  have F18 := hide (F7.out.trans (hb16.mono (by omega)))
  have F19 := hide (F8.out.below hb16 (by omega))
  have F20 := hide (F9.out.below hb16 (by omega))
  have F21 := hide ((hb16.block (w.heap.size) (by omega)).trans F10.out)
  have hle22 : W1.heap.size + 3 ≤ W2.heap.size := (by obtain ⟨mm, h1, h2, _⟩ := ho15; omega)
  obtain ⟨q23, q24, q25⟩ := ho15.rows.shape
  obtain ⟨q26, q27, q28⟩ := ho15.ints.shape
  have F29 := hide (ho15)
  clear hb16 F7 F8 F9 F10 ho15
  subst q25
  subst q28
  have p30 := cells_at0 F21.out
  have p31 := cells_at1 F21.out
  go_wp2_with fail
  clear p30 p31
  refine (specMoveChips_c _ _ l0 m0 x1 W2 F29.out.rows HSM0.out F29.out.ints (by omega) (HT.out.belowB HT.out F18.out (Nat.le_refl _))).mono ?_
  rw [HR.out, HR2.out, HO.out]
  rintro e W3 ⟨v32, u34, rfl, ho33, hb35⟩
  have hz36 := hb35.size
  have F37 := hide (F18.out.trans (hb35.mono (by omega)))
  have F38 := hide (F19.out.below hb35 (by omega))
  have F39 := hide (F20.out.below hb35 (by omega))
  have F40 := hide ((hb35.block (w.heap.size) (by omega)).trans F21.out)
  have F41 := hide (F29.out.kept hb35)
  obtain ⟨q42, q43, q44, q45, q46, q47⟩ := ho33.toX.shape
  have F48 := hide (ho33.toX)
  clear hb35 F18 F19 F20 F21 F29 ho33
  subst q46
  subst q47
  clear F41
  have F49 := hide (F37.out.alloc (by omega) (.cells #[.slice q42 R.length q43, .slice q44 RA.length q45] 29))
  have F50 := hide (F38.out.alloc (.cells #[.slice q42 R.length q43, .slice q44 RA.length q45] 29))
  have F51 := hide (F39.out.alloc (.cells #[.slice q42 R.length q43, .slice q44 RA.length q45] 29))
  have F52 := hide ((hp_old W3 (.cells #[.slice q42 R.length q43, .slice q44 RA.length q45] 29) (w.heap.size) (by omega)).trans F40.out)
  have F53 := hide (F48.out.alloc (.cells #[.slice q42 R.length q43, .slice q44 RA.length q45] 29))
  have F54 := hide (hp_last W3 (.cells #[.slice q42 R.length q43, .slice q44 RA.length q45] 29))
  have HZ55 := hide (show (W3.alloc (.cells #[.slice q42 R.length q43, .slice q44 RA.length q45] 29)).heap.size = W3.heap.size + 1 by simp)
  clear F37 F38 F39 F40 F48
  have p56 := cells_at0 F52.out
  have p57 := cells_at1 F52.out
  have p58 := cells_at0 F54.out
  have p59 := cells_at1 F54.out
  go_wp2_with fail
  clear p56 p57 p58 p59
  generalize hX : W3.alloc (.cells #[.slice q42 R.length q43, .slice q44 RA.length q45] 29) = W4 at F49 F50 F51 F52 F53 F54 HZ55 ⊢
  have hz60 := Nat.le_of_eq HZ55.out.symm
  clear hX HZ55
  refine (toChips_c v0 u0 l0 m0 W4 (F50.out.mono (by omega)) HSM0.out (F51.out.mono (by omega)) (by omega)).mono ?_
  rintro e W5 ⟨v61, u62, rfl, ho63, hb64⟩
  have hz65 := hb64.size
  have F66 := hide (F49.out.trans (hb64.mono (by omega)))
  have F67 := hide (F50.out.below hb64 (by omega))
  have F68 := hide (F51.out.below hb64 (by omega))
  have F69 := hide ((hb64.block (w.heap.size) (by omega)).trans F52.out)
  have F70 := hide (F53.out.kept hb64)
  have F71 := hide ((hb64.block (W3.heap.size) (by omega)).trans F54.out)
  have hle72 : W4.heap.size + 3 ≤ W5.heap.size := (by obtain ⟨mm, h1, h2, _⟩ := ho63; omega)
  obtain ⟨q73, q74, q75⟩ := ho63.rows.shape
  obtain ⟨q76, q77, q78⟩ := ho63.ints.shape
  have F79 := hide (ho63)
  clear hb64 F49 F50 F51 F52 F53 F54 ho63
  subst q75
  subst q78
  have F80 := hide (F66.out.alloc (by omega) (.cells #[.slice q73 l0.length q74, .slice q76 m0.length q77] 29))
  have F81 := hide (F67.out.alloc (.cells #[.slice q73 l0.length q74, .slice q76 m0.length q77] 29))
  have F82 := hide (F68.out.alloc (.cells #[.slice q73 l0.length q74, .slice q76 m0.length q77] 29))
  have F83 := hide ((hp_old W5 (.cells #[.slice q73 l0.length q74, .slice q76 m0.length q77] 29) (w.heap.size) (by omega)).trans F69.out)
  have F84 := hide (F70.out.alloc (.cells #[.slice q73 l0.length q74, .slice q76 m0.length q77] 29))
  have F85 := hide ((hp_old W5 (.cells #[.slice q73 l0.length q74, .slice q76 m0.length q77] 29) (W3.heap.size) (by omega)).trans F71.out)
  have F86 := hide (F79.out.alloc (.cells #[.slice q73 l0.length q74, .slice q76 m0.length q77] 29))
  have F87 := hide (hp_last W5 (.cells #[.slice q73 l0.length q74, .slice q76 m0.length q77] 29))
  have HZ88 := hide (show (W5.alloc (.cells #[.slice q73 l0.length q74, .slice q76 m0.length q77] 29)).heap.size = W5.heap.size + 1 by simp)
  clear F66 F67 F68 F69 F70 F71 F79
  have p89 := cells_at0 F83.out
  have p90 := cells_at1 F83.out
  have p91 := cells_at0 F85.out
  have p92 := cells_at1 F85.out
  have p93 := cells_at0 F87.out
  have p94 := cells_at1 F87.out
  go_wp2_with fail
  clear p89 p90 p91 p92 p93 p94
  generalize hX : W5.alloc (.cells #[.slice q73 l0.length q74, .slice q76 m0.length q77] 29) = W6 at F80 F81 F82 F83 F84 F85 F86 F87 HZ88 ⊢
  have hz95 := Nat.le_of_eq HZ88.out.symm
  clear hX HZ88
  refine (implMoveChips_c _ _ l0 m0 x1 W6 F86.out.rows HSM0.out F86.out.ints (by omega) (HT.out.belowB HT.out F80.out (Nat.le_refl _))).mono ?_
  rw [HR.out, HR2.out, HO.out]
  rintro e W7 ⟨v96, u98, rfl, ho97, hb99⟩
  have hz100 := hb99.size
  have F101 := hide (F80.out.trans (hb99.mono (by omega)))
  have F102 := hide (F81.out.below hb99 (by omega))
  have F103 := hide (F82.out.below hb99 (by omega))
  have F104 := hide ((hb99.block (w.heap.size) (by omega)).trans F83.out)
  have F105 := hide (F84.out.kept hb99)
  have F106 := hide ((hb99.block (W3.heap.size) (by omega)).trans F85.out)
  have F107 := hide (F86.out.kept hb99)
  have F108 := hide ((hb99.block (W5.heap.size) (by omega)).trans F87.out)
  obtain ⟨q109, q110, q111, q112, q113, q114⟩ := ho97.toX.shape
  have F115 := hide (ho97.toX)
  clear hb99 F80 F81 F82 F83 F84 F85 F86 F87 ho97
  subst q113
  subst q114
  have F116 := hide (F101.out.alloc (by omega) (.cells #[.slice q109 R.length q110, .slice q111 RA.length q112] 29))
  have F117 := hide (F102.out.alloc (.cells #[.slice q109 R.length q110, .slice q111 RA.length q112] 29))
  have F118 := hide (F103.out.alloc (.cells #[.slice q109 R.length q110, .slice q111 RA.length q112] 29))
  have F119 := hide ((hp_old W7 (.cells #[.slice q109 R.length q110, .slice q111 RA.length q112] 29) (w.heap.size) (by omega)).trans F104.out)
  have F120 := hide (F105.out.alloc (.cells #[.slice q109 R.length q110, .slice q111 RA.length q112] 29))
  have F121 := hide ((hp_old W7 (.cells #[.slice q109 R.length q110, .slice q111 RA.length q112] 29) (W3.heap.size) (by omega)).trans F106.out)
  have F122 := hide (F107.out.alloc (.cells #[.slice q109 R.length q110, .slice q111 RA.length q112] 29))
  have F123 := hide ((hp_old W7 (.cells #[.slice q109 R.length q110, .slice q111 RA.length q112] 29) (W5.heap.size) (by omega)).trans F108.out)
  have F124 := hide (F115.out.alloc (.cells #[.slice q109 R.length q110, .slice q111 RA.length q112] 29))
  have F125 := hide (hp_last W7 (.cells #[.slice q109 R.length q110, .slice q111 RA.length q112] 29))
  have HZ126 := hide (show (W7.alloc (.cells #[.slice q109 R.length q110, .slice q111 RA.length q112] 29)).heap.size = W7.heap.size + 1 by simp)
  clear F101 F102 F103 F104 F105 F106 F107 F108 F115
  have p127 := cells_at0 F119.out
  have p128 := cells_at1 F119.out
  have p129 := cells_at0 F121.out
  have p130 := cells_at1 F121.out
  have p131 := cells_at0 F123.out
  have p132 := cells_at1 F123.out
  have p133 := cells_at0 F125.out
  have p134 := cells_at1 F125.out
  go_wp2_with fail
  clear p127 p128 p129 p130 p131 p132 p133 p134
  generalize hX : W7.alloc (.cells #[.slice q109 R.length q110, .slice q111 RA.length q112] 29) = W8 at F116 F117 F118 F119 F120 F121 F122 F123 F124 F125 HZ126 ⊢
  have hz135 := Nat.le_of_eq HZ126.out.symm
  clear hX HZ126
  refine (eqChips_same_c _ _ _ _ R RA W8 F124.out.rows F124.out.ints F120.out.rows F120.out.ints hRS hRL).mono ?_
  rintro e W9 ⟨rfl, hb136⟩
  have hz137 := hb136.size
  have F138 := hide (F116.out.trans (hb136.mono (by omega)))
  have F139 := hide (F117.out.below hb136 (by omega))
  have F140 := hide (F118.out.below hb136 (by omega))
  have F141 := hide ((hb136.block (w.heap.size) (by omega)).trans F119.out)
  have F142 := hide (F120.out.kept hb136)
  have F143 := hide ((hb136.block (W3.heap.size) (by omega)).trans F121.out)
  have F144 := hide (F122.out.kept hb136)
  have F145 := hide ((hb136.block (W5.heap.size) (by omega)).trans F123.out)
  have F146 := hide (F124.out.kept hb136)
  have F147 := hide ((hb136.block (W7.heap.size) (by omega)).trans F125.out)
  clear hb136 F116 F117 F118 F119 F120 F121 F122 F123 F124 F125
  have p148 := cells_at0 F141.out
  have p149 := cells_at1 F141.out
  have p150 := cells_at0 F143.out
  have p151 := cells_at1 F143.out
  have p152 := cells_at0 F145.out
  have p153 := cells_at1 F145.out
  have p154 := cells_at0 F147.out
  have p155 := cells_at1 F147.out
  go_wp2
  clear p148 p149 p150 p151 p152 p153 p154 p155
  refine wp_region_held (S := Below W9.heap.size W9) (by kernel_rfl) ?_
  have hS : Below W9.heap.size W9 { W9 with drawn := W9.drawn + 1 } := (Below.refl _ _).drew
  refine wpAnyH_take (i := 0) rfl (by kernel_rfl) (by kernel_rfl) (by kernel_rfl) (fun _ _ _ h => h) (yields_load_two rowCp sizeCp rfl (.tmp _) rfl _ rfl _ _ (fun w' h => (h.cell (p := ⟨W5.heap.size, 0, none⟩) (by show W5.heap.size < _; omega)).trans (cells_at0 F145.out)) (fun w' h => (h.cell (p := ⟨W5.heap.size, 1, none⟩) (by show W5.heap.size < _; omega)).trans (cells_at1 F145.out))) hS ?_
  refine wpAnyH_take (i := 1) rfl (by kernel_rfl) (by kernel_rfl) (by kernel_rfl) (fun _ _ _ h => h) (yields_load_two rowCl sizeCl rfl (.tmp _) rfl _ rfl _ _ (fun w' h => (h.cell (p := ⟨w.heap.size, 0, none⟩) (by show w.heap.size < _; omega)).trans (cells_at0 F141.out)) (fun w' h => (h.cell (p := ⟨w.heap.size, 1, none⟩) (by show w.heap.size < _; omega)).trans (cells_at1 F141.out))) hS ?_
  refine anyH_call (i := 2) (by kernel_rfl) rfl rfl 14 ent_toChips _ _ rfl #[.agg #[v0, u0]] rfl (toChips_c v0 u0 l0 m0 _ ((F139.out.below hS (by omega)).mono (show w.heap.size ≤ W9.heap.size by omega)) HSM0.out ((F140.out.below hS (by omega)).mono (show w.heap.size ≤ W9.heap.size by omega)) (by omega)) ?_
  rintro e W10 ⟨gv, gu, rfl, hkr, hbr⟩
  have hzr : W9.heap.size ≤ W10.heap.size := hbr.size
  have hS6 : Below W9.heap.size W9 W10 := hS.trans hbr
  refine ⟨_, rfl, hS6, ?_⟩
  refine anyH_call (i := 3) (by kernel_rfl) rfl rfl 17 ent_eqChips _ _ rfl #[.agg #[.slice q73 l0.length q74, .slice q76 m0.length q77], .agg #[gv, gu]] rfl (eqChips_same_c _ _ _ _ l0 m0 W10 ((F144.out.kept hS6).rows) ((F144.out.kept hS6).ints) hkr.rows hkr.ints HSM0.out (by omega)) ?_
  rintro e W11 ⟨rfl, hbs⟩
  have hS7 : Below W9.heap.size W9 W11 := hS6.trans (hbs.mono hzr)
  refine ⟨_, rfl, hS7, ?_⟩
  refine anyH_op (i := 4) (by kernel_rfl) rfl rfl (.bool false) W11 ?hq hS7 ?_
  case hq => simp [go_sem, Act.put]
  refine wpAnyH_done (by kernel_rfl) ?_ _
  simp only [Act.put, List.getElem_toArray, List.getElem_cons_zero, List.getElem_cons_succ, List.setIfInBounds_toArray, List.set_cons_zero, List.set_cons_succ]
  have hz156 : W9.heap.size ≤ W11.heap.size := hS7.size
  have F157 := hide (F138.out.trans (hS7.mono (by omega)))
  have F158 := hide (F139.out.below hS7 (by omega))
  have F159 := hide (F140.out.below hS7 (by omega))
  have F160 := hide ((hS7.block (w.heap.size) (by omega)).trans F141.out)
  have F161 := hide (F142.out.kept hS7)
  have F162 := hide ((hS7.block (W3.heap.size) (by omega)).trans F143.out)
  have F163 := hide (F144.out.kept hS7)
  have F164 := hide ((hS7.block (W5.heap.size) (by omega)).trans F145.out)
  have F165 := hide (F146.out.kept hS7)
  have F166 := hide ((hS7.block (W7.heap.size) (by omega)).trans F147.out)
  clear hS hS6 hS7 hbr hbs hkr hzr F138 F139 F140 F141 F142 F143 F144 F145 F146 F147
  have p167 := cells_at0 F160.out
  have p168 := cells_at1 F160.out
  have p169 := cells_at0 F162.out
  have p170 := cells_at1 F162.out
  have p171 := cells_at0 F164.out
  have p172 := cells_at1 F164.out
  have p173 := cells_at0 F166.out
  have p174 := cells_at1 F166.out
  go_wp2_with fail
  clear p167 p168 p169 p170 p171 p172 p173 p174
  refine (markChipsT_c _ _ l0 m0 W11 _ _ F163.out HSM0.out (by omega) (by omega)).mono ?_
  rintro e W12 ⟨rfl, ho175⟩
  have hz176 := ho175.size
  have F177 := hide (F157.out.trans ((ho175.below (by omega)).mono (by omega)))
  have F178 := hide (F158.out.below (ho175.below (by omega)) (by omega))
  have F179 := hide (F159.out.below (ho175.below (by omega)) (by omega))
  have F180 := hide ((ho175.block (w.heap.size) (by omega) (by omega)).trans F160.out)
  have F181 := hide (F161.out.span ho175 (by omega))
  have F182 := hide ((ho175.block (W3.heap.size) (by omega) (by omega)).trans F162.out)
  have F184 := hide ((ho175.block (W5.heap.size) (by omega) (by omega)).trans F164.out)
  have F185 := hide (F165.out.span ho175 (by omega))
  have F186 := hide ((ho175.block (W7.heap.size) (by omega) (by omega)).trans F166.out)
  clear F157 F158 F159 F160 F161 F162 F163 F164 F165 F166 ho175
  have hneg3 : ¬ (1 + (tot l0 : Int) + (m0.length : Int) < 0) := by omega
  have p187 := cells_at0 F180.out
  have p188 := cells_at1 F180.out
  have p189 := cells_at0 F182.out
  have p190 := cells_at1 F182.out
  have p191 := cells_at0 F184.out
  have p192 := cells_at1 F184.out
  have p193 := cells_at0 F186.out
  have p194 := cells_at1 F186.out
  go_wp2_with fail
  clear p187 p188 p189 p190 p191 p192 p193 p194
  refine (eqChips_same_c _ _ _ _ R RA W12 F185.out.rows F185.out.ints F181.out.rows F181.out.ints hRS hRL).mono ?_
  rintro e W13 ⟨rfl, hb195⟩
  have hz196 := hb195.size
  have F197 := hide (F177.out.trans (hb195.mono (by omega)))
  have F198 := hide (F178.out.below hb195 (by omega))
  have F199 := hide (F179.out.below hb195 (by omega))
  have F200 := hide ((hb195.block (w.heap.size) (by omega)).trans F180.out)
  have F201 := hide (F181.out.kept hb195)
  have F202 := hide ((hb195.block (W3.heap.size) (by omega)).trans F182.out)
  have F203 := hide ((hb195.block (W5.heap.size) (by omega)).trans F184.out)
  have F204 := hide (F185.out.kept hb195)
  have F205 := hide ((hb195.block (W7.heap.size) (by omega)).trans F186.out)
  clear hb195 F177 F178 F179 F180 F181 F182 F184 F185 F186
  have p206 := cells_at0 F200.out
  have p207 := cells_at1 F200.out
  have p208 := cells_at0 F202.out
  have p209 := cells_at1 F202.out
  have p210 := cells_at0 F203.out
  have p211 := cells_at1 F203.out
  have p212 := cells_at0 F205.out
  have p213 := cells_at1 F205.out
  go_wp2_with fail
  clear p206 p207 p208 p209 p210 p211 p212 p213
  refine (markChipsX_c _ _ R RA W13 _ _ F204.out hRS hRL (by omega)).mono ?_
  rintro e W14 ⟨rfl, hn215, ho214⟩
  have hz216 := ho214.size
  have F217 := hide (F197.out.trans ((ho214.below (by omega)).mono (by omega)))
  have F218 := hide (F198.out.below (ho214.below (by omega)) (by omega))
  have F219 := hide (F199.out.below (ho214.below (by omega)) (by omega))
  have F220 := hide ((ho214.block (w.heap.size) (by omega) (by omega)).trans F200.out)
  have F221 := hide (F201.out.span ho214 (by omega))
  have F222 := hide ((ho214.block (W3.heap.size) (by omega) (by omega)).trans F202.out)
  have F223 := hide ((ho214.block (W5.heap.size) (by omega) (by omega)).trans F203.out)
  have F225 := hide ((ho214.block (W7.heap.size) (by omega) (by omega)).trans F205.out)
  have F226 := hide hn215
  clear F197 F198 F199 F200 F201 F202 F203 F204 F205 hn215 ho214
  have p227 := cells_at0 F220.out
  have p228 := cells_at1 F220.out
  have p229 := cells_at0 F222.out
  have p230 := cells_at1 F222.out
  have p231 := cells_at0 F223.out
  have p232 := cells_at1 F223.out
  have p233 := cells_at0 F225.out
  have p234 := cells_at1 F225.out
  go_wp2_with fail
  clear p227 p228 p229 p230 p231 p232 p233 p234
  refine (heldChips_c _ _ R RA.length W14 F226.out.rows F226.out.ints hRS hRL).mono ?_
  rintro e W15 ⟨rfl, hb235⟩
  have hz236 := hb235.size
  have F237 := hide (F217.out.trans (hb235.mono (by omega)))
  have F238 := hide (F218.out.below hb235 (by omega))
  have F239 := hide (F219.out.below hb235 (by omega))
  have F240 := hide ((hb235.block (w.heap.size) (by omega)).trans F220.out)
  have F241 := hide (F221.out.kept hb235)
  have F242 := hide ((hb235.block (W3.heap.size) (by omega)).trans F222.out)
  have F243 := hide ((hb235.block (W5.heap.size) (by omega)).trans F223.out)
  have F244 := hide (F226.out.kept hb235)
  have F245 := hide ((hb235.block (W7.heap.size) (by omega)).trans F225.out)
  clear hb235 F217 F218 F219 F220 F221 F222 F223 F226 F225
  have p246 := cells_at0 F240.out
  have p247 := cells_at1 F240.out
  have p248 := cells_at0 F242.out
  have p249 := cells_at1 F242.out
  have p250 := cells_at0 F243.out
  have p251 := cells_at1 F243.out
  have p252 := cells_at0 F245.out
  have p253 := cells_at1 F245.out
  go_wp2_with fail
  clear p246 p247 p248 p249 p250 p251 p252 p253
  refine (toChips_c v0 u0 l0 m0 W15 (F238.out.mono (by omega)) HSM0.out (F239.out.mono (by omega)) (by omega)).mono ?_
  rintro e W16 ⟨v254, u255, rfl, ho256, hb257⟩
  have hz258 := hb257.size
  have F259 := hide (F237.out.trans (hb257.mono (by omega)))
  have F260 := hide (F238.out.below hb257 (by omega))
  have F261 := hide (F239.out.below hb257 (by omega))
  have F262 := hide ((hb257.block (w.heap.size) (by omega)).trans F240.out)
  have F263 := hide (F241.out.kept hb257)
  have F264 := hide ((hb257.block (W3.heap.size) (by omega)).trans F242.out)
  have F265 := hide ((hb257.block (W5.heap.size) (by omega)).trans F243.out)
  have F266 := hide (F244.out.kept hb257)
  have F267 := hide ((hb257.block (W7.heap.size) (by omega)).trans F245.out)
  have hle268 : W15.heap.size + 3 ≤ W16.heap.size := (by obtain ⟨mm, h1, h2, _⟩ := ho256; omega)
  obtain ⟨q269, q270, q271⟩ := ho256.rows.shape
  obtain ⟨q272, q273, q274⟩ := ho256.ints.shape
  have F275 := hide (ho256)
  clear hb257 F237 F238 F239 F240 F241 F242 F243 F244 F245 ho256
  subst q271
  subst q274
  have p276 := cells_at0 F262.out
  have p277 := cells_at1 F262.out
  have p278 := cells_at0 F264.out
  have p279 := cells_at1 F264.out
  have p280 := cells_at0 F265.out
  have p281 := cells_at1 F265.out
  have p282 := cells_at0 F267.out
  have p283 := cells_at1 F267.out
  go_wp2_with fail
  clear p276 p277 p278 p279 p280 p281 p282 p283
  refine (implMoveChips_c _ _ l0 m0 x1 W16 F275.out.rows HSM0.out F275.out.ints (by omega) (HT.out.belowB HT.out F259.out (Nat.le_refl _))).mono ?_
  rw [HR.out, HR2.out, HO.out]
  rintro e W17 ⟨v284, u286, rfl, ho285, hb287⟩
  have hz288 := hb287.size
  have F289 := hide (F259.out.trans (hb287.mono (by omega)))
  have F290 := hide (F260.out.below hb287 (by omega))
  have F291 := hide (F261.out.below hb287 (by omega))
  have F292 := hide ((hb287.block (w.heap.size) (by omega)).trans F262.out)
  have F293 := hide (F263.out.kept hb287)
  have F294 := hide ((hb287.block (W3.heap.size) (by omega)).trans F264.out)
  have F295 := hide ((hb287.block (W5.heap.size) (by omega)).trans F265.out)
  have F296 := hide (F266.out.kept hb287)
  have F297 := hide ((hb287.block (W7.heap.size) (by omega)).trans F267.out)
  have F298 := hide (F275.out.kept hb287)
  obtain ⟨q299, q300, q301, q302, q303, q304⟩ := ho285.toX.shape
  have F305 := hide (ho285.toX)
  clear hb287 F259 F260 F261 F262 F263 F264 F265 F266 F267 F275 ho285
  subst q303
  subst q304
  have F306 := hide (F289.out.alloc (by omega) (.cells #[.slice q299 R.length q300, .slice q301 RA.length q302] 29))
  have F307 := hide (F290.out.alloc (.cells #[.slice q299 R.length q300, .slice q301 RA.length q302] 29))
  have F308 := hide (F291.out.alloc (.cells #[.slice q299 R.length q300, .slice q301 RA.length q302] 29))
  have F309 := hide ((hp_old W17 (.cells #[.slice q299 R.length q300, .slice q301 RA.length q302] 29) (w.heap.size) (by omega)).trans F292.out)
  have F310 := hide (F293.out.alloc (.cells #[.slice q299 R.length q300, .slice q301 RA.length q302] 29))
  have F311 := hide ((hp_old W17 (.cells #[.slice q299 R.length q300, .slice q301 RA.length q302] 29) (W3.heap.size) (by omega)).trans F294.out)
  have F312 := hide ((hp_old W17 (.cells #[.slice q299 R.length q300, .slice q301 RA.length q302] 29) (W5.heap.size) (by omega)).trans F295.out)
  have F313 := hide (F296.out.alloc (.cells #[.slice q299 R.length q300, .slice q301 RA.length q302] 29))
  have F314 := hide ((hp_old W17 (.cells #[.slice q299 R.length q300, .slice q301 RA.length q302] 29) (W7.heap.size) (by omega)).trans F297.out)
  have F315 := hide (F298.out.alloc (.cells #[.slice q299 R.length q300, .slice q301 RA.length q302] 29))
  have F316 := hide (F305.out.alloc (.cells #[.slice q299 R.length q300, .slice q301 RA.length q302] 29))
  have F317 := hide (hp_last W17 (.cells #[.slice q299 R.length q300, .slice q301 RA.length q302] 29))
  have HZ318 := hide (show (W17.alloc (.cells #[.slice q299 R.length q300, .slice q301 RA.length q302] 29)).heap.size = W17.heap.size + 1 by simp)
  clear F289 F290 F291 F292 F293 F294 F295 F296 F297 F298 F305
  have p319 := cells_at0 F309.out
  have p320 := cells_at1 F309.out
  have p321 := cells_at0 F311.out
  have p322 := cells_at1 F311.out
  have p323 := cells_at0 F312.out
  have p324 := cells_at1 F312.out
  have p325 := cells_at0 F314.out
  have p326 := cells_at1 F314.out
  have p327 := cells_at0 F317.out
  have p328 := cells_at1 F317.out
  go_wp2_with fail
  clear p319 p320 p321 p322 p323 p324 p325 p326 p327 p328
  generalize hX : W17.alloc (.cells #[.slice q299 R.length q300, .slice q301 RA.length q302] 29) = W18 at F306 F307 F308 F309 F310 F311 F312 F313 F314 F315 F316 F317 HZ318 ⊢
  have hz329 := Nat.le_of_eq HZ318.out.symm
  clear hX HZ318
  refine (eqChips_same_c _ _ _ _ R RA W18 F316.out.rows F316.out.ints F310.out.rows F310.out.ints hRS hRL).mono ?_
  rintro e W19 ⟨rfl, hb330⟩
  have hz331 := hb330.size
  have F332 := hide (F306.out.trans (hb330.mono (by omega)))
  have F333 := hide (F307.out.below hb330 (by omega))
  have F334 := hide (F308.out.below hb330 (by omega))
  have F335 := hide ((hb330.block (w.heap.size) (by omega)).trans F309.out)
  have F336 := hide (F310.out.kept hb330)
  have F337 := hide ((hb330.block (W3.heap.size) (by omega)).trans F311.out)
  have F338 := hide ((hb330.block (W5.heap.size) (by omega)).trans F312.out)
  have F339 := hide (F313.out.kept hb330)
  have F340 := hide ((hb330.block (W7.heap.size) (by omega)).trans F314.out)
  have F341 := hide (F315.out.kept hb330)
  have F342 := hide (F316.out.kept hb330)
  have F343 := hide ((hb330.block (W17.heap.size) (by omega)).trans F317.out)
  clear hb330 F306 F307 F308 F309 F310 F311 F312 F313 F314 F315 F316 F317
  have p344 := cells_at0 F335.out
  have p345 := cells_at1 F335.out
  have p346 := cells_at0 F337.out
  have p347 := cells_at1 F337.out
  have p348 := cells_at0 F338.out
  have p349 := cells_at1 F338.out
  have p350 := cells_at0 F340.out
  have p351 := cells_at1 F340.out
  have p352 := cells_at0 F343.out
  have p353 := cells_at1 F343.out
  go_wp2_with fail
  clear p344 p345 p346 p347 p348 p349 p350 p351 p352 p353
  refine (heldChips_c _ _ R RA.length W19 F339.out.rows F339.out.ints hRS hRL).mono ?_
  rintro e W20 ⟨rfl, hb354⟩
  have hz355 := hb354.size
  have F356 := hide (F332.out.trans (hb354.mono (by omega)))
  have F357 := hide (F333.out.below hb354 (by omega))
  have F358 := hide (F334.out.below hb354 (by omega))
  have F359 := hide ((hb354.block (w.heap.size) (by omega)).trans F335.out)
  have F360 := hide (F336.out.kept hb354)
  have F361 := hide ((hb354.block (W3.heap.size) (by omega)).trans F337.out)
  have F362 := hide ((hb354.block (W5.heap.size) (by omega)).trans F338.out)
  have F363 := hide (F339.out.kept hb354)
  have F364 := hide ((hb354.block (W7.heap.size) (by omega)).trans F340.out)
  have F365 := hide (F341.out.kept hb354)
  have F366 := hide (F342.out.kept hb354)
  have F367 := hide ((hb354.block (W17.heap.size) (by omega)).trans F343.out)
  clear hb354 F332 F333 F334 F335 F336 F337 F338 F339 F340 F341 F342 F343
  have p368 := cells_at0 F359.out
  have p369 := cells_at1 F359.out
  have p370 := cells_at0 F361.out
  have p371 := cells_at1 F361.out
  have p372 := cells_at0 F362.out
  have p373 := cells_at1 F362.out
  have p374 := cells_at0 F364.out
  have p375 := cells_at1 F364.out
  have p376 := cells_at0 F367.out
  have p377 := cells_at1 F367.out
  go_wp2
  go_ret
  exact ⟨rfl, F356.out⟩

theorem ownK : ownKnob Tryd.prog.godebug = none := by kernel_rfl
theorem laidOut : laidOutB Tryd.prog = true := by kernel_rfl

/-- What a slice of int is, as it comes in. -/
theorem list_open {W : World} {v : Value} {l : List Int} (h : (v = .slice none 0 0 ∧ l = []) ∨ ∃ (a : Addr) (len c : Nat) (zs : List Int), v = .slice (some a) len c ∧ len ≤ zs.length ∧ len ≤ maxLen ∧ (∀ i, i < zs.length → W.cell? (a.add i) = some (.int .i64 (zs.getD i 0))) ∧ l = zs.take len) : ints W.heap.size W v l ∧ l.length ≤ 9223372036854775807 := by
  rcases h with ⟨rfl, rfl⟩ | ⟨x, len, c, zs, rfl, hlt, hm, hcell, rfl⟩
  · exact ⟨.inl ⟨rfl, none, 0, rfl⟩, by simp⟩
  · have htk : (zs.take len).length = len := by simp; omega
    refine ⟨?_, by unfold maxLen at hm; omega⟩
    rcases Nat.eq_zero_or_pos len with h0 | h0
    · subst h0
      exact .inl ⟨by simp, some x, c, rfl⟩
    · obtain ⟨b, off, rfl, hc⟩ := ints_at hcell (by omega)
      have hbl := block_lt_of_cell (hc 0 (by omega))
      refine .inr ⟨b, off, c, by rw [htk], hbl, hbl, fun j hj => ?_⟩
      rw [htk] at hj
      rw [hc j (by omega), List.getElem?_take, if_pos hj]
      rfl

/-- What chips are, as they come in. -/
theorem chips_open {H : Type} {enc : TypeId × Value → H} {W : World} {b0 : Nat} {v : Value} {d : DataW H} {p : List MemPlace}
    (hv : Value.okWide Tryd.prog W .any b0 25 v) (h : DataW.Trod enc Tryd.prog W 0 (fun _ => true) true 25 v d p) :
    ∃ (x u : Value) (M : List (List Int)) (l : List Int), v = .agg #[x, u] ∧ rows W.heap.size W x M ∧ M.length ≤ 9223372036854775807 ∧ (∀ j, j < M.length → (M[j]?.getD []).length ≤ 9223372036854775807) ∧ ints W.heap.size W u l ∧ l.length ≤ 9223372036854775807 := by
  obtain ⟨v0, v1, y0, y1, m, rfl, rfl, rfl, hy0, hy1⟩ := open_agg2 Tryd.underlying25 (by kernel_rfl) (by kernel_rfl) hv h
  have h0 : ∃ (x : Value) (M : List (List Int)), v0 = x ∧ rows W.heap.size W x M ∧ M.length ≤ 9223372036854775807 ∧ ∀ j, j < M.length → (M[j]?.getD []).length ≤ 9223372036854775807 := by
    rcases Go.Deep.open_int_rows Tryd.underlying22 Tryd.underlying23 Tryd.underlying3 (by kernel_rfl) (by kernel_rfl) hy0 with ⟨hcs, _⟩ | ⟨x, len, c, A, Ln, C, Z, hcs, _, hl, hm, _, hr⟩
    · simp at hcs
      subst hcs
      exact ⟨_, [], rfl, .inl ⟨rfl, none, 0, rfl⟩, by simp, fun j hj => by simp at hj⟩
    · simp at hcs
      subst hcs
      obtain ⟨h1, h2⟩ := rows_in hl hr
      exact ⟨_, _, rfl, h1, by simp; unfold maxLen at hm; omega, fun j hj => h2 j (by simpa using hj)⟩
  obtain ⟨x, M, rfl, hM1, hM2, hM3⟩ := h0
  rcases open_ints Tryd.underlying23 Tryd.underlying3 (by kernel_rfl) hy1 with ⟨hcs, _⟩ | ⟨x, len, c, zs, hcs, _, hl, hm, hz, _, hcell, hwz⟩
  · simp at hcs
    subst hcs
    obtain ⟨k1, k2⟩ := list_open (W := W) (v := .slice none 0 0) (l := []) (.inl ⟨rfl, rfl⟩)
    exact ⟨_, _, M, [], rfl, hM1, hM2, hM3, k1, k2⟩
  · simp at hcs
    subst hcs
    have hz' : zs.length = c := by simpa using hz
    obtain ⟨k1, k2⟩ := list_open (W := W) (v := .slice (some x) len c) (l := zs.take len) (.inr ⟨x, len, c, zs, rfl, by omega, by unfold maxLen at hm ⊢; omega, hcell, rfl⟩)
    exact ⟨_, _, M, zs.take len, rfl, hM1, hM2, hM3, k1, k2⟩


/-- What the card's condition gives: the table's cells. -/
theorem tab_of {W : World} (h : laidMetH Tryd.prog Rows.fnExactMoveChipsRow.laid W) : tab W := by
  rw [MakeChecks.laidMetH_plain _ _ _ (by kernel_rfl)] at h
  have h2 := h.tail
  have e : (Rows.laid_math_bits_deBruijn64tab : DataW Unit) = Lib.tabData .u8 (Lib.deBruijn64tab.map fun n : Nat => (n : Int)) := by kernel_rfl
  rw [e] at h2
  have hT := Lib.tabIs_of_head (g := 1) (t := 108) (e := 5) (n := 64) (by kernel_rfl) (by kernel_rfl) (by kernel_rfl) (by kernel_rfl) (by kernel_rfl) (by kernel_rfl) h2
  have hc : ∀ j, j < 64 → W.cell? ⟨1, j, none⟩ = some (.int .u8 (Lib.deBruijn64tab.getD j 0)) := by
    intro j hj
    have h3 := hT.cell (g := 1) (by kernel_rfl) j (by rw [show (Lib.deBruijn64tab.map fun n : Nat => (n : Int)).length = 64 by decide +kernel]; exact hj)
    rw [h3]
    have h4 : ∀ j, j < 64 → (Lib.deBruijn64tab.map fun n : Nat => (n : Int)).getD j 0 = (Lib.deBruijn64tab.getD j 0 : Int) := by decide +kernel
    rw [h4 j hj]
  exact ⟨block_lt_of_cell (hc 0 (by omega)), hc⟩
theorem door_met (os : Os) (args : Array Value) : laidMetH Tryd.prog Rows.fnExactMoveChipsRow.laid ((World.doorLaid Tryd.prog 400 os).forCall (fun _ _ => 0) ⟨#[], args, []⟩).memory :=
  laidMetH_of_parts3 (fuel := 8) (laidMet_of_run' 8 (by kernel_rfl) (by kernel_rfl)) (by kernel_rfl) (by kernel_rfl)

theorem lifted (os : Os) (started : os.Started) (H : Type) (enc : TypeId × Value → H) :
    ReturnsInHanded {} Tryd.checked os 4 .any (fun w args => (Rows.fnExactMoveChipsSpec.pre enc Tryd.prog Tryd.f4 [] false w args ∧ laidMetH Tryd.prog Rows.fnExactMoveChipsRow.laid w) ∧ sizedMet enc Tryd.prog Tryd.f4 (OpenSpec.ofChange Rows.fnExactMoveChipsSpec) false w args)
      (Rows.fnExactMoveChipsSpec.post enc Tryd.prog Tryd.f4 false true false false) := by
  refine returnsInHanded_of_change_and (C := Tryd.checked) (X := fun w _ => laidMetH Tryd.prog Rows.fnExactMoveChipsRow.laid w) (fun _ _ _ hh h => h.of_heap hh) ownK started (by kernel_rfl) Tryd.func4
    (ChangeSpec.witness_shaped (enc := enc) (C := Tryd.checked) (os := os) (X := fun w _ => laidMetH Tryd.prog Rows.fnExactMoveChipsRow.laid w) false (World.doorLaid Tryd.prog 400 os) #[.agg #[.slice none 0 0, .slice none 0 0], .int .i64 0] 8 rfl (World.shaped_of_RefB (by kernel_rfl) (by kernel_rfl)) (by kernel_rfl) (by kernel_rfl) (by kernel_rfl) (door_met os _)) ?_
  intro W base args ds gs before hval0 hW _ _ hL _
  have hTab := tab_of hL
  have hval : ∀ (j : Nat) t v, Tryd.f4.params[j]? = some t → args[j]? = some v → Value.okWide Tryd.prog W .any base t v := hval0
  have hW' := hW
  obtain ⟨p, q, hA0, hV, rfl, hfz, hnd⟩ := hW
  have hA : DataW.TrodAll enc Tryd.prog W 0 (fun _ => true) true Tryd.f4.params.toList args.toList ds p := hA0
  rw [Tryd.params4] at hA hval
  obtain ⟨v0, vs0, d0, ds0, p0, q0, hargs, rfl, rfl, t0, r0⟩ := trodAll_cons hA
  obtain ⟨v1, vs1, d1, ds1, p1, q1, rfl, rfl, rfl, t1, r1⟩ := trodAll_cons r0
  obtain ⟨rfl, rfl, rfl⟩ := trodAll_nil r1
  obtain rfl : args = #[v0, v1] := by cases args; simp_all
  obtain ⟨rfl, rfl⟩ := trodVars_none hV
  have k0 := t0
  have lt0 : ∀ x ∈ p0, x.block < W.heap.size := by obtain ⟨m, hm⟩ := k0; exact DataW.trod_lt m _ _ _ hm
  obtain ⟨c0, u0, l0, m0, rfl, i0, e0, f0, y0, z0⟩ := chips_open (hval 0 25 v0 rfl rfl) t0
  obtain ⟨a1, rfl, rfl, rfl, w1⟩ := open_int Tryd.underlying3 (hval 1 3 v1 rfl rfl) t1
  clear hA0 hval0
  refine (law_c c0 u0 l0 m0 a1 W i0 e0 f0 y0 z0 hTab).mono fun e W' ⟨he, bel⟩ => ?_
  subst he
  exact ⟨_, rfl, _, _, _, [], _, [], hW', trodAll_mk1 (shut_bool Tryd.underlying4 _), (trodAll_cons_mk (Below.trod laidOut (by kernel_rfl) (of_decide_eq_true (by kernel_rfl)) k0 bel lt0) (trodAll_cons_mk (shut_int Tryd.underlying3 w1) trodAll_mk0)), rfl, bel.frame _, fun h => by cases h⟩

set_option maxHeartbeats 4000000 in
theorem over : Rows.fnExactMoveChipsRow.holds Tryd.pinned (OpenSpec.ofChange Rows.fnExactMoveChipsSpec) :=
  OpenClaim.holds_of_wide 4 Tryd.f4 rfl rfl rfl rfl rfl rfl rfl ⟨rfl, rfl, rfl, rfl, rfl⟩ rfl rfl rfl rfl rfl (by as_aux_lemma => kernel_rfl) Tryd.func4 (by as_aux_lemma => kernel_rfl)
    (of_decide_eq_true (by as_aux_lemma => kernel_rfl)) (by unfold Func.isWrapper; first | (rw [if_pos (by decide +kernel)]; kernel_rfl) | (rw [if_neg (by decide +kernel)]; exact ⟨rfl, rfl⟩))
    (fun os started H enc _ => lifted os started H enc)

set_option maxHeartbeats 8000000 in
theorem proved : Rows.FnExactMoveChipsCardSaid :=
  Claim7.holds_tied_plain_at .later [] [.data, .data] true _ false
    over (fun _ h => by cases h) (by as_aux_lemma => kernel_rfl) (fun _ h => by cases h) fnExactMoveChips_row_tie rfl ⟨rfl, rfl⟩ (by as_aux_lemma => kernel_rfl) rfl
    (fun f fn hf hfn => by
      obtain rfl : f = 4 := Option.some.inj ((show Tryd.prog.funcNamed "loop.example/g01137/laws.FnExactMoveChips" = some 4 by as_aux_lemma => kernel_rfl).symm.trans hf) |>.symm
      obtain rfl : fn = Tryd.f4 := (Option.some.inj (Tryd.func4.symm.trans hfn)).symm
      exact ⟨by as_aux_lemma => kernel_rfl, fun j t ht => by
        rw [Tryd.params4] at ht
        have hm : t ∈ [25, 3] := by simpa using Array.mem_of_getElem? ht
        have hall : ([25, 3].all fun u => !Tryd.prog.wantsStandIn u) = true := by as_aux_lemma => kernel_rfl
        exact (show Tryd.prog.wantsStandIn t = false by simpa using List.all_eq_true.1 hall t hm)⟩)
    (by as_aux_lemma => kernel_rfl)
#print axioms proved
end Go.Proofs.YtjmhmmenampgbaaDoor.FMoveChips
