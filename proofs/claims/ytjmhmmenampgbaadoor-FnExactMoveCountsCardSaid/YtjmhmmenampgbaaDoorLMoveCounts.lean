/- The program's MoveCounts answers as the specification's does, at every argument, leaves its arguments as they are, and its answer owns its memory: no condition. -/
import Derived.Test.YtjmhmmenampgbaaDoorRows
import Derived.Test.YtjmhmmenampgbaaDoorYy
import Derived.Test.YtjmhmmenampgbaaDoorYl
import Derived.Test.YtjmhmmenampgbaaDoorTie
import Derived.Test.YtjmhmmenampgbaaDoorCards
import Derived.LaidMore
import Derived.Stop.Joined
import Derived.Stop.LaidErr
import Derived.Lib.LaidTab
import Derived.SevenTiedAt
import Derived.Test.YtjmhmmenampgbaaDoorHar
import Derived.ProofKit
import Derived.OpenShut
import Derived.Lib.SmallJoins
namespace Go.Proofs.YtjmhmmenampgbaaDoor.FMoveCounts
open Go.ChangeShapes Go.WideShapes Go.ChangeAt Go.RowKit Go.Joins
set_option linter.unusedVariables false
set_option linter.unusedSimpArgs false
set_option maxRecDepth 100000

set_option maxHeartbeats 4000000 in
theorem law_c (v0 u0 : Value) (l0 : List (List Int)) (m0 : List Int) (w : World) (h0 : rows w.heap.size w v0 l0) (hlen0 : l0.length ≤ 9223372036854775807) (hrow0 : ∀ j, j < l0.length → (l0[j]?.getD []).length ≤ 9223372036854775807) (g0 : ints w.heap.size w u0 m0) (glen0 : m0.length ≤ 9223372036854775807) (hT : tab w) :
    Calls Tryd.prog 8 #[.agg #[v0, u0]] w fun e w' => e = .returned (.bool true) ∧ Below w.heap.size w w' := by
  have HT := hide hT
  clear hT
  have hRL := (mcL_len l0 m0)
  generalize hR : (mcL l0 m0) = R at hRL
  generalize hO : (foB l0 m0) = ok
  have HR := hide hR
  have HO := hide hO
  clear hR hO
  have F1 := hide (((Below.refl w.heap.size w).alloc (Nat.le_refl _) (.cells #[v0, u0] 25)))
  have F2 := hide ((h0.alloc (.cells #[v0, u0] 25)))
  have F3 := hide ((g0.alloc (.cells #[v0, u0] 25)))
  have F4 := hide (show (w.alloc (.cells #[v0, u0] 25)).heap[w.heap.size]? = some (.cells #[v0, u0] 25) from (by have := hp_last w (.cells #[v0, u0] 25); simpa using this))
  have HZ0 := hide (show (w.alloc (.cells #[v0, u0] 25)).heap.size = w.heap.size + 1 by simp)
  clear h0 g0
  have hsz0 : szOf 1048576 (l0.length + tot l0 + m0.length) = -1 ∨ (0 ≤ szOf 1048576 (l0.length + tot l0 + m0.length) ∧ szOf 1048576 (l0.length + tot l0 + m0.length) ≤ 1048576 ∧ (l0.length + tot l0 + m0.length) ≤ 1048576) := by unfold szOf; split <;> omega
  generalize hq0 : szOf 1048576 (l0.length + tot l0 + m0.length) = q0 at hsz0
  have HQ0 := hide hq0
  clear hq0
  rcases hsz0 with hbig0 | ⟨hq0a, hq0b, hq0c⟩
  · have HBIG := hide hbig0
    have hneg : q0 < 0 := by omega
    clear hbig0
    go_enter Tryd.func8, Tryd.ntmps8
    go_wp2_with fail
    generalize hX : (w.alloc (.cells #[v0, u0] 25)) = W0 at F1 F2 F3 F4 HZ0 ⊢
    have hz0 := Nat.le_of_eq HZ0.out.symm
    clear hX HZ0
    refine (szChips_c v0 u0 l0 m0 (1048576) W0 (F2.out.mono (by omega)) hlen0 hrow0 (F3.out.mono (by omega)) glen0 (by omega) (by omega)).mono ?_
    rw [HQ0.out]
    rintro e W1 ⟨rfl, hb5⟩
    have hz6 := hb5.size
    have F7 := hide (F1.out.trans (hb5.mono (by omega)))
    have F8 := hide (F2.out.below hb5 (by omega))
    have F9 := hide (F3.out.below hb5 (by omega))
    have F10 := hide ((hb5.block (w.heap.size) (by omega)).trans F4.out)
    clear hb5 F1 F2 F3 F4
    go_wp2
    go_ret
    exact ⟨rfl, F7.out⟩
  have hneg0 : ¬ q0 < 0 := by omega
  have hsm0 : small2 l0 := ⟨by omega, by omega⟩
  have HSM0 := hide hsm0
  have hmx0 : tot l0 ≤ 1048576 := by omega
  have hmy0 : l0.length ≤ 1048576 := by omega
  clear hsm0
  go_enter Tryd.func8, Tryd.ntmps8
  go_wp2_with fail
  generalize hX : (w.alloc (.cells #[v0, u0] 25)) = W0 at F1 F2 F3 F4 HZ0 ⊢
  have hz0 := Nat.le_of_eq HZ0.out.symm
  clear hX HZ0
  refine (szChips_c v0 u0 l0 m0 (1048576) W0 (F2.out.mono (by omega)) hlen0 hrow0 (F3.out.mono (by omega)) glen0 (by omega) (by omega)).mono ?_
  rw [HQ0.out]
  rintro e W1 ⟨rfl, hb5⟩
  have hz6 := hb5.size
  have F7 := hide (F1.out.trans (hb5.mono (by omega)))
  have F8 := hide (F2.out.below hb5 (by omega))
  have F9 := hide (F3.out.below hb5 (by omega))
  have F10 := hide ((hb5.block (w.heap.size) (by omega)).trans F4.out)
  clear hb5 F1 F2 F3 F4
  have hneg2 : ¬ (1 + (R.length : Int) < 0) := by omega
  have p11 := cells_at0 F10.out
  have p12 := cells_at1 F10.out
  go_wp2_with fail
  clear p11 p12
  refine (toChips_c v0 u0 l0 m0 W1 (F8.out.mono (by omega)) HSM0.out (F9.out.mono (by omega)) (by omega)).mono ?_
  rintro e W2 ⟨v13, u14, rfl, ho15, hb16⟩
  have hz17 := hb16.size
  have F18 := hide (F7.out.trans (hb16.mono (by omega)))
  have F19 := hide (F8.out.below hb16 (by omega))
  have F20 := hide (F9.out.below hb16 (by omega))
  have F21 := hide ((hb16.block (w.heap.size) (by omega)).trans F10.out)
  have hle22 : W1.heap.size + 3 ≤ W2.heap.size := (by obtain ⟨mm, h1, h2, _⟩ := ho15; omega)
  obtain ⟨q23, q24, q25⟩ := ho15.rows.shape
  obtain ⟨q26, q27, q28⟩ := ho15.ints.shape
  have F29 := hide (ho15)
  clear hb16 F7 F8 F9 F10 ho15
  subst q25
  subst q28
  have p30 := cells_at0 F21.out
  have p31 := cells_at1 F21.out
  go_wp2_with fail
  clear p30 p31
  refine (specMoveCounts_c _ _ l0 m0 W2 F29.out.rows HSM0.out F29.out.ints (by omega) (HT.out.belowB HT.out F18.out (Nat.le_refl _))).mono ?_
  rw [HR.out, HO.out]
  rintro e W3 ⟨v32, rfl, ho33, hb34⟩
  have hz35 := hb34.size
  have F36 := hide (F18.out.trans (hb34.mono (by omega)))
  have F37 := hide (F19.out.below hb34 (by omega))
  have F38 := hide (F20.out.below hb34 (by omega))
  have F39 := hide ((hb34.block (w.heap.size) (by omega)).trans F21.out)
  have F40 := hide (F29.out.kept hb34)
  obtain ⟨aa41, cc42, hv43⟩ := ho33.shape
  have F44 := hide (ho33)
  have B45 := hide (F44.out.base)
  have L46 := hide (F44.out.blockLt)
  clear hb34 F18 F19 F20 F21 F29 ho33
  subst hv43
  clear F40
  have p47 := cells_at0 F39.out
  have p48 := cells_at1 F39.out
  go_wp2_with fail
  clear p47 p48
  refine (toChips_c v0 u0 l0 m0 W3 (F37.out.mono (by omega)) HSM0.out (F38.out.mono (by omega)) (by omega)).mono ?_
  rintro e W4 ⟨v49, u50, rfl, ho51, hb52⟩
  have hz53 := hb52.size
  have F54 := hide (F36.out.trans (hb52.mono (by omega)))
  have F55 := hide (F37.out.below hb52 (by omega))
  have F56 := hide (F38.out.below hb52 (by omega))
  have F57 := hide ((hb52.block (w.heap.size) (by omega)).trans F39.out)
  have F58 := hide (F44.out.kept hb52)
  have hle59 : W3.heap.size + 3 ≤ W4.heap.size := (by obtain ⟨mm, h1, h2, _⟩ := ho51; omega)
  obtain ⟨q60, q61, q62⟩ := ho51.rows.shape
  obtain ⟨q63, q64, q65⟩ := ho51.ints.shape
  have F66 := hide (ho51)
  clear hb52 F36 F37 F38 F39 F44 ho51
  subst q62
  subst q65
  have F67 := hide (F54.out.alloc (by omega) (.cells #[.slice q60 l0.length q61, .slice q63 m0.length q64] 29))
  have F68 := hide (F55.out.alloc (.cells #[.slice q60 l0.length q61, .slice q63 m0.length q64] 29))
  have F69 := hide (F56.out.alloc (.cells #[.slice q60 l0.length q61, .slice q63 m0.length q64] 29))
  have F70 := hide ((hp_old W4 (.cells #[.slice q60 l0.length q61, .slice q63 m0.length q64] 29) (w.heap.size) (by omega)).trans F57.out)
  have F71 := hide (F58.out.alloc (.cells #[.slice q60 l0.length q61, .slice q63 m0.length q64] 29))
  have F72 := hide (F66.out.alloc (.cells #[.slice q60 l0.length q61, .slice q63 m0.length q64] 29))
  have F73 := hide (hp_last W4 (.cells #[.slice q60 l0.length q61, .slice q63 m0.length q64] 29))
  have HZ74 := hide (show (W4.alloc (.cells #[.slice q60 l0.length q61, .slice q63 m0.length q64] 29)).heap.size = W4.heap.size + 1 by simp)
  clear F54 F55 F56 F57 F58 F66
  have p75 := cells_at0 F70.out
  have p76 := cells_at1 F70.out
  have p77 := cells_at0 F73.out
  have p78 := cells_at1 F73.out
  go_wp2_with fail
  clear p75 p76 p77 p78
  generalize hX : W4.alloc (.cells #[.slice q60 l0.length q61, .slice q63 m0.length q64] 29) = W5 at F67 F68 F69 F70 F71 F72 F73 HZ74 ⊢
  have hz79 := Nat.le_of_eq HZ74.out.symm
  clear hX HZ74
  refine (implMoveCounts_c _ _ l0 m0 W5 F72.out.rows HSM0.out F72.out.ints (by omega) (HT.out.belowB HT.out F67.out (Nat.le_refl _))).mono ?_
  rw [HR.out, HO.out]
  rintro e W6 ⟨v80, rfl, ho81, hb82⟩
  have hz83 := hb82.size
  have F84 := hide (F67.out.trans (hb82.mono (by omega)))
  have F85 := hide (F68.out.below hb82 (by omega))
  have F86 := hide (F69.out.below hb82 (by omega))
  have F87 := hide ((hb82.block (w.heap.size) (by omega)).trans F70.out)
  have F88 := hide (F71.out.kept hb82)
  have F89 := hide (F72.out.kept hb82)
  have F90 := hide ((hb82.block (W4.heap.size) (by omega)).trans F73.out)
  obtain ⟨aa91, cc92, hv93⟩ := ho81.shape
  have F94 := hide (ho81)
  have B95 := hide (F94.out.base)
  have L96 := hide (F94.out.blockLt)
  clear hb82 F67 F68 F69 F70 F71 F72 F73 ho81
  subst hv93
  have p97 := cells_at0 F87.out
  have p98 := cells_at1 F87.out
  have p99 := cells_at0 F90.out
  have p100 := cells_at1 F90.out
  go_wp2_with fail
  clear p97 p98 p99 p100
  refine (eqIntS_same_c _ _ R W6 (F94.out.ints) (F88.out.ints) hRL).mono ?_
  rintro e W7 ⟨rfl, hb101⟩
  have hz102 := hb101.size
  have F103 := hide (F84.out.trans (hb101.mono (by omega)))
  have F104 := hide (F85.out.below hb101 (by omega))
  have F105 := hide (F86.out.below hb101 (by omega))
  have F106 := hide ((hb101.block (w.heap.size) (by omega)).trans F87.out)
  have F107 := hide (F88.out.kept hb101)
  have F108 := hide (F89.out.kept hb101)
  have F109 := hide ((hb101.block (W4.heap.size) (by omega)).trans F90.out)
  have F110 := hide (F94.out.kept hb101)
  clear hb101 F84 F85 F86 F87 F88 F89 F90 F94
  have p111 := cells_at0 F106.out
  have p112 := cells_at1 F106.out
  have p113 := cells_at0 F109.out
  have p114 := cells_at1 F109.out
  go_wp2
  clear p111 p112 p113 p114
  refine wp_region_held (S := Below W7.heap.size W7) (by kernel_rfl) ?_
  have hS : Below W7.heap.size W7 { W7 with drawn := W7.drawn + 1 } := (Below.refl _ _).drew
  refine wpAnyH_take (i := 0) rfl (by kernel_rfl) (by kernel_rfl) (by kernel_rfl) (fun _ _ _ h => h) (yields_load_two rowCp sizeCp rfl (.tmp _) rfl _ rfl _ _ (fun w' h => (h.cell (p := ⟨W4.heap.size, 0, none⟩) (by show W4.heap.size < _; omega)).trans (cells_at0 F109.out)) (fun w' h => (h.cell (p := ⟨W4.heap.size, 1, none⟩) (by show W4.heap.size < _; omega)).trans (cells_at1 F109.out))) hS ?_
  refine wpAnyH_take (i := 1) rfl (by kernel_rfl) (by kernel_rfl) (by kernel_rfl) (fun _ _ _ h => h) (yields_load_two rowCl sizeCl rfl (.tmp _) rfl _ rfl _ _ (fun w' h => (h.cell (p := ⟨w.heap.size, 0, none⟩) (by show w.heap.size < _; omega)).trans (cells_at0 F106.out)) (fun w' h => (h.cell (p := ⟨w.heap.size, 1, none⟩) (by show w.heap.size < _; omega)).trans (cells_at1 F106.out))) hS ?_
  refine anyH_call (i := 2) (by kernel_rfl) rfl rfl 14 ent_toChips _ _ rfl #[.agg #[v0, u0]] rfl (toChips_c v0 u0 l0 m0 _ ((F104.out.below hS (by omega)).mono (show w.heap.size ≤ W7.heap.size by omega)) HSM0.out ((F105.out.below hS (by omega)).mono (show w.heap.size ≤ W7.heap.size by omega)) (by omega)) ?_
  rintro e W8 ⟨gv, gu, rfl, hkr, hbr⟩
  have hzr : W7.heap.size ≤ W8.heap.size := hbr.size
  have hS6 : Below W7.heap.size W7 W8 := hS.trans hbr
  refine ⟨_, rfl, hS6, ?_⟩
  refine anyH_call (i := 3) (by kernel_rfl) rfl rfl 17 ent_eqChips _ _ rfl #[.agg #[.slice q60 l0.length q61, .slice q63 m0.length q64], .agg #[gv, gu]] rfl (eqChips_same_c _ _ _ _ l0 m0 W8 ((F108.out.kept hS6).rows) ((F108.out.kept hS6).ints) hkr.rows hkr.ints HSM0.out (by omega)) ?_
  rintro e W9 ⟨rfl, hbs⟩
  have hS7 : Below W7.heap.size W7 W9 := hS6.trans (hbs.mono hzr)
  refine ⟨_, rfl, hS7, ?_⟩
  refine anyH_op (i := 4) (by kernel_rfl) rfl rfl (.bool false) W9 ?hq hS7 ?_
  case hq => simp [go_sem, Act.put]
  refine wpAnyH_done (by kernel_rfl) ?_ _
  simp only [Act.put, List.getElem_toArray, List.getElem_cons_zero, List.getElem_cons_succ, List.setIfInBounds_toArray, List.set_cons_zero, List.set_cons_succ]
  have hz115 : W7.heap.size ≤ W9.heap.size := hS7.size
  have F116 := hide (F103.out.trans (hS7.mono (by omega)))
  have F117 := hide (F104.out.below hS7 (by omega))
  have F118 := hide (F105.out.below hS7 (by omega))
  have F119 := hide ((hS7.block (w.heap.size) (by omega)).trans F106.out)
  have F120 := hide (F107.out.kept hS7)
  have F121 := hide (F108.out.kept hS7)
  have F122 := hide ((hS7.block (W4.heap.size) (by omega)).trans F109.out)
  have F123 := hide (F110.out.kept hS7)
  clear hS hS6 hS7 hbr hbs hkr hzr F103 F104 F105 F106 F107 F108 F109 F110
  have p124 := cells_at0 F119.out
  have p125 := cells_at1 F119.out
  have p126 := cells_at0 F122.out
  have p127 := cells_at1 F122.out
  go_wp2_with fail
  clear p124 p125 p126 p127
  refine (markChipsT_c _ _ l0 m0 W9 _ _ F121.out HSM0.out (by omega) (by omega)).mono ?_
  rintro e W10 ⟨rfl, ho128⟩
  have hz129 := ho128.size
  have F130 := hide (F116.out.trans ((ho128.below (by omega)).mono (by omega)))
  have F131 := hide (F117.out.below (ho128.below (by omega)) (by omega))
  have F132 := hide (F118.out.below (ho128.below (by omega)) (by omega))
  have F133 := hide ((ho128.block (w.heap.size) (by omega) (by omega)).trans F119.out)
  have F134 := hide (F120.out.span ho128 (fun g hg => by have h1 := B45.out g hg; have h2 := L46.out g hg; omega))
  have F136 := hide ((ho128.block (W4.heap.size) (by omega) (by omega)).trans F122.out)
  have F137 := hide (F123.out.span ho128 (fun g hg => by have h1 := B95.out g hg; have h2 := L96.out g hg; omega))
  clear F116 F117 F118 F119 F120 F121 F122 F123 ho128
  have hneg3 : ¬ (1 + (tot l0 : Int) + (m0.length : Int) < 0) := by omega
  have p138 := cells_at0 F133.out
  have p139 := cells_at1 F133.out
  have p140 := cells_at0 F136.out
  have p141 := cells_at1 F136.out
  go_wp2_with fail
  clear p138 p139 p140 p141
  refine (eqIntS_same_c _ _ R W10 (F137.out.ints) (F134.out.ints) hRL).mono ?_
  rintro e W11 ⟨rfl, hb142⟩
  have hz143 := hb142.size
  have F144 := hide (F130.out.trans (hb142.mono (by omega)))
  have F145 := hide (F131.out.below hb142 (by omega))
  have F146 := hide (F132.out.below hb142 (by omega))
  have F147 := hide ((hb142.block (w.heap.size) (by omega)).trans F133.out)
  have F148 := hide (F134.out.kept hb142)
  have F149 := hide ((hb142.block (W4.heap.size) (by omega)).trans F136.out)
  have F150 := hide (F137.out.kept hb142)
  clear hb142 F130 F131 F132 F133 F134 F136 F137
  have p151 := cells_at0 F147.out
  have p152 := cells_at1 F147.out
  have p153 := cells_at0 F149.out
  have p154 := cells_at1 F149.out
  go_wp2_with fail
  clear p151 p152 p153 p154
  refine (markIntS_c _ R (1) W11 _ F150.out (by omega) (by omega) (by omega)).mono ?_
  rintro e W12 ⟨rfl, hn156, ho155⟩
  have hz157 := ho155.size
  have F158 := hide (F144.out.trans (ho155.below w.heap.size (fun g hg => by have := B95.out g hg; omega) (by omega)))
  have F159 := hide (F145.out.below (ho155.below (w.heap.size) (fun g hg => by have := B95.out g hg; omega) (by omega)) (Nat.le_refl _))
  have F160 := hide (F146.out.below (ho155.below w.heap.size (fun g hg => by have := B95.out g hg; omega) (by omega)) (Nat.le_refl _))
  have F161 := hide ((ho155.block (w.heap.size) (by omega) (fun e => by have h1 := B95.out _ e; have h2 := L96.out _ e; omega)).trans F147.out)
  have F162 := hide (F148.out.other ho155 (fun g hg e => by have h1 := B95.out _ e; have h2 := L96.out _ e; have h3 := B45.out _ hg; have h4 := L46.out _ hg; omega))
  have F163 := hide ((ho155.block (W4.heap.size) (by omega) (fun e => by have h1 := B95.out _ e; have h2 := L96.out _ e; omega)).trans F149.out)
  have F165 := hide hn156
  clear F144 F145 F146 F147 F148 F149 F150 hn156 ho155
  have p166 := cells_at0 F161.out
  have p167 := cells_at1 F161.out
  have p168 := cells_at0 F163.out
  have p169 := cells_at1 F163.out
  go_wp2_with fail
  clear p166 p167 p168 p169
  refine (heldIntS_c _ R.length 1 W12 (F165.out.ints) hRL (by omega) (by omega)).mono ?_
  rintro e _ ⟨rfl, rfl⟩
  have p170 := cells_at0 F161.out
  have p171 := cells_at1 F161.out
  have p172 := cells_at0 F163.out
  have p173 := cells_at1 F163.out
  go_wp2_with fail
  clear p170 p171 p172 p173
  refine (toChips_c v0 u0 l0 m0 W12 (F159.out.mono (by omega)) HSM0.out (F160.out.mono (by omega)) (by omega)).mono ?_
  rintro e W13 ⟨v174, u175, rfl, ho176, hb177⟩
  have hz178 := hb177.size
  have F179 := hide (F158.out.trans (hb177.mono (by omega)))
  have F180 := hide (F159.out.below hb177 (by omega))
  have F181 := hide (F160.out.below hb177 (by omega))
  have F182 := hide ((hb177.block (w.heap.size) (by omega)).trans F161.out)
  have F183 := hide (F162.out.kept hb177)
  have F184 := hide ((hb177.block (W4.heap.size) (by omega)).trans F163.out)
  have F185 := hide (F165.out.kept hb177)
  have hle186 : W12.heap.size + 3 ≤ W13.heap.size := (by obtain ⟨mm, h1, h2, _⟩ := ho176; omega)
  obtain ⟨q187, q188, q189⟩ := ho176.rows.shape
  obtain ⟨q190, q191, q192⟩ := ho176.ints.shape
  have F193 := hide (ho176)
  clear hb177 F158 F159 F160 F161 F162 F163 F165 ho176
  subst q189
  subst q192
  have p194 := cells_at0 F182.out
  have p195 := cells_at1 F182.out
  have p196 := cells_at0 F184.out
  have p197 := cells_at1 F184.out
  go_wp2_with fail
  clear p194 p195 p196 p197
  refine (implMoveCounts_c _ _ l0 m0 W13 F193.out.rows HSM0.out F193.out.ints (by omega) (HT.out.belowB HT.out F179.out (Nat.le_refl _))).mono ?_
  rw [HR.out, HO.out]
  rintro e W14 ⟨v198, rfl, ho199, hb200⟩
  have hz201 := hb200.size
  have F202 := hide (F179.out.trans (hb200.mono (by omega)))
  have F203 := hide (F180.out.below hb200 (by omega))
  have F204 := hide (F181.out.below hb200 (by omega))
  have F205 := hide ((hb200.block (w.heap.size) (by omega)).trans F182.out)
  have F206 := hide (F183.out.kept hb200)
  have F207 := hide ((hb200.block (W4.heap.size) (by omega)).trans F184.out)
  have F208 := hide (F185.out.kept hb200)
  have F209 := hide (F193.out.kept hb200)
  obtain ⟨aa210, cc211, hv212⟩ := ho199.shape
  have F213 := hide (ho199)
  have B214 := hide (F213.out.base)
  have L215 := hide (F213.out.blockLt)
  clear hb200 F179 F180 F181 F182 F183 F184 F185 F193 ho199
  subst hv212
  have p216 := cells_at0 F205.out
  have p217 := cells_at1 F205.out
  have p218 := cells_at0 F207.out
  have p219 := cells_at1 F207.out
  go_wp2_with fail
  clear p216 p217 p218 p219
  refine (eqIntS_same_c _ _ R W14 (F213.out.ints) (F206.out.ints) hRL).mono ?_
  rintro e W15 ⟨rfl, hb220⟩
  have hz221 := hb220.size
  have F222 := hide (F202.out.trans (hb220.mono (by omega)))
  have F223 := hide (F203.out.below hb220 (by omega))
  have F224 := hide (F204.out.below hb220 (by omega))
  have F225 := hide ((hb220.block (w.heap.size) (by omega)).trans F205.out)
  have F226 := hide (F206.out.kept hb220)
  have F227 := hide ((hb220.block (W4.heap.size) (by omega)).trans F207.out)
  have F228 := hide (F208.out.kept hb220)
  have F229 := hide (F209.out.kept hb220)
  have F230 := hide (F213.out.kept hb220)
  clear hb220 F202 F203 F204 F205 F206 F207 F208 F209 F213
  have p231 := cells_at0 F225.out
  have p232 := cells_at1 F225.out
  have p233 := cells_at0 F227.out
  have p234 := cells_at1 F227.out
  go_wp2_with fail
  clear p231 p232 p233 p234
  refine (heldIntS_c _ R.length 1 W15 (F228.out.ints) hRL (by omega) (by omega)).mono ?_
  rintro e _ ⟨rfl, rfl⟩
  have p235 := cells_at0 F225.out
  have p236 := cells_at1 F225.out
  have p237 := cells_at0 F227.out
  have p238 := cells_at1 F227.out
  go_wp2
  go_ret
  exact ⟨rfl, F222.out⟩

theorem ownK : ownKnob Tryd.prog.godebug = none := by kernel_rfl
theorem laidOut : laidOutB Tryd.prog = true := by kernel_rfl

/-- What a slice of int is, as it comes in. -/
theorem list_open {W : World} {v : Value} {l : List Int} (h : (v = .slice none 0 0 ∧ l = []) ∨ ∃ (a : Addr) (len c : Nat) (zs : List Int), v = .slice (some a) len c ∧ len ≤ zs.length ∧ len ≤ maxLen ∧ (∀ i, i < zs.length → W.cell? (a.add i) = some (.int .i64 (zs.getD i 0))) ∧ l = zs.take len) : ints W.heap.size W v l ∧ l.length ≤ 9223372036854775807 := by
  rcases h with ⟨rfl, rfl⟩ | ⟨x, len, c, zs, rfl, hlt, hm, hcell, rfl⟩
  · exact ⟨.inl ⟨rfl, none, 0, rfl⟩, by simp⟩
  · have htk : (zs.take len).length = len := by simp; omega
    refine ⟨?_, by unfold maxLen at hm; omega⟩
    rcases Nat.eq_zero_or_pos len with h0 | h0
    · subst h0
      exact .inl ⟨by simp, some x, c, rfl⟩
    · obtain ⟨b, off, rfl, hc⟩ := ints_at hcell (by omega)
      have hbl := block_lt_of_cell (hc 0 (by omega))
      refine .inr ⟨b, off, c, by rw [htk], hbl, hbl, fun j hj => ?_⟩
      rw [htk] at hj
      rw [hc j (by omega), List.getElem?_take, if_pos hj]
      rfl

/-- What chips are, as they come in. -/
theorem chips_open {H : Type} {enc : TypeId × Value → H} {W : World} {b0 : Nat} {v : Value} {d : DataW H} {p : List MemPlace}
    (hv : Value.okWide Tryd.prog W .any b0 25 v) (h : DataW.Trod enc Tryd.prog W 0 (fun _ => true) true 25 v d p) :
    ∃ (x u : Value) (M : List (List Int)) (l : List Int), v = .agg #[x, u] ∧ rows W.heap.size W x M ∧ M.length ≤ 9223372036854775807 ∧ (∀ j, j < M.length → (M[j]?.getD []).length ≤ 9223372036854775807) ∧ ints W.heap.size W u l ∧ l.length ≤ 9223372036854775807 := by
  obtain ⟨v0, v1, y0, y1, m, rfl, rfl, rfl, hy0, hy1⟩ := open_agg2 Tryd.underlying25 (by kernel_rfl) (by kernel_rfl) hv h
  have h0 : ∃ (x : Value) (M : List (List Int)), v0 = x ∧ rows W.heap.size W x M ∧ M.length ≤ 9223372036854775807 ∧ ∀ j, j < M.length → (M[j]?.getD []).length ≤ 9223372036854775807 := by
    rcases Go.Deep.open_int_rows Tryd.underlying22 Tryd.underlying23 Tryd.underlying3 (by kernel_rfl) (by kernel_rfl) hy0 with ⟨hcs, _⟩ | ⟨x, len, c, A, Ln, C, Z, hcs, _, hl, hm, _, hr⟩
    · simp at hcs
      subst hcs
      exact ⟨_, [], rfl, .inl ⟨rfl, none, 0, rfl⟩, by simp, fun j hj => by simp at hj⟩
    · simp at hcs
      subst hcs
      obtain ⟨h1, h2⟩ := rows_in hl hr
      exact ⟨_, _, rfl, h1, by simp; unfold maxLen at hm; omega, fun j hj => h2 j (by simpa using hj)⟩
  obtain ⟨x, M, rfl, hM1, hM2, hM3⟩ := h0
  rcases open_ints Tryd.underlying23 Tryd.underlying3 (by kernel_rfl) hy1 with ⟨hcs, _⟩ | ⟨x, len, c, zs, hcs, _, hl, hm, hz, _, hcell, hwz⟩
  · simp at hcs
    subst hcs
    obtain ⟨k1, k2⟩ := list_open (W := W) (v := .slice none 0 0) (l := []) (.inl ⟨rfl, rfl⟩)
    exact ⟨_, _, M, [], rfl, hM1, hM2, hM3, k1, k2⟩
  · simp at hcs
    subst hcs
    have hz' : zs.length = c := by simpa using hz
    obtain ⟨k1, k2⟩ := list_open (W := W) (v := .slice (some x) len c) (l := zs.take len) (.inr ⟨x, len, c, zs, rfl, by omega, by unfold maxLen at hm ⊢; omega, hcell, rfl⟩)
    exact ⟨_, _, M, zs.take len, rfl, hM1, hM2, hM3, k1, k2⟩


/-- What the card's condition gives: the table's cells. -/
theorem tab_of {W : World} (h : laidMetH Tryd.prog Rows.fnExactMoveCountsRow.laid W) : tab W := by
  rw [MakeChecks.laidMetH_plain _ _ _ (by kernel_rfl)] at h
  have h2 := h.tail
  have e : (Rows.laid_math_bits_deBruijn64tab : DataW Unit) = Lib.tabData .u8 (Lib.deBruijn64tab.map fun n : Nat => (n : Int)) := by kernel_rfl
  rw [e] at h2
  have hT := Lib.tabIs_of_head (g := 1) (t := 108) (e := 5) (n := 64) (by kernel_rfl) (by kernel_rfl) (by kernel_rfl) (by kernel_rfl) (by kernel_rfl) (by kernel_rfl) h2
  have hc : ∀ j, j < 64 → W.cell? ⟨1, j, none⟩ = some (.int .u8 (Lib.deBruijn64tab.getD j 0)) := by
    intro j hj
    have h3 := hT.cell (g := 1) (by kernel_rfl) j (by rw [show (Lib.deBruijn64tab.map fun n : Nat => (n : Int)).length = 64 by decide +kernel]; exact hj)
    rw [h3]
    have h4 : ∀ j, j < 64 → (Lib.deBruijn64tab.map fun n : Nat => (n : Int)).getD j 0 = (Lib.deBruijn64tab.getD j 0 : Int) := by decide +kernel
    rw [h4 j hj]
  exact ⟨block_lt_of_cell (hc 0 (by omega)), hc⟩
theorem door_met (os : Os) (args : Array Value) : laidMetH Tryd.prog Rows.fnExactMoveCountsRow.laid ((World.doorLaid Tryd.prog 400 os).forCall (fun _ _ => 0) ⟨#[], args, []⟩).memory :=
  laidMetH_of_parts3 (fuel := 8) (laidMet_of_run' 8 (by kernel_rfl) (by kernel_rfl)) (by kernel_rfl) (by kernel_rfl)

theorem lifted (os : Os) (started : os.Started) (H : Type) (enc : TypeId × Value → H) :
    ReturnsInHanded {} Tryd.checked os 8 .any (fun w args => (Rows.fnExactMoveCountsSpec.pre enc Tryd.prog Tryd.f8 [] false w args ∧ laidMetH Tryd.prog Rows.fnExactMoveCountsRow.laid w) ∧ sizedMet enc Tryd.prog Tryd.f8 (OpenSpec.ofChange Rows.fnExactMoveCountsSpec) false w args)
      (Rows.fnExactMoveCountsSpec.post enc Tryd.prog Tryd.f8 false true false false) := by
  refine returnsInHanded_of_change_and (C := Tryd.checked) (X := fun w _ => laidMetH Tryd.prog Rows.fnExactMoveCountsRow.laid w) (fun _ _ _ hh h => h.of_heap hh) ownK started (by kernel_rfl) Tryd.func8
    (ChangeSpec.witness_shaped (enc := enc) (C := Tryd.checked) (os := os) (X := fun w _ => laidMetH Tryd.prog Rows.fnExactMoveCountsRow.laid w) false (World.doorLaid Tryd.prog 400 os) #[.agg #[.slice none 0 0, .slice none 0 0]] 8 rfl (World.shaped_of_RefB (by kernel_rfl) (by kernel_rfl)) (by kernel_rfl) (by kernel_rfl) (by kernel_rfl) (door_met os _)) ?_
  intro W base args ds gs before hval0 hW _ _ hL _
  have hTab := tab_of hL
  have hval : ∀ (j : Nat) t v, Tryd.f8.params[j]? = some t → args[j]? = some v → Value.okWide Tryd.prog W .any base t v := hval0
  have hW' := hW
  obtain ⟨p, q, hA0, hV, rfl, hfz, hnd⟩ := hW
  have hA : DataW.TrodAll enc Tryd.prog W 0 (fun _ => true) true Tryd.f8.params.toList args.toList ds p := hA0
  rw [Tryd.params8] at hA hval
  obtain ⟨v0, vs0, d0, ds0, p0, q0, hargs, rfl, rfl, t0, r0⟩ := trodAll_cons hA
  obtain ⟨rfl, rfl, rfl⟩ := trodAll_nil r0
  obtain rfl : args = #[v0] := by cases args; simp_all
  obtain ⟨rfl, rfl⟩ := trodVars_none hV
  have k0 := t0
  have lt0 : ∀ x ∈ p0, x.block < W.heap.size := by obtain ⟨m, hm⟩ := k0; exact DataW.trod_lt m _ _ _ hm
  obtain ⟨c0, u0, l0, m0, rfl, i0, e0, f0, y0, z0⟩ := chips_open (hval 0 25 v0 rfl rfl) t0
  clear hA0 hval0
  refine (law_c c0 u0 l0 m0 W i0 e0 f0 y0 z0 hTab).mono fun e W' ⟨he, bel⟩ => ?_
  subst he
  exact ⟨_, rfl, _, _, _, [], _, [], hW', trodAll_mk1 (shut_bool Tryd.underlying4 _), (trodAll_cons_mk (Below.trod laidOut (by kernel_rfl) (of_decide_eq_true (by kernel_rfl)) k0 bel lt0) trodAll_mk0), rfl, bel.frame _, fun h => by cases h⟩

set_option maxHeartbeats 4000000 in
theorem over : Rows.fnExactMoveCountsRow.holds Tryd.pinned (OpenSpec.ofChange Rows.fnExactMoveCountsSpec) :=
  OpenClaim.holds_of_wide 8 Tryd.f8 rfl rfl rfl rfl rfl rfl rfl ⟨rfl, rfl, rfl, rfl, rfl⟩ rfl rfl rfl rfl rfl (by as_aux_lemma => kernel_rfl) Tryd.func8 (by as_aux_lemma => kernel_rfl)
    (of_decide_eq_true (by as_aux_lemma => kernel_rfl)) (by unfold Func.isWrapper; first | (rw [if_pos (by decide +kernel)]; kernel_rfl) | (rw [if_neg (by decide +kernel)]; exact ⟨rfl, rfl⟩))
    (fun os started H enc _ => lifted os started H enc)

set_option maxHeartbeats 8000000 in
theorem proved : Rows.FnExactMoveCountsCardSaid :=
  Claim7.holds_tied_plain_at .later [] [.data, .data] true _ false
    over (fun _ h => by cases h) (by as_aux_lemma => kernel_rfl) (fun _ h => by cases h) fnExactMoveCounts_row_tie rfl ⟨rfl, rfl⟩ (by as_aux_lemma => kernel_rfl) rfl
    (fun f fn hf hfn => by
      obtain rfl : f = 8 := Option.some.inj ((show Tryd.prog.funcNamed "loop.example/g01137/laws.FnExactMoveCounts" = some 8 by as_aux_lemma => kernel_rfl).symm.trans hf) |>.symm
      obtain rfl : fn = Tryd.f8 := (Option.some.inj (Tryd.func8.symm.trans hfn)).symm
      exact ⟨by as_aux_lemma => kernel_rfl, fun j t ht => by
        rw [Tryd.params8] at ht
        have hm : t ∈ [25] := by simpa using Array.mem_of_getElem? ht
        have hall : ([25].all fun u => !Tryd.prog.wantsStandIn u) = true := by as_aux_lemma => kernel_rfl
        exact (show Tryd.prog.wantsStandIn t = false by simpa using List.all_eq_true.1 hall t hm)⟩)
    (by as_aux_lemma => kernel_rfl)
#print axioms proved
end Go.Proofs.YtjmhmmenampgbaaDoor.FMoveCounts
