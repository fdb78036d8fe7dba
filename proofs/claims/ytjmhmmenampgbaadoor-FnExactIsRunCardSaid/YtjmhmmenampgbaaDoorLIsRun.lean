/- The program's IsRun answers as the specification's does, at every argument, leaves its arguments as they are, and its answer owns its memory: no condition. -/
import Derived.Test.YtjmhmmenampgbaaDoorRows
import Derived.Test.YtjmhmmenampgbaaDoorYt
import Derived.Test.YtjmhmmenampgbaaDoorYl
import Derived.Test.YtjmhmmenampgbaaDoorTie
import Derived.Test.YtjmhmmenampgbaaDoorCards
import Derived.LaidMore
import Derived.Stop.Joined
import Derived.Stop.LaidErr
import Derived.Lib.LaidTab
import Derived.SevenTiedAt
import Derived.Test.YtjmhmmenampgbaaDoorHar
import Derived.ProofKit
import Derived.OpenShut
import Derived.Lib.SmallJoins
namespace Go.Proofs.YtjmhmmenampgbaaDoor.FIsRun
open Go.ChangeShapes Go.WideShapes Go.ChangeAt Go.RowKit Go.Joins
set_option linter.unusedVariables false
set_option linter.unusedSimpArgs false
set_option maxRecDepth 100000

set_option maxHeartbeats 4000000 in
theorem law_c (v0 u0 : Value) (l0 : List (List Int)) (m0 : List Int) (v1 : Value) (l1 : List Int) (w : World) (h0 : rows w.heap.size w v0 l0) (hlen0 : l0.length ≤ 9223372036854775807) (hrow0 : ∀ j, j < l0.length → (l0[j]?.getD []).length ≤ 9223372036854775807) (g0 : ints w.heap.size w u0 m0) (glen0 : m0.length ≤ 9223372036854775807) (h1 : ints w.heap.size w v1 l1) (hlen1 : l1.length ≤ 9223372036854775807) (hT : tab w) :
    Calls Tryd.prog 6 #[.agg #[v0, u0], v1] w fun e w' => e = .returned (.bool true) ∧ Below w.heap.size w w' := by
  have HT := hide hT
  clear hT
  generalize hR : (irR l0 m0 l1) = R
  generalize hO : (irB l0 m0 l1) = ok
  have HR := hide hR
  have HO := hide hO
  clear hR hO
  have F1 := hide (((Below.refl w.heap.size w).alloc (Nat.le_refl _) (.cells #[v0, u0] 25)))
  have F2 := hide ((h0.alloc (.cells #[v0, u0] 25)))
  have F3 := hide ((h1.alloc (.cells #[v0, u0] 25)))
  have F4 := hide ((g0.alloc (.cells #[v0, u0] 25)))
  have F5 := hide (show (w.alloc (.cells #[v0, u0] 25)).heap[w.heap.size]? = some (.cells #[v0, u0] 25) from (by have := hp_last w (.cells #[v0, u0] 25); simpa using this))
  have HZ0 := hide (show (w.alloc (.cells #[v0, u0] 25)).heap.size = w.heap.size + 1 by simp)
  clear h0 g0 h1
  by_cases big1 : (1048576 : Int) < (l1.length : Int)
  · have big1n : 1048576 < l1.length := by omega
    go_enter Tryd.func6, Tryd.ntmps6
    go_wp2_with (first | (refine wpList_len sliceT rfl (.tmp _) rfl v1 rfl w.heap.size l1 F3.out ?_))
    go_ret
    exact ⟨rfl, F1.out⟩
  have big1n : ¬ 1048576 < l1.length := by omega
  have big1d : decide (1048576 < l1.length) = false := by simp; omega
  have hsz0 : szOf 1048576 (l0.length + tot l0 + m0.length) = -1 ∨ (0 ≤ szOf 1048576 (l0.length + tot l0 + m0.length) ∧ szOf 1048576 (l0.length + tot l0 + m0.length) ≤ 1048576 ∧ (l0.length + tot l0 + m0.length) ≤ 1048576) := by unfold szOf; split <;> omega
  generalize hq0 : szOf 1048576 (l0.length + tot l0 + m0.length) = q0 at hsz0
  have HQ0 := hide hq0
  clear hq0
  rcases hsz0 with hbig0 | ⟨hq0a, hq0b, hq0c⟩
  · have HBIG := hide hbig0
    have hneg : q0 < 0 := by omega
    clear hbig0
    go_enter Tryd.func6, Tryd.ntmps6
    go_wp2_with (first | (refine wpList_len sliceT rfl (.tmp _) rfl v1 rfl w.heap.size l1 F3.out ?_))
    generalize hX : (w.alloc (.cells #[v0, u0] 25)) = W0 at F1 F2 F3 F4 F5 HZ0 ⊢
    have hz0 := Nat.le_of_eq HZ0.out.symm
    clear hX HZ0
    refine (szChips_c v0 u0 l0 m0 (1048576) W0 (F2.out.mono (by omega)) hlen0 hrow0 (F4.out.mono (by omega)) glen0 (by omega) (by omega)).mono ?_
    rw [HQ0.out]
    rintro e W1 ⟨rfl, hb6⟩
    have hz7 := hb6.size
    have F8 := hide (F1.out.trans (hb6.mono (by omega)))
    have F9 := hide (F2.out.below hb6 (by omega))
    have F10 := hide (F3.out.below hb6 (by omega))
    have F11 := hide (F4.out.below hb6 (by omega))
    have F12 := hide ((hb6.block (w.heap.size) (by omega)).trans F5.out)
    clear hb6 F1 F2 F3 F4 F5
    go_wp2
    go_ret
    exact ⟨rfl, F8.out⟩
  have hneg0 : ¬ q0 < 0 := by omega
  have hsm0 : small2 l0 := ⟨by omega, by omega⟩
  have HSM0 := hide hsm0
  have hmx0 : tot l0 ≤ 1048576 := by omega
  have hmy0 : l0.length ≤ 1048576 := by omega
  clear hsm0
  go_enter Tryd.func6, Tryd.ntmps6
  go_wp2_with (first | (refine wpList_len sliceT rfl (.tmp _) rfl v1 rfl w.heap.size l1 F3.out ?_))
  generalize hX : (w.alloc (.cells #[v0, u0] 25)) = W0 at F1 F2 F3 F4 F5 HZ0 ⊢
  have hz0 := Nat.le_of_eq HZ0.out.symm
  clear hX HZ0
  refine (szChips_c v0 u0 l0 m0 (1048576) W0 (F2.out.mono (by omega)) hlen0 hrow0 (F4.out.mono (by omega)) glen0 (by omega) (by omega)).mono ?_
  rw [HQ0.out]
  rintro e W1 ⟨rfl, hb6⟩
  have hz7 := hb6.size
  have F8 := hide (F1.out.trans (hb6.mono (by omega)))
  have F9 := hide (F2.out.below hb6 (by omega))
  have F10 := hide (F3.out.below hb6 (by omega))
  have F11 := hide (F4.out.below hb6 (by omega))
  have F12 := hide ((hb6.block (w.heap.size) (by omega)).trans F5.out)
  clear hb6 F1 F2 F3 F4 F5
  have p13 := cells_at0 F12.out
  have p14 := cells_at1 F12.out
  go_wp2_with fail
  clear p13 p14
  refine (toChips_c v0 u0 l0 m0 W1 (F9.out.mono (by omega)) HSM0.out (F11.out.mono (by omega)) (by omega)).mono ?_
  rintro e W2 ⟨v15, u16, rfl, ho17, hb18⟩
  have hz19 := hb18.size
  have F20 := hide (F8.out.trans (hb18.mono (by omega)))
  have F21 := hide (F9.out.below hb18 (by omega))
  have F22 := hide (F10.out.below hb18 (by omega))
  have F23 := hide (F11.out.below hb18 (by omega))
  have F24 := hide ((hb18.block (w.heap.size) (by omega)).trans F12.out)
  have hle25 : W1.heap.size + 3 ≤ W2.heap.size := (by obtain ⟨mm, h1, h2, _⟩ := ho17; omega)
  obtain ⟨q26, q27, q28⟩ := ho17.rows.shape
  obtain ⟨q29, q30, q31⟩ := ho17.ints.shape
  have F32 := hide (ho17)
  clear hb18 F8 F9 F10 F11 F12 ho17
  subst q28
  subst q31
  have p33 := cells_at0 F24.out
  have p34 := cells_at1 F24.out
  go_wp2_with fail
  clear p33 p34
  refine (toIntS_c v1 l1 W2 (F22.out.mono (by omega)) (by omega)).mono ?_
  rintro e W3 ⟨rfl, hk35, hb36⟩
  have hz37 := hb36.size
  have F38 := hide (F20.out.trans (hb36.mono (by omega)))
  have F39 := hide (F21.out.below hb36 (by omega))
  have F40 := hide (F22.out.below hb36 (by omega))
  have F41 := hide (F23.out.below hb36 (by omega))
  have F42 := hide ((hb36.block (w.heap.size) (by omega)).trans F24.out)
  have F43 := hide (F32.out.kept hb36)
  have F44 := hide (hk35.own (Nat.le_refl _) (by unfold maxLen; omega))
  have B45 := hide (F44.out.base)
  have L46 := hide (F44.out.blockLt)
  clear hb36 F20 F21 F22 F23 F24 F32 hk35
  have p47 := cells_at0 F42.out
  have p48 := cells_at1 F42.out
  go_wp2_with fail
  clear p47 p48
  refine (specIsRun_c _ _ l0 m0 _ l1 W3 F43.out.rows HSM0.out F43.out.ints (by omega) F44.out.ints (by omega) (HT.out.belowB HT.out F38.out (Nat.le_refl _))).mono ?_
  rw [HR.out, HO.out]
  rintro e W4 ⟨rfl, hb49⟩
  have hz50 := hb49.size
  have F51 := hide (F38.out.trans (hb49.mono (by omega)))
  have F52 := hide (F39.out.below hb49 (by omega))
  have F53 := hide (F40.out.below hb49 (by omega))
  have F54 := hide (F41.out.below hb49 (by omega))
  have F55 := hide ((hb49.block (w.heap.size) (by omega)).trans F42.out)
  have F56 := hide (F43.out.kept hb49)
  have F57 := hide (F44.out.kept hb49)
  clear hb49 F38 F39 F40 F41 F42 F43 F44
  clear F56
  clear F57
  clear B45 L46
  have p58 := cells_at0 F55.out
  have p59 := cells_at1 F55.out
  go_wp2_with fail
  clear p58 p59
  refine (toChips_c v0 u0 l0 m0 W4 (F52.out.mono (by omega)) HSM0.out (F54.out.mono (by omega)) (by omega)).mono ?_
  rintro e W5 ⟨v60, u61, rfl, ho62, hb63⟩
  have hz64 := hb63.size
  have F65 := hide (F51.out.trans (hb63.mono (by omega)))
  have F66 := hide (F52.out.below hb63 (by omega))
  have F67 := hide (F53.out.below hb63 (by omega))
  have F68 := hide (F54.out.below hb63 (by omega))
  have F69 := hide ((hb63.block (w.heap.size) (by omega)).trans F55.out)
  have hle70 : W4.heap.size + 3 ≤ W5.heap.size := (by obtain ⟨mm, h1, h2, _⟩ := ho62; omega)
  obtain ⟨q71, q72, q73⟩ := ho62.rows.shape
  obtain ⟨q74, q75, q76⟩ := ho62.ints.shape
  have F77 := hide (ho62)
  clear hb63 F51 F52 F53 F54 F55 ho62
  subst q73
  subst q76
  have F78 := hide (F65.out.alloc (by omega) (.cells #[.slice q71 l0.length q72, .slice q74 m0.length q75] 29))
  have F79 := hide (F66.out.alloc (.cells #[.slice q71 l0.length q72, .slice q74 m0.length q75] 29))
  have F80 := hide (F67.out.alloc (.cells #[.slice q71 l0.length q72, .slice q74 m0.length q75] 29))
  have F81 := hide (F68.out.alloc (.cells #[.slice q71 l0.length q72, .slice q74 m0.length q75] 29))
  have F82 := hide ((hp_old W5 (.cells #[.slice q71 l0.length q72, .slice q74 m0.length q75] 29) (w.heap.size) (by omega)).trans F69.out)
  have F83 := hide (F77.out.alloc (.cells #[.slice q71 l0.length q72, .slice q74 m0.length q75] 29))
  have F84 := hide (hp_last W5 (.cells #[.slice q71 l0.length q72, .slice q74 m0.length q75] 29))
  have HZ85 := hide (show (W5.alloc (.cells #[.slice q71 l0.length q72, .slice q74 m0.length q75] 29)).heap.size = W5.heap.size + 1 by simp)
  clear F65 F66 F67 F68 F69 F77
  have p86 := cells_at0 F82.out
  have p87 := cells_at1 F82.out
  have p88 := cells_at0 F84.out
  have p89 := cells_at1 F84.out
  go_wp2_with fail
  clear p86 p87 p88 p89
  generalize hX : W5.alloc (.cells #[.slice q71 l0.length q72, .slice q74 m0.length q75] 29) = W6 at F78 F79 F80 F81 F82 F83 F84 HZ85 ⊢
  have hz90 := Nat.le_of_eq HZ85.out.symm
  clear hX HZ85
  refine (toIntS_c v1 l1 W6 (F80.out.mono (by omega)) (by omega)).mono ?_
  rintro e W7 ⟨rfl, hk91, hb92⟩
  have hz93 := hb92.size
  have F94 := hide (F78.out.trans (hb92.mono (by omega)))
  have F95 := hide (F79.out.below hb92 (by omega))
  have F96 := hide (F80.out.below hb92 (by omega))
  have F97 := hide (F81.out.below hb92 (by omega))
  have F98 := hide ((hb92.block (w.heap.size) (by omega)).trans F82.out)
  have F99 := hide (F83.out.kept hb92)
  have F100 := hide ((hb92.block (W5.heap.size) (by omega)).trans F84.out)
  have F101 := hide (hk91.own (Nat.le_refl _) (by unfold maxLen; omega))
  have B102 := hide (F101.out.base)
  have L103 := hide (F101.out.blockLt)
  clear hb92 F78 F79 F80 F81 F82 F83 F84 hk91
  have p104 := cells_at0 F98.out
  have p105 := cells_at1 F98.out
  have p106 := cells_at0 F100.out
  have p107 := cells_at1 F100.out
  go_wp2_with fail
  clear p104 p105 p106 p107
  refine (implIsRun_c _ _ l0 m0 _ l1 W7 F99.out.rows HSM0.out F99.out.ints (by omega) F101.out.ints (by omega) (HT.out.belowB HT.out F94.out (Nat.le_refl _))).mono ?_
  rw [HR.out, HO.out]
  rintro e W8 ⟨rfl, hb108⟩
  have hz109 := hb108.size
  have F110 := hide (F94.out.trans (hb108.mono (by omega)))
  have F111 := hide (F95.out.below hb108 (by omega))
  have F112 := hide (F96.out.below hb108 (by omega))
  have F113 := hide (F97.out.below hb108 (by omega))
  have F114 := hide ((hb108.block (w.heap.size) (by omega)).trans F98.out)
  have F115 := hide (F99.out.kept hb108)
  have F116 := hide ((hb108.block (W5.heap.size) (by omega)).trans F100.out)
  have F117 := hide (F101.out.kept hb108)
  clear hb108 F94 F95 F96 F97 F98 F99 F100 F101
  have p118 := cells_at0 F114.out
  have p119 := cells_at1 F114.out
  have p120 := cells_at0 F116.out
  have p121 := cells_at1 F116.out
  go_wp2
  clear p118 p119 p120 p121
  refine wp_region_held (S := Below W8.heap.size W8) (by kernel_rfl) ?_
  have hS : Below W8.heap.size W8 { W8 with drawn := W8.drawn + 1 } := (Below.refl _ _).drew
  refine wpAnyH_take (i := 0) rfl (by kernel_rfl) (by kernel_rfl) (by kernel_rfl) (fun _ _ _ h => h) (yields_load_two rowCp sizeCp rfl (.tmp _) rfl _ rfl _ _ (fun w' h => (h.cell (p := ⟨W5.heap.size, 0, none⟩) (by show W5.heap.size < _; omega)).trans (cells_at0 F116.out)) (fun w' h => (h.cell (p := ⟨W5.heap.size, 1, none⟩) (by show W5.heap.size < _; omega)).trans (cells_at1 F116.out))) hS ?_
  refine wpAnyH_take (i := 1) rfl (by kernel_rfl) (by kernel_rfl) (by kernel_rfl) (fun _ _ _ h => h) (yields_load_two rowCl sizeCl rfl (.tmp _) rfl _ rfl _ _ (fun w' h => (h.cell (p := ⟨w.heap.size, 0, none⟩) (by show w.heap.size < _; omega)).trans (cells_at0 F114.out)) (fun w' h => (h.cell (p := ⟨w.heap.size, 1, none⟩) (by show w.heap.size < _; omega)).trans (cells_at1 F114.out))) hS ?_
  refine anyH_call (i := 2) (by kernel_rfl) rfl rfl 14 ent_toChips _ _ rfl #[.agg #[v0, u0]] rfl (toChips_c v0 u0 l0 m0 _ ((F111.out.below hS (by omega)).mono (show w.heap.size ≤ W8.heap.size by omega)) HSM0.out ((F113.out.below hS (by omega)).mono (show w.heap.size ≤ W8.heap.size by omega)) (by omega)) ?_
  rintro e W9 ⟨gv, gu, rfl, hkr, hbr⟩
  have hzr : W8.heap.size ≤ W9.heap.size := hbr.size
  have hS6 : Below W8.heap.size W8 W9 := hS.trans hbr
  refine ⟨_, rfl, hS6, ?_⟩
  refine anyH_call (i := 3) (by kernel_rfl) rfl rfl 17 ent_eqChips _ _ rfl #[.agg #[.slice q71 l0.length q72, .slice q74 m0.length q75], .agg #[gv, gu]] rfl (eqChips_same_c _ _ _ _ l0 m0 W9 ((F115.out.kept hS6).rows) ((F115.out.kept hS6).ints) hkr.rows hkr.ints HSM0.out (by omega)) ?_
  rintro e W10 ⟨rfl, hbs⟩
  have hS7 : Below W8.heap.size W8 W10 := hS6.trans (hbs.mono hzr)
  refine ⟨_, rfl, hS7, ?_⟩
  refine anyH_op (i := 4) (by kernel_rfl) rfl rfl (.bool false) W10 ?hq hS7 ?_
  case hq => simp [go_sem, Act.put]
  refine wpAnyH_done (by kernel_rfl) ?_ _
  simp only [Act.put, List.getElem_toArray, List.getElem_cons_zero, List.getElem_cons_succ, List.setIfInBounds_toArray, List.set_cons_zero, List.set_cons_succ]
  have hz122 : W8.heap.size ≤ W10.heap.size := hS7.size
  have F123 := hide (F110.out.trans (hS7.mono (by omega)))
  have F124 := hide (F111.out.below hS7 (by omega))
  have F125 := hide (F112.out.below hS7 (by omega))
  have F126 := hide (F113.out.below hS7 (by omega))
  have F127 := hide ((hS7.block (w.heap.size) (by omega)).trans F114.out)
  have F128 := hide (F115.out.kept hS7)
  have F129 := hide ((hS7.block (W5.heap.size) (by omega)).trans F116.out)
  have F130 := hide (F117.out.kept hS7)
  clear hS hS6 hS7 hbr hbs hkr hzr F110 F111 F112 F113 F114 F115 F116 F117
  have p131 := cells_at0 F127.out
  have p132 := cells_at1 F127.out
  have p133 := cells_at0 F129.out
  have p134 := cells_at1 F129.out
  go_wp2_with fail
  clear p131 p132 p133 p134
  refine (toIntS_c v1 l1 W10 (F125.out.mono (by omega)) (by omega)).mono ?_
  rintro e W11 ⟨rfl, hk135, hb136⟩
  have hz137 := hb136.size
  have F138 := hide (F123.out.trans (hb136.mono (by omega)))
  have F139 := hide (F124.out.below hb136 (by omega))
  have F140 := hide (F125.out.below hb136 (by omega))
  have F141 := hide (F126.out.below hb136 (by omega))
  have F142 := hide ((hb136.block (w.heap.size) (by omega)).trans F127.out)
  have F143 := hide (F128.out.kept hb136)
  have F144 := hide ((hb136.block (W5.heap.size) (by omega)).trans F129.out)
  have F145 := hide (F130.out.kept hb136)
  have F146 := hide (hk135.own (Nat.le_refl _) (by unfold maxLen; omega))
  have B147 := hide (F146.out.base)
  have L148 := hide (F146.out.blockLt)
  clear hb136 F123 F124 F125 F126 F127 F128 F129 F130 hk135
  have p149 := cells_at0 F142.out
  have p150 := cells_at1 F142.out
  have p151 := cells_at0 F144.out
  have p152 := cells_at1 F144.out
  go_wp2_with fail
  clear p149 p150 p151 p152
  refine (eqIntS_same_c _ _ l1 W11 (F145.out.ints) (F146.out.ints) (by omega)).mono ?_
  rintro e W12 ⟨rfl, hb153⟩
  have hz154 := hb153.size
  have F155 := hide (F138.out.trans (hb153.mono (by omega)))
  have F156 := hide (F139.out.below hb153 (by omega))
  have F157 := hide (F140.out.below hb153 (by omega))
  have F158 := hide (F141.out.below hb153 (by omega))
  have F159 := hide ((hb153.block (w.heap.size) (by omega)).trans F142.out)
  have F160 := hide (F143.out.kept hb153)
  have F161 := hide ((hb153.block (W5.heap.size) (by omega)).trans F144.out)
  have F162 := hide (F145.out.kept hb153)
  have F163 := hide (F146.out.kept hb153)
  clear hb153 F138 F139 F140 F141 F142 F143 F144 F145 F146
  clear F163
  clear B147 L148
  have p164 := cells_at0 F159.out
  have p165 := cells_at1 F159.out
  have p166 := cells_at0 F161.out
  have p167 := cells_at1 F161.out
  go_wp2
  go_ret
  exact ⟨rfl, F155.out⟩

theorem ownK : ownKnob Tryd.prog.godebug = none := by kernel_rfl
theorem laidOut : laidOutB Tryd.prog = true := by kernel_rfl

/-- What a slice of int is, as it comes in. -/
theorem list_open {W : World} {v : Value} {l : List Int} (h : (v = .slice none 0 0 ∧ l = []) ∨ ∃ (a : Addr) (len c : Nat) (zs : List Int), v = .slice (some a) len c ∧ len ≤ zs.length ∧ len ≤ maxLen ∧ (∀ i, i < zs.length → W.cell? (a.add i) = some (.int .i64 (zs.getD i 0))) ∧ l = zs.take len) : ints W.heap.size W v l ∧ l.length ≤ 9223372036854775807 := by
  rcases h with ⟨rfl, rfl⟩ | ⟨x, len, c, zs, rfl, hlt, hm, hcell, rfl⟩
  · exact ⟨.inl ⟨rfl, none, 0, rfl⟩, by simp⟩
  · have htk : (zs.take len).length = len := by simp; omega
    refine ⟨?_, by unfold maxLen at hm; omega⟩
    rcases Nat.eq_zero_or_pos len with h0 | h0
    · subst h0
      exact .inl ⟨by simp, some x, c, rfl⟩
    · obtain ⟨b, off, rfl, hc⟩ := ints_at hcell (by omega)
      have hbl := block_lt_of_cell (hc 0 (by omega))
      refine .inr ⟨b, off, c, by rw [htk], hbl, hbl, fun j hj => ?_⟩
      rw [htk] at hj
      rw [hc j (by omega), List.getElem?_take, if_pos hj]
      rfl

/-- What chips are, as they come in. -/
theorem chips_open {H : Type} {enc : TypeId × Value → H} {W : World} {b0 : Nat} {v : Value} {d : DataW H} {p : List MemPlace}
    (hv : Value.okWide Tryd.prog W .any b0 25 v) (h : DataW.Trod enc Tryd.prog W 0 (fun _ => true) true 25 v d p) :
    ∃ (x u : Value) (M : List (List Int)) (l : List Int), v = .agg #[x, u] ∧ rows W.heap.size W x M ∧ M.length ≤ 9223372036854775807 ∧ (∀ j, j < M.length → (M[j]?.getD []).length ≤ 9223372036854775807) ∧ ints W.heap.size W u l ∧ l.length ≤ 9223372036854775807 := by
  obtain ⟨v0, v1, y0, y1, m, rfl, rfl, rfl, hy0, hy1⟩ := open_agg2 Tryd.underlying25 (by kernel_rfl) (by kernel_rfl) hv h
  have h0 : ∃ (x : Value) (M : List (List Int)), v0 = x ∧ rows W.heap.size W x M ∧ M.length ≤ 9223372036854775807 ∧ ∀ j, j < M.length → (M[j]?.getD []).length ≤ 9223372036854775807 := by
    rcases Go.Deep.open_int_rows Tryd.underlying22 Tryd.underlying23 Tryd.underlying3 (by kernel_rfl) (by kernel_rfl) hy0 with ⟨hcs, _⟩ | ⟨x, len, c, A, Ln, C, Z, hcs, _, hl, hm, _, hr⟩
    · simp at hcs
      subst hcs
      exact ⟨_, [], rfl, .inl ⟨rfl, none, 0, rfl⟩, by simp, fun j hj => by simp at hj⟩
    · simp at hcs
      subst hcs
      obtain ⟨h1, h2⟩ := rows_in hl hr
      exact ⟨_, _, rfl, h1, by simp; unfold maxLen at hm; omega, fun j hj => h2 j (by simpa using hj)⟩
  obtain ⟨x, M, rfl, hM1, hM2, hM3⟩ := h0
  rcases open_ints Tryd.underlying23 Tryd.underlying3 (by kernel_rfl) hy1 with ⟨hcs, _⟩ | ⟨x, len, c, zs, hcs, _, hl, hm, hz, _, hcell, hwz⟩
  · simp at hcs
    subst hcs
    obtain ⟨k1, k2⟩ := list_open (W := W) (v := .slice none 0 0) (l := []) (.inl ⟨rfl, rfl⟩)
    exact ⟨_, _, M, [], rfl, hM1, hM2, hM3, k1, k2⟩
  · simp at hcs
    subst hcs
    have hz' : zs.length = c := by simpa using hz
    obtain ⟨k1, k2⟩ := list_open (W := W) (v := .slice (some x) len c) (l := zs.take len) (.inr ⟨x, len, c, zs, rfl, by omega, by unfold maxLen at hm ⊢; omega, hcell, rfl⟩)
    exact ⟨_, _, M, zs.take len, rfl, hM1, hM2, hM3, k1, k2⟩

theorem slice_open {H : Type} {enc : TypeId × Value → H} {W : World} {b0 : Nat} {v : Value} {d : DataW H} {p : List MemPlace}
    (hv : Value.okWide Tryd.prog W .any b0 23 v) (h : DataW.Trod enc Tryd.prog W 0 (fun _ => true) true 23 v d p) :
    ∃ (l : List Int), ints W.heap.size W v l ∧ l.length ≤ 9223372036854775807 := by
  obtain ⟨a0, len0, cap0, rfl⟩ := okWide_slice Tryd.underlying23 hv
  obtain ⟨fuel, hf⟩ := h
  rcases open_ints Tryd.underlying23 Tryd.underlying3 (by kernel_rfl) hf with ⟨hcs, _⟩ | ⟨x, len, c, zs, hcs, _, hl, hm, hz, _, hcell, hwz⟩
  · simp [Value.cells] at hcs
    obtain ⟨rfl, rfl, rfl⟩ := hcs
    exact ⟨[], list_open (.inl ⟨rfl, rfl⟩)⟩
  · simp [Value.cells] at hcs
    obtain ⟨rfl, rfl, rfl⟩ := hcs
    have hz' : zs.length = cap0 := by simpa using hz
    exact ⟨zs.take len0, list_open (.inr ⟨x, len0, cap0, zs, rfl, by omega, by omega, hcell, rfl⟩)⟩


/-- What the card's condition gives: the table's cells. -/
theorem tab_of {W : World} (h : laidMetH Tryd.prog Rows.fnExactIsRunRow.laid W) : tab W := by
  rw [MakeChecks.laidMetH_plain _ _ _ (by kernel_rfl)] at h
  have h2 := h.tail
  have e : (Rows.laid_math_bits_deBruijn64tab : DataW Unit) = Lib.tabData .u8 (Lib.deBruijn64tab.map fun n : Nat => (n : Int)) := by kernel_rfl
  rw [e] at h2
  have hT := Lib.tabIs_of_head (g := 1) (t := 108) (e := 5) (n := 64) (by kernel_rfl) (by kernel_rfl) (by kernel_rfl) (by kernel_rfl) (by kernel_rfl) (by kernel_rfl) h2
  have hc : ∀ j, j < 64 → W.cell? ⟨1, j, none⟩ = some (.int .u8 (Lib.deBruijn64tab.getD j 0)) := by
    intro j hj
    have h3 := hT.cell (g := 1) (by kernel_rfl) j (by rw [show (Lib.deBruijn64tab.map fun n : Nat => (n : Int)).length = 64 by decide +kernel]; exact hj)
    rw [h3]
    have h4 : ∀ j, j < 64 → (Lib.deBruijn64tab.map fun n : Nat => (n : Int)).getD j 0 = (Lib.deBruijn64tab.getD j 0 : Int) := by decide +kernel
    rw [h4 j hj]
  exact ⟨block_lt_of_cell (hc 0 (by omega)), hc⟩
theorem door_met (os : Os) (args : Array Value) : laidMetH Tryd.prog Rows.fnExactIsRunRow.laid ((World.doorLaid Tryd.prog 400 os).forCall (fun _ _ => 0) ⟨#[], args, []⟩).memory :=
  laidMetH_of_parts3 (fuel := 8) (laidMet_of_run' 8 (by kernel_rfl) (by kernel_rfl)) (by kernel_rfl) (by kernel_rfl)

theorem lifted (os : Os) (started : os.Started) (H : Type) (enc : TypeId × Value → H) :
    ReturnsInHanded {} Tryd.checked os 6 .any (fun w args => (Rows.fnExactIsRunSpec.pre enc Tryd.prog Tryd.f6 [] false w args ∧ laidMetH Tryd.prog Rows.fnExactIsRunRow.laid w) ∧ sizedMet enc Tryd.prog Tryd.f6 (OpenSpec.ofChange Rows.fnExactIsRunSpec) false w args)
      (Rows.fnExactIsRunSpec.post enc Tryd.prog Tryd.f6 false true false false) := by
  refine returnsInHanded_of_change_and (C := Tryd.checked) (X := fun w _ => laidMetH Tryd.prog Rows.fnExactIsRunRow.laid w) (fun _ _ _ hh h => h.of_heap hh) ownK started (by kernel_rfl) Tryd.func6
    (ChangeSpec.witness_shaped (enc := enc) (C := Tryd.checked) (os := os) (X := fun w _ => laidMetH Tryd.prog Rows.fnExactIsRunRow.laid w) false (World.doorLaid Tryd.prog 400 os) #[.agg #[.slice none 0 0, .slice none 0 0], .slice none 0 0] 8 rfl (World.shaped_of_RefB (by kernel_rfl) (by kernel_rfl)) (by kernel_rfl) (by kernel_rfl) (by kernel_rfl) (door_met os _)) ?_
  intro W base args ds gs before hval0 hW _ _ hL _
  have hTab := tab_of hL
  have hval : ∀ (j : Nat) t v, Tryd.f6.params[j]? = some t → args[j]? = some v → Value.okWide Tryd.prog W .any base t v := hval0
  have hW' := hW
  obtain ⟨p, q, hA0, hV, rfl, hfz, hnd⟩ := hW
  have hA : DataW.TrodAll enc Tryd.prog W 0 (fun _ => true) true Tryd.f6.params.toList args.toList ds p := hA0
  rw [Tryd.params6] at hA hval
  obtain ⟨v0, vs0, d0, ds0, p0, q0, hargs, rfl, rfl, t0, r0⟩ := trodAll_cons hA
  obtain ⟨v1, vs1, d1, ds1, p1, q1, rfl, rfl, rfl, t1, r1⟩ := trodAll_cons r0
  obtain ⟨rfl, rfl, rfl⟩ := trodAll_nil r1
  obtain rfl : args = #[v0, v1] := by cases args; simp_all
  obtain ⟨rfl, rfl⟩ := trodVars_none hV
  have k0 := t0
  have lt0 : ∀ x ∈ p0, x.block < W.heap.size := by obtain ⟨m, hm⟩ := k0; exact DataW.trod_lt m _ _ _ hm
  obtain ⟨c0, u0, l0, m0, rfl, i0, e0, f0, y0, z0⟩ := chips_open (hval 0 25 v0 rfl rfl) t0
  have k1 := t1
  have lt1 : ∀ x ∈ p1, x.block < W.heap.size := by obtain ⟨m, hm⟩ := k1; exact DataW.trod_lt m _ _ _ hm
  obtain ⟨l1, i1, e1⟩ := slice_open (hval 1 23 v1 rfl rfl) t1
  clear hA0 hval0
  refine (law_c c0 u0 l0 m0 v1 l1 W i0 e0 f0 y0 z0 i1 e1 hTab).mono fun e W' ⟨he, bel⟩ => ?_
  subst he
  exact ⟨_, rfl, _, _, _, [], _, [], hW', trodAll_mk1 (shut_bool Tryd.underlying4 _), (trodAll_cons_mk (Below.trod laidOut (by kernel_rfl) (of_decide_eq_true (by kernel_rfl)) k0 bel lt0) (trodAll_cons_mk (Below.trod laidOut (by kernel_rfl) (of_decide_eq_true (by kernel_rfl)) k1 bel lt1) trodAll_mk0)), rfl, bel.frame _, fun h => by cases h⟩

set_option maxHeartbeats 4000000 in
theorem over : Rows.fnExactIsRunRow.holds Tryd.pinned (OpenSpec.ofChange Rows.fnExactIsRunSpec) :=
  OpenClaim.holds_of_wide 6 Tryd.f6 rfl rfl rfl rfl rfl rfl rfl ⟨rfl, rfl, rfl, rfl, rfl⟩ rfl rfl rfl rfl rfl (by as_aux_lemma => kernel_rfl) Tryd.func6 (by as_aux_lemma => kernel_rfl)
    (of_decide_eq_true (by as_aux_lemma => kernel_rfl)) (by unfold Func.isWrapper; first | (rw [if_pos (by decide +kernel)]; kernel_rfl) | (rw [if_neg (by decide +kernel)]; exact ⟨rfl, rfl⟩))
    (fun os started H enc _ => lifted os started H enc)

set_option maxHeartbeats 8000000 in
theorem proved : Rows.FnExactIsRunCardSaid :=
  Claim7.holds_tied_plain_at .later [] [.data, .data] true _ false
    over (fun _ h => by cases h) (by as_aux_lemma => kernel_rfl) (fun _ h => by cases h) fnExactIsRun_row_tie rfl ⟨rfl, rfl⟩ (by as_aux_lemma => kernel_rfl) rfl
    (fun f fn hf hfn => by
      obtain rfl : f = 6 := Option.some.inj ((show Tryd.prog.funcNamed "loop.example/g01137/laws.FnExactIsRun" = some 6 by as_aux_lemma => kernel_rfl).symm.trans hf) |>.symm
      obtain rfl : fn = Tryd.f6 := (Option.some.inj (Tryd.func6.symm.trans hfn)).symm
      exact ⟨by as_aux_lemma => kernel_rfl, fun j t ht => by
        rw [Tryd.params6] at ht
        have hm : t ∈ [25, 23] := by simpa using Array.mem_of_getElem? ht
        have hall : ([25, 23].all fun u => !Tryd.prog.wantsStandIn u) = true := by as_aux_lemma => kernel_rfl
        exact (show Tryd.prog.wantsStandIn t = false by simpa using List.all_eq_true.1 hall t hm)⟩)
    (by as_aux_lemma => kernel_rfl)
#print axioms proved
end Go.Proofs.YtjmhmmenampgbaaDoor.FIsRun
