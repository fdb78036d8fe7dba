/- The program's EliminationOf answers as the specification's does, at every argument, leaves its arguments as they are, and its answer owns its memory: no condition. -/
import Derived.Test.YtonimjpfaalniaaDoorRows
import Derived.Test.YtonimjpfaalniaaDoorNe
import Derived.Test.YtonimjpfaalniaaDoorNu
import Derived.Test.YtonimjpfaalniaaDoorTie
import Derived.Test.YtonimjpfaalniaaDoorCards
import Derived.LaidMore
import Derived.Stop.Joined
import Derived.Stop.LaidErr
import Derived.Lib.LaidTab
import Derived.SevenTiedAt
import Derived.Test.YtonimjpfaalniaaDoorHar
import Derived.ProofKit
import Derived.OpenShut
import Derived.Lib.SmallJoins
namespace Go.Proofs.YtonimjpfaalniaaDoor.FEliminationOf
open Go.ChangeShapes Go.WideShapes Go.ChangeAt Go.RowKit Go.Joins
set_option linter.unusedVariables false
set_option linter.unusedSimpArgs false
set_option maxRecDepth 100000

set_option maxHeartbeats 4000000 in
theorem law_c (v0 : Value) (l0 : List Int) (w : World) (h0 : ints w.heap.size w v0 l0) (hlen0 : l0.length ≤ 9223372036854775807) (hT : tab w) :
    Calls Tryd.prog 12 #[.agg #[v0]] w fun e w' => e = .returned (.bool true) ∧ Below w.heap.size w w' := by
  have HT := hide hT
  clear hT
  have hRL := eoL_len l0
  generalize hR : eoL l0 = R at hRL
  generalize hO : cfB l0 = ok
  have HR := hide hR
  have HO := hide hO
  clear hR hO
  have F1 := hide (((Below.refl w.heap.size w).alloc (Nat.le_refl _) (.cells #[v0] 59)))
  have F2 := hide ((h0.alloc (.cells #[v0] 59)))
  have F3 := hide (show (w.alloc (.cells #[v0] 59)).heap[w.heap.size]? = some (.cells #[v0] 59) from (by have := hp_last w (.cells #[v0] 59); simpa using this))
  have HZ0 := hide (show (w.alloc (.cells #[v0] 59)).heap.size = w.heap.size + 1 by simp)
  clear h0
  have hsz0 : szOf 1048576 l0.length = -1 ∨ (0 ≤ szOf 1048576 l0.length ∧ szOf 1048576 l0.length ≤ 1048576 ∧ l0.length ≤ 1048576) := by unfold szOf; split <;> omega
  generalize hq0 : szOf 1048576 l0.length = q0 at hsz0
  have HQ0 := hide hq0
  clear hq0
  rcases hsz0 with hbig0 | ⟨hq0a, hq0b, hq0c⟩
  · have HBIG := hide hbig0
    have hneg : q0 < 0 := by omega
    clear hbig0
    go_enter Tryd.func12, Tryd.ntmps12
    go_wp2_with fail
    generalize hX : (w.alloc (.cells #[v0] 59)) = W0 at F1 F2 F3 HZ0 ⊢
    have hz0 := Nat.le_of_eq HZ0.out.symm
    clear hX HZ0
    refine (szNet_c v0 l0 (1048576) W0 (F2.out.mono (by omega)) hlen0 (by omega) (by omega)).mono ?_
    rw [HQ0.out]
    rintro e W1 ⟨rfl, hb4⟩
    have hz5 := hb4.size
    have F6 := hide (F1.out.trans (hb4.mono (by omega)))
    have F7 := hide (F2.out.below hb4 (by omega))
    have F8 := hide ((hb4.block (w.heap.size) (by omega)).trans F3.out)
    clear hb4 F1 F2 F3
    go_wp2
    go_ret
    exact ⟨rfl, F6.out⟩
  have hneg0 : ¬ q0 < 0 := by omega
  go_enter Tryd.func12, Tryd.ntmps12
  go_wp2_with fail
  generalize hX : (w.alloc (.cells #[v0] 59)) = W0 at F1 F2 F3 HZ0 ⊢
  have hz0 := Nat.le_of_eq HZ0.out.symm
  clear hX HZ0
  refine (szNet_c v0 l0 (1048576) W0 (F2.out.mono (by omega)) hlen0 (by omega) (by omega)).mono ?_
  rw [HQ0.out]
  rintro e W1 ⟨rfl, hb4⟩
  have hz5 := hb4.size
  have F6 := hide (F1.out.trans (hb4.mono (by omega)))
  have F7 := hide (F2.out.below hb4 (by omega))
  have F8 := hide ((hb4.block (w.heap.size) (by omega)).trans F3.out)
  clear hb4 F1 F2 F3
  have hneg2 : ¬ (1 + (R.length : Int) < 0) := by omega
  have p9 := cell1_at0 F8.out
  go_wp2_with fail
  clear p9
  refine (toNet_c v0 l0 W1 (F7.out.mono (by omega)) (by omega)).mono ?_
  rintro e W2 ⟨g10, rfl, hg11, hk12, hb13⟩
  have hz14 := hb13.size
  have F15 := hide (F6.out.trans (hb13.mono (by omega)))
  have F16 := hide (F7.out.below hb13 (by omega))
  have F17 := hide ((hb13.block (w.heap.size) (by omega)).trans F8.out)
  have F18 := hide (hk12.own hg11 (by unfold maxLen; omega))
  have B19 := hide (F18.out.base)
  have L20 := hide (F18.out.blockLt)
  clear hb13 F6 F7 F8 hk12 hg11
  have p21 := cell1_at0 F17.out
  go_wp2_with fail
  clear p21
  refine (specEliminationOf_c _ l0 W2 F18.out.ints (by omega) (HT.out.belowB HT.out F15.out (Nat.le_refl _))).mono ?_
  rw [HR.out, HO.out]
  rintro e W3 ⟨v22, rfl, ho23, hb24⟩
  have hz25 := hb24.size
  have F26 := hide (F15.out.trans (hb24.mono (by omega)))
  have F27 := hide (F16.out.below hb24 (by omega))
  have F28 := hide ((hb24.block (w.heap.size) (by omega)).trans F17.out)
  have F29 := hide (F18.out.kept hb24)
  obtain ⟨aa30, cc31, hv32⟩ := ho23.shape
  have F33 := hide (ho23)
  have B34 := hide (F33.out.base)
  have L35 := hide (F33.out.blockLt)
  clear hb24 F15 F16 F17 F18 ho23
  subst hv32
  clear F29
  clear B19 L20
  have p36 := cell1_at0 F28.out
  go_wp2_with fail
  clear p36
  refine (toNet_c v0 l0 W3 (F27.out.mono (by omega)) (by omega)).mono ?_
  rintro e W4 ⟨g37, rfl, hg38, hk39, hb40⟩
  have hz41 := hb40.size
  have F42 := hide (F26.out.trans (hb40.mono (by omega)))
  have F43 := hide (F27.out.below hb40 (by omega))
  have F44 := hide ((hb40.block (w.heap.size) (by omega)).trans F28.out)
  have F45 := hide (F33.out.kept hb40)
  have F46 := hide (hk39.own hg38 (by unfold maxLen; omega))
  have B47 := hide (F46.out.base)
  have L48 := hide (F46.out.blockLt)
  clear hb40 F26 F27 F28 F33 hk39 hg38
  have F49 := hide (F42.out.alloc (by omega) (.cells #[.slice (some ⟨g37, 0, none⟩) l0.length l0.length] 62))
  have F50 := hide (F43.out.alloc (.cells #[.slice (some ⟨g37, 0, none⟩) l0.length l0.length] 62))
  have F51 := hide ((hp_old W4 (.cells #[.slice (some ⟨g37, 0, none⟩) l0.length l0.length] 62) (w.heap.size) (by omega)).trans F44.out)
  have F52 := hide (F45.out.alloc (.cells #[.slice (some ⟨g37, 0, none⟩) l0.length l0.length] 62))
  have F53 := hide (F46.out.alloc (.cells #[.slice (some ⟨g37, 0, none⟩) l0.length l0.length] 62))
  have F54 := hide (hp_last W4 (.cells #[.slice (some ⟨g37, 0, none⟩) l0.length l0.length] 62))
  have HZ55 := hide (show (W4.alloc (.cells #[.slice (some ⟨g37, 0, none⟩) l0.length l0.length] 62)).heap.size = W4.heap.size + 1 by simp)
  clear F42 F43 F44 F45 F46
  have p56 := cell1_at0 F51.out
  have p57 := cell1_at0 F54.out
  go_wp2_with fail
  clear p56 p57
  generalize hX : W4.alloc (.cells #[.slice (some ⟨g37, 0, none⟩) l0.length l0.length] 62) = W5 at F49 F50 F51 F52 F53 F54 HZ55 ⊢
  have hz58 := Nat.le_of_eq HZ55.out.symm
  clear hX HZ55
  refine (implEliminationOf_c _ l0 W5 F53.out.ints (by omega) (HT.out.belowB HT.out F49.out (Nat.le_refl _))).mono ?_
  rw [HR.out, HO.out]
  rintro e W6 ⟨v59, rfl, ho60, hb61⟩
  have hz62 := hb61.size
  have F63 := hide (F49.out.trans (hb61.mono (by omega)))
  have F64 := hide (F50.out.below hb61 (by omega))
  have F65 := hide ((hb61.block (w.heap.size) (by omega)).trans F51.out)
  have F66 := hide (F52.out.kept hb61)
  have F67 := hide (F53.out.kept hb61)
  have F68 := hide ((hb61.block (W4.heap.size) (by omega)).trans F54.out)
  obtain ⟨aa69, cc70, hv71⟩ := ho60.shape
  have F72 := hide (ho60)
  have B73 := hide (F72.out.base)
  have L74 := hide (F72.out.blockLt)
  clear hb61 F49 F50 F51 F52 F53 F54 ho60
  subst hv71
  have p75 := cell1_at0 F65.out
  have p76 := cell1_at0 F68.out
  go_wp2_with fail
  clear p75 p76
  refine (eqIntS_same_c _ _ R W6 (F72.out.ints) (F66.out.ints) hRL).mono ?_
  rintro e W7 ⟨rfl, hb77⟩
  have hz78 := hb77.size
  have F79 := hide (F63.out.trans (hb77.mono (by omega)))
  have F80 := hide (F64.out.below hb77 (by omega))
  have F81 := hide ((hb77.block (w.heap.size) (by omega)).trans F65.out)
  have F82 := hide (F66.out.kept hb77)
  have F83 := hide (F67.out.kept hb77)
  have F84 := hide ((hb77.block (W4.heap.size) (by omega)).trans F68.out)
  have F85 := hide (F72.out.kept hb77)
  clear hb77 F63 F64 F65 F66 F67 F68 F72
  have p86 := cell1_at0 F81.out
  have p87 := cell1_at0 F84.out
  go_wp2
  clear p86 p87
  refine wp_region_held (S := Below W7.heap.size W7) (by kernel_rfl) ?_
  have hS : Below W7.heap.size W7 { W7 with drawn := W7.drawn + 1 } := (Below.refl _ _).drew
  refine wpAnyH_take (i := 0) rfl (by kernel_rfl) (by kernel_rfl) (by kernel_rfl) (fun _ _ _ h => h) (yields_load_one rowNp sizeNp rfl (.tmp _) rfl _ rfl _ (fun w' h => (h.cell (p := ⟨W4.heap.size, 0, none⟩) (by show W4.heap.size < _; omega)).trans (cell1_at0 F84.out))) hS ?_
  refine wpAnyH_take (i := 1) rfl (by kernel_rfl) (by kernel_rfl) (by kernel_rfl) (fun _ _ _ h => h) (yields_load_one rowNl sizeNl rfl (.tmp _) rfl _ rfl _ (fun w' h => (h.cell (p := ⟨w.heap.size, 0, none⟩) (by show w.heap.size < _; omega)).trans (cell1_at0 F81.out))) hS ?_
  refine anyH_call (i := 2) (by kernel_rfl) rfl rfl 48 ent_toNet _ _ rfl #[.agg #[v0]] rfl (toNet_c v0 l0 _ ((F80.out.below hS (by omega)).mono (show w.heap.size ≤ W7.heap.size by omega)) (by omega)) ?_
  rintro e W8 ⟨g88, rfl, hgr, hkr, hbr⟩
  have hzr : W7.heap.size ≤ W8.heap.size := hbr.size
  have hS6 : Below W7.heap.size W7 W8 := hS.trans hbr
  refine ⟨_, rfl, hS6, ?_⟩
  refine anyH_call (i := 3) (by kernel_rfl) rfl rfl 50 ent_eqNet _ _ rfl #[.agg #[.slice (some ⟨g37, 0, none⟩) l0.length l0.length], .agg #[.slice (some ⟨g88, 0, none⟩) l0.length l0.length]] rfl (eqNet_same_c _ _ l0 W8 ((F83.out.kept hS6).ints) (hkr.ints _) (by omega)) ?_
  rintro e W9 ⟨rfl, hbs⟩
  have hS7 : Below W7.heap.size W7 W9 := hS6.trans (hbs.mono hzr)
  refine ⟨_, rfl, hS7, ?_⟩
  refine anyH_op (i := 4) (by kernel_rfl) rfl rfl (.bool false) W9 ?hq hS7 ?_
  case hq => simp [go_sem, Act.put]
  refine wpAnyH_done (by kernel_rfl) ?_ _
  simp only [Act.put, List.getElem_toArray, List.getElem_cons_zero, List.getElem_cons_succ, List.setIfInBounds_toArray, List.set_cons_zero, List.set_cons_succ]
  have hz89 : W7.heap.size ≤ W9.heap.size := hS7.size
  have F90 := hide (F79.out.trans (hS7.mono (by omega)))
  have F91 := hide (F80.out.below hS7 (by omega))
  have F92 := hide ((hS7.block (w.heap.size) (by omega)).trans F81.out)
  have F93 := hide (F82.out.kept hS7)
  have F94 := hide (F83.out.kept hS7)
  have F95 := hide ((hS7.block (W4.heap.size) (by omega)).trans F84.out)
  have F96 := hide (F85.out.kept hS7)
  clear hS hS6 hS7 hbr hbs hkr hgr hzr F79 F80 F81 F82 F83 F84 F85
  have p97 := cell1_at0 F92.out
  have p98 := cell1_at0 F95.out
  go_wp2_with fail
  clear p97 p98
  refine (markNet_c _ l0 (1) W9 _ F94.out (by omega) (by omega) (by omega)).mono ?_
  rintro e W10 ⟨rfl, hn100, ho99⟩
  have hz101 := ho99.size
  have F102 := hide (F90.out.trans (ho99.below w.heap.size (fun g hg => by have := B47.out g hg; omega) (by omega)))
  have F103 := hide (F91.out.below (ho99.below w.heap.size (fun g hg => by have := B47.out g hg; omega) (by omega)) (Nat.le_refl _))
  have F104 := hide ((ho99.block (w.heap.size) (by omega) (fun e => by have h1 := B47.out _ e; have h2 := L48.out _ e; omega)).trans F92.out)
  have F105 := hide (F93.out.other ho99 (fun g hg e => by have h1 := B47.out _ e; have h2 := L48.out _ e; have h3 := B34.out _ hg; have h4 := L35.out _ hg; omega))
  have F107 := hide ((ho99.block (W4.heap.size) (by omega) (fun e => by have h1 := B47.out _ e; have h2 := L48.out _ e; omega)).trans F95.out)
  have F108 := hide (F96.out.other ho99 (fun g hg e => by have h1 := B47.out _ e; have h2 := L48.out _ e; have h3 := B73.out _ hg; have h4 := L74.out _ hg; omega))
  have F109 := hide hn100
  clear F90 F91 F92 F93 F94 F95 F96 hn100 ho99
  have hneg3 : ¬ (1 + (l0.length : Int) < 0) := by omega
  have p110 := cell1_at0 F104.out
  have p111 := cell1_at0 F107.out
  go_wp2_with fail
  clear p110 p111
  refine (eqIntS_same_c _ _ R W10 (F108.out.ints) (F105.out.ints) hRL).mono ?_
  rintro e W11 ⟨rfl, hb112⟩
  have hz113 := hb112.size
  have F114 := hide (F102.out.trans (hb112.mono (by omega)))
  have F115 := hide (F103.out.below hb112 (by omega))
  have F116 := hide ((hb112.block (w.heap.size) (by omega)).trans F104.out)
  have F117 := hide (F105.out.kept hb112)
  have F118 := hide (F109.out.kept hb112)
  have F119 := hide ((hb112.block (W4.heap.size) (by omega)).trans F107.out)
  have F120 := hide (F108.out.kept hb112)
  clear hb112 F102 F103 F104 F105 F109 F107 F108
  have p121 := cell1_at0 F116.out
  have p122 := cell1_at0 F119.out
  go_wp2_with fail
  clear p121 p122
  refine (markIntS_c _ R (1) W11 _ F120.out (by omega) (by omega) (by omega)).mono ?_
  rintro e W12 ⟨rfl, hn124, ho123⟩
  have hz125 := ho123.size
  have F126 := hide (F114.out.trans (ho123.below w.heap.size (fun g hg => by have := B73.out g hg; omega) (by omega)))
  have F127 := hide (F115.out.below (ho123.below w.heap.size (fun g hg => by have := B73.out g hg; omega) (by omega)) (Nat.le_refl _))
  have F128 := hide ((ho123.block (w.heap.size) (by omega) (fun e => by have h1 := B73.out _ e; have h2 := L74.out _ e; omega)).trans F116.out)
  have F129 := hide (F117.out.other ho123 (fun g hg e => by have h1 := B73.out _ e; have h2 := L74.out _ e; have h3 := B34.out _ hg; have h4 := L35.out _ hg; omega))
  have F130 := hide (F118.out.other ho123 (fun g hg e => by have h1 := B73.out _ e; have h2 := L74.out _ e; have h3 := B47.out _ hg; have h4 := L48.out _ hg; omega))
  have F131 := hide ((ho123.block (W4.heap.size) (by omega) (fun e => by have h1 := B73.out _ e; have h2 := L74.out _ e; omega)).trans F119.out)
  have F133 := hide hn124
  clear F114 F115 F116 F117 F118 F119 F120 hn124 ho123
  have p134 := cell1_at0 F128.out
  have p135 := cell1_at0 F131.out
  go_wp2_with fail
  clear p134 p135
  refine (heldIntS_c _ R.length 1 W12 (F133.out.ints) hRL (by omega) (by omega)).mono ?_
  rintro e _ ⟨rfl, rfl⟩
  clear F130
  clear B47 L48
  have p136 := cell1_at0 F128.out
  have p137 := cell1_at0 F131.out
  go_wp2_with fail
  clear p136 p137
  refine (toNet_c v0 l0 W12 (F127.out.mono (by omega)) (by omega)).mono ?_
  rintro e W13 ⟨g138, rfl, hg139, hk140, hb141⟩
  have hz142 := hb141.size
  have F143 := hide (F126.out.trans (hb141.mono (by omega)))
  have F144 := hide (F127.out.below hb141 (by omega))
  have F145 := hide ((hb141.block (w.heap.size) (by omega)).trans F128.out)
  have F146 := hide (F129.out.kept hb141)
  have F147 := hide ((hb141.block (W4.heap.size) (by omega)).trans F131.out)
  have F148 := hide (F133.out.kept hb141)
  have F149 := hide (hk140.own hg139 (by unfold maxLen; omega))
  have B150 := hide (F149.out.base)
  have L151 := hide (F149.out.blockLt)
  clear hb141 F126 F127 F128 F129 F131 F133 hk140 hg139
  have p152 := cell1_at0 F145.out
  have p153 := cell1_at0 F147.out
  go_wp2_with fail
  clear p152 p153
  refine (implEliminationOf_c _ l0 W13 F149.out.ints (by omega) (HT.out.belowB HT.out F143.out (Nat.le_refl _))).mono ?_
  rw [HR.out, HO.out]
  rintro e W14 ⟨v154, rfl, ho155, hb156⟩
  have hz157 := hb156.size
  have F158 := hide (F143.out.trans (hb156.mono (by omega)))
  have F159 := hide (F144.out.below hb156 (by omega))
  have F160 := hide ((hb156.block (w.heap.size) (by omega)).trans F145.out)
  have F161 := hide (F146.out.kept hb156)
  have F162 := hide ((hb156.block (W4.heap.size) (by omega)).trans F147.out)
  have F163 := hide (F148.out.kept hb156)
  have F164 := hide (F149.out.kept hb156)
  obtain ⟨aa165, cc166, hv167⟩ := ho155.shape
  have F168 := hide (ho155)
  have B169 := hide (F168.out.base)
  have L170 := hide (F168.out.blockLt)
  clear hb156 F143 F144 F145 F146 F147 F148 F149 ho155
  subst hv167
  have p171 := cell1_at0 F160.out
  have p172 := cell1_at0 F162.out
  go_wp2_with fail
  clear p171 p172
  refine (eqIntS_same_c _ _ R W14 (F168.out.ints) (F161.out.ints) hRL).mono ?_
  rintro e W15 ⟨rfl, hb173⟩
  have hz174 := hb173.size
  have F175 := hide (F158.out.trans (hb173.mono (by omega)))
  have F176 := hide (F159.out.below hb173 (by omega))
  have F177 := hide ((hb173.block (w.heap.size) (by omega)).trans F160.out)
  have F178 := hide (F161.out.kept hb173)
  have F179 := hide ((hb173.block (W4.heap.size) (by omega)).trans F162.out)
  have F180 := hide (F163.out.kept hb173)
  have F181 := hide (F164.out.kept hb173)
  have F182 := hide (F168.out.kept hb173)
  clear hb173 F158 F159 F160 F161 F162 F163 F164 F168
  have p183 := cell1_at0 F177.out
  have p184 := cell1_at0 F179.out
  go_wp2_with fail
  clear p183 p184
  refine (heldIntS_c _ R.length 1 W15 (F180.out.ints) hRL (by omega) (by omega)).mono ?_
  rintro e _ ⟨rfl, rfl⟩
  have p185 := cell1_at0 F177.out
  have p186 := cell1_at0 F179.out
  go_wp2
  go_ret
  exact ⟨rfl, F175.out⟩

theorem ownK : ownKnob Tryd.prog.godebug = none := by kernel_rfl
theorem laidOut : laidOutB Tryd.prog = true := by kernel_rfl

/-- What a slice of int is, as it comes in. -/
theorem list_open {W : World} {v : Value} {l : List Int} (h : (v = .slice none 0 0 ∧ l = []) ∨ ∃ (a : Addr) (len c : Nat) (zs : List Int), v = .slice (some a) len c ∧ len ≤ zs.length ∧ len ≤ maxLen ∧ (∀ i, i < zs.length → W.cell? (a.add i) = some (.int .i64 (zs.getD i 0))) ∧ l = zs.take len) : ints W.heap.size W v l ∧ l.length ≤ 9223372036854775807 := by
  rcases h with ⟨rfl, rfl⟩ | ⟨x, len, c, zs, rfl, hlt, hm, hcell, rfl⟩
  · exact ⟨.inl ⟨rfl, none, 0, rfl⟩, by simp⟩
  · have htk : (zs.take len).length = len := by simp; omega
    refine ⟨?_, by unfold maxLen at hm; omega⟩
    rcases Nat.eq_zero_or_pos len with h0 | h0
    · subst h0
      exact .inl ⟨by simp, some x, c, rfl⟩
    · obtain ⟨b, off, rfl, hc⟩ := ints_at hcell (by omega)
      have hbl := block_lt_of_cell (hc 0 (by omega))
      refine .inr ⟨b, off, c, by rw [htk], hbl, hbl, fun j hj => ?_⟩
      rw [htk] at hj
      rw [hc j (by omega), List.getElem?_take, if_pos hj]
      rfl

/-- What a struct of one slice of int is, as it comes in. -/
theorem net_open {H : Type} {enc : TypeId × Value → H} {W : World} {b0 : Nat} {v : Value} {d : DataW H} {p : List MemPlace}
    (hv : Value.okWide Tryd.prog W .any b0 59 v) (h : DataW.Trod enc Tryd.prog W 0 (fun _ => true) true 59 v d p) :
    ∃ (u : Value) (l : List Int), v = .agg #[u] ∧ ints W.heap.size W u l ∧ l.length ≤ 9223372036854775807 := by
  obtain ⟨v0, y0, m, rfl, rfl, rfl, hy0⟩ := open_agg1 Tryd.underlying59 (by kernel_rfl) (by kernel_rfl) hv h
  rcases open_ints Tryd.underlying22 Tryd.underlying3 (by kernel_rfl) hy0 with ⟨hcs, _⟩ | ⟨x, len, c, zs, hcs, _, hl, hm, hz, _, hcell, hwz⟩
  · simp at hcs
    subst hcs
    exact ⟨_, [], rfl, list_open (.inl ⟨rfl, rfl⟩)⟩
  · simp at hcs
    subst hcs
    have hz' : zs.length = c := by simpa using hz
    exact ⟨_, zs.take len, rfl, list_open (.inr ⟨x, len, c, zs, rfl, by omega, by unfold maxLen at hm ⊢; omega, hcell, rfl⟩)⟩


/-- What the card's condition gives: the table's cells. -/
theorem tab_of {W : World} (h : laidMetH Tryd.prog Rows.fnExactEliminationOfRow.laid W) : tab W := by
  rw [MakeChecks.laidMetH_plain _ _ _ (by kernel_rfl)] at h
  have h2 := h.tail
  have e : (Rows.laid_math_bits_deBruijn64tab : DataW Unit) = Lib.tabData .u8 (Lib.deBruijn64tab.map fun n : Nat => (n : Int)) := by kernel_rfl
  rw [e] at h2
  have hT := Lib.tabIs_of_head (g := 1) (t := 195) (e := 5) (n := 64) (by kernel_rfl) (by kernel_rfl) (by kernel_rfl) (by kernel_rfl) (by kernel_rfl) (by kernel_rfl) h2
  have hc : ∀ j, j < 64 → W.cell? ⟨1, j, none⟩ = some (.int .u8 (Lib.deBruijn64tab.getD j 0)) := by
    intro j hj
    have h3 := hT.cell (g := 1) (by kernel_rfl) j (by rw [show (Lib.deBruijn64tab.map fun n : Nat => (n : Int)).length = 64 by decide +kernel]; exact hj)
    rw [h3]
    have h4 : ∀ j, j < 64 → (Lib.deBruijn64tab.map fun n : Nat => (n : Int)).getD j 0 = (Lib.deBruijn64tab.getD j 0 : Int) := by decide +kernel
    rw [h4 j hj]
  exact ⟨block_lt_of_cell (hc 0 (by omega)), hc⟩
theorem door_met (os : Os) (args : Array Value) : laidMetH Tryd.prog Rows.fnExactEliminationOfRow.laid ((World.doorLaid Tryd.prog 400 os).forCall (fun _ _ => 0) ⟨#[], args, []⟩).memory :=
  laidMetH_of_parts3 (fuel := 8) (laidMet_of_run' 8 (by kernel_rfl) (by kernel_rfl)) (by kernel_rfl) (by kernel_rfl)

theorem lifted (os : Os) (started : os.Started) (H : Type) (enc : TypeId × Value → H) :
    ReturnsInHanded {} Tryd.checked os 12 .any (fun w args => (Rows.fnExactEliminationOfSpec.pre enc Tryd.prog Tryd.f12 [] false w args ∧ laidMetH Tryd.prog Rows.fnExactEliminationOfRow.laid w) ∧ sizedMet enc Tryd.prog Tryd.f12 (OpenSpec.ofChange Rows.fnExactEliminationOfSpec) false w args)
      (Rows.fnExactEliminationOfSpec.post enc Tryd.prog Tryd.f12 false true false false) := by
  refine returnsInHanded_of_change_and (C := Tryd.checked) (X := fun w _ => laidMetH Tryd.prog Rows.fnExactEliminationOfRow.laid w) (fun _ _ _ hh h => h.of_heap hh) ownK started (by kernel_rfl) Tryd.func12
    (ChangeSpec.witness_shaped (enc := enc) (C := Tryd.checked) (os := os) (X := fun w _ => laidMetH Tryd.prog Rows.fnExactEliminationOfRow.laid w) false (World.doorLaid Tryd.prog 400 os) #[.agg #[.slice none 0 0]] 8 rfl (World.shaped_of_RefB (by kernel_rfl) (by kernel_rfl)) (by kernel_rfl) (by kernel_rfl) (by kernel_rfl) (door_met os _)) ?_
  intro W base args ds gs before hval0 hW _ _ hL _
  have hTab := tab_of hL
  have hval : ∀ (j : Nat) t v, Tryd.f12.params[j]? = some t → args[j]? = some v → Value.okWide Tryd.prog W .any base t v := hval0
  have hW' := hW
  obtain ⟨p, q, hA0, hV, rfl, hfz, hnd⟩ := hW
  have hA : DataW.TrodAll enc Tryd.prog W 0 (fun _ => true) true Tryd.f12.params.toList args.toList ds p := hA0
  rw [Tryd.params12] at hA hval
  obtain ⟨v0, vs0, d0, ds0, p0, q0, hargs, rfl, rfl, t0, r0⟩ := trodAll_cons hA
  obtain ⟨rfl, rfl, rfl⟩ := trodAll_nil r0
  obtain rfl : args = #[v0] := by cases args; simp_all
  obtain ⟨rfl, rfl⟩ := trodVars_none hV
  have k0 := t0
  have lt0 : ∀ x ∈ p0, x.block < W.heap.size := by obtain ⟨m, hm⟩ := k0; exact DataW.trod_lt m _ _ _ hm
  obtain ⟨u0, l0, rfl, i0, e0⟩ := net_open (hval 0 59 v0 rfl rfl) t0
  clear hA0 hval0
  refine (law_c u0 l0 W i0 e0 hTab).mono fun e W' ⟨he, bel⟩ => ?_
  subst he
  exact ⟨_, rfl, _, _, _, [], _, [], hW', trodAll_mk1 (shut_bool Tryd.underlying4 _), (trodAll_cons_mk (Below.trod laidOut (by kernel_rfl) (of_decide_eq_true (by kernel_rfl)) k0 bel lt0) trodAll_mk0), rfl, bel.frame _, fun h => by cases h⟩

set_option maxHeartbeats 4000000 in
theorem over : Rows.fnExactEliminationOfRow.holds Tryd.pinned (OpenSpec.ofChange Rows.fnExactEliminationOfSpec) :=
  OpenClaim.holds_of_wide 12 Tryd.f12 rfl rfl rfl rfl rfl rfl rfl ⟨rfl, rfl, rfl, rfl, rfl⟩ rfl rfl rfl rfl rfl (by as_aux_lemma => kernel_rfl) Tryd.func12 (by as_aux_lemma => kernel_rfl)
    (of_decide_eq_true (by as_aux_lemma => kernel_rfl)) (by unfold Func.isWrapper; first | (rw [if_pos (by decide +kernel)]; kernel_rfl) | (rw [if_neg (by decide +kernel)]; exact ⟨rfl, rfl⟩))
    (fun os started H enc _ => lifted os started H enc)

set_option maxHeartbeats 8000000 in
theorem proved : Rows.FnExactEliminationOfCardSaid :=
  Claim7.holds_tied_plain_at .later [] [.data, .data] true _ false
    over (fun _ h => by cases h) (by as_aux_lemma => kernel_rfl) (fun _ h => by cases h) fnExactEliminationOf_row_tie rfl ⟨rfl, rfl⟩ (by as_aux_lemma => kernel_rfl) rfl
    (fun f fn hf hfn => by
      obtain rfl : f = 12 := Option.some.inj ((show Tryd.prog.funcNamed "loop.example/g01137/laws.FnExactEliminationOf" = some 12 by as_aux_lemma => kernel_rfl).symm.trans hf) |>.symm
      obtain rfl : fn = Tryd.f12 := (Option.some.inj (Tryd.func12.symm.trans hfn)).symm
      exact ⟨by as_aux_lemma => kernel_rfl, fun j t ht => by
        rw [Tryd.params12] at ht
        have hm : t ∈ [59] := by simpa using Array.mem_of_getElem? ht
        have hall : ([59].all fun u => !Tryd.prog.wantsStandIn u) = true := by as_aux_lemma => kernel_rfl
        exact (show Tryd.prog.wantsStandIn t = false by simpa using List.all_eq_true.1 hall t hm)⟩)
    (by as_aux_lemma => kernel_rfl)
#print axioms proved
end Go.Proofs.YtonimjpfaalniaaDoor.FEliminationOf
