/- The program's FirstDesk answers as the specification's does, at every argument, leaves its arguments as they are, and its answer owns its memory: no condition. -/
import Derived.Test.YtppojaekngeelaaRows
import Derived.Test.YtppojaekngeelaaDf
import Derived.Test.YtppojaekngeelaaHar
import Derived.ProofKit
import Derived.OpenShut
import Derived.Lib.SmallJoins
namespace Go.Proofs.Ytppojaekngeelaa.FFirstDesk
open Go.ChangeShapes Go.WideShapes Go.ChangeAt Go.RowKit Go.Joins
set_option linter.unusedVariables false
set_option linter.unusedSimpArgs false
set_option maxRecDepth 100000

set_option maxHeartbeats 4000000 in
theorem law_c  (w : World)  :
    Calls Try.prog 3 #[] w fun e w' => e = .returned (.bool true) ∧ Below w.heap.size w w' := by
  have hRL := dkF_len
  generalize hN : (3 : Int) = N
  generalize hR : dkF = R at hRL
  generalize hKN : (0 : Int) = KN
  have HN := hide hN
  have HR := hide hR
  have HKN := hide hKN
  clear hN hR hKN
  have F1 := hide ((Below.refl w.heap.size w))
  go_enter Try.func3, Try.ntmps3
  go_wp2_with fail
  have hneg2 : ¬ (1 + (R.length : Int) < 0) := by omega
  refine (specFirstDesk_c w).mono ?_
  rw [HN.out, HR.out, HKN.out]
  rintro e W1 ⟨v2, rfl, ho3, hb4⟩
  have hz5 := hb4.size
  have F6 := hide (F1.out.trans (hb4.mono (by omega)))
  obtain ⟨aa7, cc8, hv9⟩ := ho3.shape
  have F10 := hide (ho3)
  have B11 := hide (F10.out.base)
  have L12 := hide (F10.out.blockLt)
  clear hb4 F1 ho3
  subst hv9
  have F13 := hide (F6.out.alloc (by omega) (.cells #[.int .i64 N, .slice aa7 R.length cc8, .int .i64 KN] 26))
  have F14 := hide (F10.out.alloc (.cells #[.int .i64 N, .slice aa7 R.length cc8, .int .i64 KN] 26))
  have F15 := hide (hp_last W1 (.cells #[.int .i64 N, .slice aa7 R.length cc8, .int .i64 KN] 26))
  have HZ16 := hide (show (W1.alloc (.cells #[.int .i64 N, .slice aa7 R.length cc8, .int .i64 KN] 26)).heap.size = W1.heap.size + 1 by simp)
  clear F6 F10
  have p17 := cells3_at0 F15.out
  have p18 := cells3_at1 F15.out
  have p19 := cells3_at2 F15.out
  go_wp2_with fail
  clear p17 p18 p19
  generalize hX : W1.alloc (.cells #[.int .i64 N, .slice aa7 R.length cc8, .int .i64 KN] 26) = W2 at F13 F14 F15 HZ16 ⊢
  have hz20 := Nat.le_of_eq HZ16.out.symm
  clear hX HZ16
  refine (implFirstDesk_c W2).mono ?_
  rw [HN.out, HR.out, HKN.out]
  rintro e W3 ⟨v21, rfl, ho22, hb23⟩
  have hz24 := hb23.size
  have F25 := hide (F13.out.trans (hb23.mono (by omega)))
  have F26 := hide (F14.out.kept hb23)
  have F27 := hide ((hb23.block (W1.heap.size) (by omega)).trans F15.out)
  obtain ⟨aa28, cc29, hv30⟩ := ho22.shape
  have F31 := hide (ho22)
  have B32 := hide (F31.out.base)
  have L33 := hide (F31.out.blockLt)
  clear hb23 F13 F14 F15 ho22
  subst hv30
  have F34 := hide (F25.out.alloc (by omega) (.cells #[.int .i64 N, .slice aa28 R.length cc29, .int .i64 KN] 26))
  have F35 := hide (F26.out.alloc (.cells #[.int .i64 N, .slice aa28 R.length cc29, .int .i64 KN] 26))
  have F36 := hide ((hp_old W3 (.cells #[.int .i64 N, .slice aa28 R.length cc29, .int .i64 KN] 26) (W1.heap.size) (by omega)).trans F27.out)
  have F37 := hide (F31.out.alloc (.cells #[.int .i64 N, .slice aa28 R.length cc29, .int .i64 KN] 26))
  have F38 := hide (hp_last W3 (.cells #[.int .i64 N, .slice aa28 R.length cc29, .int .i64 KN] 26))
  have HZ39 := hide (show (W3.alloc (.cells #[.int .i64 N, .slice aa28 R.length cc29, .int .i64 KN] 26)).heap.size = W3.heap.size + 1 by simp)
  clear F25 F26 F27 F31
  have p40 := cells3_at0 F36.out
  have p41 := cells3_at1 F36.out
  have p42 := cells3_at2 F36.out
  have p43 := cells3_at0 F38.out
  have p44 := cells3_at1 F38.out
  have p45 := cells3_at2 F38.out
  go_wp2_with fail
  clear p40 p41 p42 p43 p44 p45
  generalize hX : W3.alloc (.cells #[.int .i64 N, .slice aa28 R.length cc29, .int .i64 KN] 26) = W4 at F34 F35 F36 F37 F38 HZ39 ⊢
  have hz46 := Nat.le_of_eq HZ39.out.symm
  clear hX HZ39
  refine (eqDesk_same_c N KN _ _ R W4 (F37.out.ints) (F35.out.ints) hRL).mono ?_
  rintro e W5 ⟨rfl, hb47⟩
  have hz48 := hb47.size
  have F49 := hide (F34.out.trans (hb47.mono (by omega)))
  have F50 := hide (F35.out.kept hb47)
  have F51 := hide ((hb47.block (W1.heap.size) (by omega)).trans F36.out)
  have F52 := hide (F37.out.kept hb47)
  have F53 := hide ((hb47.block (W3.heap.size) (by omega)).trans F38.out)
  clear hb47 F34 F35 F36 F37 F38
  have p54 := cells3_at0 F51.out
  have p55 := cells3_at1 F51.out
  have p56 := cells3_at2 F51.out
  have p57 := cells3_at0 F53.out
  have p58 := cells3_at1 F53.out
  have p59 := cells3_at2 F53.out
  go_wp2_with fail
  clear p54 p55 p56 p57 p58 p59
  refine (markDesk_c N _ R KN (1) W5 _ F52.out (by omega) (by omega) (by omega)).mono ?_
  rintro e W6 ⟨rfl, hn61, ho60⟩
  have hz62 := ho60.size
  have F63 := hide (F49.out.trans (ho60.below w.heap.size (fun g hg => by have := B32.out g hg; omega) (by omega)))
  have F64 := hide (F50.out.other ho60 (fun g hg e => by have h1 := B32.out _ e; have h2 := L33.out _ e; have h3 := B11.out _ hg; have h4 := L12.out _ hg; omega))
  have F65 := hide ((ho60.block (W1.heap.size) (by omega) (fun e => by have h1 := B32.out _ e; have h2 := L33.out _ e; omega)).trans F51.out)
  have F67 := hide ((ho60.block (W3.heap.size) (by omega) (fun e => by have h1 := B32.out _ e; have h2 := L33.out _ e; omega)).trans F53.out)
  have F68 := hide hn61
  clear F49 F50 F51 F52 F53 hn61 ho60
  have p69 := cells3_at0 F65.out
  have p70 := cells3_at1 F65.out
  have p71 := cells3_at2 F65.out
  have p72 := cells3_at0 F67.out
  have p73 := cells3_at1 F67.out
  have p74 := cells3_at2 F67.out
  go_wp2_with fail
  clear p69 p70 p71 p72 p73 p74
  refine (heldDesk_c N _ R.length KN 1 W6 (F68.out.ints) hRL (by omega) (by omega)).mono ?_
  rintro e W7 ⟨rfl, hb75⟩
  have hz76 := hb75.size
  have F77 := hide (F63.out.trans (hb75.mono (by omega)))
  have F78 := hide (F64.out.kept hb75)
  have F79 := hide ((hb75.block (W1.heap.size) (by omega)).trans F65.out)
  have F80 := hide (F68.out.kept hb75)
  have F81 := hide ((hb75.block (W3.heap.size) (by omega)).trans F67.out)
  clear hb75 F63 F64 F65 F68 F67
  have p82 := cells3_at0 F79.out
  have p83 := cells3_at1 F79.out
  have p84 := cells3_at2 F79.out
  have p85 := cells3_at0 F81.out
  have p86 := cells3_at1 F81.out
  have p87 := cells3_at2 F81.out
  go_wp2_with fail
  clear p82 p83 p84 p85 p86 p87
  refine (implFirstDesk_c W7).mono ?_
  rw [HN.out, HR.out, HKN.out]
  rintro e W8 ⟨v88, rfl, ho89, hb90⟩
  have hz91 := hb90.size
  have F92 := hide (F77.out.trans (hb90.mono (by omega)))
  have F93 := hide (F78.out.kept hb90)
  have F94 := hide ((hb90.block (W1.heap.size) (by omega)).trans F79.out)
  have F95 := hide (F80.out.kept hb90)
  have F96 := hide ((hb90.block (W3.heap.size) (by omega)).trans F81.out)
  obtain ⟨aa97, cc98, hv99⟩ := ho89.shape
  have F100 := hide (ho89)
  have B101 := hide (F100.out.base)
  have L102 := hide (F100.out.blockLt)
  clear hb90 F77 F78 F79 F80 F81 ho89
  subst hv99
  have F103 := hide (F92.out.alloc (by omega) (.cells #[.int .i64 N, .slice aa97 R.length cc98, .int .i64 KN] 26))
  have F104 := hide (F93.out.alloc (.cells #[.int .i64 N, .slice aa97 R.length cc98, .int .i64 KN] 26))
  have F105 := hide ((hp_old W8 (.cells #[.int .i64 N, .slice aa97 R.length cc98, .int .i64 KN] 26) (W1.heap.size) (by omega)).trans F94.out)
  have F106 := hide (F95.out.alloc (.cells #[.int .i64 N, .slice aa97 R.length cc98, .int .i64 KN] 26))
  have F107 := hide ((hp_old W8 (.cells #[.int .i64 N, .slice aa97 R.length cc98, .int .i64 KN] 26) (W3.heap.size) (by omega)).trans F96.out)
  have F108 := hide (F100.out.alloc (.cells #[.int .i64 N, .slice aa97 R.length cc98, .int .i64 KN] 26))
  have F109 := hide (hp_last W8 (.cells #[.int .i64 N, .slice aa97 R.length cc98, .int .i64 KN] 26))
  have HZ110 := hide (show (W8.alloc (.cells #[.int .i64 N, .slice aa97 R.length cc98, .int .i64 KN] 26)).heap.size = W8.heap.size + 1 by simp)
  clear F92 F93 F94 F95 F96 F100
  have p111 := cells3_at0 F105.out
  have p112 := cells3_at1 F105.out
  have p113 := cells3_at2 F105.out
  have p114 := cells3_at0 F107.out
  have p115 := cells3_at1 F107.out
  have p116 := cells3_at2 F107.out
  have p117 := cells3_at0 F109.out
  have p118 := cells3_at1 F109.out
  have p119 := cells3_at2 F109.out
  go_wp2_with fail
  clear p111 p112 p113 p114 p115 p116 p117 p118 p119
  generalize hX : W8.alloc (.cells #[.int .i64 N, .slice aa97 R.length cc98, .int .i64 KN] 26) = W9 at F103 F104 F105 F106 F107 F108 F109 HZ110 ⊢
  have hz120 := Nat.le_of_eq HZ110.out.symm
  clear hX HZ110
  refine (eqDesk_same_c N KN _ _ R W9 (F108.out.ints) (F104.out.ints) hRL).mono ?_
  rintro e W10 ⟨rfl, hb121⟩
  have hz122 := hb121.size
  have F123 := hide (F103.out.trans (hb121.mono (by omega)))
  have F124 := hide (F104.out.kept hb121)
  have F125 := hide ((hb121.block (W1.heap.size) (by omega)).trans F105.out)
  have F126 := hide (F106.out.kept hb121)
  have F127 := hide ((hb121.block (W3.heap.size) (by omega)).trans F107.out)
  have F128 := hide (F108.out.kept hb121)
  have F129 := hide ((hb121.block (W8.heap.size) (by omega)).trans F109.out)
  clear hb121 F103 F104 F105 F106 F107 F108 F109
  have p130 := cells3_at0 F125.out
  have p131 := cells3_at1 F125.out
  have p132 := cells3_at2 F125.out
  have p133 := cells3_at0 F127.out
  have p134 := cells3_at1 F127.out
  have p135 := cells3_at2 F127.out
  have p136 := cells3_at0 F129.out
  have p137 := cells3_at1 F129.out
  have p138 := cells3_at2 F129.out
  go_wp2_with fail
  clear p130 p131 p132 p133 p134 p135 p136 p137 p138
  refine (heldDesk_c N _ R.length KN 1 W10 (F126.out.ints) hRL (by omega) (by omega)).mono ?_
  rintro e W11 ⟨rfl, hb139⟩
  have hz140 := hb139.size
  have F141 := hide (F123.out.trans (hb139.mono (by omega)))
  have F142 := hide (F124.out.kept hb139)
  have F143 := hide ((hb139.block (W1.heap.size) (by omega)).trans F125.out)
  have F144 := hide (F126.out.kept hb139)
  have F145 := hide ((hb139.block (W3.heap.size) (by omega)).trans F127.out)
  have F146 := hide (F128.out.kept hb139)
  have F147 := hide ((hb139.block (W8.heap.size) (by omega)).trans F129.out)
  clear hb139 F123 F124 F125 F126 F127 F128 F129
  have p148 := cells3_at0 F143.out
  have p149 := cells3_at1 F143.out
  have p150 := cells3_at2 F143.out
  have p151 := cells3_at0 F145.out
  have p152 := cells3_at1 F145.out
  have p153 := cells3_at2 F145.out
  have p154 := cells3_at0 F147.out
  have p155 := cells3_at1 F147.out
  have p156 := cells3_at2 F147.out
  go_wp2
  go_ret
  exact ⟨rfl, F141.out⟩

theorem ownK : ownKnob Try.prog.godebug = none := by kernel_rfl
theorem laidOut : laidOutB Try.prog = true := by kernel_rfl

theorem lifted (os : Os) (started : os.Started) (H : Type) (enc : TypeId × Value → H) :
    ReturnsInHanded {} Try.checked os 3 .any (Rows.fnExactFirstDeskSpec.pre6 enc Try.prog Try.f3 Rows.fnExactFirstDeskRow.domain false) (Rows.fnExactFirstDeskSpec.post enc Try.prog Try.f3 false true false false) := by
  refine returnsInHanded_of_change (C := Try.checked) ownK started (by kernel_rfl) Try.func3
    (ChangeSpec.witness6 (enc := enc) (C := Try.checked) false ⟨#[], #[], []⟩ 8 (by kernel_rfl) (by kernel_rfl) (by kernel_rfl) (by kernel_rfl)) ?_
  intro W base args ds gs before hval0 hW hcnd _
  have hval : ∀ (j : Nat) t v, Try.f3.params[j]? = some t → args[j]? = some v → Value.okWide Try.prog W .any base t v := hval0
  have hW' := hW
  obtain ⟨p, q, hA0, hV, rfl, hfz, hnd⟩ := hW
  have hA : DataW.TrodAll enc Try.prog W 0 (fun _ => true) true Try.f3.params.toList args.toList ds p := hA0
  rw [Try.params3] at hA hval
  obtain ⟨hargs, rfl, rfl⟩ := trodAll_nil hA
  obtain rfl : args = #[] := by cases args; simp_all
  obtain ⟨rfl, rfl⟩ := trodVars_none hV
  clear hA0 hval0
  refine (law_c  W ).mono fun e W' ⟨he, bel⟩ => ?_
  subst he
  exact ⟨_, rfl, _, _, _, [], _, [], hW', trodAll_mk1 (shut_bool Try.underlying4 _), trodAll_mk0, rfl, bel.frame _, fun h => by cases h⟩

set_option maxHeartbeats 4000000 in
theorem over : Rows.fnExactFirstDeskRow.holds Try.pinned (OpenSpec.ofChange Rows.fnExactFirstDeskSpec) :=
  OpenClaim.holds_of_wide 3 Try.f3 rfl rfl rfl rfl rfl rfl rfl ⟨rfl, rfl, rfl, rfl, rfl⟩ rfl rfl rfl rfl rfl (by as_aux_lemma => kernel_rfl) Try.func3 (by as_aux_lemma => kernel_rfl)
    (of_decide_eq_true (by as_aux_lemma => kernel_rfl)) (by unfold Func.isWrapper; first | (rw [if_pos (by decide +kernel)]; kernel_rfl) | (rw [if_neg (by decide +kernel)]; exact ⟨rfl, rfl⟩))
    (fun os started H enc _ => lifted os started H enc)

theorem proved : Rows.FnExactFirstDeskSaid := over
#print axioms proved
end Go.Proofs.Ytppojaekngeelaa.FFirstDesk
