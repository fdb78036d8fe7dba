/- The program's FreeSpace answers as the specification's does, at every argument, leaves its arguments as they are, and its answer owns its memory: no condition. -/
import Derived.Test.YtonimjpfaalniaaRows
import Derived.Test.YtonimjpfaalniaaFs
import Derived.Test.YtonimjpfaalniaaHar
import Derived.ProofKit
import Derived.OpenShut
import Derived.Lib.SmallJoins
namespace Go.Proofs.Ytonimjpfaalniaa.FFreeSpace
open Go.ChangeShapes Go.WideShapes Go.ChangeAt Go.RowKit Go.Joins
set_option linter.unusedVariables false
set_option maxRecDepth 100000

set_option maxHeartbeats 4000000 in
theorem law_c (x0 : Int) (w : World)  :
    Calls Try.prog 12 #[.int .i64 x0] w fun e w' => e = .returned (.bool true) ∧ Below w.heap.size w w' := by
  have hRL := (frL_len x0)
  generalize hN : (frN x0) = N
  generalize hR : (frL x0) = R at hRL
  generalize hO : (frB x0) = ok
  have HN := hide hN
  have HR := hide hR
  have HO := hide hO
  clear hN hR hO
  have F1 := hide ((Below.refl w.heap.size w))
  go_enter Try.func12, Try.ntmps12
  go_wp2_with fail
  have hz0 := Nat.le_refl w.heap.size
  have hneg2 : ¬ (1 + (R.length : Int) < 0) := by omega
  refine (specFreeSpace_c x0 w).mono ?_
  rw [HN.out, HR.out, HO.out]
  rintro e W1 ⟨v2, rfl, ho3, hb4⟩
  have hz5 := hb4.size
  have F6 := hide (F1.out.trans (hb4.mono (by omega)))
  obtain ⟨aa7, cc8, hv9⟩ := ho3.shape
  have F10 := hide (ho3)
  have B11 := hide (F10.out.base)
  have L12 := hide (F10.out.blockLt)
  clear hb4 F1 ho3
  subst hv9
  have F13 := hide (F6.out.alloc (by omega) (.cells #[.int .i64 N, .slice aa7 R.length cc8] 28))
  have F14 := hide (F10.out.alloc (.cells #[.int .i64 N, .slice aa7 R.length cc8] 28))
  have F15 := hide (hp_last W1 (.cells #[.int .i64 N, .slice aa7 R.length cc8] 28))
  have HZ16 := hide (show (W1.alloc (.cells #[.int .i64 N, .slice aa7 R.length cc8] 28)).heap.size = W1.heap.size + 1 by simp)
  clear F6 F10
  have p17 := cells_at0 F15.out
  have p18 := cells_at1 F15.out
  go_wp2_with fail
  clear p17 p18
  generalize hX : W1.alloc (.cells #[.int .i64 N, .slice aa7 R.length cc8] 28) = W2 at F13 F14 F15 HZ16 ⊢
  have hz19 := Nat.le_of_eq HZ16.out.symm
  clear hX HZ16
  refine (implFreeSpace_c x0 W2).mono ?_
  rw [HN.out, HR.out, HO.out]
  rintro e W3 ⟨v20, rfl, ho21, hb22⟩
  have hz23 := hb22.size
  have F24 := hide (F13.out.trans (hb22.mono (by omega)))
  have F25 := hide (F14.out.kept hb22)
  have F26 := hide ((hb22.block (W1.heap.size) (by omega)).trans F15.out)
  obtain ⟨aa27, cc28, hv29⟩ := ho21.shape
  have F30 := hide (ho21)
  have B31 := hide (F30.out.base)
  have L32 := hide (F30.out.blockLt)
  clear hb22 F13 F14 F15 ho21
  subst hv29
  have F33 := hide (F24.out.alloc (by omega) (.cells #[.int .i64 N, .slice aa27 R.length cc28] 28))
  have F34 := hide (F25.out.alloc (.cells #[.int .i64 N, .slice aa27 R.length cc28] 28))
  have F35 := hide ((hp_old W3 (.cells #[.int .i64 N, .slice aa27 R.length cc28] 28) (W1.heap.size) (by omega)).trans F26.out)
  have F36 := hide (F30.out.alloc (.cells #[.int .i64 N, .slice aa27 R.length cc28] 28))
  have F37 := hide (hp_last W3 (.cells #[.int .i64 N, .slice aa27 R.length cc28] 28))
  have HZ38 := hide (show (W3.alloc (.cells #[.int .i64 N, .slice aa27 R.length cc28] 28)).heap.size = W3.heap.size + 1 by simp)
  clear F24 F25 F26 F30
  have p39 := cells_at0 F35.out
  have p40 := cells_at1 F35.out
  have p41 := cells_at0 F37.out
  have p42 := cells_at1 F37.out
  go_wp2_with fail
  clear p39 p40 p41 p42
  generalize hX : W3.alloc (.cells #[.int .i64 N, .slice aa27 R.length cc28] 28) = W4 at F33 F34 F35 F36 F37 HZ38 ⊢
  have hz43 := Nat.le_of_eq HZ38.out.symm
  clear hX HZ38
  refine (eqSpace_same_c N _ _ R W4 (F36.out.ints) (F34.out.ints) hRL).mono ?_
  rintro e W5 ⟨rfl, hb44⟩
  have hz45 := hb44.size
  have F46 := hide (F33.out.trans (hb44.mono (by omega)))
  have F47 := hide (F34.out.kept hb44)
  have F48 := hide ((hb44.block (W1.heap.size) (by omega)).trans F35.out)
  have F49 := hide (F36.out.kept hb44)
  have F50 := hide ((hb44.block (W3.heap.size) (by omega)).trans F37.out)
  clear hb44 F33 F34 F35 F36 F37
  have p51 := cells_at0 F48.out
  have p52 := cells_at1 F48.out
  have p53 := cells_at0 F50.out
  have p54 := cells_at1 F50.out
  go_wp2_with fail
  clear p51 p52 p53 p54
  refine (markSpace_c N _ R (1) W5 _ F49.out (by omega) (by omega) (by omega)).mono ?_
  rintro e W6 ⟨rfl, hn56, ho55⟩
  have hz57 := ho55.size
  have F58 := hide (F46.out.trans (ho55.below w.heap.size (fun g hg => by have := B31.out g hg; omega) (by omega)))
  have F59 := hide (F47.out.other ho55 (fun g hg e => by have h1 := B31.out _ e; have h2 := L32.out _ e; have h3 := B11.out _ hg; have h4 := L12.out _ hg; omega))
  have F60 := hide ((ho55.block (W1.heap.size) (by omega) (fun e => by have h1 := B31.out _ e; have h2 := L32.out _ e; omega)).trans F48.out)
  have F62 := hide ((ho55.block (W3.heap.size) (by omega) (fun e => by have h1 := B31.out _ e; have h2 := L32.out _ e; omega)).trans F50.out)
  have F63 := hide hn56
  clear F46 F47 F48 F49 F50 hn56 ho55
  have p64 := cells_at0 F60.out
  have p65 := cells_at1 F60.out
  have p66 := cells_at0 F62.out
  have p67 := cells_at1 F62.out
  go_wp2_with fail
  clear p64 p65 p66 p67
  refine (heldSpace_c N _ R.length 1 W6 (F63.out.ints) hRL (by omega) (by omega)).mono ?_
  rintro e W7 ⟨rfl, hb68⟩
  have hz69 := hb68.size
  have F70 := hide (F58.out.trans (hb68.mono (by omega)))
  have F71 := hide (F59.out.kept hb68)
  have F72 := hide ((hb68.block (W1.heap.size) (by omega)).trans F60.out)
  have F73 := hide (F63.out.kept hb68)
  have F74 := hide ((hb68.block (W3.heap.size) (by omega)).trans F62.out)
  clear hb68 F58 F59 F60 F63 F62
  have p75 := cells_at0 F72.out
  have p76 := cells_at1 F72.out
  have p77 := cells_at0 F74.out
  have p78 := cells_at1 F74.out
  go_wp2_with fail
  clear p75 p76 p77 p78
  refine (implFreeSpace_c x0 W7).mono ?_
  rw [HN.out, HR.out, HO.out]
  rintro e W8 ⟨v79, rfl, ho80, hb81⟩
  have hz82 := hb81.size
  have F83 := hide (F70.out.trans (hb81.mono (by omega)))
  have F84 := hide (F71.out.kept hb81)
  have F85 := hide ((hb81.block (W1.heap.size) (by omega)).trans F72.out)
  have F86 := hide (F73.out.kept hb81)
  have F87 := hide ((hb81.block (W3.heap.size) (by omega)).trans F74.out)
  obtain ⟨aa88, cc89, hv90⟩ := ho80.shape
  have F91 := hide (ho80)
  have B92 := hide (F91.out.base)
  have L93 := hide (F91.out.blockLt)
  clear hb81 F70 F71 F72 F73 F74 ho80
  subst hv90
  have F94 := hide (F83.out.alloc (by omega) (.cells #[.int .i64 N, .slice aa88 R.length cc89] 28))
  have F95 := hide (F84.out.alloc (.cells #[.int .i64 N, .slice aa88 R.length cc89] 28))
  have F96 := hide ((hp_old W8 (.cells #[.int .i64 N, .slice aa88 R.length cc89] 28) (W1.heap.size) (by omega)).trans F85.out)
  have F97 := hide (F86.out.alloc (.cells #[.int .i64 N, .slice aa88 R.length cc89] 28))
  have F98 := hide ((hp_old W8 (.cells #[.int .i64 N, .slice aa88 R.length cc89] 28) (W3.heap.size) (by omega)).trans F87.out)
  have F99 := hide (F91.out.alloc (.cells #[.int .i64 N, .slice aa88 R.length cc89] 28))
  have F100 := hide (hp_last W8 (.cells #[.int .i64 N, .slice aa88 R.length cc89] 28))
  have HZ101 := hide (show (W8.alloc (.cells #[.int .i64 N, .slice aa88 R.length cc89] 28)).heap.size = W8.heap.size + 1 by simp)
  clear F83 F84 F85 F86 F87 F91
  have p102 := cells_at0 F96.out
  have p103 := cells_at1 F96.out
  have p104 := cells_at0 F98.out
  have p105 := cells_at1 F98.out
  have p106 := cells_at0 F100.out
  have p107 := cells_at1 F100.out
  go_wp2_with fail
  clear p102 p103 p104 p105 p106 p107
  generalize hX : W8.alloc (.cells #[.int .i64 N, .slice aa88 R.length cc89] 28) = W9 at F94 F95 F96 F97 F98 F99 F100 HZ101 ⊢
  have hz108 := Nat.le_of_eq HZ101.out.symm
  clear hX HZ101
  refine (eqSpace_same_c N _ _ R W9 (F99.out.ints) (F95.out.ints) hRL).mono ?_
  rintro e W10 ⟨rfl, hb109⟩
  have hz110 := hb109.size
  have F111 := hide (F94.out.trans (hb109.mono (by omega)))
  have F112 := hide (F95.out.kept hb109)
  have F113 := hide ((hb109.block (W1.heap.size) (by omega)).trans F96.out)
  have F114 := hide (F97.out.kept hb109)
  have F115 := hide ((hb109.block (W3.heap.size) (by omega)).trans F98.out)
  have F116 := hide (F99.out.kept hb109)
  have F117 := hide ((hb109.block (W8.heap.size) (by omega)).trans F100.out)
  clear hb109 F94 F95 F96 F97 F98 F99 F100
  have p118 := cells_at0 F113.out
  have p119 := cells_at1 F113.out
  have p120 := cells_at0 F115.out
  have p121 := cells_at1 F115.out
  have p122 := cells_at0 F117.out
  have p123 := cells_at1 F117.out
  go_wp2_with fail
  clear p118 p119 p120 p121 p122 p123
  refine (heldSpace_c N _ R.length 1 W10 (F114.out.ints) hRL (by omega) (by omega)).mono ?_
  rintro e W11 ⟨rfl, hb124⟩
  have hz125 := hb124.size
  have F126 := hide (F111.out.trans (hb124.mono (by omega)))
  have F127 := hide (F112.out.kept hb124)
  have F128 := hide ((hb124.block (W1.heap.size) (by omega)).trans F113.out)
  have F129 := hide (F114.out.kept hb124)
  have F130 := hide ((hb124.block (W3.heap.size) (by omega)).trans F115.out)
  have F131 := hide (F116.out.kept hb124)
  have F132 := hide ((hb124.block (W8.heap.size) (by omega)).trans F117.out)
  clear hb124 F111 F112 F113 F114 F115 F116 F117
  have p133 := cells_at0 F128.out
  have p134 := cells_at1 F128.out
  have p135 := cells_at0 F130.out
  have p136 := cells_at1 F130.out
  have p137 := cells_at0 F132.out
  have p138 := cells_at1 F132.out
  go_wp2
  go_ret
  exact ⟨rfl, F126.out⟩

theorem ownK : ownKnob Try.prog.godebug = none := by kernel_rfl
theorem laidOut : laidOutB Try.prog = true := by kernel_rfl

theorem lifted (os : Os) (started : os.Started) (H : Type) (enc : TypeId × Value → H) :
    ReturnsInHanded {} Try.checked os 12 .any (Rows.fnExactFreeSpaceSpec.pre6 enc Try.prog Try.f12 Rows.fnExactFreeSpaceRow.domain false) (Rows.fnExactFreeSpaceSpec.post enc Try.prog Try.f12 false true false false) := by
  refine returnsInHanded_of_change (C := Try.checked) ownK started (by kernel_rfl) Try.func12
    (ChangeSpec.witness6 (enc := enc) (C := Try.checked) false ⟨#[], #[.int .i64 0], []⟩ 8 (by kernel_rfl) (by kernel_rfl) (by kernel_rfl) (by kernel_rfl)) ?_
  intro W base args ds gs before hval0 hW hcnd _
  have hval : ∀ (j : Nat) t v, Try.f12.params[j]? = some t → args[j]? = some v → Value.okWide Try.prog W .any base t v := hval0
  have hW' := hW
  obtain ⟨p, q, hA0, hV, rfl, hfz, hnd⟩ := hW
  have hA : DataW.TrodAll enc Try.prog W 0 (fun _ => true) true Try.f12.params.toList args.toList ds p := hA0
  rw [Try.params12] at hA hval
  obtain ⟨v0, vs0, d0, ds0, p0, q0, hargs, rfl, rfl, t0, r0⟩ := trodAll_cons hA
  obtain ⟨rfl, rfl, rfl⟩ := trodAll_nil r0
  obtain rfl : args = #[v0] := by cases args; simp_all
  obtain ⟨rfl, rfl⟩ := trodVars_none hV
  obtain ⟨a0, rfl, rfl, rfl, w0⟩ := open_int Try.underlying3 (hval 0 3 v0 rfl rfl) t0
  clear hA0 hval0
  refine (law_c a0 W ).mono fun e W' ⟨he, bel⟩ => ?_
  subst he
  exact ⟨_, rfl, _, _, _, [], _, [], hW', trodAll_mk1 (shut_bool Try.underlying4 _), (trodAll_cons_mk (shut_int Try.underlying3 w0) trodAll_mk0), rfl, bel.frame _, fun h => by cases h⟩

set_option maxHeartbeats 4000000 in
theorem over : Rows.fnExactFreeSpaceRow.holds Try.pinned (OpenSpec.ofChange Rows.fnExactFreeSpaceSpec) :=
  OpenClaim.holds_of_wide 12 Try.f12 rfl rfl rfl rfl rfl rfl rfl ⟨rfl, rfl, rfl, rfl, rfl⟩ rfl rfl rfl rfl rfl (by as_aux_lemma => kernel_rfl) Try.func12 (by as_aux_lemma => kernel_rfl)
    (of_decide_eq_true (by as_aux_lemma => kernel_rfl)) (by unfold Func.isWrapper; first | (rw [if_pos (by decide +kernel)]; kernel_rfl) | (rw [if_neg (by decide +kernel)]; exact ⟨rfl, rfl⟩))
    (fun os started H enc _ => lifted os started H enc)

theorem proved : Rows.FnExactFreeSpaceSaid := over
#print axioms proved
end Go.Proofs.Ytonimjpfaalniaa.FFreeSpace
