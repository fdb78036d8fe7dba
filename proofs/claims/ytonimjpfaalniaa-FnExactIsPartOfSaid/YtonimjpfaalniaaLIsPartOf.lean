/- The program's IsPartOf answers as the specification's does, at every argument, leaves its arguments as they are, and its answer owns its memory: no condition. -/
import Derived.Test.YtonimjpfaalniaaRows
import Derived.Test.YtonimjpfaalniaaCo
import Derived.Test.YtonimjpfaalniaaTw
import Derived.Test.YtonimjpfaalniaaHar
import Derived.ProofKit
import Derived.OpenShut
import Derived.Lib.SmallJoins
namespace Go.Proofs.Ytonimjpfaalniaa.FIsPartOf
open Go.ChangeShapes Go.WideShapes Go.ChangeAt Go.RowKit Go.Joins
set_option linter.unusedVariables false
set_option linter.unusedSimpArgs false
set_option maxRecDepth 100000

set_option maxHeartbeats 4000000 in
theorem law_c (n0 : Int) (v0 : Value) (l0 : List Int) (n1 : Int) (v1 : Value) (l1 : List Int) (w : World) (h0 : ints w.heap.size w v0 l0) (hlen0 : l0.length ≤ 9223372036854775807) (h1 : ints w.heap.size w v1 l1) (hlen1 : l1.length ≤ 9223372036854775807) :
    Calls Try.prog 9 #[.agg #[.int .i64 n0, v0], .agg #[.int .i64 n1, v1]] w fun e w' => e = .returned (.bool true) ∧ Below w.heap.size w w' := by
  generalize hR : (ipB n0 l0 n1 l1) = R
  generalize hO : (fbB n0 l0 n1 l1) = ok
  have HR := hide hR
  have HO := hide hO
  clear hR hO
  have F1 := hide ((((Below.refl w.heap.size w).alloc (Nat.le_refl _) (.cells #[.int .i64 n0, v0] 24)).alloc (by simp) (.cells #[.int .i64 n1, v1] 24)))
  have F2 := hide (((h0.alloc (.cells #[.int .i64 n0, v0] 24)).alloc (.cells #[.int .i64 n1, v1] 24)))
  have F3 := hide (((h1.alloc (.cells #[.int .i64 n0, v0] 24)).alloc (.cells #[.int .i64 n1, v1] 24)))
  have F4 := hide (show ((w.alloc (.cells #[.int .i64 n0, v0] 24)).alloc (.cells #[.int .i64 n1, v1] 24)).heap[w.heap.size]? = some (.cells #[.int .i64 n0, v0] 24) from (by have := (hp_old (w.alloc (.cells #[.int .i64 n0, v0] 24)) (.cells #[.int .i64 n1, v1] 24) (w.heap.size) (by simp; try omega)).trans (hp_last w (.cells #[.int .i64 n0, v0] 24)); simpa using this))
  have F5 := hide (show ((w.alloc (.cells #[.int .i64 n0, v0] 24)).alloc (.cells #[.int .i64 n1, v1] 24)).heap[w.heap.size + 1]? = some (.cells #[.int .i64 n1, v1] 24) from (by have := hp_last (w.alloc (.cells #[.int .i64 n0, v0] 24)) (.cells #[.int .i64 n1, v1] 24); simpa using this))
  have HZ0 := hide (show ((w.alloc (.cells #[.int .i64 n0, v0] 24)).alloc (.cells #[.int .i64 n1, v1] 24)).heap.size = w.heap.size + 1 + 1 by simp)
  clear h0 h1
  have hsz0 : szOf 1048576 l0.length = -1 ∨ (0 ≤ szOf 1048576 l0.length ∧ szOf 1048576 l0.length ≤ 1048576 ∧ l0.length ≤ 1048576) := by unfold szOf; split <;> omega
  generalize hq0 : szOf 1048576 l0.length = q0 at hsz0
  have HQ0 := hide hq0
  clear hq0
  have hsz1 : szOf q0 l1.length = -1 ∨ (0 ≤ szOf q0 l1.length ∧ szOf q0 l1.length ≤ 1048576 ∧ l1.length ≤ 1048576) := by unfold szOf; split <;> omega
  generalize hq1 : szOf q0 l1.length = q1 at hsz1
  have HQ1 := hide hq1
  clear hq1
  rcases hsz0 with hbig0 | ⟨hq0a, hq0b, hq0c⟩
  · have HBIG := hide hbig0
    have hneg : q0 < 0 := by omega
    clear hbig0
    go_enter Try.func9, Try.ntmps9
    go_wp2_with fail
    generalize hX : ((w.alloc (.cells #[.int .i64 n0, v0] 24)).alloc (.cells #[.int .i64 n1, v1] 24)) = W0 at F1 F2 F3 F4 F5 HZ0 ⊢
    have hz0 := Nat.le_of_eq HZ0.out.symm
    clear hX HZ0
    refine (szSpace_c n0 v0 l0 (1048576) W0 (F2.out.mono (by omega)) hlen0 (by omega) (by omega)).mono ?_
    rw [HQ0.out]
    rintro e W1 ⟨rfl, hb6⟩
    have hz7 := hb6.size
    have F8 := hide (F1.out.trans (hb6.mono (by omega)))
    have F9 := hide (F2.out.below hb6 (by omega))
    have F10 := hide (F3.out.below hb6 (by omega))
    have F11 := hide ((hb6.block (w.heap.size) (by omega)).trans F4.out)
    have F12 := hide ((hb6.block (w.heap.size + 1) (by omega)).trans F5.out)
    clear hb6 F1 F2 F3 F4 F5
    go_wp2
    go_ret
    exact ⟨rfl, F8.out⟩
  have hneg0 : ¬ q0 < 0 := by omega
  rcases hsz1 with hbig1 | ⟨hq1a, hq1b, hq1c⟩
  · have HBIG := hide hbig1
    have hneg : q1 < 0 := by omega
    clear hbig1
    go_enter Try.func9, Try.ntmps9
    go_wp2_with fail
    generalize hX : ((w.alloc (.cells #[.int .i64 n0, v0] 24)).alloc (.cells #[.int .i64 n1, v1] 24)) = W0 at F1 F2 F3 F4 F5 HZ0 ⊢
    have hz0 := Nat.le_of_eq HZ0.out.symm
    clear hX HZ0
    refine (szSpace_c n0 v0 l0 (1048576) W0 (F2.out.mono (by omega)) hlen0 (by omega) (by omega)).mono ?_
    rw [HQ0.out]
    rintro e W1 ⟨rfl, hb6⟩
    have hz7 := hb6.size
    have F8 := hide (F1.out.trans (hb6.mono (by omega)))
    have F9 := hide (F2.out.below hb6 (by omega))
    have F10 := hide (F3.out.below hb6 (by omega))
    have F11 := hide ((hb6.block (w.heap.size) (by omega)).trans F4.out)
    have F12 := hide ((hb6.block (w.heap.size + 1) (by omega)).trans F5.out)
    clear hb6 F1 F2 F3 F4 F5
    have p13 := cells_at0 F11.out
    have p14 := cells_at1 F11.out
    have p15 := cells_at0 F12.out
    have p16 := cells_at1 F12.out
    go_wp2_with fail
    clear p13 p14 p15 p16
    refine (szSpace_c n1 v1 l1 (q0) W1 (F10.out.mono (by omega)) hlen1 (by omega) (by omega)).mono ?_
    rw [HQ1.out]
    rintro e W2 ⟨rfl, hb17⟩
    have hz18 := hb17.size
    have F19 := hide (F8.out.trans (hb17.mono (by omega)))
    have F20 := hide (F9.out.below hb17 (by omega))
    have F21 := hide (F10.out.below hb17 (by omega))
    have F22 := hide ((hb17.block (w.heap.size) (by omega)).trans F11.out)
    have F23 := hide ((hb17.block (w.heap.size + 1) (by omega)).trans F12.out)
    clear hb17 F8 F9 F10 F11 F12
    go_wp2
    go_ret
    exact ⟨rfl, F19.out⟩
  have hneg1 : ¬ q1 < 0 := by omega
  go_enter Try.func9, Try.ntmps9
  go_wp2_with fail
  generalize hX : ((w.alloc (.cells #[.int .i64 n0, v0] 24)).alloc (.cells #[.int .i64 n1, v1] 24)) = W0 at F1 F2 F3 F4 F5 HZ0 ⊢
  have hz0 := Nat.le_of_eq HZ0.out.symm
  clear hX HZ0
  refine (szSpace_c n0 v0 l0 (1048576) W0 (F2.out.mono (by omega)) hlen0 (by omega) (by omega)).mono ?_
  rw [HQ0.out]
  rintro e W1 ⟨rfl, hb6⟩
  have hz7 := hb6.size
  have F8 := hide (F1.out.trans (hb6.mono (by omega)))
  have F9 := hide (F2.out.below hb6 (by omega))
  have F10 := hide (F3.out.below hb6 (by omega))
  have F11 := hide ((hb6.block (w.heap.size) (by omega)).trans F4.out)
  have F12 := hide ((hb6.block (w.heap.size + 1) (by omega)).trans F5.out)
  clear hb6 F1 F2 F3 F4 F5
  have p13 := cells_at0 F11.out
  have p14 := cells_at1 F11.out
  have p15 := cells_at0 F12.out
  have p16 := cells_at1 F12.out
  go_wp2_with fail
  clear p13 p14 p15 p16
  refine (szSpace_c n1 v1 l1 (q0) W1 (F10.out.mono (by omega)) hlen1 (by omega) (by omega)).mono ?_
  rw [HQ1.out]
  rintro e W2 ⟨rfl, hb17⟩
  have hz18 := hb17.size
  have F19 := hide (F8.out.trans (hb17.mono (by omega)))
  have F20 := hide (F9.out.below hb17 (by omega))
  have F21 := hide (F10.out.below hb17 (by omega))
  have F22 := hide ((hb17.block (w.heap.size) (by omega)).trans F11.out)
  have F23 := hide ((hb17.block (w.heap.size + 1) (by omega)).trans F12.out)
  clear hb17 F8 F9 F10 F11 F12
  have p24 := cells_at0 F22.out
  have p25 := cells_at1 F22.out
  have p26 := cells_at0 F23.out
  have p27 := cells_at1 F23.out
  go_wp2_with fail
  clear p24 p25 p26 p27
  refine wp_region_held (S := Below W2.heap.size W2) (by kernel_rfl) ?_
  have hS0 : Below W2.heap.size W2 { W2 with drawn := W2.drawn + 1 } := (Below.refl _ _).drew
  generalize ({ W2 with drawn := W2.drawn + 1 } : World) = C0 at hS0 ⊢
  have hz0C : W2.heap.size ≤ C0.heap.size := hS0.size
  refine wpAnyH_take (i := 0) rfl (by kernel_rfl) (by kernel_rfl) (by kernel_rfl) (fun _ _ _ h => h) (yields_load_two rowSl sizeSl rfl (.tmp _) rfl _ rfl _ _ (fun w' h => (h.cell (p := ⟨w.heap.size, 0, none⟩) (by show w.heap.size < _; omega)).trans (cells_at0 F22.out)) (fun w' h => (h.cell (p := ⟨w.heap.size, 1, none⟩) (by show w.heap.size < _; omega)).trans (cells_at1 F22.out))) hS0 ?_
  simp only [Act.put, List.getElem_toArray, List.getElem_cons_zero, List.getElem_cons_succ, List.setIfInBounds_toArray, List.set_cons_zero, List.set_cons_succ]
  refine wpAnyH_take (i := 2) rfl (by kernel_rfl) (by kernel_rfl) (by kernel_rfl) (fun _ _ _ h => h) (yields_load_two rowSl sizeSl rfl (.tmp _) rfl _ rfl _ _ (fun w' h => (h.cell (p := ⟨w.heap.size + 1, 0, none⟩) (by show w.heap.size + 1 < _; omega)).trans (cells_at0 F23.out)) (fun w' h => (h.cell (p := ⟨w.heap.size + 1, 1, none⟩) (by show w.heap.size + 1 < _; omega)).trans (cells_at1 F23.out))) hS0 ?_
  simp only [Act.put, List.getElem_toArray, List.getElem_cons_zero, List.getElem_cons_succ, List.setIfInBounds_toArray, List.set_cons_zero, List.set_cons_succ]
  refine anyH_call (i := 1) (by kernel_rfl) rfl rfl 17 ent_toSpace _ _ rfl #[.agg #[.int .i64 n0, v0]] rfl (toSpace_c n0 v0 l0 C0 ((F20.out.below hS0 (by omega)).mono (by omega)) (by omega)) ?_
  rintro e W3 ⟨ggm28, rfl, hgm28, hkm28, hbm28⟩
  have hzm28 : C0.heap.size ≤ W3.heap.size := hbm28.size
  have hSm28 : Below W2.heap.size W2 W3 := hS0.trans (hbm28.mono (by omega))
  have hwm28 := hkm28.own hgm28 (by unfold maxLen; omega)
  refine ⟨_, rfl, hSm28, ?_⟩
  simp only [Act.put, List.getElem_toArray, List.getElem_cons_zero, List.getElem_cons_succ, List.setIfInBounds_toArray, List.set_cons_zero, List.set_cons_succ]
  refine anyH_call (i := 3) (by kernel_rfl) rfl rfl 17 ent_toSpace _ _ rfl #[.agg #[.int .i64 n1, v1]] rfl (toSpace_c n1 v1 l1 W3 ((F21.out.below hSm28 (by omega)).mono (by omega)) (by omega)) ?_
  rintro e W4 ⟨ggm29, rfl, hgm29, hkm29, hbm29⟩
  have hzm29 : W3.heap.size ≤ W4.heap.size := hbm29.size
  have hSm29 : Below W2.heap.size W2 W4 := hSm28.trans (hbm29.mono (by omega))
  have hwm28' := hwm28.kept hbm29
  have hwm29 := hkm29.own hgm29 (by unfold maxLen; omega)
  refine ⟨_, rfl, hSm29, ?_⟩
  simp only [Act.put, List.getElem_toArray, List.getElem_cons_zero, List.getElem_cons_succ, List.setIfInBounds_toArray, List.set_cons_zero, List.set_cons_succ]
  have hsp := specIsPartOf_c n0 _ l0 n1 _ l1 W4 hwm28'.ints (by omega) hwm29.ints (by omega)
  rw [HR.out, HO.out] at hsp
  refine anyH_call (i := 4) (by kernel_rfl) rfl rfl 38 (enters_of Try.func38 (by kernel_rfl) (by kernel_rfl)) _ _ rfl #[.agg #[.int .i64 n0, .slice (some ⟨ggm28, 0, none⟩) l0.length l0.length], .agg #[.int .i64 n1, .slice (some ⟨ggm29, 0, none⟩) l1.length l1.length]] rfl hsp ?_
  rintro e W5 ⟨rfl, hbS⟩
  have hzS : W4.heap.size ≤ W5.heap.size := hbS.size
  have hSS : Below W2.heap.size W2 W5 := hSm29.trans (hbS.mono (by omega))
  refine ⟨_, rfl, hSS, ?_⟩
  simp only [Act.put, List.getElem_toArray, List.getElem_cons_zero, List.getElem_cons_succ, List.setIfInBounds_toArray, List.set_cons_zero, List.set_cons_succ]
  refine wpAnyH_take (i := 5) (v := .tuple #[.bool R, .bool ok]) rfl (by kernel_rfl) (by kernel_rfl) (by kernel_rfl) (fun _ _ _ h => h) (.inl ⟨rfl, fun w' _ => by go_simp⟩) hSS ?_
  simp only [Act.put, List.getElem_toArray, List.getElem_cons_zero, List.getElem_cons_succ, List.setIfInBounds_toArray, List.set_cons_zero, List.set_cons_succ]
  refine wpAnyH_take (i := 6) (v := .bool R) rfl (by kernel_rfl) (by kernel_rfl) (by kernel_rfl) (fun _ _ _ h => h) (.inl ⟨rfl, fun w' _ => by go_simp⟩) hSS ?_
  simp only [Act.put, List.getElem_toArray, List.getElem_cons_zero, List.getElem_cons_succ, List.setIfInBounds_toArray, List.set_cons_zero, List.set_cons_succ]
  refine wpAnyH_take (i := 7) (v := .bool ok) rfl (by kernel_rfl) (by kernel_rfl) (by kernel_rfl) (fun _ _ _ h => h) (.inl ⟨rfl, fun w' _ => by go_simp⟩) hSS ?_
  simp only [Act.put, List.getElem_toArray, List.getElem_cons_zero, List.getElem_cons_succ, List.setIfInBounds_toArray, List.set_cons_zero, List.set_cons_succ]
  refine anyH_op (i := 8) (by kernel_rfl) rfl rfl (.bool R) _ ?hq8 hSS ?_
  case hq8 => simp [go_sem, Act.put]
  simp only [Act.put, List.getElem_toArray, List.getElem_cons_zero, List.getElem_cons_succ, List.setIfInBounds_toArray, List.set_cons_zero, List.set_cons_succ]
  refine anyH_op (i := 9) (by kernel_rfl) rfl rfl (.bool ok) _ ?hq9 hSS ?_
  case hq9 => simp [go_sem, Act.put]
  refine wpAnyH_done (by kernel_rfl) ?_ _
  simp only [Act.put, List.getElem_toArray, List.getElem_cons_zero, List.getElem_cons_succ, List.setIfInBounds_toArray, List.set_cons_zero, List.set_cons_succ]
  have hb30 := hSS
  have hz31 := hSS.size
  have F32 := hide (F19.out.trans (hb30.mono (by omega)))
  have F33 := hide (F20.out.below hb30 (by omega))
  have F34 := hide (F21.out.below hb30 (by omega))
  have F35 := hide ((hb30.block (w.heap.size) (by omega)).trans F22.out)
  have F36 := hide ((hb30.block (w.heap.size + 1) (by omega)).trans F23.out)
  clear hb30 F19 F20 F21 F22 F23
  have p37 := cells_at0 F35.out
  have p38 := cells_at1 F35.out
  have p39 := cells_at0 F36.out
  have p40 := cells_at1 F36.out
  go_wp2_with fail
  clear p37 p38 p39 p40
  refine (toSpace_c n0 v0 l0 W5 (F33.out.mono (by omega)) (by omega)).mono ?_
  rintro e W6 ⟨g41, rfl, hg42, hk43, hb44⟩
  have hz45 := hb44.size
  have F46 := hide (F32.out.trans (hb44.mono (by omega)))
  have F47 := hide (F33.out.below hb44 (by omega))
  have F48 := hide (F34.out.below hb44 (by omega))
  have F49 := hide ((hb44.block (w.heap.size) (by omega)).trans F35.out)
  have F50 := hide ((hb44.block (w.heap.size + 1) (by omega)).trans F36.out)
  have F51 := hide (hk43.own hg42 (by unfold maxLen; omega))
  have B52 := hide (F51.out.base)
  have L53 := hide (F51.out.blockLt)
  clear hb44 F32 F33 F34 F35 F36 hk43 hg42
  have F54 := hide (F46.out.alloc (by omega) (.cells #[.int .i64 n0, .slice (some ⟨g41, 0, none⟩) l0.length l0.length] 28))
  have F55 := hide (F47.out.alloc (.cells #[.int .i64 n0, .slice (some ⟨g41, 0, none⟩) l0.length l0.length] 28))
  have F56 := hide (F48.out.alloc (.cells #[.int .i64 n0, .slice (some ⟨g41, 0, none⟩) l0.length l0.length] 28))
  have F57 := hide ((hp_old W6 (.cells #[.int .i64 n0, .slice (some ⟨g41, 0, none⟩) l0.length l0.length] 28) (w.heap.size) (by omega)).trans F49.out)
  have F58 := hide ((hp_old W6 (.cells #[.int .i64 n0, .slice (some ⟨g41, 0, none⟩) l0.length l0.length] 28) (w.heap.size + 1) (by omega)).trans F50.out)
  have F59 := hide (F51.out.alloc (.cells #[.int .i64 n0, .slice (some ⟨g41, 0, none⟩) l0.length l0.length] 28))
  have F60 := hide (hp_last W6 (.cells #[.int .i64 n0, .slice (some ⟨g41, 0, none⟩) l0.length l0.length] 28))
  have HZ61 := hide (show (W6.alloc (.cells #[.int .i64 n0, .slice (some ⟨g41, 0, none⟩) l0.length l0.length] 28)).heap.size = W6.heap.size + 1 by simp)
  clear F46 F47 F48 F49 F50 F51
  have p62 := cells_at0 F57.out
  have p63 := cells_at1 F57.out
  have p64 := cells_at0 F58.out
  have p65 := cells_at1 F58.out
  have p66 := cells_at0 F60.out
  have p67 := cells_at1 F60.out
  go_wp2_with fail
  clear p62 p63 p64 p65 p66 p67
  generalize hX : W6.alloc (.cells #[.int .i64 n0, .slice (some ⟨g41, 0, none⟩) l0.length l0.length] 28) = W7 at F54 F55 F56 F57 F58 F59 F60 HZ61 ⊢
  have hz68 := Nat.le_of_eq HZ61.out.symm
  clear hX HZ61
  refine (toSpace_c n1 v1 l1 W7 (F56.out.mono (by omega)) (by omega)).mono ?_
  rintro e W8 ⟨g69, rfl, hg70, hk71, hb72⟩
  have hz73 := hb72.size
  have F74 := hide (F54.out.trans (hb72.mono (by omega)))
  have F75 := hide (F55.out.below hb72 (by omega))
  have F76 := hide (F56.out.below hb72 (by omega))
  have F77 := hide ((hb72.block (w.heap.size) (by omega)).trans F57.out)
  have F78 := hide ((hb72.block (w.heap.size + 1) (by omega)).trans F58.out)
  have F79 := hide (F59.out.kept hb72)
  have F80 := hide ((hb72.block (W6.heap.size) (by omega)).trans F60.out)
  have F81 := hide (hk71.own hg70 (by unfold maxLen; omega))
  have B82 := hide (F81.out.base)
  have L83 := hide (F81.out.blockLt)
  clear hb72 F54 F55 F56 F57 F58 F59 F60 hk71 hg70
  have F84 := hide (F74.out.alloc (by omega) (.cells #[.int .i64 n1, .slice (some ⟨g69, 0, none⟩) l1.length l1.length] 28))
  have F85 := hide (F75.out.alloc (.cells #[.int .i64 n1, .slice (some ⟨g69, 0, none⟩) l1.length l1.length] 28))
  have F86 := hide (F76.out.alloc (.cells #[.int .i64 n1, .slice (some ⟨g69, 0, none⟩) l1.length l1.length] 28))
  have F87 := hide ((hp_old W8 (.cells #[.int .i64 n1, .slice (some ⟨g69, 0, none⟩) l1.length l1.length] 28) (w.heap.size) (by omega)).trans F77.out)
  have F88 := hide ((hp_old W8 (.cells #[.int .i64 n1, .slice (some ⟨g69, 0, none⟩) l1.length l1.length] 28) (w.heap.size + 1) (by omega)).trans F78.out)
  have F89 := hide (F79.out.alloc (.cells #[.int .i64 n1, .slice (some ⟨g69, 0, none⟩) l1.length l1.length] 28))
  have F90 := hide ((hp_old W8 (.cells #[.int .i64 n1, .slice (some ⟨g69, 0, none⟩) l1.length l1.length] 28) (W6.heap.size) (by omega)).trans F80.out)
  have F91 := hide (F81.out.alloc (.cells #[.int .i64 n1, .slice (some ⟨g69, 0, none⟩) l1.length l1.length] 28))
  have F92 := hide (hp_last W8 (.cells #[.int .i64 n1, .slice (some ⟨g69, 0, none⟩) l1.length l1.length] 28))
  have HZ93 := hide (show (W8.alloc (.cells #[.int .i64 n1, .slice (some ⟨g69, 0, none⟩) l1.length l1.length] 28)).heap.size = W8.heap.size + 1 by simp)
  clear F74 F75 F76 F77 F78 F79 F80 F81
  have p94 := cells_at0 F87.out
  have p95 := cells_at1 F87.out
  have p96 := cells_at0 F88.out
  have p97 := cells_at1 F88.out
  have p98 := cells_at0 F90.out
  have p99 := cells_at1 F90.out
  have p100 := cells_at0 F92.out
  have p101 := cells_at1 F92.out
  go_wp2_with fail
  clear p94 p95 p96 p97 p98 p99 p100 p101
  generalize hX : W8.alloc (.cells #[.int .i64 n1, .slice (some ⟨g69, 0, none⟩) l1.length l1.length] 28) = W9 at F84 F85 F86 F87 F88 F89 F90 F91 F92 HZ93 ⊢
  have hz102 := Nat.le_of_eq HZ93.out.symm
  clear hX HZ93
  refine (implIsPartOf_c n0 _ l0 n1 _ l1 W9 F89.out.ints (by omega) F91.out.ints (by omega)).mono ?_
  rw [HR.out, HO.out]
  rintro e W10 ⟨rfl, hb103⟩
  have hz104 := hb103.size
  have F105 := hide (F84.out.trans (hb103.mono (by omega)))
  have F106 := hide (F85.out.below hb103 (by omega))
  have F107 := hide (F86.out.below hb103 (by omega))
  have F108 := hide ((hb103.block (w.heap.size) (by omega)).trans F87.out)
  have F109 := hide ((hb103.block (w.heap.size + 1) (by omega)).trans F88.out)
  have F110 := hide (F89.out.kept hb103)
  have F111 := hide ((hb103.block (W6.heap.size) (by omega)).trans F90.out)
  have F112 := hide (F91.out.kept hb103)
  have F113 := hide ((hb103.block (W8.heap.size) (by omega)).trans F92.out)
  clear hb103 F84 F85 F86 F87 F88 F89 F90 F91 F92
  have p114 := cells_at0 F108.out
  have p115 := cells_at1 F108.out
  have p116 := cells_at0 F109.out
  have p117 := cells_at1 F109.out
  have p118 := cells_at0 F111.out
  have p119 := cells_at1 F111.out
  have p120 := cells_at0 F113.out
  have p121 := cells_at1 F113.out
  go_wp2
  clear p114 p115 p116 p117 p118 p119 p120 p121
  refine wp_region_held (S := Below W10.heap.size W10) (by kernel_rfl) ?_
  have hS : Below W10.heap.size W10 { W10 with drawn := W10.drawn + 1 } := (Below.refl _ _).drew
  refine wpAnyH_take (i := 0) rfl (by kernel_rfl) (by kernel_rfl) (by kernel_rfl) (fun _ _ _ h => h) (yields_load_two rowSp sizeSp rfl (.tmp _) rfl _ rfl _ _ (fun w' h => (h.cell (p := ⟨W6.heap.size, 0, none⟩) (by show W6.heap.size < _; omega)).trans (cells_at0 F111.out)) (fun w' h => (h.cell (p := ⟨W6.heap.size, 1, none⟩) (by show W6.heap.size < _; omega)).trans (cells_at1 F111.out))) hS ?_
  refine wpAnyH_take (i := 1) rfl (by kernel_rfl) (by kernel_rfl) (by kernel_rfl) (fun _ _ _ h => h) (yields_load_two rowSl sizeSl rfl (.tmp _) rfl _ rfl _ _ (fun w' h => (h.cell (p := ⟨w.heap.size, 0, none⟩) (by show w.heap.size < _; omega)).trans (cells_at0 F108.out)) (fun w' h => (h.cell (p := ⟨w.heap.size, 1, none⟩) (by show w.heap.size < _; omega)).trans (cells_at1 F108.out))) hS ?_
  refine anyH_call (i := 2) (by kernel_rfl) rfl rfl 17 ent_toSpace _ _ rfl #[.agg #[.int .i64 n0, v0]] rfl (toSpace_c n0 v0 l0 _ ((F106.out.below hS (by omega)).mono (show w.heap.size ≤ W10.heap.size by omega)) (by omega)) ?_
  rintro e W11 ⟨g122, rfl, hgr, hkr, hbr⟩
  have hzr : W10.heap.size ≤ W11.heap.size := hbr.size
  have hS6 : Below W10.heap.size W10 W11 := hS.trans hbr
  refine ⟨_, rfl, hS6, ?_⟩
  refine anyH_call (i := 3) (by kernel_rfl) rfl rfl 20 ent_eqSpace _ _ rfl #[.agg #[.int .i64 n0, .slice (some ⟨g41, 0, none⟩) l0.length l0.length], .agg #[.int .i64 n0, .slice (some ⟨g122, 0, none⟩) l0.length l0.length]] rfl (eqSpace_same_c n0 _ _ l0 W11 ((F110.out.kept hS6).ints) (hkr.ints _) (by omega)) ?_
  rintro e W12 ⟨rfl, hbs⟩
  have hS7 : Below W10.heap.size W10 W12 := hS6.trans (hbs.mono hzr)
  refine ⟨_, rfl, hS7, ?_⟩
  refine anyH_op (i := 4) (by kernel_rfl) rfl rfl (.bool false) W12 ?hq hS7 ?_
  case hq => simp [go_sem, Act.put]
  refine wpAnyH_done (by kernel_rfl) ?_ _
  simp only [Act.put, List.getElem_toArray, List.getElem_cons_zero, List.getElem_cons_succ, List.setIfInBounds_toArray, List.set_cons_zero, List.set_cons_succ]
  have hz123 : W10.heap.size ≤ W12.heap.size := hS7.size
  have F124 := hide (F105.out.trans (hS7.mono (by omega)))
  have F125 := hide (F106.out.below hS7 (by omega))
  have F126 := hide (F107.out.below hS7 (by omega))
  have F127 := hide ((hS7.block (w.heap.size) (by omega)).trans F108.out)
  have F128 := hide ((hS7.block (w.heap.size + 1) (by omega)).trans F109.out)
  have F129 := hide (F110.out.kept hS7)
  have F130 := hide ((hS7.block (W6.heap.size) (by omega)).trans F111.out)
  have F131 := hide (F112.out.kept hS7)
  have F132 := hide ((hS7.block (W8.heap.size) (by omega)).trans F113.out)
  clear hS hS6 hS7 hbr hbs hkr hgr hzr F105 F106 F107 F108 F109 F110 F111 F112 F113
  have p133 := cells_at0 F127.out
  have p134 := cells_at1 F127.out
  have p135 := cells_at0 F128.out
  have p136 := cells_at1 F128.out
  have p137 := cells_at0 F130.out
  have p138 := cells_at1 F130.out
  have p139 := cells_at0 F132.out
  have p140 := cells_at1 F132.out
  go_wp2
  clear p133 p134 p135 p136 p137 p138 p139 p140
  refine wp_region_held (S := Below W12.heap.size W12) (by kernel_rfl) ?_
  have hS : Below W12.heap.size W12 { W12 with drawn := W12.drawn + 1 } := (Below.refl _ _).drew
  refine wpAnyH_take (i := 0) rfl (by kernel_rfl) (by kernel_rfl) (by kernel_rfl) (fun _ _ _ h => h) (yields_load_two rowSp sizeSp rfl (.tmp _) rfl _ rfl _ _ (fun w' h => (h.cell (p := ⟨W8.heap.size, 0, none⟩) (by show W8.heap.size < _; omega)).trans (cells_at0 F132.out)) (fun w' h => (h.cell (p := ⟨W8.heap.size, 1, none⟩) (by show W8.heap.size < _; omega)).trans (cells_at1 F132.out))) hS ?_
  refine wpAnyH_take (i := 1) rfl (by kernel_rfl) (by kernel_rfl) (by kernel_rfl) (fun _ _ _ h => h) (yields_load_two rowSl sizeSl rfl (.tmp _) rfl _ rfl _ _ (fun w' h => (h.cell (p := ⟨w.heap.size + 1, 0, none⟩) (by show w.heap.size + 1 < _; omega)).trans (cells_at0 F128.out)) (fun w' h => (h.cell (p := ⟨w.heap.size + 1, 1, none⟩) (by show w.heap.size + 1 < _; omega)).trans (cells_at1 F128.out))) hS ?_
  refine anyH_call (i := 2) (by kernel_rfl) rfl rfl 17 ent_toSpace _ _ rfl #[.agg #[.int .i64 n1, v1]] rfl (toSpace_c n1 v1 l1 _ ((F126.out.below hS (by omega)).mono (show w.heap.size ≤ W12.heap.size by omega)) (by omega)) ?_
  rintro e W13 ⟨g141, rfl, hgr, hkr, hbr⟩
  have hzr : W12.heap.size ≤ W13.heap.size := hbr.size
  have hS6 : Below W12.heap.size W12 W13 := hS.trans hbr
  refine ⟨_, rfl, hS6, ?_⟩
  refine anyH_call (i := 3) (by kernel_rfl) rfl rfl 20 ent_eqSpace _ _ rfl #[.agg #[.int .i64 n1, .slice (some ⟨g69, 0, none⟩) l1.length l1.length], .agg #[.int .i64 n1, .slice (some ⟨g141, 0, none⟩) l1.length l1.length]] rfl (eqSpace_same_c n1 _ _ l1 W13 ((F131.out.kept hS6).ints) (hkr.ints _) (by omega)) ?_
  rintro e W14 ⟨rfl, hbs⟩
  have hS7 : Below W12.heap.size W12 W14 := hS6.trans (hbs.mono hzr)
  refine ⟨_, rfl, hS7, ?_⟩
  refine anyH_op (i := 4) (by kernel_rfl) rfl rfl (.bool false) W14 ?hq hS7 ?_
  case hq => simp [go_sem, Act.put]
  refine wpAnyH_done (by kernel_rfl) ?_ _
  simp only [Act.put, List.getElem_toArray, List.getElem_cons_zero, List.getElem_cons_succ, List.setIfInBounds_toArray, List.set_cons_zero, List.set_cons_succ]
  have hz142 : W12.heap.size ≤ W14.heap.size := hS7.size
  have F143 := hide (F124.out.trans (hS7.mono (by omega)))
  have F144 := hide (F125.out.below hS7 (by omega))
  have F145 := hide (F126.out.below hS7 (by omega))
  have F146 := hide ((hS7.block (w.heap.size) (by omega)).trans F127.out)
  have F147 := hide ((hS7.block (w.heap.size + 1) (by omega)).trans F128.out)
  have F148 := hide (F129.out.kept hS7)
  have F149 := hide ((hS7.block (W6.heap.size) (by omega)).trans F130.out)
  have F150 := hide (F131.out.kept hS7)
  have F151 := hide ((hS7.block (W8.heap.size) (by omega)).trans F132.out)
  clear hS hS6 hS7 hbr hbs hkr hgr hzr F124 F125 F126 F127 F128 F129 F130 F131 F132
  have p152 := cells_at0 F146.out
  have p153 := cells_at1 F146.out
  have p154 := cells_at0 F147.out
  have p155 := cells_at1 F147.out
  have p156 := cells_at0 F149.out
  have p157 := cells_at1 F149.out
  have p158 := cells_at0 F151.out
  have p159 := cells_at1 F151.out
  go_wp2
  go_ret
  exact ⟨rfl, F143.out⟩

theorem ownK : ownKnob Try.prog.godebug = none := by kernel_rfl
theorem laidOut : laidOutB Try.prog = true := by kernel_rfl

/-- What a slice of int is, as it comes in. -/
theorem list_open {W : World} {v : Value} {l : List Int} (h : (v = .slice none 0 0 ∧ l = []) ∨ ∃ (a : Addr) (len c : Nat) (zs : List Int), v = .slice (some a) len c ∧ len ≤ zs.length ∧ len ≤ maxLen ∧ (∀ i, i < zs.length → W.cell? (a.add i) = some (.int .i64 (zs.getD i 0))) ∧ l = zs.take len) : ints W.heap.size W v l ∧ l.length ≤ 9223372036854775807 := by
  rcases h with ⟨rfl, rfl⟩ | ⟨x, len, c, zs, rfl, hlt, hm, hcell, rfl⟩
  · exact ⟨.inl ⟨rfl, none, 0, rfl⟩, by simp⟩
  · have htk : (zs.take len).length = len := by simp; omega
    refine ⟨?_, by unfold maxLen at hm; omega⟩
    rcases Nat.eq_zero_or_pos len with h0 | h0
    · subst h0
      exact .inl ⟨by simp, some x, c, rfl⟩
    · obtain ⟨b, off, rfl, hc⟩ := ints_at hcell (by omega)
      have hbl := block_lt_of_cell (hc 0 (by omega))
      refine .inr ⟨b, off, c, by rw [htk], hbl, hbl, fun j hj => ?_⟩
      rw [htk] at hj
      rw [hc j (by omega), List.getElem?_take, if_pos hj]
      rfl

/-- What a struct of an int and a slice of int is, as it comes in. -/
theorem space_open {H : Type} {enc : TypeId × Value → H} {W : World} {b0 : Nat} {v : Value} {d : DataW H} {p : List MemPlace}
    (hv : Value.okWide Try.prog W .any b0 24 v) (h : DataW.Trod enc Try.prog W 0 (fun _ => true) true 24 v d p) :
    ∃ (n : Int) (u : Value) (l : List Int), v = .agg #[.int .i64 n, u] ∧ ints W.heap.size W u l ∧ l.length ≤ 9223372036854775807 := by
  obtain ⟨v0, v1, y0, y1, m, rfl, rfl, rfl, hy0, hy1⟩ := open_agg2 Try.underlying24 (by kernel_rfl) (by kernel_rfl) hv h
  obtain ⟨n, e0, _, _⟩ := DataW.trod_int Try.underlying3 hy0
  simp at e0
  subst e0
  rcases open_ints Try.underlying22 Try.underlying3 (by kernel_rfl) hy1 with ⟨hcs, _⟩ | ⟨x, len, c, zs, hcs, _, hl, hm, hz, _, hcell, hwz⟩
  · simp at hcs
    subst hcs
    exact ⟨n, _, [], rfl, list_open (.inl ⟨rfl, rfl⟩)⟩
  · simp at hcs
    subst hcs
    have hz' : zs.length = c := by simpa using hz
    exact ⟨n, _, zs.take len, rfl, list_open (.inr ⟨x, len, c, zs, rfl, by omega, by unfold maxLen at hm ⊢; omega, hcell, rfl⟩)⟩

theorem lifted (os : Os) (started : os.Started) (H : Type) (enc : TypeId × Value → H) :
    ReturnsInHanded {} Try.checked os 9 .any (Rows.fnExactIsPartOfSpec.pre6 enc Try.prog Try.f9 Rows.fnExactIsPartOfRow.domain false) (Rows.fnExactIsPartOfSpec.post enc Try.prog Try.f9 false true false false) := by
  refine returnsInHanded_of_change (C := Try.checked) ownK started (by kernel_rfl) Try.func9
    (ChangeSpec.witness6 (enc := enc) (C := Try.checked) false ⟨#[], #[.agg #[.int .i64 0, .slice none 0 0], .agg #[.int .i64 0, .slice none 0 0]], []⟩ 8 (by kernel_rfl) (by kernel_rfl) (by kernel_rfl) (by kernel_rfl)) ?_
  intro W base args ds gs before hval0 hW hcnd _
  have hval : ∀ (j : Nat) t v, Try.f9.params[j]? = some t → args[j]? = some v → Value.okWide Try.prog W .any base t v := hval0
  have hW' := hW
  obtain ⟨p, q, hA0, hV, rfl, hfz, hnd⟩ := hW
  have hA : DataW.TrodAll enc Try.prog W 0 (fun _ => true) true Try.f9.params.toList args.toList ds p := hA0
  rw [Try.params9] at hA hval
  obtain ⟨v0, vs0, d0, ds0, p0, q0, hargs, rfl, rfl, t0, r0⟩ := trodAll_cons hA
  obtain ⟨v1, vs1, d1, ds1, p1, q1, rfl, rfl, rfl, t1, r1⟩ := trodAll_cons r0
  obtain ⟨rfl, rfl, rfl⟩ := trodAll_nil r1
  obtain rfl : args = #[v0, v1] := by cases args; simp_all
  obtain ⟨rfl, rfl⟩ := trodVars_none hV
  have k0 := t0
  have lt0 : ∀ x ∈ p0, x.block < W.heap.size := by obtain ⟨m, hm⟩ := k0; exact DataW.trod_lt m _ _ _ hm
  obtain ⟨n0, u0, l0, rfl, i0, e0⟩ := space_open (hval 0 24 v0 rfl rfl) t0
  have k1 := t1
  have lt1 : ∀ x ∈ p1, x.block < W.heap.size := by obtain ⟨m, hm⟩ := k1; exact DataW.trod_lt m _ _ _ hm
  obtain ⟨n1, u1, l1, rfl, i1, e1⟩ := space_open (hval 1 24 v1 rfl rfl) t1
  clear hA0 hval0
  refine (law_c n0 u0 l0 n1 u1 l1 W i0 e0 i1 e1).mono fun e W' ⟨he, bel⟩ => ?_
  subst he
  exact ⟨_, rfl, _, _, _, [], _, [], hW', trodAll_mk1 (shut_bool Try.underlying4 _), (trodAll_cons_mk (Below.trod laidOut (by kernel_rfl) (of_decide_eq_true (by kernel_rfl)) k0 bel lt0) (trodAll_cons_mk (Below.trod laidOut (by kernel_rfl) (of_decide_eq_true (by kernel_rfl)) k1 bel lt1) trodAll_mk0)), rfl, bel.frame _, fun h => by cases h⟩

set_option maxHeartbeats 4000000 in
theorem over : Rows.fnExactIsPartOfRow.holds Try.pinned (OpenSpec.ofChange Rows.fnExactIsPartOfSpec) :=
  OpenClaim.holds_of_wide 9 Try.f9 rfl rfl rfl rfl rfl rfl rfl ⟨rfl, rfl, rfl, rfl, rfl⟩ rfl rfl rfl rfl rfl (by as_aux_lemma => kernel_rfl) Try.func9 (by as_aux_lemma => kernel_rfl)
    (of_decide_eq_true (by as_aux_lemma => kernel_rfl)) (by unfold Func.isWrapper; first | (rw [if_pos (by decide +kernel)]; kernel_rfl) | (rw [if_neg (by decide +kernel)]; exact ⟨rfl, rfl⟩))
    (fun os started H enc _ => lifted os started H enc)

theorem proved : Rows.FnExactIsPartOfSaid := over
#print axioms proved
end Go.Proofs.Ytonimjpfaalniaa.FIsPartOf
