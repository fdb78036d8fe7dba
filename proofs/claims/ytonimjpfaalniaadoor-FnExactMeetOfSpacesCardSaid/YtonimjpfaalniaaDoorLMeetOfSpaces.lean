/- The program's MeetOfSpaces answers as the specification's does, at every argument, leaves its arguments as they are, and its answer owns its memory: no condition. -/
import Derived.Test.YtonimjpfaalniaaDoorRows
import Derived.Test.YtonimjpfaalniaaDoorMf
import Derived.Test.YtonimjpfaalniaaDoorTw
import Derived.Test.YtonimjpfaalniaaDoorTie
import Derived.Test.YtonimjpfaalniaaDoorCards
import Derived.LaidMore
import Derived.Stop.Joined
import Derived.Stop.LaidErr
import Derived.Lib.LaidTab
import Derived.SevenTiedAt
import Derived.Test.YtonimjpfaalniaaDoorHar
import Derived.ProofKit
import Derived.OpenShut
import Derived.Lib.SmallJoins
namespace Go.Proofs.YtonimjpfaalniaaDoor.FMeetOfSpaces
open Go.ChangeShapes Go.WideShapes Go.ChangeAt Go.RowKit Go.Joins
set_option linter.unusedVariables false
set_option linter.unusedSimpArgs false
set_option maxRecDepth 100000

set_option maxHeartbeats 4000000 in
theorem law_c (n0 : Int) (v0 : Value) (l0 : List Int) (n1 : Int) (v1 : Value) (l1 : List Int) (w : World) (h0 : ints w.heap.size w v0 l0) (hlen0 : l0.length ≤ 9223372036854775807) (h1 : ints w.heap.size w v1 l1) (hlen1 : l1.length ≤ 9223372036854775807) (hT : tab w) :
    Calls Tryd.prog 8 #[.agg #[.int .i64 n0, v0], .agg #[.int .i64 n1, v1]] w fun e w' => e = .returned (.bool true) ∧ Below w.heap.size w w' := by
  have HT := hide hT
  clear hT
  have hRL := (meL_len n0 n1 l0 l1)
  generalize hN : (meN n0 l0 n1 l1) = N
  generalize hR : (meL n0 l0 n1 l1) = R at hRL
  generalize hO : (meB n0 l0 n1 l1) = ok
  have HN := hide hN
  have HR := hide hR
  have HO := hide hO
  clear hN hR hO
  have F1 := hide ((((Below.refl w.heap.size w).alloc (Nat.le_refl _) (.cells #[.int .i64 n0, v0] 24)).alloc (by simp) (.cells #[.int .i64 n1, v1] 24)))
  have F2 := hide (((h0.alloc (.cells #[.int .i64 n0, v0] 24)).alloc (.cells #[.int .i64 n1, v1] 24)))
  have F3 := hide (((h1.alloc (.cells #[.int .i64 n0, v0] 24)).alloc (.cells #[.int .i64 n1, v1] 24)))
  have F4 := hide (show ((w.alloc (.cells #[.int .i64 n0, v0] 24)).alloc (.cells #[.int .i64 n1, v1] 24)).heap[w.heap.size]? = some (.cells #[.int .i64 n0, v0] 24) from (by have := (hp_old (w.alloc (.cells #[.int .i64 n0, v0] 24)) (.cells #[.int .i64 n1, v1] 24) (w.heap.size) (by simp; try omega)).trans (hp_last w (.cells #[.int .i64 n0, v0] 24)); simpa using this))
  have F5 := hide (show ((w.alloc (.cells #[.int .i64 n0, v0] 24)).alloc (.cells #[.int .i64 n1, v1] 24)).heap[w.heap.size + 1]? = some (.cells #[.int .i64 n1, v1] 24) from (by have := hp_last (w.alloc (.cells #[.int .i64 n0, v0] 24)) (.cells #[.int .i64 n1, v1] 24); simpa using this))
  have HZ0 := hide (show ((w.alloc (.cells #[.int .i64 n0, v0] 24)).alloc (.cells #[.int .i64 n1, v1] 24)).heap.size = w.heap.size + 1 + 1 by simp)
  clear h0 h1
  have hsz0 : szOf 1048576 l0.length = -1 ∨ (0 ≤ szOf 1048576 l0.length ∧ szOf 1048576 l0.length ≤ 1048576 ∧ l0.length ≤ 1048576) := by unfold szOf; split <;> omega
  generalize hq0 : szOf 1048576 l0.length = q0 at hsz0
  have HQ0 := hide hq0
  clear hq0
  have hsz1 : szOf q0 l1.length = -1 ∨ (0 ≤ szOf q0 l1.length ∧ szOf q0 l1.length ≤ 1048576 ∧ l1.length ≤ 1048576) := by unfold szOf; split <;> omega
  generalize hq1 : szOf q0 l1.length = q1 at hsz1
  have HQ1 := hide hq1
  clear hq1
  rcases hsz0 with hbig0 | ⟨hq0a, hq0b, hq0c⟩
  · have HBIG := hide hbig0
    have hneg : q0 < 0 := by omega
    clear hbig0
    go_enter Tryd.func8, Tryd.ntmps8
    go_wp2_with fail
    generalize hX : ((w.alloc (.cells #[.int .i64 n0, v0] 24)).alloc (.cells #[.int .i64 n1, v1] 24)) = W0 at F1 F2 F3 F4 F5 HZ0 ⊢
    have hz0 := Nat.le_of_eq HZ0.out.symm
    clear hX HZ0
    refine (szSpace_c n0 v0 l0 (1048576) W0 (F2.out.mono (by omega)) hlen0 (by omega) (by omega)).mono ?_
    rw [HQ0.out]
    rintro e W1 ⟨rfl, hb6⟩
    have hz7 := hb6.size
    have F8 := hide (F1.out.trans (hb6.mono (by omega)))
    have F9 := hide (F2.out.below hb6 (by omega))
    have F10 := hide (F3.out.below hb6 (by omega))
    have F11 := hide ((hb6.block (w.heap.size) (by omega)).trans F4.out)
    have F12 := hide ((hb6.block (w.heap.size + 1) (by omega)).trans F5.out)
    clear hb6 F1 F2 F3 F4 F5
    go_wp2
    go_ret
    exact ⟨rfl, F8.out⟩
  have hneg0 : ¬ q0 < 0 := by omega
  rcases hsz1 with hbig1 | ⟨hq1a, hq1b, hq1c⟩
  · have HBIG := hide hbig1
    have hneg : q1 < 0 := by omega
    clear hbig1
    go_enter Tryd.func8, Tryd.ntmps8
    go_wp2_with fail
    generalize hX : ((w.alloc (.cells #[.int .i64 n0, v0] 24)).alloc (.cells #[.int .i64 n1, v1] 24)) = W0 at F1 F2 F3 F4 F5 HZ0 ⊢
    have hz0 := Nat.le_of_eq HZ0.out.symm
    clear hX HZ0
    refine (szSpace_c n0 v0 l0 (1048576) W0 (F2.out.mono (by omega)) hlen0 (by omega) (by omega)).mono ?_
    rw [HQ0.out]
    rintro e W1 ⟨rfl, hb6⟩
    have hz7 := hb6.size
    have F8 := hide (F1.out.trans (hb6.mono (by omega)))
    have F9 := hide (F2.out.below hb6 (by omega))
    have F10 := hide (F3.out.below hb6 (by omega))
    have F11 := hide ((hb6.block (w.heap.size) (by omega)).trans F4.out)
    have F12 := hide ((hb6.block (w.heap.size + 1) (by omega)).trans F5.out)
    clear hb6 F1 F2 F3 F4 F5
    have p13 := cells_at0 F11.out
    have p14 := cells_at1 F11.out
    have p15 := cells_at0 F12.out
    have p16 := cells_at1 F12.out
    go_wp2_with fail
    clear p13 p14 p15 p16
    refine (szSpace_c n1 v1 l1 (q0) W1 (F10.out.mono (by omega)) hlen1 (by omega) (by omega)).mono ?_
    rw [HQ1.out]
    rintro e W2 ⟨rfl, hb17⟩
    have hz18 := hb17.size
    have F19 := hide (F8.out.trans (hb17.mono (by omega)))
    have F20 := hide (F9.out.below hb17 (by omega))
    have F21 := hide (F10.out.below hb17 (by omega))
    have F22 := hide ((hb17.block (w.heap.size) (by omega)).trans F11.out)
    have F23 := hide ((hb17.block (w.heap.size + 1) (by omega)).trans F12.out)
    clear hb17 F8 F9 F10 F11 F12
    go_wp2
    go_ret
    exact ⟨rfl, F19.out⟩
  have hneg1 : ¬ q1 < 0 := by omega
  go_enter Tryd.func8, Tryd.ntmps8
  go_wp2_with fail
  generalize hX : ((w.alloc (.cells #[.int .i64 n0, v0] 24)).alloc (.cells #[.int .i64 n1, v1] 24)) = W0 at F1 F2 F3 F4 F5 HZ0 ⊢
  have hz0 := Nat.le_of_eq HZ0.out.symm
  clear hX HZ0
  refine (szSpace_c n0 v0 l0 (1048576) W0 (F2.out.mono (by omega)) hlen0 (by omega) (by omega)).mono ?_
  rw [HQ0.out]
  rintro e W1 ⟨rfl, hb6⟩
  have hz7 := hb6.size
  have F8 := hide (F1.out.trans (hb6.mono (by omega)))
  have F9 := hide (F2.out.below hb6 (by omega))
  have F10 := hide (F3.out.below hb6 (by omega))
  have F11 := hide ((hb6.block (w.heap.size) (by omega)).trans F4.out)
  have F12 := hide ((hb6.block (w.heap.size + 1) (by omega)).trans F5.out)
  clear hb6 F1 F2 F3 F4 F5
  have p13 := cells_at0 F11.out
  have p14 := cells_at1 F11.out
  have p15 := cells_at0 F12.out
  have p16 := cells_at1 F12.out
  go_wp2_with fail
  clear p13 p14 p15 p16
  refine (szSpace_c n1 v1 l1 (q0) W1 (F10.out.mono (by omega)) hlen1 (by omega) (by omega)).mono ?_
  rw [HQ1.out]
  rintro e W2 ⟨rfl, hb17⟩
  have hz18 := hb17.size
  have F19 := hide (F8.out.trans (hb17.mono (by omega)))
  have F20 := hide (F9.out.below hb17 (by omega))
  have F21 := hide (F10.out.below hb17 (by omega))
  have F22 := hide ((hb17.block (w.heap.size) (by omega)).trans F11.out)
  have F23 := hide ((hb17.block (w.heap.size + 1) (by omega)).trans F12.out)
  clear hb17 F8 F9 F10 F11 F12
  have hneg2 : ¬ (1 + (R.length : Int) < 0) := by omega
  have p24 := cells_at0 F22.out
  have p25 := cells_at1 F22.out
  have p26 := cells_at0 F23.out
  have p27 := cells_at1 F23.out
  go_wp2_with fail
  clear p24 p25 p26 p27
  apply region_join (F := fun g1 g2 B v W' => Below W2.heap.size W2 W' ∧ own 3 W' W2.heap.size v R ∧ W'.heap[B]? = some (.cells #[.int .i64 N, v] 30) ∧ W2.heap.size ≤ B ∧ B < W'.heap.size ∧ ∀ g, v.ownBlock = some g → g ≠ B)
  · intro hK
    refine wp_region_held (S := Below W2.heap.size W2) (by kernel_rfl) ?_
    have hS0 : Below W2.heap.size W2 { W2 with drawn := W2.drawn + 1 } := (Below.refl _ _).drew
    generalize ({ W2 with drawn := W2.drawn + 1 } : World) = C0 at hS0 ⊢
    have hz0C : W2.heap.size ≤ C0.heap.size := hS0.size
    refine wpAnyH_take (i := 0) rfl (by kernel_rfl) (by kernel_rfl) (by kernel_rfl) (fun _ _ _ h => h) (yields_load_two rowSl sizeSl rfl (.tmp _) rfl _ rfl _ _ (fun w' h => (h.cell (p := ⟨w.heap.size, 0, none⟩) (by show w.heap.size < _; omega)).trans (cells_at0 F22.out)) (fun w' h => (h.cell (p := ⟨w.heap.size, 1, none⟩) (by show w.heap.size < _; omega)).trans (cells_at1 F22.out))) hS0 ?_
    simp only [Act.put, List.getElem_toArray, List.getElem_cons_zero, List.getElem_cons_succ, List.setIfInBounds_toArray, List.set_cons_zero, List.set_cons_succ]
    refine wpAnyH_take (i := 2) rfl (by kernel_rfl) (by kernel_rfl) (by kernel_rfl) (fun _ _ _ h => h) (yields_load_two rowSl sizeSl rfl (.tmp _) rfl _ rfl _ _ (fun w' h => (h.cell (p := ⟨w.heap.size + 1, 0, none⟩) (by show w.heap.size + 1 < _; omega)).trans (cells_at0 F23.out)) (fun w' h => (h.cell (p := ⟨w.heap.size + 1, 1, none⟩) (by show w.heap.size + 1 < _; omega)).trans (cells_at1 F23.out))) hS0 ?_
    simp only [Act.put, List.getElem_toArray, List.getElem_cons_zero, List.getElem_cons_succ, List.setIfInBounds_toArray, List.set_cons_zero, List.set_cons_succ]
    refine wpAnyH_all (rs := [1, 8]) (by kernel_rfl) (by simp) fun i hi => ?_
    rcases (show i = 1 ∨ i = 8 by simpa using hi) with rfl | rfl
    · show wpOp _ _ _ _ _ _ _
      refine wpOp_call rfl rfl 18 ent_toSpace _ _ rfl #[.agg #[.int .i64 n0, v0]] rfl (toSpace_c n0 v0 l0 C0 ((F20.out.below hS0 (by omega)).mono (by omega)) (by omega)) ?_
      rintro e C28 ⟨gg28, rfl, hg28, hk28, hb28⟩
      have hz28C : C0.heap.size ≤ C28.heap.size := hb28.size
      have hS28 : Below W2.heap.size W2 C28 := hS0.trans (hb28.mono (by omega))
      have hw29 := hk28.own hg28 (by unfold maxLen; omega)
      refine ⟨_, rfl, hS28, ?_⟩
      simp only [Act.put, List.getElem_toArray, List.getElem_cons_zero, List.getElem_cons_succ, List.setIfInBounds_toArray, List.set_cons_zero, List.set_cons_succ]
      refine wpAnyH_all (rs := [3, 8]) (by kernel_rfl) (by simp) fun i hi => ?_
      rcases (show i = 3 ∨ i = 8 by simpa using hi) with rfl | rfl
      · show wpOp _ _ _ _ _ _ _
        refine wpOp_call rfl rfl 18 ent_toSpace _ _ rfl #[.agg #[.int .i64 n1, v1]] rfl (toSpace_c n1 v1 l1 C28 ((F21.out.below hS28 (by omega)).mono (by omega)) (by omega)) ?_
        rintro e C30 ⟨gg30, rfl, hg30, hk30, hb30⟩
        have hz30C : C28.heap.size ≤ C30.heap.size := hb30.size
        have hS30 : Below W2.heap.size W2 C30 := hS28.trans (hb30.mono (by omega))
        have hw31 := hw29.kept hb30
        have hw32 := hk30.own hg30 (by unfold maxLen; omega)
        refine ⟨_, rfl, hS30, ?_⟩
        simp only [Act.put, List.getElem_toArray, List.getElem_cons_zero, List.getElem_cons_succ, List.setIfInBounds_toArray, List.set_cons_zero, List.set_cons_succ]
        refine wpAnyH_all (rs := [4, 8]) (by kernel_rfl) (by simp) fun i hi => ?_
        rcases (show i = 4 ∨ i = 8 by simpa using hi) with rfl | rfl
        · show wpOp _ _ _ _ _ _ _
          have hsp33 := specMeetOfSpaces_c n0 _ l0 n1 _ l1 C30 hw31.ints (by omega) hw32.ints (by omega) (HT.out.below (F19.out.trans (hS30.mono (by omega))))
          rw [HN.out, HR.out, HO.out] at hsp33
          refine wpOp_call rfl rfl 41 (enters_of Tryd.func41 (by kernel_rfl) (by kernel_rfl)) _ _ rfl #[.agg #[.int .i64 n0, .slice (some ⟨gg28, 0, none⟩) l0.length l0.length], .agg #[.int .i64 n1, .slice (some ⟨gg30, 0, none⟩) l1.length l1.length]] rfl hsp33 ?_
          rintro e C33 ⟨v33, rfl, ho33, hb33⟩
          have hz33C : C30.heap.size ≤ C33.heap.size := hb33.size
          have hS33 : Below W2.heap.size W2 C33 := hS30.trans (hb33.mono (by omega))
          have hw34 := hw31.kept hb33
          have hw35 := hw32.kept hb33
          refine ⟨_, rfl, hS33, ?_⟩
          simp only [Act.put, List.getElem_toArray, List.getElem_cons_zero, List.getElem_cons_succ, List.setIfInBounds_toArray, List.set_cons_zero, List.set_cons_succ]
          refine wpAnyH_take (i := 5) (v := .tuple #[.agg #[.int .i64 N, v33], .bool ok]) rfl (by kernel_rfl) (by kernel_rfl) (by kernel_rfl) (fun _ _ _ h => h) (.inl ⟨rfl, fun w' _ => by go_simp⟩) hS33 ?_
          simp only [Act.put, List.getElem_toArray, List.getElem_cons_zero, List.getElem_cons_succ, List.setIfInBounds_toArray, List.set_cons_zero, List.set_cons_succ]
          refine wpAnyH_take (i := 6) (v := .agg #[.int .i64 N, v33]) rfl (by kernel_rfl) (by kernel_rfl) (by kernel_rfl) (fun _ _ _ h => h) (.inl ⟨rfl, fun w' _ => by go_simp⟩) hS33 ?_
          simp only [Act.put, List.getElem_toArray, List.getElem_cons_zero, List.getElem_cons_succ, List.setIfInBounds_toArray, List.set_cons_zero, List.set_cons_succ]
          refine wpAnyH_take (i := 7) (v := .bool ok) rfl (by kernel_rfl) (by kernel_rfl) (by kernel_rfl) (fun _ _ _ h => h) (.inl ⟨rfl, fun w' _ => by go_simp⟩) hS33 ?_
          simp only [Act.put, List.getElem_toArray, List.getElem_cons_zero, List.getElem_cons_succ, List.setIfInBounds_toArray, List.set_cons_zero, List.set_cons_succ]
          obtain ⟨B36, hBe36⟩ : ∃ B, B = C33.heap.size := ⟨_, rfl⟩
          have hb36 := (Below.refl C33.heap.size C33).alloc (Nat.le_refl _) (.cells #[.int .i64 0, .slice none 0 0] 30)
          have hB36 := hp_last C33 (.cells #[.int .i64 0, .slice none 0 0] 30)
          rw [← hBe36] at hB36
          have hzz36 : (C33.alloc (.cells #[.int .i64 0, .slice none 0 0] 30)).heap.size = C33.heap.size + 1 := by simp
          have hT36 : Below W2.heap.size W2 (C33.alloc (.cells #[.int .i64 0, .slice none 0 0] 30)) := hS33.trans (hb36.mono (by omega))
          refine anyH_op (i := 8) (by kernel_rfl) rfl rfl (.pointer (some ⟨B36, 0, none⟩)) (C33.alloc (.cells #[.int .i64 0, .slice none 0 0] 30)) (by simp [go_sem, hBe36]) hT36 ?_
          have hw37 := hw34.alloc (.cells #[.int .i64 0, .slice none 0 0] 30)
          have hw38 := hw35.alloc (.cells #[.int .i64 0, .slice none 0 0] 30)
          have ho39 := ho33.alloc (.cells #[.int .i64 0, .slice none 0 0] 30)
          have hne36 : ∀ g, v33.ownBlock = some g → g ≠ B36 := fun g hg => by have := ho33.blockLt g hg; omega
          generalize C33.alloc (.cells #[.int .i64 0, .slice none 0 0] 30) = C36 at hB36 hzz36 hb36 hT36 hw37 hw38 ho39 ⊢
          simp only [Act.put, List.getElem_toArray, List.getElem_cons_zero, List.getElem_cons_succ, List.setIfInBounds_toArray, List.set_cons_zero, List.set_cons_succ]
          have hone : (#[.int .i64 N, v33] : Array Value).all (·.oneCell') = true := by (obtain ⟨a1, c1, e1⟩ := ho39.shape; subst e1; simp [Value.oneCell'])
          have hT40 : Below W2.heap.size W2 (C36.setRow B36 #[.int .i64 N, v33]) := bl_row hT36 (by omega) _
          refine anyH_store_row (i := 9) #[.int .i64 0, .slice none 0 0] #[.int .i64 N, v33] sizeSp (by kernel_rfl) rfl rfl (.tmp _) (.tmp _) rfl B36 (by rfl) (by rfl) hB36 rfl hone hT40 ?_
          simp only [Act.put, List.getElem_toArray, List.getElem_cons_zero, List.getElem_cons_succ, List.setIfInBounds_toArray, List.set_cons_zero, List.set_cons_succ]
          refine anyH_op (i := 10) (by kernel_rfl) rfl rfl (.bool ok) _ ?hq hT40 ?_
          case hq => simp [go_sem, Act.put]
          refine wpAnyH_done (by kernel_rfl) ?_ _
          simp only [Act.put, List.getElem_toArray, List.getElem_cons_zero, List.getElem_cons_succ, List.setIfInBounds_toArray, List.set_cons_zero, List.set_cons_succ]
          exact hK gg28 gg30 B36 v33 _ ⟨hT40, (ho39.rowO B36 hne36 _).mono (by omega), hp_row _ _ _ _ _ hB36, by omega, by (have e : (C36.setRow B36 #[.int .i64 N, v33]).heap.size = C36.heap.size := by simp); omega, hne36⟩
        · show wpOp _ _ _ _ _ _ _
          obtain ⟨B41, hBe41⟩ : ∃ B, B = C30.heap.size := ⟨_, rfl⟩
          have hb41 := (Below.refl C30.heap.size C30).alloc (Nat.le_refl _) (.cells #[.int .i64 0, .slice none 0 0] 30)
          have hB41 := hp_last C30 (.cells #[.int .i64 0, .slice none 0 0] 30)
          rw [← hBe41] at hB41
          have hzz41 : (C30.alloc (.cells #[.int .i64 0, .slice none 0 0] 30)).heap.size = C30.heap.size + 1 := by simp
          have hT41 : Below W2.heap.size W2 (C30.alloc (.cells #[.int .i64 0, .slice none 0 0] 30)) := hS30.trans (hb41.mono (by omega))
          refine wpOp_val rfl rfl (.pointer (some ⟨B41, 0, none⟩)) (C30.alloc (.cells #[.int .i64 0, .slice none 0 0] 30)) (by simp [go_sem, hBe41]) ⟨hT41, ?_⟩
          have hw42 := hw31.alloc (.cells #[.int .i64 0, .slice none 0 0] 30)
          have hw43 := hw32.alloc (.cells #[.int .i64 0, .slice none 0 0] 30)
          generalize C30.alloc (.cells #[.int .i64 0, .slice none 0 0] 30) = C41 at hB41 hzz41 hb41 hT41 hw42 hw43 ⊢
          simp only [Act.put, List.getElem_toArray, List.getElem_cons_zero, List.getElem_cons_succ, List.setIfInBounds_toArray, List.set_cons_zero, List.set_cons_succ]
          have hsp44 := specMeetOfSpaces_c n0 _ l0 n1 _ l1 C41 hw42.ints (by omega) hw43.ints (by omega) (HT.out.below (F19.out.trans (hT41.mono (by omega))))
          rw [HN.out, HR.out, HO.out] at hsp44
          refine anyH_call (i := 4) (by kernel_rfl) rfl rfl 41 (enters_of Tryd.func41 (by kernel_rfl) (by kernel_rfl)) _ _ rfl #[.agg #[.int .i64 n0, .slice (some ⟨gg28, 0, none⟩) l0.length l0.length], .agg #[.int .i64 n1, .slice (some ⟨gg30, 0, none⟩) l1.length l1.length]] rfl hsp44 ?_
          rintro e C44 ⟨v44, rfl, ho44, hb44⟩
          have hz44C : C41.heap.size ≤ C44.heap.size := hb44.size
          have hS44 : Below W2.heap.size W2 C44 := hT41.trans (hb44.mono (by omega))
          have hw45 := hw42.kept hb44
          have hw46 := hw43.kept hb44
          have hB47 := (hb44.block B41 (by omega)).trans hB41
          refine ⟨_, rfl, hS44, ?_⟩
          simp only [Act.put, List.getElem_toArray, List.getElem_cons_zero, List.getElem_cons_succ, List.setIfInBounds_toArray, List.set_cons_zero, List.set_cons_succ]
          refine wpAnyH_take (i := 5) (v := .tuple #[.agg #[.int .i64 N, v44], .bool ok]) rfl (by kernel_rfl) (by kernel_rfl) (by kernel_rfl) (fun _ _ _ h => h) (.inl ⟨rfl, fun w' _ => by go_simp⟩) hS44 ?_
          simp only [Act.put, List.getElem_toArray, List.getElem_cons_zero, List.getElem_cons_succ, List.setIfInBounds_toArray, List.set_cons_zero, List.set_cons_succ]
          refine wpAnyH_take (i := 6) (v := .agg #[.int .i64 N, v44]) rfl (by kernel_rfl) (by kernel_rfl) (by kernel_rfl) (fun _ _ _ h => h) (.inl ⟨rfl, fun w' _ => by go_simp⟩) hS44 ?_
          simp only [Act.put, List.getElem_toArray, List.getElem_cons_zero, List.getElem_cons_succ, List.setIfInBounds_toArray, List.set_cons_zero, List.set_cons_succ]
          refine wpAnyH_take (i := 7) (v := .bool ok) rfl (by kernel_rfl) (by kernel_rfl) (by kernel_rfl) (fun _ _ _ h => h) (.inl ⟨rfl, fun w' _ => by go_simp⟩) hS44 ?_
          simp only [Act.put, List.getElem_toArray, List.getElem_cons_zero, List.getElem_cons_succ, List.setIfInBounds_toArray, List.set_cons_zero, List.set_cons_succ]
          have hne : ∀ g, v44.ownBlock = some g → g ≠ B41 := fun g hg => by have := ho44.base g hg; omega
          have hone : (#[.int .i64 N, v44] : Array Value).all (·.oneCell') = true := by (obtain ⟨a1, c1, e1⟩ := ho44.shape; subst e1; simp [Value.oneCell'])
          have hT48 : Below W2.heap.size W2 (C44.setRow B41 #[.int .i64 N, v44]) := bl_row hS44 (by omega) _
          refine anyH_store_row (i := 9) #[.int .i64 0, .slice none 0 0] #[.int .i64 N, v44] sizeSp (by kernel_rfl) rfl rfl (.tmp _) (.tmp _) rfl B41 (by rfl) (by rfl) hB47 rfl hone hT48 ?_
          simp only [Act.put, List.getElem_toArray, List.getElem_cons_zero, List.getElem_cons_succ, List.setIfInBounds_toArray, List.set_cons_zero, List.set_cons_succ]
          refine anyH_op (i := 10) (by kernel_rfl) rfl rfl (.bool ok) _ ?hq hT48 ?_
          case hq => simp [go_sem, Act.put]
          refine wpAnyH_done (by kernel_rfl) ?_ _
          simp only [Act.put, List.getElem_toArray, List.getElem_cons_zero, List.getElem_cons_succ, List.setIfInBounds_toArray, List.set_cons_zero, List.set_cons_succ]
          exact hK gg28 gg30 B41 v44 _ ⟨hT48, (ho44.rowO B41 hne _).mono (by omega), hp_row _ _ _ _ _ hB47, by omega, by (have e : (C44.setRow B41 #[.int .i64 N, v44]).heap.size = C44.heap.size := by simp); omega, hne⟩
      · show wpOp _ _ _ _ _ _ _
        obtain ⟨B49, hBe49⟩ : ∃ B, B = C28.heap.size := ⟨_, rfl⟩
        have hb49 := (Below.refl C28.heap.size C28).alloc (Nat.le_refl _) (.cells #[.int .i64 0, .slice none 0 0] 30)
        have hB49 := hp_last C28 (.cells #[.int .i64 0, .slice none 0 0] 30)
        rw [← hBe49] at hB49
        have hzz49 : (C28.alloc (.cells #[.int .i64 0, .slice none 0 0] 30)).heap.size = C28.heap.size + 1 := by simp
        have hT49 : Below W2.heap.size W2 (C28.alloc (.cells #[.int .i64 0, .slice none 0 0] 30)) := hS28.trans (hb49.mono (by omega))
        refine wpOp_val rfl rfl (.pointer (some ⟨B49, 0, none⟩)) (C28.alloc (.cells #[.int .i64 0, .slice none 0 0] 30)) (by simp [go_sem, hBe49]) ⟨hT49, ?_⟩
        have hw50 := hw29.alloc (.cells #[.int .i64 0, .slice none 0 0] 30)
        generalize C28.alloc (.cells #[.int .i64 0, .slice none 0 0] 30) = C49 at hB49 hzz49 hb49 hT49 hw50 ⊢
        simp only [Act.put, List.getElem_toArray, List.getElem_cons_zero, List.getElem_cons_succ, List.setIfInBounds_toArray, List.set_cons_zero, List.set_cons_succ]
        refine anyH_call (i := 3) (by kernel_rfl) rfl rfl 18 ent_toSpace _ _ rfl #[.agg #[.int .i64 n1, v1]] rfl (toSpace_c n1 v1 l1 C49 ((F21.out.below hT49 (by omega)).mono (by omega)) (by omega)) ?_
        rintro e C51 ⟨gg51, rfl, hg51, hk51, hb51⟩
        have hz51C : C49.heap.size ≤ C51.heap.size := hb51.size
        have hS51 : Below W2.heap.size W2 C51 := hT49.trans (hb51.mono (by omega))
        have hw52 := hw50.kept hb51
        have hw53 := hk51.own hg51 (by unfold maxLen; omega)
        have hB54 := (hb51.block B49 (by omega)).trans hB49
        refine ⟨_, rfl, hS51, ?_⟩
        simp only [Act.put, List.getElem_toArray, List.getElem_cons_zero, List.getElem_cons_succ, List.setIfInBounds_toArray, List.set_cons_zero, List.set_cons_succ]
        have hsp55 := specMeetOfSpaces_c n0 _ l0 n1 _ l1 C51 hw52.ints (by omega) hw53.ints (by omega) (HT.out.below (F19.out.trans (hS51.mono (by omega))))
        rw [HN.out, HR.out, HO.out] at hsp55
        refine anyH_call (i := 4) (by kernel_rfl) rfl rfl 41 (enters_of Tryd.func41 (by kernel_rfl) (by kernel_rfl)) _ _ rfl #[.agg #[.int .i64 n0, .slice (some ⟨gg28, 0, none⟩) l0.length l0.length], .agg #[.int .i64 n1, .slice (some ⟨gg51, 0, none⟩) l1.length l1.length]] rfl hsp55 ?_
        rintro e C55 ⟨v55, rfl, ho55, hb55⟩
        have hz55C : C51.heap.size ≤ C55.heap.size := hb55.size
        have hS55 : Below W2.heap.size W2 C55 := hS51.trans (hb55.mono (by omega))
        have hw56 := hw52.kept hb55
        have hw57 := hw53.kept hb55
        have hB58 := (hb55.block B49 (by omega)).trans hB54
        refine ⟨_, rfl, hS55, ?_⟩
        simp only [Act.put, List.getElem_toArray, List.getElem_cons_zero, List.getElem_cons_succ, List.setIfInBounds_toArray, List.set_cons_zero, List.set_cons_succ]
        refine wpAnyH_take (i := 5) (v := .tuple #[.agg #[.int .i64 N, v55], .bool ok]) rfl (by kernel_rfl) (by kernel_rfl) (by kernel_rfl) (fun _ _ _ h => h) (.inl ⟨rfl, fun w' _ => by go_simp⟩) hS55 ?_
        simp only [Act.put, List.getElem_toArray, List.getElem_cons_zero, List.getElem_cons_succ, List.setIfInBounds_toArray, List.set_cons_zero, List.set_cons_succ]
        refine wpAnyH_take (i := 6) (v := .agg #[.int .i64 N, v55]) rfl (by kernel_rfl) (by kernel_rfl) (by kernel_rfl) (fun _ _ _ h => h) (.inl ⟨rfl, fun w' _ => by go_simp⟩) hS55 ?_
        simp only [Act.put, List.getElem_toArray, List.getElem_cons_zero, List.getElem_cons_succ, List.setIfInBounds_toArray, List.set_cons_zero, List.set_cons_succ]
        refine wpAnyH_take (i := 7) (v := .bool ok) rfl (by kernel_rfl) (by kernel_rfl) (by kernel_rfl) (fun _ _ _ h => h) (.inl ⟨rfl, fun w' _ => by go_simp⟩) hS55 ?_
        simp only [Act.put, List.getElem_toArray, List.getElem_cons_zero, List.getElem_cons_succ, List.setIfInBounds_toArray, List.set_cons_zero, List.set_cons_succ]
        have hne : ∀ g, v55.ownBlock = some g → g ≠ B49 := fun g hg => by have := ho55.base g hg; omega
        have hone : (#[.int .i64 N, v55] : Array Value).all (·.oneCell') = true := by (obtain ⟨a1, c1, e1⟩ := ho55.shape; subst e1; simp [Value.oneCell'])
        have hT59 : Below W2.heap.size W2 (C55.setRow B49 #[.int .i64 N, v55]) := bl_row hS55 (by omega) _
        refine anyH_store_row (i := 9) #[.int .i64 0, .slice none 0 0] #[.int .i64 N, v55] sizeSp (by kernel_rfl) rfl rfl (.tmp _) (.tmp _) rfl B49 (by rfl) (by rfl) hB58 rfl hone hT59 ?_
        simp only [Act.put, List.getElem_toArray, List.getElem_cons_zero, List.getElem_cons_succ, List.setIfInBounds_toArray, List.set_cons_zero, List.set_cons_succ]
        refine anyH_op (i := 10) (by kernel_rfl) rfl rfl (.bool ok) _ ?hq hT59 ?_
        case hq => simp [go_sem, Act.put]
        refine wpAnyH_done (by kernel_rfl) ?_ _
        simp only [Act.put, List.getElem_toArray, List.getElem_cons_zero, List.getElem_cons_succ, List.setIfInBounds_toArray, List.set_cons_zero, List.set_cons_succ]
        exact hK gg28 gg51 B49 v55 _ ⟨hT59, (ho55.rowO B49 hne _).mono (by omega), hp_row _ _ _ _ _ hB58, by omega, by (have e : (C55.setRow B49 #[.int .i64 N, v55]).heap.size = C55.heap.size := by simp); omega, hne⟩
    · show wpOp _ _ _ _ _ _ _
      obtain ⟨B60, hBe60⟩ : ∃ B, B = C0.heap.size := ⟨_, rfl⟩
      have hb60 := (Below.refl C0.heap.size C0).alloc (Nat.le_refl _) (.cells #[.int .i64 0, .slice none 0 0] 30)
      have hB60 := hp_last C0 (.cells #[.int .i64 0, .slice none 0 0] 30)
      rw [← hBe60] at hB60
      have hzz60 : (C0.alloc (.cells #[.int .i64 0, .slice none 0 0] 30)).heap.size = C0.heap.size + 1 := by simp
      have hT60 : Below W2.heap.size W2 (C0.alloc (.cells #[.int .i64 0, .slice none 0 0] 30)) := hS0.trans (hb60.mono (by omega))
      refine wpOp_val rfl rfl (.pointer (some ⟨B60, 0, none⟩)) (C0.alloc (.cells #[.int .i64 0, .slice none 0 0] 30)) (by simp [go_sem, hBe60]) ⟨hT60, ?_⟩
      generalize C0.alloc (.cells #[.int .i64 0, .slice none 0 0] 30) = C60 at hB60 hzz60 hb60 hT60  ⊢
      simp only [Act.put, List.getElem_toArray, List.getElem_cons_zero, List.getElem_cons_succ, List.setIfInBounds_toArray, List.set_cons_zero, List.set_cons_succ]
      refine anyH_call (i := 1) (by kernel_rfl) rfl rfl 18 ent_toSpace _ _ rfl #[.agg #[.int .i64 n0, v0]] rfl (toSpace_c n0 v0 l0 C60 ((F20.out.below hT60 (by omega)).mono (by omega)) (by omega)) ?_
      rintro e C61 ⟨gg61, rfl, hg61, hk61, hb61⟩
      have hz61C : C60.heap.size ≤ C61.heap.size := hb61.size
      have hS61 : Below W2.heap.size W2 C61 := hT60.trans (hb61.mono (by omega))
      have hw62 := hk61.own hg61 (by unfold maxLen; omega)
      have hB63 := (hb61.block B60 (by omega)).trans hB60
      refine ⟨_, rfl, hS61, ?_⟩
      simp only [Act.put, List.getElem_toArray, List.getElem_cons_zero, List.getElem_cons_succ, List.setIfInBounds_toArray, List.set_cons_zero, List.set_cons_succ]
      refine anyH_call (i := 3) (by kernel_rfl) rfl rfl 18 ent_toSpace _ _ rfl #[.agg #[.int .i64 n1, v1]] rfl (toSpace_c n1 v1 l1 C61 ((F21.out.below hS61 (by omega)).mono (by omega)) (by omega)) ?_
      rintro e C64 ⟨gg64, rfl, hg64, hk64, hb64⟩
      have hz64C : C61.heap.size ≤ C64.heap.size := hb64.size
      have hS64 : Below W2.heap.size W2 C64 := hS61.trans (hb64.mono (by omega))
      have hw65 := hw62.kept hb64
      have hw66 := hk64.own hg64 (by unfold maxLen; omega)
      have hB67 := (hb64.block B60 (by omega)).trans hB63
      refine ⟨_, rfl, hS64, ?_⟩
      simp only [Act.put, List.getElem_toArray, List.getElem_cons_zero, List.getElem_cons_succ, List.setIfInBounds_toArray, List.set_cons_zero, List.set_cons_succ]
      have hsp68 := specMeetOfSpaces_c n0 _ l0 n1 _ l1 C64 hw65.ints (by omega) hw66.ints (by omega) (HT.out.below (F19.out.trans (hS64.mono (by omega))))
      rw [HN.out, HR.out, HO.out] at hsp68
      refine anyH_call (i := 4) (by kernel_rfl) rfl rfl 41 (enters_of Tryd.func41 (by kernel_rfl) (by kernel_rfl)) _ _ rfl #[.agg #[.int .i64 n0, .slice (some ⟨gg61, 0, none⟩) l0.length l0.length], .agg #[.int .i64 n1, .slice (some ⟨gg64, 0, none⟩) l1.length l1.length]] rfl hsp68 ?_
      rintro e C68 ⟨v68, rfl, ho68, hb68⟩
      have hz68C : C64.heap.size ≤ C68.heap.size := hb68.size
      have hS68 : Below W2.heap.size W2 C68 := hS64.trans (hb68.mono (by omega))
      have hw69 := hw65.kept hb68
      have hw70 := hw66.kept hb68
      have hB71 := (hb68.block B60 (by omega)).trans hB67
      refine ⟨_, rfl, hS68, ?_⟩
      simp only [Act.put, List.getElem_toArray, List.getElem_cons_zero, List.getElem_cons_succ, List.setIfInBounds_toArray, List.set_cons_zero, List.set_cons_succ]
      refine wpAnyH_take (i := 5) (v := .tuple #[.agg #[.int .i64 N, v68], .bool ok]) rfl (by kernel_rfl) (by kernel_rfl) (by kernel_rfl) (fun _ _ _ h => h) (.inl ⟨rfl, fun w' _ => by go_simp⟩) hS68 ?_
      simp only [Act.put, List.getElem_toArray, List.getElem_cons_zero, List.getElem_cons_succ, List.setIfInBounds_toArray, List.set_cons_zero, List.set_cons_succ]
      refine wpAnyH_take (i := 6) (v := .agg #[.int .i64 N, v68]) rfl (by kernel_rfl) (by kernel_rfl) (by kernel_rfl) (fun _ _ _ h => h) (.inl ⟨rfl, fun w' _ => by go_simp⟩) hS68 ?_
      simp only [Act.put, List.getElem_toArray, List.getElem_cons_zero, List.getElem_cons_succ, List.setIfInBounds_toArray, List.set_cons_zero, List.set_cons_succ]
      refine wpAnyH_take (i := 7) (v := .bool ok) rfl (by kernel_rfl) (by kernel_rfl) (by kernel_rfl) (fun _ _ _ h => h) (.inl ⟨rfl, fun w' _ => by go_simp⟩) hS68 ?_
      simp only [Act.put, List.getElem_toArray, List.getElem_cons_zero, List.getElem_cons_succ, List.setIfInBounds_toArray, List.set_cons_zero, List.set_cons_succ]
      have hne : ∀ g, v68.ownBlock = some g → g ≠ B60 := fun g hg => by have := ho68.base g hg; omega
      have hone : (#[.int .i64 N, v68] : Array Value).all (·.oneCell') = true := by (obtain ⟨a1, c1, e1⟩ := ho68.shape; subst e1; simp [Value.oneCell'])
      have hT72 : Below W2.heap.size W2 (C68.setRow B60 #[.int .i64 N, v68]) := bl_row hS68 (by omega) _
      refine anyH_store_row (i := 9) #[.int .i64 0, .slice none 0 0] #[.int .i64 N, v68] sizeSp (by kernel_rfl) rfl rfl (.tmp _) (.tmp _) rfl B60 (by rfl) (by rfl) hB71 rfl hone hT72 ?_
      simp only [Act.put, List.getElem_toArray, List.getElem_cons_zero, List.getElem_cons_succ, List.setIfInBounds_toArray, List.set_cons_zero, List.set_cons_succ]
      refine anyH_op (i := 10) (by kernel_rfl) rfl rfl (.bool ok) _ ?hq hT72 ?_
      case hq => simp [go_sem, Act.put]
      refine wpAnyH_done (by kernel_rfl) ?_ _
      simp only [Act.put, List.getElem_toArray, List.getElem_cons_zero, List.getElem_cons_succ, List.setIfInBounds_toArray, List.set_cons_zero, List.set_cons_succ]
      exact hK gg61 gg64 B60 v68 _ ⟨hT72, (ho68.rowO B60 hne _).mono (by omega), hp_row _ _ _ _ _ hB71, by omega, by (have e : (C68.setRow B60 #[.int .i64 N, v68]).heap.size = C68.heap.size := by simp); omega, hne⟩
  rintro _ _ Bs vs W3 ⟨hb73, ho74, hB75, hBlo, hBhi, hBne⟩
  have hz76 := hb73.size
  have F77 := hide (F19.out.trans (hb73.mono (by omega)))
  have F78 := hide (F20.out.below hb73 (by omega))
  have F79 := hide (F21.out.below hb73 (by omega))
  have F80 := hide ((hb73.block (w.heap.size) (by omega)).trans F22.out)
  have F81 := hide ((hb73.block (w.heap.size + 1) (by omega)).trans F23.out)
  obtain ⟨aa82, cc83, hv84⟩ := ho74.shape
  have F85 := hide (ho74)
  have B86 := hide (F85.out.base)
  have L87 := hide (F85.out.blockLt)
  subst hv84
  have F88 := hide (hB75)
  clear hb73 ho74 hB75 F19 F20 F21 F22 F23
  have p89 := cells_at0 F80.out
  have p90 := cells_at1 F80.out
  have p91 := cells_at0 F81.out
  have p92 := cells_at1 F81.out
  have p93 := cells_at0 F88.out
  have p94 := cells_at1 F88.out
  go_wp2_with fail
  clear p89 p90 p91 p92 p93 p94
  refine (toSpace_c n0 v0 l0 W3 (F78.out.mono (by omega)) (by omega)).mono ?_
  rintro e W4 ⟨g95, rfl, hg96, hk97, hb98⟩
  have hz99 := hb98.size
  have F100 := hide (F77.out.trans (hb98.mono (by omega)))
  have F101 := hide (F78.out.below hb98 (by omega))
  have F102 := hide (F79.out.below hb98 (by omega))
  have F103 := hide ((hb98.block (w.heap.size) (by omega)).trans F80.out)
  have F104 := hide ((hb98.block (w.heap.size + 1) (by omega)).trans F81.out)
  have F105 := hide (F85.out.kept hb98)
  have F106 := hide ((hb98.block (Bs) (by omega)).trans F88.out)
  have F107 := hide (hk97.own hg96 (by unfold maxLen; omega))
  have B108 := hide (F107.out.base)
  have L109 := hide (F107.out.blockLt)
  clear hb98 F77 F78 F79 F80 F81 F85 F88 hk97 hg96
  have F110 := hide (F100.out.alloc (by omega) (.cells #[.int .i64 n0, .slice (some ⟨g95, 0, none⟩) l0.length l0.length] 30))
  have F111 := hide (F101.out.alloc (.cells #[.int .i64 n0, .slice (some ⟨g95, 0, none⟩) l0.length l0.length] 30))
  have F112 := hide (F102.out.alloc (.cells #[.int .i64 n0, .slice (some ⟨g95, 0, none⟩) l0.length l0.length] 30))
  have F113 := hide ((hp_old W4 (.cells #[.int .i64 n0, .slice (some ⟨g95, 0, none⟩) l0.length l0.length] 30) (w.heap.size) (by omega)).trans F103.out)
  have F114 := hide ((hp_old W4 (.cells #[.int .i64 n0, .slice (some ⟨g95, 0, none⟩) l0.length l0.length] 30) (w.heap.size + 1) (by omega)).trans F104.out)
  have F115 := hide (F105.out.alloc (.cells #[.int .i64 n0, .slice (some ⟨g95, 0, none⟩) l0.length l0.length] 30))
  have F116 := hide ((hp_old W4 (.cells #[.int .i64 n0, .slice (some ⟨g95, 0, none⟩) l0.length l0.length] 30) (Bs) (by omega)).trans F106.out)
  have F117 := hide (F107.out.alloc (.cells #[.int .i64 n0, .slice (some ⟨g95, 0, none⟩) l0.length l0.length] 30))
  have F118 := hide (hp_last W4 (.cells #[.int .i64 n0, .slice (some ⟨g95, 0, none⟩) l0.length l0.length] 30))
  have HZ119 := hide (show (W4.alloc (.cells #[.int .i64 n0, .slice (some ⟨g95, 0, none⟩) l0.length l0.length] 30)).heap.size = W4.heap.size + 1 by simp)
  clear F100 F101 F102 F103 F104 F105 F106 F107
  have p120 := cells_at0 F113.out
  have p121 := cells_at1 F113.out
  have p122 := cells_at0 F114.out
  have p123 := cells_at1 F114.out
  have p124 := cells_at0 F116.out
  have p125 := cells_at1 F116.out
  have p126 := cells_at0 F118.out
  have p127 := cells_at1 F118.out
  go_wp2_with fail
  clear p120 p121 p122 p123 p124 p125 p126 p127
  generalize hX : W4.alloc (.cells #[.int .i64 n0, .slice (some ⟨g95, 0, none⟩) l0.length l0.length] 30) = W5 at F110 F111 F112 F113 F114 F115 F116 F117 F118 HZ119 ⊢
  have hz128 := Nat.le_of_eq HZ119.out.symm
  clear hX HZ119
  refine (toSpace_c n1 v1 l1 W5 (F112.out.mono (by omega)) (by omega)).mono ?_
  rintro e W6 ⟨g129, rfl, hg130, hk131, hb132⟩
  have hz133 := hb132.size
  have F134 := hide (F110.out.trans (hb132.mono (by omega)))
  have F135 := hide (F111.out.below hb132 (by omega))
  have F136 := hide (F112.out.below hb132 (by omega))
  have F137 := hide ((hb132.block (w.heap.size) (by omega)).trans F113.out)
  have F138 := hide ((hb132.block (w.heap.size + 1) (by omega)).trans F114.out)
  have F139 := hide (F115.out.kept hb132)
  have F140 := hide ((hb132.block (Bs) (by omega)).trans F116.out)
  have F141 := hide (F117.out.kept hb132)
  have F142 := hide ((hb132.block (W4.heap.size) (by omega)).trans F118.out)
  have F143 := hide (hk131.own hg130 (by unfold maxLen; omega))
  have B144 := hide (F143.out.base)
  have L145 := hide (F143.out.blockLt)
  clear hb132 F110 F111 F112 F113 F114 F115 F116 F117 F118 hk131 hg130
  have F146 := hide (F134.out.alloc (by omega) (.cells #[.int .i64 n1, .slice (some ⟨g129, 0, none⟩) l1.length l1.length] 30))
  have F147 := hide (F135.out.alloc (.cells #[.int .i64 n1, .slice (some ⟨g129, 0, none⟩) l1.length l1.length] 30))
  have F148 := hide (F136.out.alloc (.cells #[.int .i64 n1, .slice (some ⟨g129, 0, none⟩) l1.length l1.length] 30))
  have F149 := hide ((hp_old W6 (.cells #[.int .i64 n1, .slice (some ⟨g129, 0, none⟩) l1.length l1.length] 30) (w.heap.size) (by omega)).trans F137.out)
  have F150 := hide ((hp_old W6 (.cells #[.int .i64 n1, .slice (some ⟨g129, 0, none⟩) l1.length l1.length] 30) (w.heap.size + 1) (by omega)).trans F138.out)
  have F151 := hide (F139.out.alloc (.cells #[.int .i64 n1, .slice (some ⟨g129, 0, none⟩) l1.length l1.length] 30))
  have F152 := hide ((hp_old W6 (.cells #[.int .i64 n1, .slice (some ⟨g129, 0, none⟩) l1.length l1.length] 30) (Bs) (by omega)).trans F140.out)
  have F153 := hide (F141.out.alloc (.cells #[.int .i64 n1, .slice (some ⟨g129, 0, none⟩) l1.length l1.length] 30))
  have F154 := hide ((hp_old W6 (.cells #[.int .i64 n1, .slice (some ⟨g129, 0, none⟩) l1.length l1.length] 30) (W4.heap.size) (by omega)).trans F142.out)
  have F155 := hide (F143.out.alloc (.cells #[.int .i64 n1, .slice (some ⟨g129, 0, none⟩) l1.length l1.length] 30))
  have F156 := hide (hp_last W6 (.cells #[.int .i64 n1, .slice (some ⟨g129, 0, none⟩) l1.length l1.length] 30))
  have HZ157 := hide (show (W6.alloc (.cells #[.int .i64 n1, .slice (some ⟨g129, 0, none⟩) l1.length l1.length] 30)).heap.size = W6.heap.size + 1 by simp)
  clear F134 F135 F136 F137 F138 F139 F140 F141 F142 F143
  have p158 := cells_at0 F149.out
  have p159 := cells_at1 F149.out
  have p160 := cells_at0 F150.out
  have p161 := cells_at1 F150.out
  have p162 := cells_at0 F152.out
  have p163 := cells_at1 F152.out
  have p164 := cells_at0 F154.out
  have p165 := cells_at1 F154.out
  have p166 := cells_at0 F156.out
  have p167 := cells_at1 F156.out
  go_wp2_with fail
  clear p158 p159 p160 p161 p162 p163 p164 p165 p166 p167
  generalize hX : W6.alloc (.cells #[.int .i64 n1, .slice (some ⟨g129, 0, none⟩) l1.length l1.length] 30) = W7 at F146 F147 F148 F149 F150 F151 F152 F153 F154 F155 F156 HZ157 ⊢
  have hz168 := Nat.le_of_eq HZ157.out.symm
  clear hX HZ157
  refine (implMeetOfSpaces_c n0 _ l0 n1 _ l1 W7 F153.out.ints (by omega) F155.out.ints (by omega) (HT.out.belowB HT.out F146.out (Nat.le_refl _))).mono ?_
  rw [HN.out, HR.out, HO.out]
  rintro e W8 ⟨v169, rfl, ho170, hb171⟩
  have hz172 := hb171.size
  have F173 := hide (F146.out.trans (hb171.mono (by omega)))
  have F174 := hide (F147.out.below hb171 (by omega))
  have F175 := hide (F148.out.below hb171 (by omega))
  have F176 := hide ((hb171.block (w.heap.size) (by omega)).trans F149.out)
  have F177 := hide ((hb171.block (w.heap.size + 1) (by omega)).trans F150.out)
  have F178 := hide (F151.out.kept hb171)
  have F179 := hide ((hb171.block (Bs) (by omega)).trans F152.out)
  have F180 := hide (F153.out.kept hb171)
  have F181 := hide ((hb171.block (W4.heap.size) (by omega)).trans F154.out)
  have F182 := hide (F155.out.kept hb171)
  have F183 := hide ((hb171.block (W6.heap.size) (by omega)).trans F156.out)
  obtain ⟨aa184, cc185, hv186⟩ := ho170.shape
  have F187 := hide (ho170)
  have B188 := hide (F187.out.base)
  have L189 := hide (F187.out.blockLt)
  clear hb171 F146 F147 F148 F149 F150 F151 F152 F153 F154 F155 F156 ho170
  subst hv186
  have F190 := hide (F173.out.alloc (by omega) (.cells #[.int .i64 N, .slice aa184 R.length cc185] 30))
  have F191 := hide (F174.out.alloc (.cells #[.int .i64 N, .slice aa184 R.length cc185] 30))
  have F192 := hide (F175.out.alloc (.cells #[.int .i64 N, .slice aa184 R.length cc185] 30))
  have F193 := hide ((hp_old W8 (.cells #[.int .i64 N, .slice aa184 R.length cc185] 30) (w.heap.size) (by omega)).trans F176.out)
  have F194 := hide ((hp_old W8 (.cells #[.int .i64 N, .slice aa184 R.length cc185] 30) (w.heap.size + 1) (by omega)).trans F177.out)
  have F195 := hide (F178.out.alloc (.cells #[.int .i64 N, .slice aa184 R.length cc185] 30))
  have F196 := hide ((hp_old W8 (.cells #[.int .i64 N, .slice aa184 R.length cc185] 30) (Bs) (by omega)).trans F179.out)
  have F197 := hide (F180.out.alloc (.cells #[.int .i64 N, .slice aa184 R.length cc185] 30))
  have F198 := hide ((hp_old W8 (.cells #[.int .i64 N, .slice aa184 R.length cc185] 30) (W4.heap.size) (by omega)).trans F181.out)
  have F199 := hide (F182.out.alloc (.cells #[.int .i64 N, .slice aa184 R.length cc185] 30))
  have F200 := hide ((hp_old W8 (.cells #[.int .i64 N, .slice aa184 R.length cc185] 30) (W6.heap.size) (by omega)).trans F183.out)
  have F201 := hide (F187.out.alloc (.cells #[.int .i64 N, .slice aa184 R.length cc185] 30))
  have F202 := hide (hp_last W8 (.cells #[.int .i64 N, .slice aa184 R.length cc185] 30))
  have HZ203 := hide (show (W8.alloc (.cells #[.int .i64 N, .slice aa184 R.length cc185] 30)).heap.size = W8.heap.size + 1 by simp)
  clear F173 F174 F175 F176 F177 F178 F179 F180 F181 F182 F183 F187
  have p204 := cells_at0 F193.out
  have p205 := cells_at1 F193.out
  have p206 := cells_at0 F194.out
  have p207 := cells_at1 F194.out
  have p208 := cells_at0 F196.out
  have p209 := cells_at1 F196.out
  have p210 := cells_at0 F198.out
  have p211 := cells_at1 F198.out
  have p212 := cells_at0 F200.out
  have p213 := cells_at1 F200.out
  have p214 := cells_at0 F202.out
  have p215 := cells_at1 F202.out
  go_wp2_with fail
  clear p204 p205 p206 p207 p208 p209 p210 p211 p212 p213 p214 p215
  generalize hX : W8.alloc (.cells #[.int .i64 N, .slice aa184 R.length cc185] 30) = W9 at F190 F191 F192 F193 F194 F195 F196 F197 F198 F199 F200 F201 F202 HZ203 ⊢
  have hz216 := Nat.le_of_eq HZ203.out.symm
  clear hX HZ203
  refine (eqSpace_same_c N _ _ R W9 (F201.out.ints) (F195.out.ints) hRL).mono ?_
  rintro e W10 ⟨rfl, hb217⟩
  have hz218 := hb217.size
  have F219 := hide (F190.out.trans (hb217.mono (by omega)))
  have F220 := hide (F191.out.below hb217 (by omega))
  have F221 := hide (F192.out.below hb217 (by omega))
  have F222 := hide ((hb217.block (w.heap.size) (by omega)).trans F193.out)
  have F223 := hide ((hb217.block (w.heap.size + 1) (by omega)).trans F194.out)
  have F224 := hide (F195.out.kept hb217)
  have F225 := hide ((hb217.block (Bs) (by omega)).trans F196.out)
  have F226 := hide (F197.out.kept hb217)
  have F227 := hide ((hb217.block (W4.heap.size) (by omega)).trans F198.out)
  have F228 := hide (F199.out.kept hb217)
  have F229 := hide ((hb217.block (W6.heap.size) (by omega)).trans F200.out)
  have F230 := hide (F201.out.kept hb217)
  have F231 := hide ((hb217.block (W8.heap.size) (by omega)).trans F202.out)
  clear hb217 F190 F191 F192 F193 F194 F195 F196 F197 F198 F199 F200 F201 F202
  have p232 := cells_at0 F222.out
  have p233 := cells_at1 F222.out
  have p234 := cells_at0 F223.out
  have p235 := cells_at1 F223.out
  have p236 := cells_at0 F225.out
  have p237 := cells_at1 F225.out
  have p238 := cells_at0 F227.out
  have p239 := cells_at1 F227.out
  have p240 := cells_at0 F229.out
  have p241 := cells_at1 F229.out
  have p242 := cells_at0 F231.out
  have p243 := cells_at1 F231.out
  go_wp2
  clear p232 p233 p234 p235 p236 p237 p238 p239 p240 p241 p242 p243
  refine wp_region_held (S := Below W10.heap.size W10) (by kernel_rfl) ?_
  have hS : Below W10.heap.size W10 { W10 with drawn := W10.drawn + 1 } := (Below.refl _ _).drew
  refine wpAnyH_take (i := 0) rfl (by kernel_rfl) (by kernel_rfl) (by kernel_rfl) (fun _ _ _ h => h) (yields_load_two rowSp sizeSp rfl (.tmp _) rfl _ rfl _ _ (fun w' h => (h.cell (p := ⟨W4.heap.size, 0, none⟩) (by show W4.heap.size < _; omega)).trans (cells_at0 F227.out)) (fun w' h => (h.cell (p := ⟨W4.heap.size, 1, none⟩) (by show W4.heap.size < _; omega)).trans (cells_at1 F227.out))) hS ?_
  refine wpAnyH_take (i := 1) rfl (by kernel_rfl) (by kernel_rfl) (by kernel_rfl) (fun _ _ _ h => h) (yields_load_two rowSl sizeSl rfl (.tmp _) rfl _ rfl _ _ (fun w' h => (h.cell (p := ⟨w.heap.size, 0, none⟩) (by show w.heap.size < _; omega)).trans (cells_at0 F222.out)) (fun w' h => (h.cell (p := ⟨w.heap.size, 1, none⟩) (by show w.heap.size < _; omega)).trans (cells_at1 F222.out))) hS ?_
  refine anyH_call (i := 2) (by kernel_rfl) rfl rfl 18 ent_toSpace _ _ rfl #[.agg #[.int .i64 n0, v0]] rfl (toSpace_c n0 v0 l0 _ ((F220.out.below hS (by omega)).mono (show w.heap.size ≤ W10.heap.size by omega)) (by omega)) ?_
  rintro e W11 ⟨g244, rfl, hgr, hkr, hbr⟩
  have hzr : W10.heap.size ≤ W11.heap.size := hbr.size
  have hS6 : Below W10.heap.size W10 W11 := hS.trans hbr
  refine ⟨_, rfl, hS6, ?_⟩
  refine anyH_call (i := 3) (by kernel_rfl) rfl rfl 21 ent_eqSpace _ _ rfl #[.agg #[.int .i64 n0, .slice (some ⟨g95, 0, none⟩) l0.length l0.length], .agg #[.int .i64 n0, .slice (some ⟨g244, 0, none⟩) l0.length l0.length]] rfl (eqSpace_same_c n0 _ _ l0 W11 ((F226.out.kept hS6).ints) (hkr.ints _) (by omega)) ?_
  rintro e W12 ⟨rfl, hbs⟩
  have hS7 : Below W10.heap.size W10 W12 := hS6.trans (hbs.mono hzr)
  refine ⟨_, rfl, hS7, ?_⟩
  refine anyH_op (i := 4) (by kernel_rfl) rfl rfl (.bool false) W12 ?hq hS7 ?_
  case hq => simp [go_sem, Act.put]
  refine wpAnyH_done (by kernel_rfl) ?_ _
  simp only [Act.put, List.getElem_toArray, List.getElem_cons_zero, List.getElem_cons_succ, List.setIfInBounds_toArray, List.set_cons_zero, List.set_cons_succ]
  have hz245 : W10.heap.size ≤ W12.heap.size := hS7.size
  have F246 := hide (F219.out.trans (hS7.mono (by omega)))
  have F247 := hide (F220.out.below hS7 (by omega))
  have F248 := hide (F221.out.below hS7 (by omega))
  have F249 := hide ((hS7.block (w.heap.size) (by omega)).trans F222.out)
  have F250 := hide ((hS7.block (w.heap.size + 1) (by omega)).trans F223.out)
  have F251 := hide (F224.out.kept hS7)
  have F252 := hide ((hS7.block (Bs) (by omega)).trans F225.out)
  have F253 := hide (F226.out.kept hS7)
  have F254 := hide ((hS7.block (W4.heap.size) (by omega)).trans F227.out)
  have F255 := hide (F228.out.kept hS7)
  have F256 := hide ((hS7.block (W6.heap.size) (by omega)).trans F229.out)
  have F257 := hide (F230.out.kept hS7)
  have F258 := hide ((hS7.block (W8.heap.size) (by omega)).trans F231.out)
  clear hS hS6 hS7 hbr hbs hkr hgr hzr F219 F220 F221 F222 F223 F224 F225 F226 F227 F228 F229 F230 F231
  have p259 := cells_at0 F249.out
  have p260 := cells_at1 F249.out
  have p261 := cells_at0 F250.out
  have p262 := cells_at1 F250.out
  have p263 := cells_at0 F252.out
  have p264 := cells_at1 F252.out
  have p265 := cells_at0 F254.out
  have p266 := cells_at1 F254.out
  have p267 := cells_at0 F256.out
  have p268 := cells_at1 F256.out
  have p269 := cells_at0 F258.out
  have p270 := cells_at1 F258.out
  go_wp2
  clear p259 p260 p261 p262 p263 p264 p265 p266 p267 p268 p269 p270
  refine wp_region_held (S := Below W12.heap.size W12) (by kernel_rfl) ?_
  have hS : Below W12.heap.size W12 { W12 with drawn := W12.drawn + 1 } := (Below.refl _ _).drew
  refine wpAnyH_take (i := 0) rfl (by kernel_rfl) (by kernel_rfl) (by kernel_rfl) (fun _ _ _ h => h) (yields_load_two rowSp sizeSp rfl (.tmp _) rfl _ rfl _ _ (fun w' h => (h.cell (p := ⟨W6.heap.size, 0, none⟩) (by show W6.heap.size < _; omega)).trans (cells_at0 F256.out)) (fun w' h => (h.cell (p := ⟨W6.heap.size, 1, none⟩) (by show W6.heap.size < _; omega)).trans (cells_at1 F256.out))) hS ?_
  refine wpAnyH_take (i := 1) rfl (by kernel_rfl) (by kernel_rfl) (by kernel_rfl) (fun _ _ _ h => h) (yields_load_two rowSl sizeSl rfl (.tmp _) rfl _ rfl _ _ (fun w' h => (h.cell (p := ⟨w.heap.size + 1, 0, none⟩) (by show w.heap.size + 1 < _; omega)).trans (cells_at0 F250.out)) (fun w' h => (h.cell (p := ⟨w.heap.size + 1, 1, none⟩) (by show w.heap.size + 1 < _; omega)).trans (cells_at1 F250.out))) hS ?_
  refine anyH_call (i := 2) (by kernel_rfl) rfl rfl 18 ent_toSpace _ _ rfl #[.agg #[.int .i64 n1, v1]] rfl (toSpace_c n1 v1 l1 _ ((F248.out.below hS (by omega)).mono (show w.heap.size ≤ W12.heap.size by omega)) (by omega)) ?_
  rintro e W13 ⟨g271, rfl, hgr, hkr, hbr⟩
  have hzr : W12.heap.size ≤ W13.heap.size := hbr.size
  have hS6 : Below W12.heap.size W12 W13 := hS.trans hbr
  refine ⟨_, rfl, hS6, ?_⟩
  refine anyH_call (i := 3) (by kernel_rfl) rfl rfl 21 ent_eqSpace _ _ rfl #[.agg #[.int .i64 n1, .slice (some ⟨g129, 0, none⟩) l1.length l1.length], .agg #[.int .i64 n1, .slice (some ⟨g271, 0, none⟩) l1.length l1.length]] rfl (eqSpace_same_c n1 _ _ l1 W13 ((F255.out.kept hS6).ints) (hkr.ints _) (by omega)) ?_
  rintro e W14 ⟨rfl, hbs⟩
  have hS7 : Below W12.heap.size W12 W14 := hS6.trans (hbs.mono hzr)
  refine ⟨_, rfl, hS7, ?_⟩
  refine anyH_op (i := 4) (by kernel_rfl) rfl rfl (.bool false) W14 ?hq hS7 ?_
  case hq => simp [go_sem, Act.put]
  refine wpAnyH_done (by kernel_rfl) ?_ _
  simp only [Act.put, List.getElem_toArray, List.getElem_cons_zero, List.getElem_cons_succ, List.setIfInBounds_toArray, List.set_cons_zero, List.set_cons_succ]
  have hz272 : W12.heap.size ≤ W14.heap.size := hS7.size
  have F273 := hide (F246.out.trans (hS7.mono (by omega)))
  have F274 := hide (F247.out.below hS7 (by omega))
  have F275 := hide (F248.out.below hS7 (by omega))
  have F276 := hide ((hS7.block (w.heap.size) (by omega)).trans F249.out)
  have F277 := hide ((hS7.block (w.heap.size + 1) (by omega)).trans F250.out)
  have F278 := hide (F251.out.kept hS7)
  have F279 := hide ((hS7.block (Bs) (by omega)).trans F252.out)
  have F280 := hide (F253.out.kept hS7)
  have F281 := hide ((hS7.block (W4.heap.size) (by omega)).trans F254.out)
  have F282 := hide (F255.out.kept hS7)
  have F283 := hide ((hS7.block (W6.heap.size) (by omega)).trans F256.out)
  have F284 := hide (F257.out.kept hS7)
  have F285 := hide ((hS7.block (W8.heap.size) (by omega)).trans F258.out)
  clear hS hS6 hS7 hbr hbs hkr hgr hzr F246 F247 F248 F249 F250 F251 F252 F253 F254 F255 F256 F257 F258
  have p286 := cells_at0 F276.out
  have p287 := cells_at1 F276.out
  have p288 := cells_at0 F277.out
  have p289 := cells_at1 F277.out
  have p290 := cells_at0 F279.out
  have p291 := cells_at1 F279.out
  have p292 := cells_at0 F281.out
  have p293 := cells_at1 F281.out
  have p294 := cells_at0 F283.out
  have p295 := cells_at1 F283.out
  have p296 := cells_at0 F285.out
  have p297 := cells_at1 F285.out
  go_wp2_with fail
  clear p286 p287 p288 p289 p290 p291 p292 p293 p294 p295 p296 p297
  refine (markSpace_c n0 _ l0 (1) W14 _ F280.out (by omega) (by omega) (by omega)).mono ?_
  rintro e W15 ⟨rfl, hn299, ho298⟩
  have hz300 := ho298.size
  have F301 := hide (F273.out.trans (ho298.below w.heap.size (fun g hg => by have := B108.out g hg; omega) (by omega)))
  have F302 := hide (F274.out.below (ho298.below w.heap.size (fun g hg => by have := B108.out g hg; omega) (by omega)) (Nat.le_refl _))
  have F303 := hide (F275.out.below (ho298.below w.heap.size (fun g hg => by have := B108.out g hg; omega) (by omega)) (Nat.le_refl _))
  have F304 := hide ((ho298.block (w.heap.size) (by omega) (fun e => by have h1 := B108.out _ e; have h2 := L109.out _ e; omega)).trans F276.out)
  have F305 := hide ((ho298.block (w.heap.size + 1) (by omega) (fun e => by have h1 := B108.out _ e; have h2 := L109.out _ e; omega)).trans F277.out)
  have F306 := hide (F278.out.other ho298 (fun g hg e => by have h1 := B108.out _ e; have h2 := L109.out _ e; have h3 := B86.out _ hg; have h4 := L87.out _ hg; omega))
  have F307 := hide ((ho298.block (Bs) (by omega) (fun e => by have h1 := B108.out _ e; have h2 := L109.out _ e; omega)).trans F279.out)
  have F309 := hide ((ho298.block (W4.heap.size) (by omega) (fun e => by have h1 := B108.out _ e; have h2 := L109.out _ e; omega)).trans F281.out)
  have F310 := hide (F282.out.other ho298 (fun g hg e => by have h1 := B108.out _ e; have h2 := L109.out _ e; have h3 := B144.out _ hg; have h4 := L145.out _ hg; omega))
  have F311 := hide ((ho298.block (W6.heap.size) (by omega) (fun e => by have h1 := B108.out _ e; have h2 := L109.out _ e; omega)).trans F283.out)
  have F312 := hide (F284.out.other ho298 (fun g hg e => by have h1 := B108.out _ e; have h2 := L109.out _ e; have h3 := B188.out _ hg; have h4 := L189.out _ hg; omega))
  have F313 := hide ((ho298.block (W8.heap.size) (by omega) (fun e => by have h1 := B108.out _ e; have h2 := L109.out _ e; omega)).trans F285.out)
  have F314 := hide hn299
  clear F273 F274 F275 F276 F277 F278 F279 F280 F281 F282 F283 F284 F285 hn299 ho298
  have p315 := cells_at0 F304.out
  have p316 := cells_at1 F304.out
  have p317 := cells_at0 F305.out
  have p318 := cells_at1 F305.out
  have p319 := cells_at0 F307.out
  have p320 := cells_at1 F307.out
  have p321 := cells_at0 F309.out
  have p322 := cells_at1 F309.out
  have p323 := cells_at0 F311.out
  have p324 := cells_at1 F311.out
  have p325 := cells_at0 F313.out
  have p326 := cells_at1 F313.out
  go_wp2_with fail
  clear p315 p316 p317 p318 p319 p320 p321 p322 p323 p324 p325 p326
  refine (markSpace_c n1 _ l1 (1 + (l0.length : Int)) W15 _ F310.out (by omega) (by omega) (by omega)).mono ?_
  rintro e W16 ⟨rfl, hn328, ho327⟩
  have hz329 := ho327.size
  have F330 := hide (F301.out.trans (ho327.below w.heap.size (fun g hg => by have := B144.out g hg; omega) (by omega)))
  have F331 := hide (F302.out.below (ho327.below w.heap.size (fun g hg => by have := B144.out g hg; omega) (by omega)) (Nat.le_refl _))
  have F332 := hide (F303.out.below (ho327.below w.heap.size (fun g hg => by have := B144.out g hg; omega) (by omega)) (Nat.le_refl _))
  have F333 := hide ((ho327.block (w.heap.size) (by omega) (fun e => by have h1 := B144.out _ e; have h2 := L145.out _ e; omega)).trans F304.out)
  have F334 := hide ((ho327.block (w.heap.size + 1) (by omega) (fun e => by have h1 := B144.out _ e; have h2 := L145.out _ e; omega)).trans F305.out)
  have F335 := hide (F306.out.other ho327 (fun g hg e => by have h1 := B144.out _ e; have h2 := L145.out _ e; have h3 := B86.out _ hg; have h4 := L87.out _ hg; omega))
  have F336 := hide ((ho327.block (Bs) (by omega) (fun e => by have h1 := B144.out _ e; have h2 := L145.out _ e; omega)).trans F307.out)
  have F337 := hide (F314.out.other ho327 (fun g hg e => by have h1 := B144.out _ e; have h2 := L145.out _ e; have h3 := B108.out _ hg; have h4 := L109.out _ hg; omega))
  have F338 := hide ((ho327.block (W4.heap.size) (by omega) (fun e => by have h1 := B144.out _ e; have h2 := L145.out _ e; omega)).trans F309.out)
  have F340 := hide ((ho327.block (W6.heap.size) (by omega) (fun e => by have h1 := B144.out _ e; have h2 := L145.out _ e; omega)).trans F311.out)
  have F341 := hide (F312.out.other ho327 (fun g hg e => by have h1 := B144.out _ e; have h2 := L145.out _ e; have h3 := B188.out _ hg; have h4 := L189.out _ hg; omega))
  have F342 := hide ((ho327.block (W8.heap.size) (by omega) (fun e => by have h1 := B144.out _ e; have h2 := L145.out _ e; omega)).trans F313.out)
  have F343 := hide hn328
  clear F301 F302 F303 F304 F305 F306 F307 F314 F309 F310 F311 F312 F313 hn328 ho327
  have hneg3 : ¬ (1 + (l0.length : Int) + (l1.length : Int) < 0) := by omega
  have p344 := cells_at0 F333.out
  have p345 := cells_at1 F333.out
  have p346 := cells_at0 F334.out
  have p347 := cells_at1 F334.out
  have p348 := cells_at0 F336.out
  have p349 := cells_at1 F336.out
  have p350 := cells_at0 F338.out
  have p351 := cells_at1 F338.out
  have p352 := cells_at0 F340.out
  have p353 := cells_at1 F340.out
  have p354 := cells_at0 F342.out
  have p355 := cells_at1 F342.out
  go_wp2_with fail
  clear p344 p345 p346 p347 p348 p349 p350 p351 p352 p353 p354 p355
  refine (eqSpace_same_c N _ _ R W16 (F341.out.ints) (F335.out.ints) hRL).mono ?_
  rintro e W17 ⟨rfl, hb356⟩
  have hz357 := hb356.size
  have F358 := hide (F330.out.trans (hb356.mono (by omega)))
  have F359 := hide (F331.out.below hb356 (by omega))
  have F360 := hide (F332.out.below hb356 (by omega))
  have F361 := hide ((hb356.block (w.heap.size) (by omega)).trans F333.out)
  have F362 := hide ((hb356.block (w.heap.size + 1) (by omega)).trans F334.out)
  have F363 := hide (F335.out.kept hb356)
  have F364 := hide ((hb356.block (Bs) (by omega)).trans F336.out)
  have F365 := hide (F337.out.kept hb356)
  have F366 := hide ((hb356.block (W4.heap.size) (by omega)).trans F338.out)
  have F367 := hide (F343.out.kept hb356)
  have F368 := hide ((hb356.block (W6.heap.size) (by omega)).trans F340.out)
  have F369 := hide (F341.out.kept hb356)
  have F370 := hide ((hb356.block (W8.heap.size) (by omega)).trans F342.out)
  clear hb356 F330 F331 F332 F333 F334 F335 F336 F337 F338 F343 F340 F341 F342
  have p371 := cells_at0 F361.out
  have p372 := cells_at1 F361.out
  have p373 := cells_at0 F362.out
  have p374 := cells_at1 F362.out
  have p375 := cells_at0 F364.out
  have p376 := cells_at1 F364.out
  have p377 := cells_at0 F366.out
  have p378 := cells_at1 F366.out
  have p379 := cells_at0 F368.out
  have p380 := cells_at1 F368.out
  have p381 := cells_at0 F370.out
  have p382 := cells_at1 F370.out
  go_wp2_with fail
  clear p371 p372 p373 p374 p375 p376 p377 p378 p379 p380 p381 p382
  refine (markSpace_c N _ R (1) W17 _ F369.out (by omega) (by omega) (by omega)).mono ?_
  rintro e W18 ⟨rfl, hn384, ho383⟩
  have hz385 := ho383.size
  have F386 := hide (F358.out.trans (ho383.below w.heap.size (fun g hg => by have := B188.out g hg; omega) (by omega)))
  have F387 := hide (F359.out.below (ho383.below w.heap.size (fun g hg => by have := B188.out g hg; omega) (by omega)) (Nat.le_refl _))
  have F388 := hide (F360.out.below (ho383.below w.heap.size (fun g hg => by have := B188.out g hg; omega) (by omega)) (Nat.le_refl _))
  have F389 := hide ((ho383.block (w.heap.size) (by omega) (fun e => by have h1 := B188.out _ e; have h2 := L189.out _ e; omega)).trans F361.out)
  have F390 := hide ((ho383.block (w.heap.size + 1) (by omega) (fun e => by have h1 := B188.out _ e; have h2 := L189.out _ e; omega)).trans F362.out)
  have F391 := hide (F363.out.other ho383 (fun g hg e => by have h1 := B188.out _ e; have h2 := L189.out _ e; have h3 := B86.out _ hg; have h4 := L87.out _ hg; omega))
  have F392 := hide ((ho383.block (Bs) (by omega) (fun e => by have h1 := B188.out _ e; have h2 := L189.out _ e; omega)).trans F364.out)
  have F393 := hide (F365.out.other ho383 (fun g hg e => by have h1 := B188.out _ e; have h2 := L189.out _ e; have h3 := B108.out _ hg; have h4 := L109.out _ hg; omega))
  have F394 := hide ((ho383.block (W4.heap.size) (by omega) (fun e => by have h1 := B188.out _ e; have h2 := L189.out _ e; omega)).trans F366.out)
  have F395 := hide (F367.out.other ho383 (fun g hg e => by have h1 := B188.out _ e; have h2 := L189.out _ e; have h3 := B144.out _ hg; have h4 := L145.out _ hg; omega))
  have F396 := hide ((ho383.block (W6.heap.size) (by omega) (fun e => by have h1 := B188.out _ e; have h2 := L189.out _ e; omega)).trans F368.out)
  have F398 := hide ((ho383.block (W8.heap.size) (by omega) (fun e => by have h1 := B188.out _ e; have h2 := L189.out _ e; omega)).trans F370.out)
  have F399 := hide hn384
  clear F358 F359 F360 F361 F362 F363 F364 F365 F366 F367 F368 F369 F370 hn384 ho383
  have p400 := cells_at0 F389.out
  have p401 := cells_at1 F389.out
  have p402 := cells_at0 F390.out
  have p403 := cells_at1 F390.out
  have p404 := cells_at0 F392.out
  have p405 := cells_at1 F392.out
  have p406 := cells_at0 F394.out
  have p407 := cells_at1 F394.out
  have p408 := cells_at0 F396.out
  have p409 := cells_at1 F396.out
  have p410 := cells_at0 F398.out
  have p411 := cells_at1 F398.out
  go_wp2_with fail
  clear p400 p401 p402 p403 p404 p405 p406 p407 p408 p409 p410 p411
  refine (heldSpace_c N _ R.length 1 W18 (F399.out.ints) hRL (by omega) (by omega)).mono ?_
  rintro e W19 ⟨rfl, hb412⟩
  have hz413 := hb412.size
  have F414 := hide (F386.out.trans (hb412.mono (by omega)))
  have F415 := hide (F387.out.below hb412 (by omega))
  have F416 := hide (F388.out.below hb412 (by omega))
  have F417 := hide ((hb412.block (w.heap.size) (by omega)).trans F389.out)
  have F418 := hide ((hb412.block (w.heap.size + 1) (by omega)).trans F390.out)
  have F419 := hide (F391.out.kept hb412)
  have F420 := hide ((hb412.block (Bs) (by omega)).trans F392.out)
  have F421 := hide (F393.out.kept hb412)
  have F422 := hide ((hb412.block (W4.heap.size) (by omega)).trans F394.out)
  have F423 := hide (F395.out.kept hb412)
  have F424 := hide ((hb412.block (W6.heap.size) (by omega)).trans F396.out)
  have F425 := hide (F399.out.kept hb412)
  have F426 := hide ((hb412.block (W8.heap.size) (by omega)).trans F398.out)
  clear hb412 F386 F387 F388 F389 F390 F391 F392 F393 F394 F395 F396 F399 F398
  clear F421
  clear B108 L109
  clear F423
  clear B144 L145
  have p427 := cells_at0 F417.out
  have p428 := cells_at1 F417.out
  have p429 := cells_at0 F418.out
  have p430 := cells_at1 F418.out
  have p431 := cells_at0 F420.out
  have p432 := cells_at1 F420.out
  have p433 := cells_at0 F422.out
  have p434 := cells_at1 F422.out
  have p435 := cells_at0 F424.out
  have p436 := cells_at1 F424.out
  have p437 := cells_at0 F426.out
  have p438 := cells_at1 F426.out
  go_wp2_with fail
  clear p427 p428 p429 p430 p431 p432 p433 p434 p435 p436 p437 p438
  apply region_join (F := fun g1 g2 B v W' => Below W19.heap.size W19 W' ∧ own 3 W' W19.heap.size v R ∧ W'.heap[B]? = some (.cells #[.int .i64 N, v] 30) ∧ W19.heap.size ≤ B ∧ B < W'.heap.size ∧ ∀ g, v.ownBlock = some g → g ≠ B)
  · intro hK
    refine wp_region_held (S := Below W19.heap.size W19) (by kernel_rfl) ?_
    have hS0 : Below W19.heap.size W19 { W19 with drawn := W19.drawn + 1 } := (Below.refl _ _).drew
    generalize ({ W19 with drawn := W19.drawn + 1 } : World) = C0 at hS0 ⊢
    have hz0C : W19.heap.size ≤ C0.heap.size := hS0.size
    refine wpAnyH_take (i := 0) rfl (by kernel_rfl) (by kernel_rfl) (by kernel_rfl) (fun _ _ _ h => h) (yields_load_two rowSl sizeSl rfl (.tmp _) rfl _ rfl _ _ (fun w' h => (h.cell (p := ⟨w.heap.size, 0, none⟩) (by show w.heap.size < _; omega)).trans (cells_at0 F417.out)) (fun w' h => (h.cell (p := ⟨w.heap.size, 1, none⟩) (by show w.heap.size < _; omega)).trans (cells_at1 F417.out))) hS0 ?_
    simp only [Act.put, List.getElem_toArray, List.getElem_cons_zero, List.getElem_cons_succ, List.setIfInBounds_toArray, List.set_cons_zero, List.set_cons_succ]
    refine wpAnyH_take (i := 2) rfl (by kernel_rfl) (by kernel_rfl) (by kernel_rfl) (fun _ _ _ h => h) (yields_load_two rowSl sizeSl rfl (.tmp _) rfl _ rfl _ _ (fun w' h => (h.cell (p := ⟨w.heap.size + 1, 0, none⟩) (by show w.heap.size + 1 < _; omega)).trans (cells_at0 F418.out)) (fun w' h => (h.cell (p := ⟨w.heap.size + 1, 1, none⟩) (by show w.heap.size + 1 < _; omega)).trans (cells_at1 F418.out))) hS0 ?_
    simp only [Act.put, List.getElem_toArray, List.getElem_cons_zero, List.getElem_cons_succ, List.setIfInBounds_toArray, List.set_cons_zero, List.set_cons_succ]
    refine wpAnyH_all (rs := [1, 8]) (by kernel_rfl) (by simp) fun i hi => ?_
    rcases (show i = 1 ∨ i = 8 by simpa using hi) with rfl | rfl
    · show wpOp _ _ _ _ _ _ _
      refine wpOp_call rfl rfl 18 ent_toSpace _ _ rfl #[.agg #[.int .i64 n0, v0]] rfl (toSpace_c n0 v0 l0 C0 ((F415.out.below hS0 (by omega)).mono (by omega)) (by omega)) ?_
      rintro e C439 ⟨gg439, rfl, hg439, hk439, hb439⟩
      have hz439C : C0.heap.size ≤ C439.heap.size := hb439.size
      have hS439 : Below W19.heap.size W19 C439 := hS0.trans (hb439.mono (by omega))
      have hw440 := hk439.own hg439 (by unfold maxLen; omega)
      refine ⟨_, rfl, hS439, ?_⟩
      simp only [Act.put, List.getElem_toArray, List.getElem_cons_zero, List.getElem_cons_succ, List.setIfInBounds_toArray, List.set_cons_zero, List.set_cons_succ]
      refine wpAnyH_all (rs := [3, 8]) (by kernel_rfl) (by simp) fun i hi => ?_
      rcases (show i = 3 ∨ i = 8 by simpa using hi) with rfl | rfl
      · show wpOp _ _ _ _ _ _ _
        refine wpOp_call rfl rfl 18 ent_toSpace _ _ rfl #[.agg #[.int .i64 n1, v1]] rfl (toSpace_c n1 v1 l1 C439 ((F416.out.below hS439 (by omega)).mono (by omega)) (by omega)) ?_
        rintro e C441 ⟨gg441, rfl, hg441, hk441, hb441⟩
        have hz441C : C439.heap.size ≤ C441.heap.size := hb441.size
        have hS441 : Below W19.heap.size W19 C441 := hS439.trans (hb441.mono (by omega))
        have hw442 := hw440.kept hb441
        have hw443 := hk441.own hg441 (by unfold maxLen; omega)
        refine ⟨_, rfl, hS441, ?_⟩
        simp only [Act.put, List.getElem_toArray, List.getElem_cons_zero, List.getElem_cons_succ, List.setIfInBounds_toArray, List.set_cons_zero, List.set_cons_succ]
        refine wpAnyH_all (rs := [4, 8]) (by kernel_rfl) (by simp) fun i hi => ?_
        rcases (show i = 4 ∨ i = 8 by simpa using hi) with rfl | rfl
        · show wpOp _ _ _ _ _ _ _
          have hsp444 := implMeetOfSpaces_c n0 _ l0 n1 _ l1 C441 hw442.ints (by omega) hw443.ints (by omega) (HT.out.below (F414.out.trans (hS441.mono (by omega))))
          rw [HN.out, HR.out, HO.out] at hsp444
          refine wpOp_call rfl rfl 42 (enters_of Tryd.func42 (by kernel_rfl) (by kernel_rfl)) _ _ rfl #[.agg #[.int .i64 n0, .slice (some ⟨gg439, 0, none⟩) l0.length l0.length], .agg #[.int .i64 n1, .slice (some ⟨gg441, 0, none⟩) l1.length l1.length]] rfl hsp444 ?_
          rintro e C444 ⟨v444, rfl, ho444, hb444⟩
          have hz444C : C441.heap.size ≤ C444.heap.size := hb444.size
          have hS444 : Below W19.heap.size W19 C444 := hS441.trans (hb444.mono (by omega))
          have hw445 := hw442.kept hb444
          have hw446 := hw443.kept hb444
          refine ⟨_, rfl, hS444, ?_⟩
          simp only [Act.put, List.getElem_toArray, List.getElem_cons_zero, List.getElem_cons_succ, List.setIfInBounds_toArray, List.set_cons_zero, List.set_cons_succ]
          refine wpAnyH_take (i := 5) (v := .tuple #[.agg #[.int .i64 N, v444], .bool ok]) rfl (by kernel_rfl) (by kernel_rfl) (by kernel_rfl) (fun _ _ _ h => h) (.inl ⟨rfl, fun w' _ => by go_simp⟩) hS444 ?_
          simp only [Act.put, List.getElem_toArray, List.getElem_cons_zero, List.getElem_cons_succ, List.setIfInBounds_toArray, List.set_cons_zero, List.set_cons_succ]
          refine wpAnyH_take (i := 6) (v := .agg #[.int .i64 N, v444]) rfl (by kernel_rfl) (by kernel_rfl) (by kernel_rfl) (fun _ _ _ h => h) (.inl ⟨rfl, fun w' _ => by go_simp⟩) hS444 ?_
          simp only [Act.put, List.getElem_toArray, List.getElem_cons_zero, List.getElem_cons_succ, List.setIfInBounds_toArray, List.set_cons_zero, List.set_cons_succ]
          refine wpAnyH_take (i := 7) (v := .bool ok) rfl (by kernel_rfl) (by kernel_rfl) (by kernel_rfl) (fun _ _ _ h => h) (.inl ⟨rfl, fun w' _ => by go_simp⟩) hS444 ?_
          simp only [Act.put, List.getElem_toArray, List.getElem_cons_zero, List.getElem_cons_succ, List.setIfInBounds_toArray, List.set_cons_zero, List.set_cons_succ]
          obtain ⟨B447, hBe447⟩ : ∃ B, B = C444.heap.size := ⟨_, rfl⟩
          have hb447 := (Below.refl C444.heap.size C444).alloc (Nat.le_refl _) (.cells #[.int .i64 0, .slice none 0 0] 30)
          have hB447 := hp_last C444 (.cells #[.int .i64 0, .slice none 0 0] 30)
          rw [← hBe447] at hB447
          have hzz447 : (C444.alloc (.cells #[.int .i64 0, .slice none 0 0] 30)).heap.size = C444.heap.size + 1 := by simp
          have hT447 : Below W19.heap.size W19 (C444.alloc (.cells #[.int .i64 0, .slice none 0 0] 30)) := hS444.trans (hb447.mono (by omega))
          refine anyH_op (i := 8) (by kernel_rfl) rfl rfl (.pointer (some ⟨B447, 0, none⟩)) (C444.alloc (.cells #[.int .i64 0, .slice none 0 0] 30)) (by simp [go_sem, hBe447]) hT447 ?_
          have hw448 := hw445.alloc (.cells #[.int .i64 0, .slice none 0 0] 30)
          have hw449 := hw446.alloc (.cells #[.int .i64 0, .slice none 0 0] 30)
          have ho450 := ho444.alloc (.cells #[.int .i64 0, .slice none 0 0] 30)
          have hne447 : ∀ g, v444.ownBlock = some g → g ≠ B447 := fun g hg => by have := ho444.blockLt g hg; omega
          generalize C444.alloc (.cells #[.int .i64 0, .slice none 0 0] 30) = C447 at hB447 hzz447 hb447 hT447 hw448 hw449 ho450 ⊢
          simp only [Act.put, List.getElem_toArray, List.getElem_cons_zero, List.getElem_cons_succ, List.setIfInBounds_toArray, List.set_cons_zero, List.set_cons_succ]
          have hone : (#[.int .i64 N, v444] : Array Value).all (·.oneCell') = true := by (obtain ⟨a1, c1, e1⟩ := ho450.shape; subst e1; simp [Value.oneCell'])
          have hT451 : Below W19.heap.size W19 (C447.setRow B447 #[.int .i64 N, v444]) := bl_row hT447 (by omega) _
          refine anyH_store_row (i := 9) #[.int .i64 0, .slice none 0 0] #[.int .i64 N, v444] sizeSp (by kernel_rfl) rfl rfl (.tmp _) (.tmp _) rfl B447 (by rfl) (by rfl) hB447 rfl hone hT451 ?_
          simp only [Act.put, List.getElem_toArray, List.getElem_cons_zero, List.getElem_cons_succ, List.setIfInBounds_toArray, List.set_cons_zero, List.set_cons_succ]
          refine anyH_op (i := 10) (by kernel_rfl) rfl rfl (.bool ok) _ ?hq hT451 ?_
          case hq => simp [go_sem, Act.put]
          refine wpAnyH_done (by kernel_rfl) ?_ _
          simp only [Act.put, List.getElem_toArray, List.getElem_cons_zero, List.getElem_cons_succ, List.setIfInBounds_toArray, List.set_cons_zero, List.set_cons_succ]
          exact hK gg439 gg441 B447 v444 _ ⟨hT451, (ho450.rowO B447 hne447 _).mono (by omega), hp_row _ _ _ _ _ hB447, by omega, by (have e : (C447.setRow B447 #[.int .i64 N, v444]).heap.size = C447.heap.size := by simp); omega, hne447⟩
        · show wpOp _ _ _ _ _ _ _
          obtain ⟨B452, hBe452⟩ : ∃ B, B = C441.heap.size := ⟨_, rfl⟩
          have hb452 := (Below.refl C441.heap.size C441).alloc (Nat.le_refl _) (.cells #[.int .i64 0, .slice none 0 0] 30)
          have hB452 := hp_last C441 (.cells #[.int .i64 0, .slice none 0 0] 30)
          rw [← hBe452] at hB452
          have hzz452 : (C441.alloc (.cells #[.int .i64 0, .slice none 0 0] 30)).heap.size = C441.heap.size + 1 := by simp
          have hT452 : Below W19.heap.size W19 (C441.alloc (.cells #[.int .i64 0, .slice none 0 0] 30)) := hS441.trans (hb452.mono (by omega))
          refine wpOp_val rfl rfl (.pointer (some ⟨B452, 0, none⟩)) (C441.alloc (.cells #[.int .i64 0, .slice none 0 0] 30)) (by simp [go_sem, hBe452]) ⟨hT452, ?_⟩
          have hw453 := hw442.alloc (.cells #[.int .i64 0, .slice none 0 0] 30)
          have hw454 := hw443.alloc (.cells #[.int .i64 0, .slice none 0 0] 30)
          generalize C441.alloc (.cells #[.int .i64 0, .slice none 0 0] 30) = C452 at hB452 hzz452 hb452 hT452 hw453 hw454 ⊢
          simp only [Act.put, List.getElem_toArray, List.getElem_cons_zero, List.getElem_cons_succ, List.setIfInBounds_toArray, List.set_cons_zero, List.set_cons_succ]
          have hsp455 := implMeetOfSpaces_c n0 _ l0 n1 _ l1 C452 hw453.ints (by omega) hw454.ints (by omega) (HT.out.below (F414.out.trans (hT452.mono (by omega))))
          rw [HN.out, HR.out, HO.out] at hsp455
          refine anyH_call (i := 4) (by kernel_rfl) rfl rfl 42 (enters_of Tryd.func42 (by kernel_rfl) (by kernel_rfl)) _ _ rfl #[.agg #[.int .i64 n0, .slice (some ⟨gg439, 0, none⟩) l0.length l0.length], .agg #[.int .i64 n1, .slice (some ⟨gg441, 0, none⟩) l1.length l1.length]] rfl hsp455 ?_
          rintro e C455 ⟨v455, rfl, ho455, hb455⟩
          have hz455C : C452.heap.size ≤ C455.heap.size := hb455.size
          have hS455 : Below W19.heap.size W19 C455 := hT452.trans (hb455.mono (by omega))
          have hw456 := hw453.kept hb455
          have hw457 := hw454.kept hb455
          have hB458 := (hb455.block B452 (by omega)).trans hB452
          refine ⟨_, rfl, hS455, ?_⟩
          simp only [Act.put, List.getElem_toArray, List.getElem_cons_zero, List.getElem_cons_succ, List.setIfInBounds_toArray, List.set_cons_zero, List.set_cons_succ]
          refine wpAnyH_take (i := 5) (v := .tuple #[.agg #[.int .i64 N, v455], .bool ok]) rfl (by kernel_rfl) (by kernel_rfl) (by kernel_rfl) (fun _ _ _ h => h) (.inl ⟨rfl, fun w' _ => by go_simp⟩) hS455 ?_
          simp only [Act.put, List.getElem_toArray, List.getElem_cons_zero, List.getElem_cons_succ, List.setIfInBounds_toArray, List.set_cons_zero, List.set_cons_succ]
          refine wpAnyH_take (i := 6) (v := .agg #[.int .i64 N, v455]) rfl (by kernel_rfl) (by kernel_rfl) (by kernel_rfl) (fun _ _ _ h => h) (.inl ⟨rfl, fun w' _ => by go_simp⟩) hS455 ?_
          simp only [Act.put, List.getElem_toArray, List.getElem_cons_zero, List.getElem_cons_succ, List.setIfInBounds_toArray, List.set_cons_zero, List.set_cons_succ]
          refine wpAnyH_take (i := 7) (v := .bool ok) rfl (by kernel_rfl) (by kernel_rfl) (by kernel_rfl) (fun _ _ _ h => h) (.inl ⟨rfl, fun w' _ => by go_simp⟩) hS455 ?_
          simp only [Act.put, List.getElem_toArray, List.getElem_cons_zero, List.getElem_cons_succ, List.setIfInBounds_toArray, List.set_cons_zero, List.set_cons_succ]
          have hne : ∀ g, v455.ownBlock = some g → g ≠ B452 := fun g hg => by have := ho455.base g hg; omega
          have hone : (#[.int .i64 N, v455] : Array Value).all (·.oneCell') = true := by (obtain ⟨a1, c1, e1⟩ := ho455.shape; subst e1; simp [Value.oneCell'])
          have hT459 : Below W19.heap.size W19 (C455.setRow B452 #[.int .i64 N, v455]) := bl_row hS455 (by omega) _
          refine anyH_store_row (i := 9) #[.int .i64 0, .slice none 0 0] #[.int .i64 N, v455] sizeSp (by kernel_rfl) rfl rfl (.tmp _) (.tmp _) rfl B452 (by rfl) (by rfl) hB458 rfl hone hT459 ?_
          simp only [Act.put, List.getElem_toArray, List.getElem_cons_zero, List.getElem_cons_succ, List.setIfInBounds_toArray, List.set_cons_zero, List.set_cons_succ]
          refine anyH_op (i := 10) (by kernel_rfl) rfl rfl (.bool ok) _ ?hq hT459 ?_
          case hq => simp [go_sem, Act.put]
          refine wpAnyH_done (by kernel_rfl) ?_ _
          simp only [Act.put, List.getElem_toArray, List.getElem_cons_zero, List.getElem_cons_succ, List.setIfInBounds_toArray, List.set_cons_zero, List.set_cons_succ]
          exact hK gg439 gg441 B452 v455 _ ⟨hT459, (ho455.rowO B452 hne _).mono (by omega), hp_row _ _ _ _ _ hB458, by omega, by (have e : (C455.setRow B452 #[.int .i64 N, v455]).heap.size = C455.heap.size := by simp); omega, hne⟩
      · show wpOp _ _ _ _ _ _ _
        obtain ⟨B460, hBe460⟩ : ∃ B, B = C439.heap.size := ⟨_, rfl⟩
        have hb460 := (Below.refl C439.heap.size C439).alloc (Nat.le_refl _) (.cells #[.int .i64 0, .slice none 0 0] 30)
        have hB460 := hp_last C439 (.cells #[.int .i64 0, .slice none 0 0] 30)
        rw [← hBe460] at hB460
        have hzz460 : (C439.alloc (.cells #[.int .i64 0, .slice none 0 0] 30)).heap.size = C439.heap.size + 1 := by simp
        have hT460 : Below W19.heap.size W19 (C439.alloc (.cells #[.int .i64 0, .slice none 0 0] 30)) := hS439.trans (hb460.mono (by omega))
        refine wpOp_val rfl rfl (.pointer (some ⟨B460, 0, none⟩)) (C439.alloc (.cells #[.int .i64 0, .slice none 0 0] 30)) (by simp [go_sem, hBe460]) ⟨hT460, ?_⟩
        have hw461 := hw440.alloc (.cells #[.int .i64 0, .slice none 0 0] 30)
        generalize C439.alloc (.cells #[.int .i64 0, .slice none 0 0] 30) = C460 at hB460 hzz460 hb460 hT460 hw461 ⊢
        simp only [Act.put, List.getElem_toArray, List.getElem_cons_zero, List.getElem_cons_succ, List.setIfInBounds_toArray, List.set_cons_zero, List.set_cons_succ]
        refine anyH_call (i := 3) (by kernel_rfl) rfl rfl 18 ent_toSpace _ _ rfl #[.agg #[.int .i64 n1, v1]] rfl (toSpace_c n1 v1 l1 C460 ((F416.out.below hT460 (by omega)).mono (by omega)) (by omega)) ?_
        rintro e C462 ⟨gg462, rfl, hg462, hk462, hb462⟩
        have hz462C : C460.heap.size ≤ C462.heap.size := hb462.size
        have hS462 : Below W19.heap.size W19 C462 := hT460.trans (hb462.mono (by omega))
        have hw463 := hw461.kept hb462
        have hw464 := hk462.own hg462 (by unfold maxLen; omega)
        have hB465 := (hb462.block B460 (by omega)).trans hB460
        refine ⟨_, rfl, hS462, ?_⟩
        simp only [Act.put, List.getElem_toArray, List.getElem_cons_zero, List.getElem_cons_succ, List.setIfInBounds_toArray, List.set_cons_zero, List.set_cons_succ]
        have hsp466 := implMeetOfSpaces_c n0 _ l0 n1 _ l1 C462 hw463.ints (by omega) hw464.ints (by omega) (HT.out.below (F414.out.trans (hS462.mono (by omega))))
        rw [HN.out, HR.out, HO.out] at hsp466
        refine anyH_call (i := 4) (by kernel_rfl) rfl rfl 42 (enters_of Tryd.func42 (by kernel_rfl) (by kernel_rfl)) _ _ rfl #[.agg #[.int .i64 n0, .slice (some ⟨gg439, 0, none⟩) l0.length l0.length], .agg #[.int .i64 n1, .slice (some ⟨gg462, 0, none⟩) l1.length l1.length]] rfl hsp466 ?_
        rintro e C466 ⟨v466, rfl, ho466, hb466⟩
        have hz466C : C462.heap.size ≤ C466.heap.size := hb466.size
        have hS466 : Below W19.heap.size W19 C466 := hS462.trans (hb466.mono (by omega))
        have hw467 := hw463.kept hb466
        have hw468 := hw464.kept hb466
        have hB469 := (hb466.block B460 (by omega)).trans hB465
        refine ⟨_, rfl, hS466, ?_⟩
        simp only [Act.put, List.getElem_toArray, List.getElem_cons_zero, List.getElem_cons_succ, List.setIfInBounds_toArray, List.set_cons_zero, List.set_cons_succ]
        refine wpAnyH_take (i := 5) (v := .tuple #[.agg #[.int .i64 N, v466], .bool ok]) rfl (by kernel_rfl) (by kernel_rfl) (by kernel_rfl) (fun _ _ _ h => h) (.inl ⟨rfl, fun w' _ => by go_simp⟩) hS466 ?_
        simp only [Act.put, List.getElem_toArray, List.getElem_cons_zero, List.getElem_cons_succ, List.setIfInBounds_toArray, List.set_cons_zero, List.set_cons_succ]
        refine wpAnyH_take (i := 6) (v := .agg #[.int .i64 N, v466]) rfl (by kernel_rfl) (by kernel_rfl) (by kernel_rfl) (fun _ _ _ h => h) (.inl ⟨rfl, fun w' _ => by go_simp⟩) hS466 ?_
        simp only [Act.put, List.getElem_toArray, List.getElem_cons_zero, List.getElem_cons_succ, List.setIfInBounds_toArray, List.set_cons_zero, List.set_cons_succ]
        refine wpAnyH_take (i := 7) (v := .bool ok) rfl (by kernel_rfl) (by kernel_rfl) (by kernel_rfl) (fun _ _ _ h => h) (.inl ⟨rfl, fun w' _ => by go_simp⟩) hS466 ?_
        simp only [Act.put, List.getElem_toArray, List.getElem_cons_zero, List.getElem_cons_succ, List.setIfInBounds_toArray, List.set_cons_zero, List.set_cons_succ]
        have hne : ∀ g, v466.ownBlock = some g → g ≠ B460 := fun g hg => by have := ho466.base g hg; omega
        have hone : (#[.int .i64 N, v466] : Array Value).all (·.oneCell') = true := by (obtain ⟨a1, c1, e1⟩ := ho466.shape; subst e1; simp [Value.oneCell'])
        have hT470 : Below W19.heap.size W19 (C466.setRow B460 #[.int .i64 N, v466]) := bl_row hS466 (by omega) _
        refine anyH_store_row (i := 9) #[.int .i64 0, .slice none 0 0] #[.int .i64 N, v466] sizeSp (by kernel_rfl) rfl rfl (.tmp _) (.tmp _) rfl B460 (by rfl) (by rfl) hB469 rfl hone hT470 ?_
        simp only [Act.put, List.getElem_toArray, List.getElem_cons_zero, List.getElem_cons_succ, List.setIfInBounds_toArray, List.set_cons_zero, List.set_cons_succ]
        refine anyH_op (i := 10) (by kernel_rfl) rfl rfl (.bool ok) _ ?hq hT470 ?_
        case hq => simp [go_sem, Act.put]
        refine wpAnyH_done (by kernel_rfl) ?_ _
        simp only [Act.put, List.getElem_toArray, List.getElem_cons_zero, List.getElem_cons_succ, List.setIfInBounds_toArray, List.set_cons_zero, List.set_cons_succ]
        exact hK gg439 gg462 B460 v466 _ ⟨hT470, (ho466.rowO B460 hne _).mono (by omega), hp_row _ _ _ _ _ hB469, by omega, by (have e : (C466.setRow B460 #[.int .i64 N, v466]).heap.size = C466.heap.size := by simp); omega, hne⟩
    · show wpOp _ _ _ _ _ _ _
      obtain ⟨B471, hBe471⟩ : ∃ B, B = C0.heap.size := ⟨_, rfl⟩
      have hb471 := (Below.refl C0.heap.size C0).alloc (Nat.le_refl _) (.cells #[.int .i64 0, .slice none 0 0] 30)
      have hB471 := hp_last C0 (.cells #[.int .i64 0, .slice none 0 0] 30)
      rw [← hBe471] at hB471
      have hzz471 : (C0.alloc (.cells #[.int .i64 0, .slice none 0 0] 30)).heap.size = C0.heap.size + 1 := by simp
      have hT471 : Below W19.heap.size W19 (C0.alloc (.cells #[.int .i64 0, .slice none 0 0] 30)) := hS0.trans (hb471.mono (by omega))
      refine wpOp_val rfl rfl (.pointer (some ⟨B471, 0, none⟩)) (C0.alloc (.cells #[.int .i64 0, .slice none 0 0] 30)) (by simp [go_sem, hBe471]) ⟨hT471, ?_⟩
      generalize C0.alloc (.cells #[.int .i64 0, .slice none 0 0] 30) = C471 at hB471 hzz471 hb471 hT471  ⊢
      simp only [Act.put, List.getElem_toArray, List.getElem_cons_zero, List.getElem_cons_succ, List.setIfInBounds_toArray, List.set_cons_zero, List.set_cons_succ]
      refine anyH_call (i := 1) (by kernel_rfl) rfl rfl 18 ent_toSpace _ _ rfl #[.agg #[.int .i64 n0, v0]] rfl (toSpace_c n0 v0 l0 C471 ((F415.out.below hT471 (by omega)).mono (by omega)) (by omega)) ?_
      rintro e C472 ⟨gg472, rfl, hg472, hk472, hb472⟩
      have hz472C : C471.heap.size ≤ C472.heap.size := hb472.size
      have hS472 : Below W19.heap.size W19 C472 := hT471.trans (hb472.mono (by omega))
      have hw473 := hk472.own hg472 (by unfold maxLen; omega)
      have hB474 := (hb472.block B471 (by omega)).trans hB471
      refine ⟨_, rfl, hS472, ?_⟩
      simp only [Act.put, List.getElem_toArray, List.getElem_cons_zero, List.getElem_cons_succ, List.setIfInBounds_toArray, List.set_cons_zero, List.set_cons_succ]
      refine anyH_call (i := 3) (by kernel_rfl) rfl rfl 18 ent_toSpace _ _ rfl #[.agg #[.int .i64 n1, v1]] rfl (toSpace_c n1 v1 l1 C472 ((F416.out.below hS472 (by omega)).mono (by omega)) (by omega)) ?_
      rintro e C475 ⟨gg475, rfl, hg475, hk475, hb475⟩
      have hz475C : C472.heap.size ≤ C475.heap.size := hb475.size
      have hS475 : Below W19.heap.size W19 C475 := hS472.trans (hb475.mono (by omega))
      have hw476 := hw473.kept hb475
      have hw477 := hk475.own hg475 (by unfold maxLen; omega)
      have hB478 := (hb475.block B471 (by omega)).trans hB474
      refine ⟨_, rfl, hS475, ?_⟩
      simp only [Act.put, List.getElem_toArray, List.getElem_cons_zero, List.getElem_cons_succ, List.setIfInBounds_toArray, List.set_cons_zero, List.set_cons_succ]
      have hsp479 := implMeetOfSpaces_c n0 _ l0 n1 _ l1 C475 hw476.ints (by omega) hw477.ints (by omega) (HT.out.below (F414.out.trans (hS475.mono (by omega))))
      rw [HN.out, HR.out, HO.out] at hsp479
      refine anyH_call (i := 4) (by kernel_rfl) rfl rfl 42 (enters_of Tryd.func42 (by kernel_rfl) (by kernel_rfl)) _ _ rfl #[.agg #[.int .i64 n0, .slice (some ⟨gg472, 0, none⟩) l0.length l0.length], .agg #[.int .i64 n1, .slice (some ⟨gg475, 0, none⟩) l1.length l1.length]] rfl hsp479 ?_
      rintro e C479 ⟨v479, rfl, ho479, hb479⟩
      have hz479C : C475.heap.size ≤ C479.heap.size := hb479.size
      have hS479 : Below W19.heap.size W19 C479 := hS475.trans (hb479.mono (by omega))
      have hw480 := hw476.kept hb479
      have hw481 := hw477.kept hb479
      have hB482 := (hb479.block B471 (by omega)).trans hB478
      refine ⟨_, rfl, hS479, ?_⟩
      simp only [Act.put, List.getElem_toArray, List.getElem_cons_zero, List.getElem_cons_succ, List.setIfInBounds_toArray, List.set_cons_zero, List.set_cons_succ]
      refine wpAnyH_take (i := 5) (v := .tuple #[.agg #[.int .i64 N, v479], .bool ok]) rfl (by kernel_rfl) (by kernel_rfl) (by kernel_rfl) (fun _ _ _ h => h) (.inl ⟨rfl, fun w' _ => by go_simp⟩) hS479 ?_
      simp only [Act.put, List.getElem_toArray, List.getElem_cons_zero, List.getElem_cons_succ, List.setIfInBounds_toArray, List.set_cons_zero, List.set_cons_succ]
      refine wpAnyH_take (i := 6) (v := .agg #[.int .i64 N, v479]) rfl (by kernel_rfl) (by kernel_rfl) (by kernel_rfl) (fun _ _ _ h => h) (.inl ⟨rfl, fun w' _ => by go_simp⟩) hS479 ?_
      simp only [Act.put, List.getElem_toArray, List.getElem_cons_zero, List.getElem_cons_succ, List.setIfInBounds_toArray, List.set_cons_zero, List.set_cons_succ]
      refine wpAnyH_take (i := 7) (v := .bool ok) rfl (by kernel_rfl) (by kernel_rfl) (by kernel_rfl) (fun _ _ _ h => h) (.inl ⟨rfl, fun w' _ => by go_simp⟩) hS479 ?_
      simp only [Act.put, List.getElem_toArray, List.getElem_cons_zero, List.getElem_cons_succ, List.setIfInBounds_toArray, List.set_cons_zero, List.set_cons_succ]
      have hne : ∀ g, v479.ownBlock = some g → g ≠ B471 := fun g hg => by have := ho479.base g hg; omega
      have hone : (#[.int .i64 N, v479] : Array Value).all (·.oneCell') = true := by (obtain ⟨a1, c1, e1⟩ := ho479.shape; subst e1; simp [Value.oneCell'])
      have hT483 : Below W19.heap.size W19 (C479.setRow B471 #[.int .i64 N, v479]) := bl_row hS479 (by omega) _
      refine anyH_store_row (i := 9) #[.int .i64 0, .slice none 0 0] #[.int .i64 N, v479] sizeSp (by kernel_rfl) rfl rfl (.tmp _) (.tmp _) rfl B471 (by rfl) (by rfl) hB482 rfl hone hT483 ?_
      simp only [Act.put, List.getElem_toArray, List.getElem_cons_zero, List.getElem_cons_succ, List.setIfInBounds_toArray, List.set_cons_zero, List.set_cons_succ]
      refine anyH_op (i := 10) (by kernel_rfl) rfl rfl (.bool ok) _ ?hq hT483 ?_
      case hq => simp [go_sem, Act.put]
      refine wpAnyH_done (by kernel_rfl) ?_ _
      simp only [Act.put, List.getElem_toArray, List.getElem_cons_zero, List.getElem_cons_succ, List.setIfInBounds_toArray, List.set_cons_zero, List.set_cons_succ]
      exact hK gg472 gg475 B471 v479 _ ⟨hT483, (ho479.rowO B471 hne _).mono (by omega), hp_row _ _ _ _ _ hB482, by omega, by (have e : (C479.setRow B471 #[.int .i64 N, v479]).heap.size = C479.heap.size := by simp); omega, hne⟩
  rintro _ _ Bsh vsh W20 ⟨hb484, ho485, hB486, hBloh, hBhih, hBneh⟩
  have hz487 := hb484.size
  have F488 := hide (F414.out.trans (hb484.mono (by omega)))
  have F489 := hide (F415.out.below hb484 (by omega))
  have F490 := hide (F416.out.below hb484 (by omega))
  have F491 := hide ((hb484.block (w.heap.size) (by omega)).trans F417.out)
  have F492 := hide ((hb484.block (w.heap.size + 1) (by omega)).trans F418.out)
  have F493 := hide (F419.out.kept hb484)
  have F494 := hide ((hb484.block (Bs) (by omega)).trans F420.out)
  have F495 := hide ((hb484.block (W4.heap.size) (by omega)).trans F422.out)
  have F496 := hide ((hb484.block (W6.heap.size) (by omega)).trans F424.out)
  have F497 := hide (F425.out.kept hb484)
  have F498 := hide ((hb484.block (W8.heap.size) (by omega)).trans F426.out)
  obtain ⟨aa499, cc500, hv501⟩ := ho485.shape
  have F502 := hide (ho485)
  have B503 := hide (F502.out.base)
  have L504 := hide (F502.out.blockLt)
  subst hv501
  have F505 := hide (hB486)
  clear hb484 ho485 hB486 F414 F415 F416 F417 F418 F419 F420 F422 F424 F425 F426
  have p506 := cells_at0 F491.out
  have p507 := cells_at1 F491.out
  have p508 := cells_at0 F492.out
  have p509 := cells_at1 F492.out
  have p510 := cells_at0 F494.out
  have p511 := cells_at1 F494.out
  have p512 := cells_at0 F495.out
  have p513 := cells_at1 F495.out
  have p514 := cells_at0 F496.out
  have p515 := cells_at1 F496.out
  have p516 := cells_at0 F498.out
  have p517 := cells_at1 F498.out
  have p518 := cells_at0 F505.out
  have p519 := cells_at1 F505.out
  go_wp2_with fail
  clear p506 p507 p508 p509 p510 p511 p512 p513 p514 p515 p516 p517 p518 p519
  refine (eqSpace_same_c N _ _ R W20 (F502.out.ints) (F493.out.ints) hRL).mono ?_
  rintro e W21 ⟨rfl, hb520⟩
  have hz521 := hb520.size
  have F522 := hide (F488.out.trans (hb520.mono (by omega)))
  have F523 := hide (F489.out.below hb520 (by omega))
  have F524 := hide (F490.out.below hb520 (by omega))
  have F525 := hide ((hb520.block (w.heap.size) (by omega)).trans F491.out)
  have F526 := hide ((hb520.block (w.heap.size + 1) (by omega)).trans F492.out)
  have F527 := hide (F493.out.kept hb520)
  have F528 := hide ((hb520.block (Bs) (by omega)).trans F494.out)
  have F529 := hide ((hb520.block (W4.heap.size) (by omega)).trans F495.out)
  have F530 := hide ((hb520.block (W6.heap.size) (by omega)).trans F496.out)
  have F531 := hide (F497.out.kept hb520)
  have F532 := hide ((hb520.block (W8.heap.size) (by omega)).trans F498.out)
  have F533 := hide (F502.out.kept hb520)
  have F534 := hide ((hb520.block (Bsh) (by omega)).trans F505.out)
  clear hb520 F488 F489 F490 F491 F492 F493 F494 F495 F496 F497 F498 F502 F505
  have p535 := cells_at0 F525.out
  have p536 := cells_at1 F525.out
  have p537 := cells_at0 F526.out
  have p538 := cells_at1 F526.out
  have p539 := cells_at0 F528.out
  have p540 := cells_at1 F528.out
  have p541 := cells_at0 F529.out
  have p542 := cells_at1 F529.out
  have p543 := cells_at0 F530.out
  have p544 := cells_at1 F530.out
  have p545 := cells_at0 F532.out
  have p546 := cells_at1 F532.out
  have p547 := cells_at0 F534.out
  have p548 := cells_at1 F534.out
  go_wp2_with fail
  clear p535 p536 p537 p538 p539 p540 p541 p542 p543 p544 p545 p546 p547 p548
  refine (heldSpace_c N _ R.length 1 W21 (F531.out.ints) hRL (by omega) (by omega)).mono ?_
  rintro e W22 ⟨rfl, hb549⟩
  have hz550 := hb549.size
  have F551 := hide (F522.out.trans (hb549.mono (by omega)))
  have F552 := hide (F523.out.below hb549 (by omega))
  have F553 := hide (F524.out.below hb549 (by omega))
  have F554 := hide ((hb549.block (w.heap.size) (by omega)).trans F525.out)
  have F555 := hide ((hb549.block (w.heap.size + 1) (by omega)).trans F526.out)
  have F556 := hide (F527.out.kept hb549)
  have F557 := hide ((hb549.block (Bs) (by omega)).trans F528.out)
  have F558 := hide ((hb549.block (W4.heap.size) (by omega)).trans F529.out)
  have F559 := hide ((hb549.block (W6.heap.size) (by omega)).trans F530.out)
  have F560 := hide (F531.out.kept hb549)
  have F561 := hide ((hb549.block (W8.heap.size) (by omega)).trans F532.out)
  have F562 := hide (F533.out.kept hb549)
  have F563 := hide ((hb549.block (Bsh) (by omega)).trans F534.out)
  clear hb549 F522 F523 F524 F525 F526 F527 F528 F529 F530 F531 F532 F533 F534
  have p564 := cells_at0 F554.out
  have p565 := cells_at1 F554.out
  have p566 := cells_at0 F555.out
  have p567 := cells_at1 F555.out
  have p568 := cells_at0 F557.out
  have p569 := cells_at1 F557.out
  have p570 := cells_at0 F558.out
  have p571 := cells_at1 F558.out
  have p572 := cells_at0 F559.out
  have p573 := cells_at1 F559.out
  have p574 := cells_at0 F561.out
  have p575 := cells_at1 F561.out
  have p576 := cells_at0 F563.out
  have p577 := cells_at1 F563.out
  go_wp2
  go_ret
  exact ⟨rfl, F551.out⟩

theorem ownK : ownKnob Tryd.prog.godebug = none := by kernel_rfl
theorem laidOut : laidOutB Tryd.prog = true := by kernel_rfl

/-- What a slice of int is, as it comes in. -/
theorem list_open {W : World} {v : Value} {l : List Int} (h : (v = .slice none 0 0 ∧ l = []) ∨ ∃ (a : Addr) (len c : Nat) (zs : List Int), v = .slice (some a) len c ∧ len ≤ zs.length ∧ len ≤ maxLen ∧ (∀ i, i < zs.length → W.cell? (a.add i) = some (.int .i64 (zs.getD i 0))) ∧ l = zs.take len) : ints W.heap.size W v l ∧ l.length ≤ 9223372036854775807 := by
  rcases h with ⟨rfl, rfl⟩ | ⟨x, len, c, zs, rfl, hlt, hm, hcell, rfl⟩
  · exact ⟨.inl ⟨rfl, none, 0, rfl⟩, by simp⟩
  · have htk : (zs.take len).length = len := by simp; omega
    refine ⟨?_, by unfold maxLen at hm; omega⟩
    rcases Nat.eq_zero_or_pos len with h0 | h0
    · subst h0
      exact .inl ⟨by simp, some x, c, rfl⟩
    · obtain ⟨b, off, rfl, hc⟩ := ints_at hcell (by omega)
      have hbl := block_lt_of_cell (hc 0 (by omega))
      refine .inr ⟨b, off, c, by rw [htk], hbl, hbl, fun j hj => ?_⟩
      rw [htk] at hj
      rw [hc j (by omega), List.getElem?_take, if_pos hj]
      rfl

/-- What a struct of an int and a slice of int is, as it comes in. -/
theorem space_open {H : Type} {enc : TypeId × Value → H} {W : World} {b0 : Nat} {v : Value} {d : DataW H} {p : List MemPlace}
    (hv : Value.okWide Tryd.prog W .any b0 24 v) (h : DataW.Trod enc Tryd.prog W 0 (fun _ => true) true 24 v d p) :
    ∃ (n : Int) (u : Value) (l : List Int), v = .agg #[.int .i64 n, u] ∧ ints W.heap.size W u l ∧ l.length ≤ 9223372036854775807 := by
  obtain ⟨v0, v1, y0, y1, m, rfl, rfl, rfl, hy0, hy1⟩ := open_agg2 Tryd.underlying24 (by kernel_rfl) (by kernel_rfl) hv h
  obtain ⟨n, e0, _, _⟩ := DataW.trod_int Tryd.underlying3 hy0
  simp at e0
  subst e0
  rcases open_ints Tryd.underlying22 Tryd.underlying3 (by kernel_rfl) hy1 with ⟨hcs, _⟩ | ⟨x, len, c, zs, hcs, _, hl, hm, hz, _, hcell, hwz⟩
  · simp at hcs
    subst hcs
    exact ⟨n, _, [], rfl, list_open (.inl ⟨rfl, rfl⟩)⟩
  · simp at hcs
    subst hcs
    have hz' : zs.length = c := by simpa using hz
    exact ⟨n, _, zs.take len, rfl, list_open (.inr ⟨x, len, c, zs, rfl, by omega, by unfold maxLen at hm ⊢; omega, hcell, rfl⟩)⟩


/-- What the card's condition gives: the table's cells. -/
theorem tab_of {W : World} (h : laidMetH Tryd.prog Rows.fnExactMeetOfSpacesRow.laid W) : tab W := by
  rw [MakeChecks.laidMetH_plain _ _ _ (by kernel_rfl)] at h
  have h2 := h.tail
  have e : (Rows.laid_math_bits_deBruijn64tab : DataW Unit) = Lib.tabData .u8 (Lib.deBruijn64tab.map fun n : Nat => (n : Int)) := by kernel_rfl
  rw [e] at h2
  have hT := Lib.tabIs_of_head (g := 1) (t := 195) (e := 5) (n := 64) (by kernel_rfl) (by kernel_rfl) (by kernel_rfl) (by kernel_rfl) (by kernel_rfl) (by kernel_rfl) h2
  have hc : ∀ j, j < 64 → W.cell? ⟨1, j, none⟩ = some (.int .u8 (Lib.deBruijn64tab.getD j 0)) := by
    intro j hj
    have h3 := hT.cell (g := 1) (by kernel_rfl) j (by rw [show (Lib.deBruijn64tab.map fun n : Nat => (n : Int)).length = 64 by decide +kernel]; exact hj)
    rw [h3]
    have h4 : ∀ j, j < 64 → (Lib.deBruijn64tab.map fun n : Nat => (n : Int)).getD j 0 = (Lib.deBruijn64tab.getD j 0 : Int) := by decide +kernel
    rw [h4 j hj]
  exact ⟨block_lt_of_cell (hc 0 (by omega)), hc⟩
theorem door_met (os : Os) (args : Array Value) : laidMetH Tryd.prog Rows.fnExactMeetOfSpacesRow.laid ((World.doorLaid Tryd.prog 400 os).forCall (fun _ _ => 0) ⟨#[], args, []⟩).memory :=
  laidMetH_of_parts3 (fuel := 8) (laidMet_of_run' 8 (by kernel_rfl) (by kernel_rfl)) (by kernel_rfl) (by kernel_rfl)

theorem lifted (os : Os) (started : os.Started) (H : Type) (enc : TypeId × Value → H) :
    ReturnsInHanded {} Tryd.checked os 8 .any (fun w args => (Rows.fnExactMeetOfSpacesSpec.pre enc Tryd.prog Tryd.f8 [] false w args ∧ laidMetH Tryd.prog Rows.fnExactMeetOfSpacesRow.laid w) ∧ sizedMet enc Tryd.prog Tryd.f8 (OpenSpec.ofChange Rows.fnExactMeetOfSpacesSpec) false w args)
      (Rows.fnExactMeetOfSpacesSpec.post enc Tryd.prog Tryd.f8 false true false false) := by
  refine returnsInHanded_of_change_and (C := Tryd.checked) (X := fun w _ => laidMetH Tryd.prog Rows.fnExactMeetOfSpacesRow.laid w) (fun _ _ _ hh h => h.of_heap hh) ownK started (by kernel_rfl) Tryd.func8
    (ChangeSpec.witness_shaped (enc := enc) (C := Tryd.checked) (os := os) (X := fun w _ => laidMetH Tryd.prog Rows.fnExactMeetOfSpacesRow.laid w) false (World.doorLaid Tryd.prog 400 os) #[.agg #[.int .i64 0, .slice none 0 0], .agg #[.int .i64 0, .slice none 0 0]] 8 rfl (World.shaped_of_RefB (by kernel_rfl) (by kernel_rfl)) (by kernel_rfl) (by kernel_rfl) (by kernel_rfl) (door_met os _)) ?_
  intro W base args ds gs before hval0 hW _ _ hL _
  have hTab := tab_of hL
  have hval : ∀ (j : Nat) t v, Tryd.f8.params[j]? = some t → args[j]? = some v → Value.okWide Tryd.prog W .any base t v := hval0
  have hW' := hW
  obtain ⟨p, q, hA0, hV, rfl, hfz, hnd⟩ := hW
  have hA : DataW.TrodAll enc Tryd.prog W 0 (fun _ => true) true Tryd.f8.params.toList args.toList ds p := hA0
  rw [Tryd.params8] at hA hval
  obtain ⟨v0, vs0, d0, ds0, p0, q0, hargs, rfl, rfl, t0, r0⟩ := trodAll_cons hA
  obtain ⟨v1, vs1, d1, ds1, p1, q1, rfl, rfl, rfl, t1, r1⟩ := trodAll_cons r0
  obtain ⟨rfl, rfl, rfl⟩ := trodAll_nil r1
  obtain rfl : args = #[v0, v1] := by cases args; simp_all
  obtain ⟨rfl, rfl⟩ := trodVars_none hV
  have k0 := t0
  have lt0 : ∀ x ∈ p0, x.block < W.heap.size := by obtain ⟨m, hm⟩ := k0; exact DataW.trod_lt m _ _ _ hm
  obtain ⟨n0, u0, l0, rfl, i0, e0⟩ := space_open (hval 0 24 v0 rfl rfl) t0
  have k1 := t1
  have lt1 : ∀ x ∈ p1, x.block < W.heap.size := by obtain ⟨m, hm⟩ := k1; exact DataW.trod_lt m _ _ _ hm
  obtain ⟨n1, u1, l1, rfl, i1, e1⟩ := space_open (hval 1 24 v1 rfl rfl) t1
  clear hA0 hval0
  refine (law_c n0 u0 l0 n1 u1 l1 W i0 e0 i1 e1 hTab).mono fun e W' ⟨he, bel⟩ => ?_
  subst he
  exact ⟨_, rfl, _, _, _, [], _, [], hW', trodAll_mk1 (shut_bool Tryd.underlying4 _), (trodAll_cons_mk (Below.trod laidOut (by kernel_rfl) (of_decide_eq_true (by kernel_rfl)) k0 bel lt0) (trodAll_cons_mk (Below.trod laidOut (by kernel_rfl) (of_decide_eq_true (by kernel_rfl)) k1 bel lt1) trodAll_mk0)), rfl, bel.frame _, fun h => by cases h⟩

set_option maxHeartbeats 4000000 in
theorem over : Rows.fnExactMeetOfSpacesRow.holds Tryd.pinned (OpenSpec.ofChange Rows.fnExactMeetOfSpacesSpec) :=
  OpenClaim.holds_of_wide 8 Tryd.f8 rfl rfl rfl rfl rfl rfl rfl ⟨rfl, rfl, rfl, rfl, rfl⟩ rfl rfl rfl rfl rfl (by as_aux_lemma => kernel_rfl) Tryd.func8 (by as_aux_lemma => kernel_rfl)
    (of_decide_eq_true (by as_aux_lemma => kernel_rfl)) (by unfold Func.isWrapper; first | (rw [if_pos (by decide +kernel)]; kernel_rfl) | (rw [if_neg (by decide +kernel)]; exact ⟨rfl, rfl⟩))
    (fun os started H enc _ => lifted os started H enc)

set_option maxHeartbeats 8000000 in
theorem proved : Rows.FnExactMeetOfSpacesCardSaid :=
  Claim7.holds_tied_plain_at .later [] [.data, .data] true _ false
    over (fun _ h => by cases h) (by as_aux_lemma => kernel_rfl) (fun _ h => by cases h) fnExactMeetOfSpaces_row_tie rfl ⟨rfl, rfl⟩ (by as_aux_lemma => kernel_rfl) rfl
    (fun f fn hf hfn => by
      obtain rfl : f = 8 := Option.some.inj ((show Tryd.prog.funcNamed "loop.example/g01137/laws.FnExactMeetOfSpaces" = some 8 by as_aux_lemma => kernel_rfl).symm.trans hf) |>.symm
      obtain rfl : fn = Tryd.f8 := (Option.some.inj (Tryd.func8.symm.trans hfn)).symm
      exact ⟨by as_aux_lemma => kernel_rfl, fun j t ht => by
        rw [Tryd.params8] at ht
        have hm : t ∈ [24, 24] := by simpa using Array.mem_of_getElem? ht
        have hall : ([24, 24].all fun u => !Tryd.prog.wantsStandIn u) = true := by as_aux_lemma => kernel_rfl
        exact (show Tryd.prog.wantsStandIn t = false by simpa using List.all_eq_true.1 hall t hm)⟩)
    (by as_aux_lemma => kernel_rfl)
#print axioms proved
end Go.Proofs.YtonimjpfaalniaaDoor.FMeetOfSpaces
