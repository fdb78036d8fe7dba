/- Contracts: on which side a point lies, within a triangle: the program's. -/
import Derived.Test.YtonimjpfaalniaaDoorQa
import Derived.Test.YtonimjpfaalniaaDoorQc
import Derived.Test.YtonimjpfaalniaaDoorLib
namespace Go.Proofs.YtonimjpfaalniaaDoor
open Go.RowKit
set_option maxRecDepth 100000
set_option linter.unusedSimpArgs false
theorem mul_bd {u v : Int} (hu : -40 ≤ u ∧ u ≤ 40) (hv : -40 ≤ v ∧ v ≤ 40) : -1600 ≤ u * v ∧ u * v ≤ 1600 := by
  have h1 := Int.natAbs_mul u v
  have h2 : u.natAbs * v.natAbs ≤ 40 * 40 := Nat.mul_le_mul (by omega) (by omega)
  omega
/-- A number that a place may have. -/
def pn (x : Int) : Prop := -20 ≤ x ∧ x ≤ 20
theorem tn_bd {ax ay bx b_y px py : Int} (h1 : pn ax) (h2 : pn ay) (h3 : pn bx) (h4 : pn b_y) (h5 : pn px) (h6 : pn py) : -3200 ≤ tn ax ay bx b_y px py ∧ tn ax ay bx b_y px py ≤ 3200 := by
  unfold pn at *
  unfold tn
  have g1 := mul_bd (u := bx - ax) (v := py - ay) (by omega) (by omega)
  have g2 := mul_bd (u := b_y - ay) (v := px - ax) (by omega) (by omega)
  omega
set_option maxHeartbeats 1000000 in
theorem sideOf_c (px py ax ay bx b_y : Int) (w : World) (h1 : pn ax) (h2 : pn ay) (h3 : pn bx) (h4 : pn b_y) (h5 : pn px) (h6 : pn py) :
    Calls Tryd.prog 210 #[.agg #[.int .i64 px, .int .i64 py], .agg #[.int .i64 ax, .int .i64 ay], .agg #[.int .i64 bx, .int .i64 b_y]] w fun e w' => e = .returned (.int .i64 (tn ax ay bx b_y px py)) ∧ Below w.heap.size w w' := by
  have HB := hide ((((Below.refl w.heap.size w).alloc (Nat.le_refl _) (.cells #[.int .i64 px, .int .i64 py] 167)).alloc (by simp) (.cells #[.int .i64 ax, .int .i64 ay] 167)).alloc (by simp <;> omega) (.cells #[.int .i64 bx, .int .i64 b_y] 167))
  have g1 := mul_bd (u := bx - ax) (v := py - ay) (by unfold pn at *; omega) (by unfold pn at *; omega)
  have g2 := mul_bd (u := b_y - ay) (v := px - ax) (by unfold pn at *; omega) (by unfold pn at *; omega)
  unfold pn at h1 h2 h3 h4 h5 h6
  have w1 : IntKind.i64.wrap (bx - ax) = bx - ax := IntWalk.i64_in _ (by omega)
  have w2 : IntKind.i64.wrap (py - ay) = py - ay := IntWalk.i64_in _ (by omega)
  have w3 : IntKind.i64.wrap (b_y - ay) = b_y - ay := IntWalk.i64_in _ (by omega)
  have w4 : IntKind.i64.wrap (px - ax) = px - ax := IntWalk.i64_in _ (by omega)
  have w5 : IntKind.i64.wrap ((bx - ax) * (py - ay)) = (bx - ax) * (py - ay) := IntWalk.i64_in _ (by omega)
  have w6 : IntKind.i64.wrap ((b_y - ay) * (px - ax)) = (b_y - ay) * (px - ax) := IntWalk.i64_in _ (by omega)
  have w7 : IntKind.i64.wrap ((bx - ax) * (py - ay) - (b_y - ay) * (px - ax)) = (bx - ax) * (py - ay) - (b_y - ay) * (px - ax) := IntWalk.i64_in _ (by omega)
  clear g1 g2 h1 h2 h3 h4 h5 h6
  go_enter Tryd.func210, Tryd.ntmps210
  go_wp2
  go_ret
  exact ⟨rfl, HB.out⟩
def mn3 (x y z : Int) : Int := min x (min y z)
def mx3 (x y z : Int) : Int := max x (max y z)
@[go_sem] theorem run_mn3 {P : Program} (w : World) (ts : Array TypeId) (t : TypeId) (x y z : Int) : (Builtin.min_ ts t #[.int .i64 x, .int .i64 y, .int .i64 z]).run P w = .ok (.int .i64 (mn3 x y z)) w := by
  have h : (if z < (if y < x then y else x) then z else (if y < x then y else x)) = mn3 x y z := by unfold mn3; repeat' split <;> omega
  rw [← h]
  simp [Builtin.min_, Builtin.min2]
@[go_sem] theorem run_mx3 {P : Program} (w : World) (ts : Array TypeId) (t : TypeId) (x y z : Int) : (Builtin.max_ ts t #[.int .i64 x, .int .i64 y, .int .i64 z]).run P w = .ok (.int .i64 (mx3 x y z)) w := by
  have h : (if z > (if y > x then y else x) then z else (if y > x then y else x)) = mx3 x y z := by unfold mx3; repeat' split <;> omega
  rw [← h]
  simp [Builtin.max_, Builtin.max2]
theorem ent_sideOf : enters Tryd.prog 210 := enters_of Tryd.func210 (by kernel_rfl) (by kernel_rfl)
attribute [local irreducible] mn3 mx3
set_option maxHeartbeats 2000000 in
theorem isWithin_c (px py ax ay bx b_y cx cy : Int) (b : Bool) (hb : b = true ↔ isWP px py ax ay bx b_y cx cy) (w : World) (h1 : pn ax) (h2 : pn ay) (h3 : pn bx) (h4 : pn b_y) (h5 : pn px) (h6 : pn py) (h7 : pn cx) (h8 : pn cy) :
    Calls Tryd.prog 207 #[.agg #[.int .i64 px, .int .i64 py], .agg #[.int .i64 ax, .int .i64 ay], .agg #[.int .i64 bx, .int .i64 b_y], .agg #[.int .i64 cx, .int .i64 cy]] w fun e w' => e = .returned (.bool b) ∧ Below w.heap.size w w' := by
  have HBE := hide hb
  have HB := hide (((((Below.refl w.heap.size w).alloc (Nat.le_refl _) (.cells #[.int .i64 px, .int .i64 py] 167)).alloc (by simp) (.cells #[.int .i64 ax, .int .i64 ay] 167)).alloc (by simp <;> omega) (.cells #[.int .i64 bx, .int .i64 b_y] 167)).alloc (by simp <;> omega) (.cells #[.int .i64 cx, .int .i64 cy] 167))
  have S1 := hide (fun w' => sideOf_c px py ax ay bx b_y w' h1 h2 h3 h4 h5 h6)
  have S2 := hide (fun w' => sideOf_c px py bx b_y cx cy w' h3 h4 h7 h8 h5 h6)
  have S3 := hide (fun w' => sideOf_c px py cx cy ax ay w' h7 h8 h1 h2 h5 h6)
  clear hb h1 h2 h3 h4 h5 h6 h7 h8
  go_enter Tryd.func207, Tryd.ntmps207
  go_wp2
  have hz : ((((w.alloc (.cells #[.int .i64 px, .int .i64 py] 167)).alloc (.cells #[.int .i64 ax, .int .i64 ay] 167)).alloc (.cells #[.int .i64 bx, .int .i64 b_y] 167)).alloc (.cells #[.int .i64 cx, .int .i64 cy] 167)).heap.size = w.heap.size + 4 := by simp
  have q0 : ((((w.alloc (.cells #[.int .i64 px, .int .i64 py] 167)).alloc (.cells #[.int .i64 ax, .int .i64 ay] 167)).alloc (.cells #[.int .i64 bx, .int .i64 b_y] 167)).alloc (.cells #[.int .i64 cx, .int .i64 cy] 167)).heap[w.heap.size]? = some (.cells #[.int .i64 px, .int .i64 py] 167) := (hp_old _ _ _ (by simp <;> omega)).trans ((hp_old _ _ _ (by simp <;> omega)).trans ((hp_old _ _ _ (by simp)).trans (hp_last _ _)))
  have q1 : ((((w.alloc (.cells #[.int .i64 px, .int .i64 py] 167)).alloc (.cells #[.int .i64 ax, .int .i64 ay] 167)).alloc (.cells #[.int .i64 bx, .int .i64 b_y] 167)).alloc (.cells #[.int .i64 cx, .int .i64 cy] 167)).heap[w.heap.size + 1]? = some (.cells #[.int .i64 ax, .int .i64 ay] 167) := (hp_old _ _ _ (by simp <;> omega)).trans ((hp_old _ _ _ (by simp)).trans (by have := hp_last (w.alloc (.cells #[.int .i64 px, .int .i64 py] 167)) (.cells #[.int .i64 ax, .int .i64 ay] 167); simpa using this))
  have q2 : ((((w.alloc (.cells #[.int .i64 px, .int .i64 py] 167)).alloc (.cells #[.int .i64 ax, .int .i64 ay] 167)).alloc (.cells #[.int .i64 bx, .int .i64 b_y] 167)).alloc (.cells #[.int .i64 cx, .int .i64 cy] 167)).heap[w.heap.size + 1 + 1]? = some (.cells #[.int .i64 bx, .int .i64 b_y] 167) := (hp_old _ _ _ (by simp)).trans (by have := hp_last ((w.alloc (.cells #[.int .i64 px, .int .i64 py] 167)).alloc (.cells #[.int .i64 ax, .int .i64 ay] 167)) (.cells #[.int .i64 bx, .int .i64 b_y] 167); simpa using this)
  have q3 : ((((w.alloc (.cells #[.int .i64 px, .int .i64 py] 167)).alloc (.cells #[.int .i64 ax, .int .i64 ay] 167)).alloc (.cells #[.int .i64 bx, .int .i64 b_y] 167)).alloc (.cells #[.int .i64 cx, .int .i64 cy] 167)).heap[w.heap.size + 1 + 1 + 1]? = some (.cells #[.int .i64 cx, .int .i64 cy] 167) := by have := hp_last (((w.alloc (.cells #[.int .i64 px, .int .i64 py] 167)).alloc (.cells #[.int .i64 ax, .int .i64 ay] 167)).alloc (.cells #[.int .i64 bx, .int .i64 b_y] 167)) (.cells #[.int .i64 cx, .int .i64 cy] 167); simpa using this
  generalize ((((w.alloc (.cells #[.int .i64 px, .int .i64 py] 167)).alloc (.cells #[.int .i64 ax, .int .i64 ay] 167)).alloc (.cells #[.int .i64 bx, .int .i64 b_y] 167)).alloc (.cells #[.int .i64 cx, .int .i64 cy] 167)) = W at HB hz q0 q1 q2 q3 ⊢
  have p0 := cells_at0 q0
  have p1 := cells_at1 q0
  have a0 := cells_at0 q1
  have a1 := cells_at1 q1
  have b0 := cells_at0 q2
  have b1 := cells_at1 q2
  have c0 := cells_at0 q3
  have c1 := cells_at1 q3
  generalize hs1 : tn ax ay bx b_y px py = s1 at S1
  generalize hs2 : tn bx b_y cx cy px py = s2 at S2
  generalize hs3 : tn cx cy ax ay px py = s3 at S3
  have HS := hide (And.intro hs1 (And.intro hs2 hs3))
  clear hs1 hs2 hs3
  refine wp_region_old (by kernel_rfl) (by kernel_rfl) ?_
  refine q_load_two pcR pcS rfl (.tmp _) rfl w.heap.size 0 rfl (.int .i64 px) (.int .i64 py) (fun w' h => (h.cell (p := ⟨w.heap.size, 0, none⟩) (by show w.heap.size < W.heap.size; omega)).trans p0) (fun w' h => (h.cell (p := ⟨w.heap.size, 1, none⟩) (by show w.heap.size < W.heap.size; omega)).trans p1) ?_
  simp only [Act.put, List.setIfInBounds_toArray, List.set_cons_zero, List.set_cons_succ]
  refine q_load_two pcR pcS rfl (.tmp _) rfl (w.heap.size + 1) 0 rfl (.int .i64 ax) (.int .i64 ay) (fun w' h => (h.cell (p := ⟨w.heap.size + 1, 0, none⟩) (by show w.heap.size + 1 < W.heap.size; omega)).trans a0) (fun w' h => (h.cell (p := ⟨w.heap.size + 1, 1, none⟩) (by show w.heap.size + 1 < W.heap.size; omega)).trans a1) ?_
  simp only [Act.put, List.setIfInBounds_toArray, List.set_cons_zero, List.set_cons_succ]
  refine q_load_two pcR pcS rfl (.tmp _) rfl (w.heap.size + 1 + 1) 0 rfl (.int .i64 bx) (.int .i64 b_y) (fun w' h => (h.cell (p := ⟨w.heap.size + 1 + 1, 0, none⟩) (by show w.heap.size + 1 + 1 < W.heap.size; omega)).trans b0) (fun w' h => (h.cell (p := ⟨w.heap.size + 1 + 1, 1, none⟩) (by show w.heap.size + 1 + 1 < W.heap.size; omega)).trans b1) ?_
  simp only [Act.put, List.setIfInBounds_toArray, List.set_cons_zero, List.set_cons_succ]
  refine q_belowN rfl 210 ent_sideOf _ _ rfl #[.agg #[.int .i64 px, .int .i64 py], .agg #[.int .i64 ax, .int .i64 ay], .agg #[.int .i64 bx, .int .i64 b_y]] rfl (.int .i64 s1) (fun w' _ => S1.out w') ?_
  simp only [Act.put, List.setIfInBounds_toArray, List.set_cons_zero, List.set_cons_succ]
  refine q_load_two pcR pcS rfl (.tmp _) rfl w.heap.size 0 rfl (.int .i64 px) (.int .i64 py) (fun w' h => (h.cell (p := ⟨w.heap.size, 0, none⟩) (by show w.heap.size < W.heap.size; omega)).trans p0) (fun w' h => (h.cell (p := ⟨w.heap.size, 1, none⟩) (by show w.heap.size < W.heap.size; omega)).trans p1) ?_
  simp only [Act.put, List.setIfInBounds_toArray, List.set_cons_zero, List.set_cons_succ]
  refine q_load_two pcR pcS rfl (.tmp _) rfl (w.heap.size + 1 + 1) 0 rfl (.int .i64 bx) (.int .i64 b_y) (fun w' h => (h.cell (p := ⟨w.heap.size + 1 + 1, 0, none⟩) (by show w.heap.size + 1 + 1 < W.heap.size; omega)).trans b0) (fun w' h => (h.cell (p := ⟨w.heap.size + 1 + 1, 1, none⟩) (by show w.heap.size + 1 + 1 < W.heap.size; omega)).trans b1) ?_
  simp only [Act.put, List.setIfInBounds_toArray, List.set_cons_zero, List.set_cons_succ]
  refine q_load_two pcR pcS rfl (.tmp _) rfl (w.heap.size + 1 + 1 + 1) 0 rfl (.int .i64 cx) (.int .i64 cy) (fun w' h => (h.cell (p := ⟨w.heap.size + 1 + 1 + 1, 0, none⟩) (by show w.heap.size + 1 + 1 + 1 < W.heap.size; omega)).trans c0) (fun w' h => (h.cell (p := ⟨w.heap.size + 1 + 1 + 1, 1, none⟩) (by show w.heap.size + 1 + 1 + 1 < W.heap.size; omega)).trans c1) ?_
  simp only [Act.put, List.setIfInBounds_toArray, List.set_cons_zero, List.set_cons_succ]
  refine q_belowN rfl 210 ent_sideOf _ _ rfl #[.agg #[.int .i64 px, .int .i64 py], .agg #[.int .i64 bx, .int .i64 b_y], .agg #[.int .i64 cx, .int .i64 cy]] rfl (.int .i64 s2) (fun w' _ => S2.out w') ?_
  simp only [Act.put, List.setIfInBounds_toArray, List.set_cons_zero, List.set_cons_succ]
  refine q_load_two pcR pcS rfl (.tmp _) rfl w.heap.size 0 rfl (.int .i64 px) (.int .i64 py) (fun w' h => (h.cell (p := ⟨w.heap.size, 0, none⟩) (by show w.heap.size < W.heap.size; omega)).trans p0) (fun w' h => (h.cell (p := ⟨w.heap.size, 1, none⟩) (by show w.heap.size < W.heap.size; omega)).trans p1) ?_
  simp only [Act.put, List.setIfInBounds_toArray, List.set_cons_zero, List.set_cons_succ]
  refine q_load_two pcR pcS rfl (.tmp _) rfl (w.heap.size + 1 + 1 + 1) 0 rfl (.int .i64 cx) (.int .i64 cy) (fun w' h => (h.cell (p := ⟨w.heap.size + 1 + 1 + 1, 0, none⟩) (by show w.heap.size + 1 + 1 + 1 < W.heap.size; omega)).trans c0) (fun w' h => (h.cell (p := ⟨w.heap.size + 1 + 1 + 1, 1, none⟩) (by show w.heap.size + 1 + 1 + 1 < W.heap.size; omega)).trans c1) ?_
  simp only [Act.put, List.setIfInBounds_toArray, List.set_cons_zero, List.set_cons_succ]
  refine q_load_two pcR pcS rfl (.tmp _) rfl (w.heap.size + 1) 0 rfl (.int .i64 ax) (.int .i64 ay) (fun w' h => (h.cell (p := ⟨w.heap.size + 1, 0, none⟩) (by show w.heap.size + 1 < W.heap.size; omega)).trans a0) (fun w' h => (h.cell (p := ⟨w.heap.size + 1, 1, none⟩) (by show w.heap.size + 1 < W.heap.size; omega)).trans a1) ?_
  simp only [Act.put, List.setIfInBounds_toArray, List.set_cons_zero, List.set_cons_succ]
  refine q_belowN rfl 210 ent_sideOf _ _ rfl #[.agg #[.int .i64 px, .int .i64 py], .agg #[.int .i64 cx, .int .i64 cy], .agg #[.int .i64 ax, .int .i64 ay]] rfl (.int .i64 s3) (fun w' _ => S3.out w') ?_
  simp only [Act.put, List.setIfInBounds_toArray, List.set_cons_zero, List.set_cons_succ]
  repeat (first | go_big_quiet_skip | go_big_quiet_step ((first | exact fun _ => rfl | exact fun _ => ⟨rfl, rfl⟩)))
  refine wpQuiet_nil ?_
  intro w2 hb2
  have HB2 := hide (HB.out.trans (hb2.mono (by omega)))
  clear p0 p1 a0 a1 b0 b1 c0 c1
  have p0 := cells_at0 ((hb2.block _ (by omega)).trans q0)
  have p1 := cells_at1 ((hb2.block _ (by omega)).trans q0)
  have a0 := cells_at0 ((hb2.block _ (by omega)).trans q1)
  have a1 := cells_at1 ((hb2.block _ (by omega)).trans q1)
  have b0 := cells_at0 ((hb2.block _ (by omega)).trans q2)
  have b1 := cells_at1 ((hb2.block _ (by omega)).trans q2)
  have c0 := cells_at0 ((hb2.block _ (by omega)).trans q3)
  have c1 := cells_at1 ((hb2.block _ (by omega)).trans q3)
  clear q0 q1 q2 q3 hb2 S1 S2 S3 HB hz
  have HE := hide (show isWP px py ax ay bx b_y cx cy ↔ ¬ (mn3 s1 s2 s3 < 0 ∧ 0 < mx3 s1 s2 s3) ∧ (mn3 ax bx cx ≤ px ∧ px ≤ mx3 ax bx cx) ∧ (mn3 ay b_y cy ≤ py ∧ py ≤ mx3 ay b_y cy) by
    obtain ⟨e1, e2, e3⟩ := HS.out
    unfold isWP mn3 mx3
    rw [e1, e2, e3])
  by_cases hA : mn3 s1 s2 s3 < 0
  · by_cases hB : 0 < mx3 s1 s2 s3
    · have HF := hide (show b = false by cases b; rfl; exact absurd ⟨hA, hB⟩ (HE.out.1 (HBE.out.1 rfl)).1)
      go_wp2
      go_ret
      exact ⟨by rw [HF.out]; rfl, HB2.out⟩
    · have HN := hide (show ¬ (mn3 s1 s2 s3 < 0 ∧ 0 < mx3 s1 s2 s3) from fun h => hB h.2)
      by_cases hC : mn3 ax bx cx ≤ px
      · by_cases hD : px ≤ mx3 ax bx cx
        · by_cases hE : mn3 ay b_y cy ≤ py
          · by_cases hF : py ≤ mx3 ay b_y cy
            · have HF := hide (show b = true from HBE.out.2 (HE.out.2 ⟨HN.out, ⟨hC, hD⟩, hE, hF⟩))
              go_wp2
              go_ret
              exact ⟨by rw [HF.out]; rfl, HB2.out⟩
            · have HF := hide (show b = false by cases b; rfl; exact absurd (HE.out.1 (HBE.out.1 rfl)).2.2.2 hF)
              go_wp2
              go_ret
              exact ⟨by rw [HF.out]; rfl, HB2.out⟩
          · have HF := hide (show b = false by cases b; rfl; exact absurd (HE.out.1 (HBE.out.1 rfl)).2.2.1 hE)
            go_wp2
            go_ret
            exact ⟨by rw [HF.out]; rfl, HB2.out⟩
        · have HF := hide (show b = false by cases b; rfl; exact absurd (HE.out.1 (HBE.out.1 rfl)).2.1.2 hD)
          go_wp2
          go_ret
          exact ⟨by rw [HF.out]; rfl, HB2.out⟩
      · have HF := hide (show b = false by cases b; rfl; exact absurd (HE.out.1 (HBE.out.1 rfl)).2.1.1 hC)
        go_wp2
        go_ret
        exact ⟨by rw [HF.out]; rfl, HB2.out⟩
  · have HN := hide (show ¬ (mn3 s1 s2 s3 < 0 ∧ 0 < mx3 s1 s2 s3) from fun h => hA h.1)
    by_cases hC : mn3 ax bx cx ≤ px
    · by_cases hD : px ≤ mx3 ax bx cx
      · by_cases hE : mn3 ay b_y cy ≤ py
        · by_cases hF : py ≤ mx3 ay b_y cy
          · have HF := hide (show b = true from HBE.out.2 (HE.out.2 ⟨HN.out, ⟨hC, hD⟩, hE, hF⟩))
            go_wp2
            go_ret
            exact ⟨by rw [HF.out]; rfl, HB2.out⟩
          · have HF := hide (show b = false by cases b; rfl; exact absurd (HE.out.1 (HBE.out.1 rfl)).2.2.2 hF)
            go_wp2
            go_ret
            exact ⟨by rw [HF.out]; rfl, HB2.out⟩
        · have HF := hide (show b = false by cases b; rfl; exact absurd (HE.out.1 (HBE.out.1 rfl)).2.2.1 hE)
          go_wp2
          go_ret
          exact ⟨by rw [HF.out]; rfl, HB2.out⟩
      · have HF := hide (show b = false by cases b; rfl; exact absurd (HE.out.1 (HBE.out.1 rfl)).2.1.2 hD)
        go_wp2
        go_ret
        exact ⟨by rw [HF.out]; rfl, HB2.out⟩
    · have HF := hide (show b = false by cases b; rfl; exact absurd (HE.out.1 (HBE.out.1 rfl)).2.1.1 hC)
      go_wp2
      go_ret
      exact ⟨by rw [HF.out]; rfl, HB2.out⟩
end Go.Proofs.YtonimjpfaalniaaDoor
/- The first elements of a slice, as a slice. No program is named here. -/
namespace Go.Proofs.YtonimjpfaalniaaDoor
open Go.RowKit
section
variable {P : Program}
theorem run_prefix (w : World) {t I : TypeId} (ht : P.underlying t = some (.slice I)) (hI : (P.info? I).map (·.size) = some 1) (b of n c k : Nat) (hk : k ≤ c) :
    (Instr.sliceAt t (.slice (some ⟨b, of, none⟩) n c) none (some (.int .i64 (k : Int))) none).run P w = .ok (.slice (some ⟨b, of, none⟩) k c) w := by
  have he : P.underlying t = some (.slice (P.elem t)) := by
    rw [ht]; simp [Program.elem, ht]
  have hE : P.elem t = I := by simp [Program.elem, ht]
  rw [run_sliceAt_slice (h := he), run_slice_h (ht := he) (h0 := by omega) (h2 := by omega), hE, run_sizeOf' hI]
  simp [sliced, Addr.add]
/-- The first k elements. -/
theorem wpList_prefix {t I : TypeId} (ht : P.underlying t = some (.slice I)) (hI : (P.info? I).map (·.size) = some 1) {ops : Array Oper} {rest : List Oper} {o : Oper} {a : Act} {w : World} {Q : Exit → Act → World → Prop}
    (hw : Region.wanted o (yielded ops a.tmps) = true) (x y : Operand) (ho : o.op = .slice t x none (some y) none) (b of n c k : Nat) (hx : a.eval x = .slice (some ⟨b, of, none⟩) n c) (hy : a.eval y = .int .i64 (k : Int)) (hk : k ≤ c)
    (h : wpList P ops Q rest (a.put o.dst (.slice (some ⟨b, of, none⟩) k c)) w) : wpList P ops Q (o :: rest) a w := by
  refine wpList_of_wp hw fun K hK => ?_
  unfold Oper.wp execOp
  simp only [ho, hx, hy, Option.map_some, Option.map_none, Sem.run_bind, Sem.run_pure, run_prefix w ht hI b of n c k hk, Result.andThen_ok]
  exact hK _ _ h
end
end Go.Proofs.YtonimjpfaalniaaDoor
/- Contracts: whether a point is covered by corners, the program's. -/
namespace Go.Proofs.YtonimjpfaalniaaDoor
open Go.RowKit
set_option maxRecDepth 100000
set_option linter.unusedSimpArgs false
theorem ints_take {B : Nat} {w : World} {b of c : Nat} {l : List Int} (hb : b < B) (hw : b < w.heap.size) (h : ∀ j, j < l.length → w.cell? ⟨b, of + j, none⟩ = some (.int .i64 (l[j]?.getD 0))) (k : Nat) (hk : k ≤ l.length) :
    ints B w (.slice (some ⟨b, of, none⟩) k c) (l.take k) := by
  have hl : (l.take k).length = k := by rw [List.length_take]; omega
  refine .inr ⟨b, of, c, by rw [hl], hb, hw, fun j hj => ?_⟩
  rw [hl] at hj
  rw [h j (by omega), List.getElem?_take, if_pos hj]
theorem take_at {l : List Int} {k j : Nat} (h : j < k) : (l.take k)[j]?.getD 0 = l[j]?.getD 0 := by rw [List.getElem?_take, if_pos h]
theorem item_n {s : Nat} (hs : s < 128) {x : Nat} (h : x < (itemsL s).length) : (itemsL s)[x]?.getD 0 = (nth (itemsL s) x : Int) := (item_at hs h).1
theorem pt_pn {L : List (List Int)} (h : ptB L = true) {j : Nat} (hj : j < L.length) : pn (ptX L j) ∧ pn (ptY L j) := ⟨(ptB_in h j hj).1.1, (ptB_in h j hj).1.2⟩
theorem ent_isWithin : enters Tryd.prog 207 := enters_of Tryd.func207 (by kernel_rfl) (by kernel_rfl)
attribute [local irreducible] p2 low memB risB trB3 cvB itemsL
set_option maxHeartbeats 4000000 in
theorem isCovered_c (p : Value) (L : List (List Int)) (i s b of c : Nat) (w : World) (hL : ptB L = true) (hi : i < L.length) (hs : s < 2 ^ L.length) (hp : pls w.heap.size w p L L.length) (hb : b < w.heap.size) (hI : ∀ j, j < (itemsL s).length → w.cell? ⟨b, of + j, none⟩ = some (.int .i64 ((itemsL s)[j]?.getD 0))) (hc : (itemsL s).length ≤ c) :
    Calls Tryd.prog 199 #[p, .int .i64 (i : Int), .slice (some ⟨b, of, none⟩) (itemsL s).length c] w fun e w' => e = .returned (.bool (cvB L s i)) ∧ Below w.heap.size w w' := by
  have h128 : s < 128 := by have := p2_le L.length 7 (ptB_n hL).2; omega
  have HTI := hide (tri_iff hL hs hi)
  have HIN := hide (fun x (h : x < (itemsL s).length) => item_n h128 h)
  have HIL := hide (fun x (h : x < (itemsL s).length) => show nth (itemsL s) x < L.length from bit_lt hs (item_at h128 h).2.2)
  have HPN := hide (fun j (h : j < L.length) => pt_pn hL h)
  have HP := hide hp
  have HI0 := hide hi
  have HB0 := hide hb
  have HII := hide hI
  have hn : (itemsL s).length ≤ 7 := items_short s
  generalize itemsL s = I at HTI HIN HIL HII hc hn ⊢
  clear hp hi hb hI hL hs
  go_enter Tryd.func199, Tryd.ntmps199
  go_wp2_with fail
  go_loopw [15] (fun v wr => ∃ x : Nat, x ≤ I.length ∧ v = .int .i64 (x : Int) ∧ Hid (∀ x', x' < x → ∀ y, y < x' + 1 → ∀ z, z < y + 1 → trB3 L I i x' y z = false) ∧ Hid (Below w.heap.size w wr)) (fun v _ => I.length - (intOf v).toNat)
  case atStart => exact ⟨0, Nat.zero_le _, rfl, hide (fun x' h => by omega), Below.refl _ _⟩
  case round =>
    obtain ⟨x, hx, rfl, HX, HB⟩ := hrel
    by_cases hlx : x < I.length
    · have hlxi : (x : Int) < (I.length : Int) := by omega
      have hsz := HB.out.size
      have hb0 := HB0.out
      have hfull := ints_take (b := b) (of := of) (c := c) (l := I) HB0.out (show b < wr.heap.size by omega) (fun j hj => (HB.out.cell (p := ⟨b, of + j, none⟩) HB0.out).trans (HII.out j hj)) I.length (Nat.le_refl _)
      rw [List.take_length] at hfull
      have HF := hide hfull
      have hnx := HIN.out x hlx
      have HXL := hide (HIL.out x hlx)
      have wx : IntKind.i64.wrap ((x : Int) + 1) = ((x + 1 : Nat) : Int) := IntWalk.i64_in _ (by omega)
      clear hfull
      go_wp2_with (first
        | (refine wpList_at sliceT intS rfl (.tmp 13) (.tmp _) rfl (.slice (some ⟨b, of, none⟩) I.length c) rfl x rfl w.heap.size I HF.out hlx ?_; intro ad hcell hblk; rw [hnx] at hcell)
        | (refine wpList_prefix sliceT intS rfl (.tmp 20) (.tmp 22) rfl b of I.length c (x + 1) rfl rfl (by omega) ?_))
      go_loopw [25] (fun v wr => ∃ y : Nat, y ≤ x + 1 ∧ v = .int .i64 (y : Int) ∧ Hid (∀ y', y' < y → ∀ z, z < y' + 1 → trB3 L I i x y' z = false) ∧ Hid (Below w.heap.size w wr)) (fun v _ => x + 1 - (intOf v).toNat)
      case atStart => exact ⟨0, Nat.zero_le _, rfl, hide (fun y' h => by omega), HB⟩
      case round =>
        obtain ⟨y, hy, rfl, HY, HB⟩ := hrel
        clear HF hcell hblk
        by_cases hly : y < x + 1
        · have hlyi : (y : Int) < ((x + 1 : Nat) : Int) := by omega
          have hlyi2 : (y : Int) < (x : Int) + 1 := by omega
          have hsz := HB.out.size
          have hfull := ints_take (b := b) (of := of) (c := c) (l := I) HB0.out (show b < wr.heap.size by omega) (fun j hj => (HB.out.cell (p := ⟨b, of + j, none⟩) HB0.out).trans (HII.out j hj)) (x + 1) (by omega)
          have HF := hide hfull
          have hny := HIN.out y (by omega)
          have HYL := hide (HIL.out y (by omega))
          have wy : IntKind.i64.wrap ((y : Int) + 1) = ((y + 1 : Nat) : Int) := IntWalk.i64_in _ (by omega)
          have hlen : (I.take (x + 1)).length = x + 1 := by rw [List.length_take]; omega
          clear hfull
          go_wp2_with (first
            | (refine wpList_at sliceT intS rfl (.tmp 23) (.tmp _) rfl (.slice (some ⟨b, of, none⟩) (x + 1) c) rfl y rfl w.heap.size (I.take (x + 1)) HF.out (by rw [hlen]; exact hly) ?_; intro ad2 hcell2 hblk2; rw [take_at hly, hny] at hcell2)
            | (refine wpList_prefix sliceT intS rfl (.tmp 30) (.tmp 32) rfl b of I.length c (y + 1) rfl rfl (by omega) ?_))
          go_loopw [35] (fun v wr => ∃ z : Nat, z ≤ y + 1 ∧ v = .int .i64 (z : Int) ∧ Hid (∀ z', z' < z → trB3 L I i x y z' = false) ∧ Hid (Below w.heap.size w wr)) (fun v _ => y + 1 - (intOf v).toNat)
          case atStart => exact ⟨0, Nat.zero_le _, rfl, hide (fun z' h => by omega), HB⟩
          case round =>
            obtain ⟨z, hz, rfl, HZ, HB⟩ := hrel
            clear HF hcell2 hblk2 hlen
            by_cases hlz : z < y + 1
            · have hlzi : (z : Int) < ((y + 1 : Nat) : Int) := by omega
              have hlzi2 : (z : Int) < (y : Int) + 1 := by omega
              have hsz := HB.out.size
              have hfull := ints_take (b := b) (of := of) (c := c) (l := I) HB0.out (show b < wr.heap.size by omega) (fun j hj => (HB.out.cell (p := ⟨b, of + j, none⟩) HB0.out).trans (HII.out j hj)) (y + 1) (by omega)
              have HF := hide hfull
              have hnz := HIN.out z (by omega)
              have HZL := hide (HIL.out z (by omega))
              have hlen : (I.take (y + 1)).length = y + 1 := by rw [List.length_take]; omega
              have HPW := hide (HP.out.below HB.out (Nat.le_refl _))
              have HTR := hide (show trB3 L I i x y z = true ↔ isWP (ptX L i) (ptY L i) (ptX L (nth I x)) (ptY L (nth I x)) (ptX L (nth I y)) (ptY L (nth I y)) (ptX L (nth I z)) (ptY L (nth I z)) by unfold trB3; rw [decide_eq_true_eq]; exact Iff.rfl)
              have N1 := HPN.out i HI0.out
              have N2 := HPN.out _ HXL.out
              have N3 := HPN.out _ HYL.out
              have N4 := HPN.out _ HZL.out
              have HIW := hide (fun w' => isWithin_c _ _ _ _ _ _ _ _ (trB3 L I i x y z) HTR.out w' N2.1 N2.2 N3.1 N3.2 N1.1 N1.2 N4.1 N4.2)
              have HYES := hide (fun h : trB3 L I i x y z = true => HTI.out.1 ⟨x, hlx, y, hly, z, hlz, h⟩)
              have HNO := hide (fun h : trB3 L I i x y z = false => show ∀ z', z' < z + 1 → trB3 L I i x y z' = false from fun z' hz' => by
                rcases Nat.lt_or_ge z' z with h1 | h1
                · exact HZ.out z' h1
                · have e : z' = z := by omega
                  rw [e]; exact h)
              clear hfull N1 N2 N3 N4
              go_wp2_with (refine wpList_at sliceT intS rfl (.tmp 33) (.tmp _) rfl (.slice (some ⟨b, of, none⟩) (y + 1) c) rfl z rfl w.heap.size (I.take (y + 1)) HF.out (by rw [hlen]; exact hlz) ?_; intro ad3 hcell3 hblk3; rw [take_at hlz, hnz] at hcell3)
              clear hcell3 hblk3 HF hlen
              generalize trB3 L I i x y z = t at HIW HYES HNO
              refine wp_region_old (by kernel_rfl) (by kernel_rfl) ?_
              go_big_quiet_step ((first | exact fun _ => rfl | exact fun _ => ⟨rfl, rfl⟩))
              go_big_quiet_step ((first | exact fun _ => rfl | exact fun _ => ⟨rfl, rfl⟩))
              refine q_atP plT pcS rfl (.tmp _) (.tmp _) rfl p rfl i rfl w.heap.size L L.length wr HPW.out HI0.out ?_
              intro e1 he1 hx1 hy1
              simp only [Act.put, List.setIfInBounds_toArray, List.set_cons_zero, List.set_cons_succ]
              refine q_load_two pcR pcS rfl (.tmp _) rfl e1 (2 * i) rfl (.int .i64 (ptX L i)) (.int .i64 (ptY L i)) (fun w' h => (h.cell (p := ⟨e1, 2 * i, none⟩) (by show e1 < wr.heap.size; omega)).trans hx1) (fun w' h => (h.cell (p := ⟨e1, 2 * i + 1, none⟩) (by show e1 < wr.heap.size; omega)).trans hy1) ?_
              simp only [Act.put, List.setIfInBounds_toArray, List.set_cons_zero, List.set_cons_succ]
              go_big_quiet_step ((first | exact fun _ => rfl | exact fun _ => ⟨rfl, rfl⟩))
              go_big_quiet_step ((first | exact fun _ => rfl | exact fun _ => ⟨rfl, rfl⟩))
              refine q_atP plT pcS rfl (.tmp _) (.tmp _) rfl p rfl (nth I x) rfl w.heap.size L L.length wr HPW.out HXL.out ?_
              intro e2 he2 hx2 hy2
              simp only [Act.put, List.setIfInBounds_toArray, List.set_cons_zero, List.set_cons_succ]
              refine q_load_two pcR pcS rfl (.tmp _) rfl e2 (2 * nth I x) rfl (.int .i64 (ptX L (nth I x))) (.int .i64 (ptY L (nth I x))) (fun w' h => (h.cell (p := ⟨e2, 2 * nth I x, none⟩) (by show e2 < wr.heap.size; omega)).trans hx2) (fun w' h => (h.cell (p := ⟨e2, 2 * nth I x + 1, none⟩) (by show e2 < wr.heap.size; omega)).trans hy2) ?_
              simp only [Act.put, List.setIfInBounds_toArray, List.set_cons_zero, List.set_cons_succ]
              go_big_quiet_step ((first | exact fun _ => rfl | exact fun _ => ⟨rfl, rfl⟩))
              go_big_quiet_step ((first | exact fun _ => rfl | exact fun _ => ⟨rfl, rfl⟩))
              refine q_atP plT pcS rfl (.tmp _) (.tmp _) rfl p rfl (nth I y) rfl w.heap.size L L.length wr HPW.out HYL.out ?_
              intro e3 he3 hx3 hy3
              simp only [Act.put, List.setIfInBounds_toArray, List.set_cons_zero, List.set_cons_succ]
              refine q_load_two pcR pcS rfl (.tmp _) rfl e3 (2 * nth I y) rfl (.int .i64 (ptX L (nth I y))) (.int .i64 (ptY L (nth I y))) (fun w' h => (h.cell (p := ⟨e3, 2 * nth I y, none⟩) (by show e3 < wr.heap.size; omega)).trans hx3) (fun w' h => (h.cell (p := ⟨e3, 2 * nth I y + 1, none⟩) (by show e3 < wr.heap.size; omega)).trans hy3) ?_
              simp only [Act.put, List.setIfInBounds_toArray, List.set_cons_zero, List.set_cons_succ]
              go_big_quiet_step ((first | exact fun _ => rfl | exact fun _ => ⟨rfl, rfl⟩))
              go_big_quiet_step ((first | exact fun _ => rfl | exact fun _ => ⟨rfl, rfl⟩))
              refine q_atP plT pcS rfl (.tmp _) (.tmp _) rfl p rfl (nth I z) rfl w.heap.size L L.length wr HPW.out HZL.out ?_
              intro e4 he4 hx4 hy4
              simp only [Act.put, List.setIfInBounds_toArray, List.set_cons_zero, List.set_cons_succ]
              refine q_load_two pcR pcS rfl (.tmp _) rfl e4 (2 * nth I z) rfl (.int .i64 (ptX L (nth I z))) (.int .i64 (ptY L (nth I z))) (fun w' h => (h.cell (p := ⟨e4, 2 * nth I z, none⟩) (by show e4 < wr.heap.size; omega)).trans hx4) (fun w' h => (h.cell (p := ⟨e4, 2 * nth I z + 1, none⟩) (by show e4 < wr.heap.size; omega)).trans hy4) ?_
              simp only [Act.put, List.setIfInBounds_toArray, List.set_cons_zero, List.set_cons_succ]
              refine q_belowN rfl 207 ent_isWithin _ _ rfl #[.agg #[.int .i64 (ptX L i), .int .i64 (ptY L i)], .agg #[.int .i64 (ptX L (nth I x)), .int .i64 (ptY L (nth I x))], .agg #[.int .i64 (ptX L (nth I y)), .int .i64 (ptY L (nth I y))], .agg #[.int .i64 (ptX L (nth I z)), .int .i64 (ptY L (nth I z))]] rfl (.bool t) (fun w' _ => HIW.out w') ?_
              simp only [Act.put, List.setIfInBounds_toArray, List.set_cons_zero, List.set_cons_succ]
              repeat (first | go_big_quiet_skip | go_big_quiet_step ((first | exact fun _ => rfl | exact fun _ => ⟨rfl, rfl⟩)))
              refine wpQuiet_nil ?_
              intro w2 hb2
              have HB2 := hide (HB.out.trans (hb2.mono hsz))
              clear hb2
              cases t
              · go_wp2
                go_roundw
                case rel => exact ⟨z + 1, hlz, by go_num, hide (HNO.out (by first | rfl | trivial)), HB2⟩
                case measure => (simp [intOf] <;> omega)
              · go_wp2
                go_ret
                exact ⟨by rw [HYES.out (by first | rfl | trivial)]; rfl, HB2.out⟩
            · have HZE := hide (show z = y + 1 by omega)
              have hlzi : ¬ ((z : Int) < ((y + 1 : Nat) : Int)) := by omega
              have hlzi2 : ¬ ((z : Int) < (y : Int) + 1) := by omega
              go_wp2
              go_roundw
              case rel => exact ⟨y + 1, hly, by go_num, hide (fun y' h => by
                rcases Nat.lt_or_ge y' y with h1 | h1
                · exact HY.out y' h1
                · have e : y' = y := by omega
                  subst e
                  intro z' h2
                  exact HZ.out z' (by omega)), HB⟩
              case measure => (simp [intOf] <;> omega)
        · have HYE := hide (show y = x + 1 by omega)
          have hlyi : ¬ ((y : Int) < ((x + 1 : Nat) : Int)) := by omega
          have hlyi2 : ¬ ((y : Int) < (x : Int) + 1) := by omega
          go_wp2
          go_roundw
          case rel => exact ⟨x + 1, hlx, by go_num, hide (fun x' h => by
            rcases Nat.lt_or_ge x' x with h1 | h1
            · exact HX.out x' h1
            · have e : x' = x := by omega
              subst e
              intro y' h2
              exact HY.out y' (by omega)), HB⟩
          case measure => (simp [intOf] <;> omega)
    · have HXE := hide (show x = I.length by omega)
      have hlxi : ¬ ((x : Int) < (I.length : Int)) := by omega
      have HV := hide (show cvB L s i = false by
        cases e : cvB L s i
        · rfl
        · obtain ⟨x', h1, y, h2, z, h3, h4⟩ := HTI.out.2 e
          rw [HX.out x' (by omega) y h2 z h3] at h4; cases h4)
      go_wp2
      go_ret
      exact ⟨by rw [HV.out]; rfl, HB.out⟩
end Go.Proofs.YtonimjpfaalniaaDoor
