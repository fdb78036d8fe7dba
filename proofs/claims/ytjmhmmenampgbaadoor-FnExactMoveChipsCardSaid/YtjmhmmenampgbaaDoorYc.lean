/- Contracts: degrees, what can be moved and what lies there behind a move, the specification's. -/
import Derived.Test.YtjmhmmenampgbaaDoorYb
import Derived.Test.YtjmhmmenampgbaaDoorBx
import Derived.BigQuiet
namespace Go.Proofs.YtjmhmmenampgbaaDoor
open Go.RowKit
set_option maxRecDepth 100000
set_option linter.unusedSimpArgs false
theorem rowCP : (Tryd.prog.underlying 29).map TypeDesc.isRow = some true := by kernel_rfl
theorem sizeCP : (Tryd.prog.info? 29).map (·.size) = some 2 := by kernel_rfl
theorem rowIntP : (Tryd.prog.underlying 3).map TypeDesc.isRow = some false := by kernel_rfl
theorem ent_waDegree : enters Tryd.prog 71 := enters_of Tryd.func71 (by kernel_rfl) (by kernel_rfl)
theorem pl_row {M : List (List Int)} {A : List Int} (h : ChP M A) {i : Nat} (hi : i < A.length) (j : Nat) : (M[i]?.getD [])[j]?.getD 0 = plL M A i j := (plL_yes h hi j).symm
attribute [local irreducible] p2 low memB risB
set_option maxHeartbeats 1000000 in
theorem waDegree_c (v u : Value) (M : List (List Int)) (A : List Int) (i : Nat) (w : World) (hl : rows w.heap.size w v M) (hc : ChP M A) (hi : i < A.length) :
    Calls Tryd.prog 71 #[.agg #[v, u], .int .i64 (i : Int)] w fun e w' => e = .returned (.int .i64 (dg (plL M A) i)) ∧ Below w.heap.size w w' := by
  have HL := hide (hl.alloc (.cells #[v, u] 29))
  have HB := hide ((Below.refl w.heap.size w).alloc (Nat.le_refl _) (.cells #[v, u] 29))
  have hiM : i < M.length := by rw [hc.ml]; exact hi
  have hrl := hc.rl i hi
  have h5 := hc.n5
  have HD := hide (show smF (plL M A i) A.length = dg (plL M A) i by have h := dg_n (pl_ln M A) i; rwa [plN_yes hc] at h)
  have HV := hide (fun j => pl_row hc hi j)
  have HBD := hide (show ∀ k, k ≤ 5 → -100 ≤ smF (plL M A i) k ∧ smF (plL M A i) k ≤ 100 from fun k hk => by
    have h1 := smF_lo (f := plL M A i) (k := k) fun j _ => (pl_ln M A).lo i j
    have h2 := smF_hi (f := plL M A i) (c := 3) (k := k) fun j _ => (pl_ln M A).hi i j
    omega)
  have HLO := hide (fun j => (pl_ln M A).lo i j)
  have HHI := hide (fun j => (pl_ln M A).hi i j)
  generalize hrr : M[i]?.getD [] = R at *
  have HRR := hide hrr
  clear hl hc hrr
  generalize plL M A i = f at *
  generalize dg (plL M A) i = d at *
  go_enter Tryd.func71, Tryd.ntmps71
  go_wp2_with (first
    | (refine wpList_at2 sliceT2 rowS2 rfl (.tmp _) (.tmp _) rfl v rfl _ rfl i rfl w.heap.size M HL.out hiM ?_; intro ad2 r hcell2 hblk2 hr; rw [HRR.out] at hr; have HR := hide hr; clear hr)
    | (refine wpList_len sliceT rfl (.tmp _) rfl r rfl w.heap.size R HR.out ?_))
  go_loop [5, 14] (fun sv iv => ∃ k : Nat, k ≤ A.length ∧ iv = .int .i64 (k : Int) ∧ sv = .int .i64 (smF f k)) (fun _ iv => A.length - (intOf iv).toNat)
  case atStart => exact ⟨0, Nat.zero_le _, rfl, rfl⟩
  case round =>
    obtain ⟨k, hk, rfl, rfl⟩ := hrel
    have hb1 := HBD.out k (by omega)
    by_cases hlt : k < A.length
    · have hlt' : (k : Int) < (R.length : Int) := by omega
      have hkR : k < R.length := by omega
      have HNX := hide (show smF f (k + 1) = smF f k + f k from rfl)
      have h2 := HLO.out k
      have h3 := HHI.out k
      have HX := hide (HV.out k)
      generalize f k = x at HNX HX h2 h3
      generalize smF f k = s at *
      have hw : IntKind.i64.wrap (s + x) = s + x := IntWalk.i64_in _ (by omega)
      go_wp2_with (refine wpList_at sliceT intS rfl (.tmp _) (.tmp _) rfl r rfl k rfl w.heap.size R HR.out hkR ?_; intro ad3 hcell3 hblk3; rw [HX.out] at hcell3)
      go_round
      case rel => exact ⟨k + 1, by omega, by go_num, by rw [HNX.out]⟩
      case measure => (simp [intOf] <;> omega)
    · have hkn : k = A.length := by omega
      subst hkn
      have hlt' : ¬ ((A.length : Int) < (R.length : Int)) := by omega
      go_wp2
      go_ret
      exact ⟨ret_i HD.out, HB.out⟩
set_option maxHeartbeats 1000000 in
theorem waCan_c (v u z : Value) (M : List (List Int)) (A : List Int) (a : Nat → Int) (i : Nat) (w : World) (hl : rows w.heap.size w v M) (hc : ChP M A) (hz : ints w.heap.size w z (toL A.length a)) (hi : i < A.length) :
    Calls Tryd.prog 50 #[.agg #[v, u], z, .int .i64 (i : Int)] w fun e w' => e = .returned (.bool (canB (plL M A) a i)) ∧ Below w.heap.size w w' := by
  have HZ := hide (by_full (by_start 29 v u w) hz)
  have hzl : i < (toL A.length a).length := by rw [toL_len]; exact hi
  have HDG := hide (fun w1 (h : Below w.heap.size w w1) => waDegree_c v u M A i w1 ((hl.below h (Nat.le_refl _)).mono h.size) hc hi)
  have HX := hide (toL_at a hi)
  have HB := hide ((Below.refl w.heap.size w).alloc (Nat.le_refl _) (.cells #[v, u] 29))
  have HCB := hide (show canB (plL M A) a i = (decide (0 < dg (plL M A) i) && decide (dg (plL M A) i ≤ a i)) from rfl)
  have P0 := hide (by_cell0 (by_start 29 v u w))
  have P1 := hide (by_cell1 (by_start 29 v u w))
  rw [HCB.out]
  generalize dg (plL M A) i = d at *
  generalize a i = x at *
  generalize toL A.length a = T at *
  clear hl hz HCB
  have hws : (w.alloc (.cells #[v, u] 29)).heap.size = w.heap.size + 1 := by simp
  go_enter Tryd.func50, Tryd.ntmps50
  go_wp2_with fail
  generalize w.alloc (.cells #[v, u] 29) = W at *
  cases hd : decide (0 < d)
  · have hd2 : ¬ 0 < d := of_decide_eq_false hd
    refine wp_region_old (by kernel_rfl) (by kernel_rfl) ?_
    refine q_load_two rowCP sizeCP rfl (.tmp _) rfl w.heap.size 0 rfl v u (fun w' h => (h.cell (p := ⟨w.heap.size, 0, none⟩) (by show w.heap.size < _; omega)).trans P0.out) (fun w' h => (h.cell (p := ⟨w.heap.size, 0 + 1, none⟩) (by show w.heap.size < _; omega)).trans P1.out) ?_
    simp only [Act.put, List.setIfInBounds_toArray, List.set_cons_zero, List.set_cons_succ]
    go_big_quiet_step ((first | exact fun _ => rfl | exact fun _ => ⟨rfl, rfl⟩))
    refine q_callB rfl 71 ent_waDegree _ _ rfl #[.agg #[v, u], .int .i64 (i : Int)] rfl (.int .i64 d) (fun w' hb => HDG.out w' (HB.out.trans (hb.mono (by omega)))) ?_
    simp only [Act.put, List.setIfInBounds_toArray, List.set_cons_zero, List.set_cons_succ]
    repeat (first | go_big_quiet_skip | go_big_quiet_step ((first | exact fun _ => rfl | exact fun _ => ⟨rfl, rfl⟩)))
    refine wpQuiet_nil ?_
    intro w2 hb2
    have HB2 := hide (HB.out.trans (hb2.mono (by omega)))
    clear hb2
    go_wp2
    go_ret
    exact ⟨rfl, HB2.out⟩
  · have hd2 : 0 < d := of_decide_eq_true hd
    refine wp_region_old (by kernel_rfl) (by kernel_rfl) ?_
    refine q_load_two rowCP sizeCP rfl (.tmp _) rfl w.heap.size 0 rfl v u (fun w' h => (h.cell (p := ⟨w.heap.size, 0, none⟩) (by show w.heap.size < _; omega)).trans P0.out) (fun w' h => (h.cell (p := ⟨w.heap.size, 0 + 1, none⟩) (by show w.heap.size < _; omega)).trans P1.out) ?_
    simp only [Act.put, List.setIfInBounds_toArray, List.set_cons_zero, List.set_cons_succ]
    go_big_quiet_step ((first | exact fun _ => rfl | exact fun _ => ⟨rfl, rfl⟩))
    refine q_callB rfl 71 ent_waDegree _ _ rfl #[.agg #[v, u], .int .i64 (i : Int)] rfl (.int .i64 d) (fun w' hb => HDG.out w' (HB.out.trans (hb.mono (by omega)))) ?_
    simp only [Act.put, List.setIfInBounds_toArray, List.set_cons_zero, List.set_cons_succ]
    go_big_quiet_step ((first | exact fun _ => rfl | exact fun _ => ⟨rfl, rfl⟩))
    go_big_quiet_step ((first | exact fun _ => rfl | exact fun _ => ⟨rfl, rfl⟩))
    go_big_quiet_step ((first | exact fun _ => rfl | exact fun _ => ⟨rfl, rfl⟩))
    go_big_quiet_step ((first | exact fun _ => rfl | exact fun _ => ⟨rfl, rfl⟩))
    refine q_at sliceT intS rfl (.tmp _) (.tmp _) rfl z rfl _ rfl i rfl W.heap.size T W HZ.out hzl ?_
    intro ad hcell hblk
    rw [HX.out] at hcell
    simp only [Act.put, List.setIfInBounds_toArray, List.set_cons_zero, List.set_cons_succ]
    refine q_load_cell rowIntP rfl (.tmp _) rfl ad rfl (.int .i64 x) (fun w' h => (h.cell hblk).trans hcell) ?_
    simp only [Act.put, List.setIfInBounds_toArray, List.set_cons_zero, List.set_cons_succ]
    refine q_load_two rowCP sizeCP rfl (.tmp _) rfl w.heap.size 0 rfl v u (fun w' h => (h.cell (p := ⟨w.heap.size, 0, none⟩) (by show w.heap.size < _; omega)).trans P0.out) (fun w' h => (h.cell (p := ⟨w.heap.size, 0 + 1, none⟩) (by show w.heap.size < _; omega)).trans P1.out) ?_
    simp only [Act.put, List.setIfInBounds_toArray, List.set_cons_zero, List.set_cons_succ]
    go_big_quiet_step ((first | exact fun _ => rfl | exact fun _ => ⟨rfl, rfl⟩))
    refine q_callB rfl 71 ent_waDegree _ _ rfl #[.agg #[v, u], .int .i64 (i : Int)] rfl (.int .i64 d) (fun w' hb => HDG.out w' (HB.out.trans (hb.mono (by omega)))) ?_
    simp only [Act.put, List.setIfInBounds_toArray, List.set_cons_zero, List.set_cons_succ]
    repeat (first | go_big_quiet_skip | go_big_quiet_step ((first | exact fun _ => rfl | exact fun _ => ⟨rfl, rfl⟩)))
    refine wpQuiet_nil ?_
    intro w2 hb2
    have HB2 := hide (HB.out.trans (hb2.mono (by omega)))
    clear hb2
    go_wp2
    go_ret
    exact ⟨ret_b (by simp [hd2]), HB2.out⟩
theorem ent_waCan : enters Tryd.prog 50 := enters_of Tryd.func50 (by kernel_rfl) (by kernel_rfl)
theorem ent_waMove : enters Tryd.prog 52 := enters_of Tryd.func52 (by kernel_rfl) (by kernel_rfl)
set_option maxHeartbeats 1000000 in
theorem waMoves_c (v u z : Value) (M : List (List Int)) (A : List Int) (a : Nat → Int) (w : World) (hl : rows w.heap.size w v M) (hc : ChP M A) (hz : ints w.heap.size w z (toL A.length a)) :
    Calls Tryd.prog 42 #[.agg #[v, u], z] w fun e w' => ∃ v', e = .returned v' ∧ own 3 w' w.heap.size v' (opL A.length (plL M A) a) ∧ Below w.heap.size w w' := by
  have HZ := hide hz
  have HCN := hide (fun i w1 (h : Below w.heap.size w w1) (hi : i < A.length) => waCan_c v u z M A a i w1 ((hl.below h (Nat.le_refl _)).mono h.size) hc ((hz.below h (Nat.le_refl _)).mono h.size) hi)
  have h5 := hc.n5
  have hTl := toL_len A.length a
  have HO := hide (show opL A.length (plL M A) a = whL (canB (plL M A) a) A.length from rfl)
  rw [HO.out]
  generalize canB (plL M A) a = K at *
  generalize toL A.length a = T at *
  have HB0 := hide (by_start 29 v u w)
  have HWL := hide (whL_len K)
  clear hl hz HO
  go_enter Tryd.func42, Tryd.ntmps42
  go_wp2_with (first
    | (refine wpList_len sliceT rfl (.tmp _) rfl z rfl w.heap.size T (by_ints HB0.out HZ.out) ?_))
  go_loopw [5, 9] (fun v5 iv wr => ∃ k : Nat, k ≤ A.length ∧ iv = .int .i64 (k : Int) ∧ Hid (own 3 wr (w.heap.size + 1) v5 (whL K k)) ∧ Hid (Below (w.heap.size + 1) (w.alloc (.cells #[v, u] 29)) wr)) (fun _ iv _ => A.length - (intOf iv).toNat)
  case atStart => exact ⟨0, Nat.zero_le _, rfl, own_nil _ _ _, HB0⟩
  case round =>
    obtain ⟨k, hk, rfl, HV, HB⟩ := hrel
    have hsz := by_size HB.out
    have c0 := by_cell0 HB.out
    have c1 := by_cell1 HB.out
    by_cases hlt : k < A.length
    · have hlt' : (k : Int) < (T.length : Int) := by omega
      have HC := hide (HCN.out k wr (by_below HB.out) hlt)
      have HNX := hide (show whL K (k + 1) = whL K k ++ (if K k then [(k : Int)] else []) from rfl)
      have hwl := HWL.out k
      generalize whL K k = Lk at *
      cases hK : K k
      · rw [hK] at HC HNX
        clear hK
        go_wp2_with (first
          | (go_at_call 50; refine HC.out.mono ?_; rintro e w2 ⟨rfl, hb2⟩; have hz2 := hb2.size; have HV2 := hide (HV.out.kept hb2); have HB2 := hide (by_to HB.out hb2); clear hb2))
        go_roundw
        case rel => exact ⟨k + 1, by omega, by go_num, by have h := HNX.out; simp at h; rw [h]; exact HV2.out, HB2⟩
        case measure => (simp [intOf] <;> omega)
      · rw [hK] at HC HNX
        clear hK
        go_wp2_with (first
          | (go_at_call 50; refine HC.out.mono ?_; rintro e w2 ⟨rfl, hb2⟩; have hz2 := hb2.size; have HV2 := hide (HV.out.kept hb2); have HB2 := hide (by_to HB.out hb2); clear hb2 c0 c1)
          | (at_builtin; refine wpList_append1 sliceT intI rfl _ _ rfl (w.heap.size + 1) _ _ rfl (HV2.out.alloc _) _ (k : Int) rfl (by simp [go_sem]) (by simp; omega) (by omega) ?_; intro v4 w4 ho4 hb4; have hb3 := ((Below.refl (w.heap.size + 1) w2).alloc (by omega) _).trans hb4; have hz4 := hb3.size; have HV4 := hide ho4; have HB4 := hide (HB2.out.trans hb3); clear ho4 hb4 hb3))
        go_roundw
        case rel => exact ⟨k + 1, by omega, by go_num, by have h := HNX.out; simp at h; rw [h]; exact HV4.out, HB4⟩
        case measure => (simp [intOf] <;> omega)
    · have hkn : k = A.length := by omega
      subst hkn
      have hlt' : ¬ ((A.length : Int) < (T.length : Int)) := by omega
      go_wp2
      go_ret
      exact ⟨_, rfl, HV.out.mono (by omega), by_below HB.out⟩
end Go.Proofs.YtjmhmmenampgbaaDoor
