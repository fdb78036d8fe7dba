/- Contracts: costs of tasks: the program's closure, the specification's function. -/
import Derived.Test.YtblglkgmnaklbaaDoorKg
import Derived.Test.YtblglkgmnaklbaaDoorKa
import Derived.Test.YtblglkgmnaklbaaDoorTz
import Derived.Test.YtblglkgmnaklbaaDoorOu
namespace Go.Proofs.YtblglkgmnaklbaaDoor
open Go.RowKit
set_option maxRecDepth 100000
set_option linter.unusedSimpArgs false
theorem ent_timesOf : enters Tryd.prog 106 := enters_of Tryd.func106 (by kernel_rfl) (by kernel_rfl)
theorem ent_total : enters Tryd.prog 105 := enters_of Tryd.func105 (by kernel_rfl) (by kernel_rfl)
theorem ent_costs1 : enters Tryd.prog 104 := enters_of Tryd.func104 (by kernel_rfl) (by kernel_rfl)
theorem rowTS : (Tryd.prog.underlying 40).map TypeDesc.isRow = some false := by kernel_rfl
theorem rowSetK : (Tryd.prog.underlying 81).map TypeDesc.isRow = some false := by kernel_rfl
theorem tmL_len (T : List Tsk) (x : Nat) : (tmL T x).length = (itemsL x).length := by simp [tmL, itemsL]
theorem tm_at (T : List Tsk) (x j : Nat) (h : j < (itemsL x).length) : ∃ i : Nat, (itemsL x)[j]?.getD 0 = (i : Int) ∧ i < 7 ∧ x.testBit i = true ∧ (tmL T x)[j]? = some (tkT T i) := by
  unfold itemsL tmL at *
  rw [List.length_map] at h
  have hm := List.getElem_mem h
  unfold itemsN at hm
  rw [List.mem_filter, List.mem_range] at hm
  exact ⟨(itemsN x)[j], by simp [h], hm.1, hm.2, by simp [h]⟩
theorem take_snoc {l : List Int} {k : Nat} {x : Int} (h : l[k]? = some x) : l.take (k + 1) = l.take k ++ [x] := by
  rw [List.take_add_one, h]; rfl
attribute [local irreducible] p2 low memB risB itemsL
theorem total_c (v : Value) (l : List Int) (w : World) (hl : ints w.heap.size w v l) (hlen : l.length < 1000000000) (hb : ∀ k, k ≤ l.length → -1000000 ≤ sumZ l k ∧ sumZ l k ≤ 1000000) :
    Calls Tryd.prog 105 #[v] w fun e w' => e = .returned (.int .i64 (sumZ l l.length)) ∧ Below w.heap.size w w' := by
  obtain ⟨a0, c0, e0⟩ := hl.shape
  subst e0
  have HL := hide hl
  have HB := hide hb
  clear hl hb
  go_enter Tryd.func105, Tryd.ntmps105
  go_wp2_with fail
  go_loopw [3, 8] (fun sv iv wr => ∃ k : Nat, k ≤ l.length ∧ iv = .int .i64 (k : Int) ∧ sv = .int .i64 (sumZ l k) ∧ Hid (Below w.heap.size w wr)) (fun _ iv _ => l.length - (intOf iv).toNat)
  case atStart => exact ⟨0, Nat.zero_le _, rfl, rfl, Below.refl _ _⟩
  case round =>
    obtain ⟨k, hk, rfl, rfl, HW⟩ := hrel
    have HNX := hide (show sumZ l (k + 1) = sumZ l k + l[k]?.getD 0 from rfl)
    have HLW := hide (HL.out.below HW.out (Nat.le_refl _))
    by_cases hlt : k < l.length
    · have hlt' : (k : Int) < (l.length : Int) := by omega
      have h1 := HB.out k hk
      have h2 := HB.out (k + 1) hlt
      rw [HNX.out] at h2
      generalize hx : l[k]?.getD 0 = x at *
      have HX := hide hx
      clear hx
      generalize hs : sumZ l k = s at *
      clear hs
      have hw : IntKind.i64.wrap (s + x) = s + x := IntWalk.i64_in _ (by omega)
      go_wp2_with (refine wpList_at sliceT intS rfl (.tmp _) (.tmp _) rfl _ rfl k rfl w.heap.size l HLW.out hlt ?_; intro ad hcell hblk; rw [HX.out] at hcell)
      go_roundw
      case rel => exact ⟨k + 1, by omega, by go_num, by rw [HNX.out], HW⟩
      case measure => (simp [intOf] <;> omega)
    · have HK := hide (show k = l.length by omega)
      have hlt' : ¬ ((k : Int) < (l.length : Int)) := by omega
      go_wp2
      go_ret
      exact ⟨ret_i (by rw [HK.out]), HW.out⟩
theorem timesOf_c (v : Value) (T : List Tsk) (x : Nat) (w : World) (hl : tks w.heap.size w v T) (hx : x < 128) (hin : ∀ i, x.testBit i = true → i < T.length) (hT : tab w) :
    Calls Tryd.prog 106 #[v, .int .i64 (x : Int)] w fun e w' => ∃ v', e = .returned v' ∧ own 3 w' w.heap.size v' (tmL T x) ∧ Below w.heap.size w w' := by
  have HL := hide hl
  have HT := hide hT
  have HAT := hide (tm_at T x)
  have HIN := hide hin
  have HLN := hide (tmL_len T x)
  have h7 : (itemsL x).length ≤ 7 := itemsL_len x hx
  clear hl hT hin
  go_enter Tryd.func106, Tryd.ntmps106
  go_wp2_with (first
    | (go_at_call 81; refine (items_c x _ hx HT.out).mono ?_; rintro e w1 ⟨v1, rfl, ho1, hb1⟩; have HO1 := hide ho1; have HB1 := hide hb1; clear ho1 hb1)
    | (refine wpList_len sliceT rfl (.tmp _) rfl v1 rfl _ _ HO1.out.ints ?_))
  generalize itemsL x = I at *
  generalize hM : tmL T x = M at *
  have HMM := hide hM
  clear hM
  have hz1 := HB1.out.size
  go_loopw [5, 11] (fun o iv wr => ∃ k : Nat, k ≤ I.length ∧ iv = .int .i64 (k : Int) ∧ Hid (own 3 wr w1.heap.size o (M.take k)) ∧ Hid (Below w1.heap.size w1 wr)) (fun _ iv _ => I.length - (intOf iv).toNat)
  case atStart => exact ⟨0, Nat.zero_le _, rfl, by rw [List.take_zero]; exact own_nil _ _ _, Below.refl _ _⟩
  case round =>
    obtain ⟨k, hk, rfl, HO, HB⟩ := hrel
    by_cases hlt : k < I.length
    · have hlt' : (k : Int) < (I.length : Int) := by omega
      obtain ⟨i, hi, hi7, hib, him⟩ := HAT.out k hlt
      have hiT := HIN.out i hib
      have HIT := hide hiT
      have HI := hide hi
      have HM := hide (take_snoc him)
      have hml : (M.take k).length ≤ 7 := by rw [List.length_take]; omega
      clear hi him hib hiT
      have hwz := HB.out.size
      have HOI := hide ((HO1.out.kept HB.out).ints)
      have HLW := hide (HL.out.below (HB1.out.trans (HB.out.mono hz1)) (Nat.le_refl _))
      generalize ht : tkT T i = t at HM
      have HTT := hide ht
      clear ht
      go_wp2_with (first
        | (refine wpList_at sliceT intS rfl (.tmp 9) (.tmp _) rfl v1 rfl k rfl _ I HOI.out hlt ?_; intro ad hcell hblk; rw [HI.out] at hcell)
        | (refine wpList_atK kSl kSz rfl (.tmp 16) (.tmp _) rfl v rfl i rfl w.heap.size T HLW.out HIT.out ?_; intro g f hg1 hg2 h0 h1 h2; rw [HTT.out] at h0; clear h1 h2)
        | (at_builtin; refine wpList_append1 sliceT intI rfl (.tmp 15) (.tmp 21) rfl w1.heap.size _ _ rfl (HO.out.alloc _) _ t rfl (by simp [go_sem]) (by simp; omega) (by omega) ?_; intro v7 w7 ho7 hb7; have HO7 := hide ho7; have HB7 := hide ((HB.out.alloc (by omega) _).trans hb7); clear ho7 hb7))
      go_roundw
      case rel => exact ⟨k + 1, by omega, by go_num, by rw [HM.out]; exact HO7, HB7⟩
      case measure => (simp [intOf] <;> omega)
    · have HK := hide (show k = I.length by omega)
      have hlt' : ¬ ((k : Int) < (I.length : Int)) := by omega
      go_wp2
      go_ret
      refine ⟨_, rfl, ?_, HB1.out.trans (HB.out.mono hz1)⟩
      have h := HO.out
      rw [HK.out, ← HLN.out, List.take_length] at h
      rw [HMM.out]
      exact h.mono hz1
/-- A function value that tells costs, whatever has been added to the world. -/
def isCost (w : World) (kf : Nat) (caps : Array Value) (m : Nat) (c : Nat → Nat → Int) : Prop :=
  ∀ (w1 : World), Below w.heap.size w w1 → ∀ s i : Nat, s < 128 → i < m → Calls Tryd.prog kf (#[.int .i64 (s : Int), .int .i64 (i : Int)] ++ caps) w1 fun e w2 => e = .returned (.int .i64 (c s i)) ∧ Below w1.heap.size w1 w2
theorem isCost.below {w w' : World} {kf : Nat} {caps : Array Value} {m : Nat} {c : Nat → Nat → Int} (h : isCost w kf caps m c) (hb : Below w.heap.size w w') : isCost w' kf caps m c :=
  fun w1 h1 => h w1 (hb.trans (h1.mono hb.size))
theorem sum_bd {T : List Tsk} {n : Int} (h : taB T n = true) (x : Nat) : ∀ k, k ≤ (tmL T x).length → -1000000 ≤ sumZ (tmL T x) k ∧ sumZ (tmL T x) k ≤ 1000000 := by
  obtain ⟨_, _, h3⟩ := taB_is h
  have hb : ∀ j, 0 ≤ tkT T j ∧ tkT T j ≤ 9 := by
    intro j
    by_cases hj : j < T.length
    · have := (oneB_iff _ _ _).1 ((tkTo_iff T _).1 h3 j hj)
      omega
    · unfold tkT; rw [List.getElem?_eq_none (by omega)]; decide
  have key : ∀ k, k ≤ (tmL T x).length → 0 ≤ sumZ (tmL T x) k ∧ sumZ (tmL T x) k ≤ 9 * (k : Int) := by
    intro k
    induction k with
    | zero => intro _; simp [sumZ]
    | succ k ih =>
      intro hk
      have h1 := ih (by omega)
      have h2 : ∃ j, (tmL T x)[k]?.getD 0 = tkT T j := by
        unfold tmL at hk ⊢
        rw [List.length_map] at hk
        exact ⟨(itemsN x)[k], by simp [show k < (itemsN x).length by omega]⟩
      obtain ⟨j, hj⟩ := h2
      rw [sumZ, hj]
      have := hb j
      omega
  intro k hk
  have h1 := key k hk
  have h2 : (tmL T x).length ≤ 7 := by
    unfold tmL itemsN
    rw [List.length_map]
    exact Nat.le_trans (List.length_filter_le _ _) (by simp)
  omega
set_option maxHeartbeats 2000000 in
theorem costs1_c (tv : Value) (T : List Tsk) (n : Int) (s i g1 g2 : Nat) (w : World) (hta : taB T n = true) (ht : tks w.heap.size w tv T) (_hs : s < 128) (hi : i < T.length) (hT : tab w)
    (hc1 : w.cell? ⟨g1, 0, none⟩ = some tv) (h1 : g1 < w.heap.size) (hc2 : w.cell? ⟨g2, 0, none⟩ = some (.int .i64 (low T.length : Int))) (h2 : g2 < w.heap.size) :
    Calls Tryd.prog 104 #[.int .i64 (s : Int), .int .i64 (i : Int), .pointer (some ⟨g1, 0, none⟩), .pointer (some ⟨g2, 0, none⟩)] w fun e w' => e = .returned (.int .i64 (coT T s i)) ∧ Below w.heap.size w w' := by
  have h7 : T.length ≤ 7 := by have := taB_is hta; omega
  have hlo := low_lt T.length h7
  have hx := andNot_lt128 (low T.length) s hlo
  have han := i64_andNot (low T.length) s (by omega)
  have hbd := co_bd hta s hi
  have HSUM := hide (tm_items T s T.length h7)
  have HSB := hide (sum_bd hta (andNot (low T.length) s))
  have HIN := hide (show ∀ j, (andNot (low T.length) s).testBit j = true → j < T.length from fun j hj => by
    rw [andNot_bit, low_bit, Bool.and_eq_true, decide_eq_true_eq] at hj; exact hj.1)
  have HML := hide (show (tmL T (andNot (low T.length) s)).length < 1000000000 by have h1 := tmL_len T (andNot (low T.length) s); have h2 := itemsL_len _ hx; omega)
  have HCO := hide (show coT T s i = tkR T i * tmTo T s T.length + tkB T i from rfl)
  obtain ⟨ta, tc, htv⟩ := ht.shape
  subst htv
  have HTK := hide ht
  have HT := hide hT
  have HC1 := hide hc1
  have HC2 := hide hc2
  clear hta ht hT hc2
  generalize andNot (low T.length) s = x at *
  generalize coT T s i = co at *
  generalize tmTo T s T.length = sm at *
  generalize hr : tkR T i = r at *
  generalize hb : tkB T i = b at *
  generalize ht0 : tkT T i = t0 at *
  have HR := hide hr
  have HBB := hide hb
  have HTT := hide ht0
  clear hr hb ht0
  have hw1 : IntKind.i64.wrap (r * sm) = r * sm := IntWalk.i64_in _ (by omega)
  have hw2 : IntKind.i64.wrap (r * sm + b) = r * sm + b := IntWalk.i64_in _ (by rw [← HCO.out]; omega)
  go_enter Tryd.func104, Tryd.ntmps104
  go_wp2_with (first
    | (refine wpList_atK kSl kSz rfl (.tmp 8) (.tmp _) rfl _ rfl i rfl w.heap.size T HTK.out hi ?_; intro g f hg1 hg2 h00 h01 h02; rw [HTT.out] at h00; rw [HR.out] at h01; rw [HBB.out] at h02; have H00 := hide h00; have H01 := hide h01; have H02 := hide h02; clear h00 h01 h02)
    | (refine wpList_load3 kRw kSz rfl (.tmp 10) rfl g f rfl _ _ _ H00.out H01.out H02.out ?_))
  have HB0 := hide ((Below.refl w.heap.size w).alloc (Nat.le_refl _) (.cells #[.int .i64 t0, .int .i64 r, .int .i64 b] 67))
  have HX := hide (hp_last w (.cells #[.int .i64 t0, .int .i64 r, .int .i64 b] 67))
  have hz0 : (w.alloc (.cells #[.int .i64 t0, .int .i64 r, .int .i64 b] 67)).heap.size = w.heap.size + 1 := by simp
  clear H00 H01 H02 hc1
  generalize w.alloc (.cells #[.int .i64 t0, .int .i64 r, .int .i64 b] 67) = W at HB0 HX hz0 ⊢
  have HK1 := hide (fun w' (h : Below W.heap.size W w') => show w'.cell? ⟨w.heap.size, 1, none⟩ = some (.int .i64 r) by rw [hp_cell ((h.block w.heap.size (by omega)).trans HX.out)]; rfl)
  have HK2 := hide (fun w' (h : Below W.heap.size W w') => show w'.cell? ⟨w.heap.size, 2, none⟩ = some (.int .i64 b) by rw [hp_cell ((h.block w.heap.size (by omega)).trans HX.out)]; rfl)
  have HK3 := hide (fun w' (h : Below W.heap.size W w') => ((HB0.out.trans (h.mono (by omega))).cell (p := ⟨g1, 0, none⟩) h1).trans HC1.out)
  have HK4 := hide (fun w' (h : Below W.heap.size W w') => ((HB0.out.trans (h.mono (by omega))).cell (p := ⟨g2, 0, none⟩) h2).trans HC2.out)
  refine wp_region_held (S := Below W.heap.size W) (by kernel_rfl) ?_
  have hS0 : Below W.heap.size W { W with drawn := W.drawn + 1 } := (Below.refl _ _).drew
  generalize ({ W with drawn := W.drawn + 1 } : World) = C0 at hS0 ⊢
  have hz1 : W.heap.size ≤ C0.heap.size := hS0.size
  refine wpAnyH_take (i := 0) (v := .pointer (some ⟨w.heap.size, 1, none⟩)) rfl (by kernel_rfl) (by kernel_rfl) (by kernel_rfl) (fun _ _ _ h => h) (.inl ⟨rfl, fun w' _ => by go_simp⟩) hS0 ?_
  simp only [Act.put, List.getElem_toArray, List.getElem_cons_zero, List.getElem_cons_succ, List.setIfInBounds_toArray, List.set_cons_zero, List.set_cons_succ]
  refine wpAnyH_take (i := 1) rfl (by kernel_rfl) (by kernel_rfl) (by kernel_rfl) (fun _ _ _ h => h) (yields_load_cell rowI rfl (.tmp _) rfl ⟨w.heap.size, 1, none⟩ rfl (.int .i64 r) HK1.out) hS0 ?_
  simp only [Act.put, List.getElem_toArray, List.getElem_cons_zero, List.getElem_cons_succ, List.setIfInBounds_toArray, List.set_cons_zero, List.set_cons_succ]
  refine wpAnyH_take (i := 2) rfl (by kernel_rfl) (by kernel_rfl) (by kernel_rfl) (fun _ _ _ h => h) (yields_load_cell rowTS rfl (.tmp _) rfl ⟨g1, 0, none⟩ rfl _ HK3.out) hS0 ?_
  simp only [Act.put, List.getElem_toArray, List.getElem_cons_zero, List.getElem_cons_succ, List.setIfInBounds_toArray, List.set_cons_zero, List.set_cons_succ]
  refine wpAnyH_take (i := 3) rfl (by kernel_rfl) (by kernel_rfl) (by kernel_rfl) (fun _ _ _ h => h) (yields_load_cell rowSetK rfl (.tmp _) rfl ⟨g2, 0, none⟩ rfl (.int .i64 (low T.length : Int)) HK4.out) hS0 ?_
  simp only [Act.put, List.getElem_toArray, List.getElem_cons_zero, List.getElem_cons_succ, List.setIfInBounds_toArray, List.set_cons_zero, List.set_cons_succ]
  refine wpAnyH_take (i := 4) (v := .int .i64 (s : Int)) rfl (by kernel_rfl) (by kernel_rfl) (by kernel_rfl) (fun _ _ _ h => h) (.inl ⟨rfl, fun w' _ => by go_simp⟩) hS0 ?_
  simp only [Act.put, List.getElem_toArray, List.getElem_cons_zero, List.getElem_cons_succ, List.setIfInBounds_toArray, List.set_cons_zero, List.set_cons_succ]
  refine wpAnyH_take (i := 5) (v := .int .i64 (x : Int)) rfl (by kernel_rfl) (by kernel_rfl) (by kernel_rfl) (fun _ _ _ h => h) (.inl ⟨rfl, fun w' _ => by simp [go_sem, Act.put, han]⟩) hS0 ?_
  simp only [Act.put, List.getElem_toArray, List.getElem_cons_zero, List.getElem_cons_succ, List.setIfInBounds_toArray, List.set_cons_zero, List.set_cons_succ]
  refine wpAnyH_take (i := 9) (v := .pointer (some ⟨w.heap.size, 2, none⟩)) rfl (by kernel_rfl) (by kernel_rfl) (by kernel_rfl) (fun _ _ _ h => h) (.inl ⟨rfl, fun w' _ => by go_simp⟩) hS0 ?_
  simp only [Act.put, List.getElem_toArray, List.getElem_cons_zero, List.getElem_cons_succ, List.setIfInBounds_toArray, List.set_cons_zero, List.set_cons_succ]
  refine wpAnyH_take (i := 10) rfl (by kernel_rfl) (by kernel_rfl) (by kernel_rfl) (fun _ _ _ h => h) (yields_load_cell rowI rfl (.tmp _) rfl ⟨w.heap.size, 2, none⟩ rfl (.int .i64 b) HK2.out) hS0 ?_
  simp only [Act.put, List.getElem_toArray, List.getElem_cons_zero, List.getElem_cons_succ, List.setIfInBounds_toArray, List.set_cons_zero, List.set_cons_succ]
  have hSw : Below w.heap.size w C0 := HB0.out.trans (hS0.mono (by omega))
  refine anyH_call (i := 6) (by kernel_rfl) rfl rfl 106 ent_timesOf _ _ rfl #[.slice ta T.length tc, .int .i64 (x : Int)] rfl (timesOf_c _ T x C0 (HTK.out.to hSw) hx HIN.out (HT.out.below hSw)) ?_
  rintro e C1 ⟨v1, rfl, ho1, hb1⟩
  have hS1 : Below W.heap.size W C1 := hS0.trans (hb1.mono hz1)
  refine ⟨_, rfl, hS1, ?_⟩
  simp only [Act.put, List.getElem_toArray, List.getElem_cons_zero, List.getElem_cons_succ, List.setIfInBounds_toArray, List.set_cons_zero, List.set_cons_succ]
  have hsum := total_c v1 (tmL T x) C1 ho1.ints HML.out HSB.out
  rw [HSUM.out] at hsum
  refine anyH_call (i := 7) (by kernel_rfl) rfl rfl 105 ent_total _ _ rfl #[v1] rfl hsum ?_
  rintro e C2 ⟨rfl, hb2⟩
  have hS2 : Below W.heap.size W C2 := hS1.trans (hb2.mono hS1.size)
  refine ⟨_, rfl, hS2, ?_⟩
  simp only [Act.put, List.getElem_toArray, List.getElem_cons_zero, List.getElem_cons_succ, List.setIfInBounds_toArray, List.set_cons_zero, List.set_cons_succ]
  refine anyH_op (i := 8) (by kernel_rfl) rfl rfl (.int .i64 (r * sm)) C2 (by simp [go_sem, hw1]) hS2 ?_
  simp only [Act.put, List.getElem_toArray, List.getElem_cons_zero, List.getElem_cons_succ, List.setIfInBounds_toArray, List.set_cons_zero, List.set_cons_succ]
  refine anyH_op (i := 11) (by kernel_rfl) rfl rfl (.int .i64 (r * sm + b)) C2 (by simp [go_sem, hw2]) hS2 ?_
  simp only [Act.put, List.getElem_toArray, List.getElem_cons_zero, List.getElem_cons_succ, List.setIfInBounds_toArray, List.set_cons_zero, List.set_cons_succ]
  refine anyH_op (i := 12) (by kernel_rfl) rfl rfl (.int .i64 (r * sm + b)) C2 (by simp [go_sem]) hS2 ?_
  refine wpAnyH_done (by kernel_rfl) ?_ _
  simp only [Act.put, List.getElem_toArray, List.getElem_cons_zero, List.getElem_cons_succ, List.setIfInBounds_toArray, List.set_cons_zero, List.set_cons_succ]
  go_wp2
  go_ret
  exact ⟨ret_i (by rw [HCO.out]), HB0.out.trans (hS2.mono (by omega))⟩
theorem isCost_of {W : World} {v : Value} {T : List Tsk} {n : Int} {g1 g2 : Nat} (hta : taB T n = true) (ht : tks W.heap.size W v T) (hT : tab W) (h1 : g1 < W.heap.size) (h2 : g2 < W.heap.size)
    (c1 : W.cell? ⟨g1, 0, none⟩ = some v) (c2 : W.cell? ⟨g2, 0, none⟩ = some (.int .i64 (low T.length : Int))) : isCost W 104 #[.pointer (some ⟨g1, 0, none⟩), .pointer (some ⟨g2, 0, none⟩)] T.length (coT T) := by
  intro w1 hb s i hs hi
  have hz := hb.size
  exact costs1_c v T n s i g1 g2 w1 hta (ht.to hb) hs hi (hT.below hb) ((hb.cell (p := ⟨g1, 0, none⟩) h1).trans c1) (by omega) ((hb.cell (p := ⟨g2, 0, none⟩) h2).trans c2) (by omega)
theorem costsOf_c (v : Value) (T : List Tsk) (n : Int) (w : World) (hta : taB T n = true) (ht : tks w.heap.size w v T) (_hT : tab w) :
    Calls Tryd.prog 79 #[v] w fun e w' => ∃ g1 g2 : Nat, e = .returned (.func (.func 104) #[] #[.pointer (some ⟨g1, 0, none⟩), .pointer (some ⟨g2, 0, none⟩)]) ∧ w.heap.size ≤ g1 ∧ w.heap.size ≤ g2 ∧ g1 < w'.heap.size ∧ g2 < w'.heap.size ∧ w'.cell? ⟨g1, 0, none⟩ = some v ∧ w'.cell? ⟨g2, 0, none⟩ = some (.int .i64 (low T.length : Int)) ∧ Below w.heap.size w w' := by
  have h7 : T.length ≤ 7 := by have := taB_is hta; omega
  obtain ⟨ta, tc, htv⟩ := ht.shape
  subst htv
  have HB0 := hide ((Below.refl w.heap.size w).alloc (Nat.le_refl _) (.cells #[.slice ta T.length tc] 40))
  have HX0 := hide (hp_last w (.cells #[.slice ta T.length tc] 40))
  have HZ0 := hide (show (w.alloc (.cells #[.slice ta T.length tc] 40)).heap.size = w.heap.size + 1 by simp)
  clear hta ht
  go_enter Tryd.func79, Tryd.ntmps79
  go_wp2_with (go_at_call 103; refine (below_c (T.length : Int) _ (by omega) (by omega)).mono ?_; rw [Int.toNat_natCast]; rintro e w3 ⟨rfl, rfl⟩)
  have HB1 := hide (HB0.out.alloc (by rw [HZ0.out]; omega) (.cells #[.int .i64 (low T.length : Int)] 81))
  have HX1 := hide (hp_last (w.alloc (.cells #[.slice ta T.length tc] 40)) (.cells #[.int .i64 (low T.length : Int)] 81))
  have HX2 := hide ((hp_old (w.alloc (.cells #[.slice ta T.length tc] 40)) (.cells #[.int .i64 (low T.length : Int)] 81) w.heap.size (by rw [HZ0.out]; omega)).trans HX0.out)
  have hz1 : ((w.alloc (.cells #[.slice ta T.length tc] 40)).alloc (.cells #[.int .i64 (low T.length : Int)] 81)).heap.size = w.heap.size + 2 := by simp
  rw [HZ0.out] at HX1
  go_ret
  exact ⟨_, _, rfl, Nat.le_refl _, Nat.le_succ _, by rw [hz1]; omega, by rw [hz1]; omega, by rw [hp_cell HX2.out]; rfl, by rw [hp_cell HX1.out]; rfl, HB1.out⟩
set_option maxHeartbeats 1000000 in
theorem grCost_c (v : Value) (T : List Tsk) (n : Int) (s i : Nat) (w : World) (hta : taB T n = true) (ht : tks w.heap.size w v T) (hs : s < 128) (hi : i < T.length) :
    Calls Tryd.prog 76 #[v, .int .i64 (s : Int), .int .i64 (i : Int)] w fun e w' => e = .returned (.int .i64 (coT T s i)) ∧ Below w.heap.size w w' := by
  have h7 : T.length ≤ 7 := by have := taB_is hta; omega
  have hbd := co_bd hta s hi
  have HSB := hide (fun k (hk : k ≤ T.length) => tm_bd (T := T) s k ((tkTo_iff T k).2 fun j hj => (tkTo_iff T T.length).1 (taB_is hta).2.2 j (by omega)))
  have HCO := hide (show coT T s i = tkR T i * tmTo T s T.length + tkB T i from rfl)
  obtain ⟨ta, tc, htv⟩ := ht.shape
  subst htv
  have HTK := hide ht
  have HSP := hide (fun (k : Nat) (hk : k < 7) (w1 : World) => show Calls Tryd.prog 66 #[.int .i64 (s : Int), .int .i64 (k : Int)] w1 fun e w' => e = .returned (.bool (s.testBit k)) ∧ w1 = w' by
    have := spIn_c (s : Int) (k : Int) w1 (by omega) (by omega) (by omega) (by omega)
    rw [Int.toNat_natCast, Int.toNat_natCast] at this
    exact this)
  clear hta ht
  go_enter Tryd.func76, Tryd.ntmps76
  go_wp2_with fail
  go_loopw [7, 12] (fun sv iv wr => ∃ k : Nat, k ≤ T.length ∧ iv = .int .i64 (k : Int) ∧ sv = .int .i64 (tmTo T s k) ∧ Hid (Below w.heap.size w wr)) (fun _ iv _ => T.length - (intOf iv).toNat)
  case atStart => exact ⟨0, Nat.zero_le _, rfl, rfl, Below.refl _ _⟩
  case round =>
    obtain ⟨k, hk, rfl, rfl, HW⟩ := hrel
    have HLW := hide (HTK.out.below HW.out (Nat.le_refl _))
    have hsz := HW.out.size
    by_cases hlt : k < T.length
    · have hlt' : (k : Int) < (T.length : Int) := by omega
      have HNX := hide (show tmTo T s (k + 1) = tmTo T s k + (if s.testBit k then 0 else tkT T k) from rfl)
      have h1 := HSB.out k hk
      have h2 := HSB.out (k + 1) hlt
      rw [HNX.out] at h2
      have HSK := hide (HSP.out k (by omega))
      generalize ht0 : tkT T k = t at HNX h2
      generalize hr : tkR T k = r
      generalize hb : tkB T k = b
      have HT := hide ht0
      have HR := hide hr
      have HBB := hide hb
      clear ht0 hr hb
      generalize hm : tmTo T s k = m at *
      clear hm
      have HB2 := hide (HW.out.alloc hsz (.cells #[.int .i64 t, .int .i64 r, .int .i64 b] 67))
      cases hbk : s.testBit k
      · rw [hbk] at HSK HNX h2
        clear hbk
        simp only [Bool.false_eq_true, if_false] at h2
        have hw : IntKind.i64.wrap (m + t) = m + t := IntWalk.i64_in _ (by omega)
        go_wp2_with (first
          | (refine wpList_atK kSl kSz rfl (.tmp 10) (.tmp _) rfl _ rfl k rfl w.heap.size T HLW.out hlt ?_; intro g f hg1 hg2 h0 h1 h2; rw [HT.out] at h0; rw [HR.out] at h1; rw [HBB.out] at h2; have H0 := hide h0; have H1 := hide h1; have H2 := hide h2; clear h0 h1 h2)
          | (refine wpList_load3 kRw kSz rfl (.tmp 15) rfl g f rfl _ _ _ H0.out H1.out H2.out ?_)
          | (go_at_call 66; refine (HSK.out _).mono ?_; rintro e w4 ⟨rfl, rfl⟩))
        go_roundw
        case rel => exact ⟨k + 1, by omega, by go_num, by rw [HNX.out]; simp, HB2⟩
        case measure => (simp [intOf] <;> omega)
      · rw [hbk] at HSK HNX h2
        clear hbk
        go_wp2_with (first
          | (refine wpList_atK kSl kSz rfl (.tmp 10) (.tmp _) rfl _ rfl k rfl w.heap.size T HLW.out hlt ?_; intro g f hg1 hg2 h0 h1 h2; rw [HT.out] at h0; rw [HR.out] at h1; rw [HBB.out] at h2; have H0 := hide h0; have H1 := hide h1; have H2 := hide h2; clear h0 h1 h2)
          | (refine wpList_load3 kRw kSz rfl (.tmp 15) rfl g f rfl _ _ _ H0.out H1.out H2.out ?_)
          | (go_at_call 66; refine (HSK.out _).mono ?_; rintro e w4 ⟨rfl, rfl⟩))
        go_roundw
        case rel => exact ⟨k + 1, by omega, by go_num, by rw [HNX.out]; simp, HB2⟩
        case measure => (simp [intOf] <;> omega)
    · have HK := hide (show k = T.length by omega)
      have hlt' : ¬ ((k : Int) < (T.length : Int)) := by omega
      go_wp2_with fail
      have hkk := HK.out
      subst hkk
      generalize tmTo T s T.length = sm at *
      generalize hr : tkR T i = r at *
      generalize hb : tkB T i = b at *
      have HR := hide hr
      have HBB := hide hb
      clear hr hb
      have hw1 : IntKind.i64.wrap (r * sm) = r * sm := IntWalk.i64_in _ (by omega)
      have hw2 : IntKind.i64.wrap (r * sm + b) = r * sm + b := IntWalk.i64_in _ (by rw [← HCO.out]; omega)
      refine wp_region_old (by kernel_rfl) (by kernel_rfl) ?_
      go_big_quiet_step ((first | exact fun _ => rfl | exact fun _ => ⟨rfl, rfl⟩))
      go_big_quiet_step ((first | exact fun _ => rfl | exact fun _ => ⟨rfl, rfl⟩))
      refine q_atK kSl kSz rfl (.tmp _) (.tmp _) rfl _ rfl i rfl w.heap.size T wr HLW.out hi ?_
      intro g1 f1 hg1 hz1 h10 h11 h12
      rw [HR.out] at h11
      simp only [Act.put, List.setIfInBounds_toArray, List.set_cons_zero, List.set_cons_succ]
      go_big_quiet_step ((first | exact fun _ => rfl | exact fun _ => ⟨rfl, rfl⟩))
      refine q_load_cell rowI rfl (.tmp _) rfl ⟨g1, f1 + 1, none⟩ rfl (.int .i64 r) (fun w' h => (h.cell (p := ⟨g1, f1 + 1, none⟩) hz1).trans h11) ?_
      simp only [Act.put, List.setIfInBounds_toArray, List.set_cons_zero, List.set_cons_succ]
      go_big_quiet_step ((first | exact fun _ => rfl | exact fun _ => ⟨rfl, rfl⟩))
      go_big_quiet_step ((first | exact fun _ => rfl | exact fun _ => ⟨rfl, rfl⟩))
      go_big_quiet_step ((first | exact fun _ => rfl | exact fun _ => ⟨rfl, rfl⟩))
      go_big_quiet_step ((first | exact fun _ => rfl | exact fun _ => ⟨rfl, rfl⟩))
      refine q_atK kSl kSz rfl (.tmp _) (.tmp _) rfl _ rfl i rfl w.heap.size T wr HLW.out hi ?_
      intro g2 f2 hg2 hz2 h20 h21 h22
      rw [HBB.out] at h22
      simp only [Act.put, List.setIfInBounds_toArray, List.set_cons_zero, List.set_cons_succ]
      go_big_quiet_step ((first | exact fun _ => rfl | exact fun _ => ⟨rfl, rfl⟩))
      refine q_load_cell rowI rfl (.tmp _) rfl ⟨g2, f2 + 2, none⟩ rfl (.int .i64 b) (fun w' h => (h.cell (p := ⟨g2, f2 + 2, none⟩) hz2).trans h22) ?_
      simp only [Act.put, List.setIfInBounds_toArray, List.set_cons_zero, List.set_cons_succ]
      repeat (go_big_quiet_step ((first | exact fun _ => rfl | exact fun _ => ⟨rfl, rfl⟩)))
      refine wpQuiet_nil ?_
      intro w2 hb2
      go_wp2
      go_ret
      exact ⟨ret_i (by rw [HCO.out]), HW.out.trans (hb2.mono hsz)⟩
end Go.Proofs.YtblglkgmnaklbaaDoor
