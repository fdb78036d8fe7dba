/- Contracts: the text of a space: the specification's numbers and its text. -/
import Derived.Test.YtppojaekngeelaaDoorBs
import Derived.Test.YtppojaekngeelaaDoorPs
import Derived.Test.YtppojaekngeelaaDoorHar
import Derived.Lib.ItoaNum
import Derived.Lib.Join
namespace Go.Proofs.YtppojaekngeelaaDoor
open Go.RowKit
set_option maxRecDepth 100000
set_option linter.unusedSimpArgs false
section
variable {P : Program} {ops : Array Oper} {Q : Exit → Act → World → Prop} {a : Act} {w : World}
/-- One operation of a drawn region, told by a walk over it. -/
theorem wpOp_of_list {i : Nat} {o : Oper} {K : Act → World → Prop} (hi : ops[i]? = some o) (hw : Region.wanted o (yielded ops a.tmps) = true)
    (h : ∀ Q1 : Exit → Act → World → Prop, (∀ a' w', K a' w' → Q1 .normal a' w') → wpList P ops Q1 [o] a w) : wpOp P ops Q i K a w := by
  have h1 := h (fun e a' w' => (e = .normal ∧ K a' w') ∨ (e ≠ .normal ∧ Q e a' w')) (fun a' w' h1 => .inl ⟨rfl, h1⟩)
  unfold wpList at h1
  rw [if_pos hw] at h1
  unfold wpOp
  simp only [hi, hw, if_true]
  rcases h1 with h1 | ⟨h1, a', w', h2⟩
  · refine .inl ?_
    unfold Oper.wp at *
    generalize (execOp a.eval o).run P w = r at *
    have hn : ∀ a' w', wpList P ops (fun e a' w' => (e = .normal ∧ K a' w') ∨ (e ≠ .normal ∧ Q e a' w')) [] a' w' → K a' w' := fun a' w' h => by
      rcases h with h | h
      · exact h.2
      · exact absurd rfl h.1
    have hp : ∀ c a' w', ((Exit.panic c = .normal ∧ K a' w') ∨ (Exit.panic c ≠ .normal ∧ Q (.panic c) a' w')) → Q (.panic c) a' w' := fun c a' w' h => by
      rcases h with h | h
      · cases h.1
      · exact h.2
    cases r with
    | ok n w' =>
      cases n <;> simp only [Oper.upon] at h1 ⊢
      case value => exact hn _ _ h1
      case skip => exact hn _ _ h1
      case defer => exact hn _ _ h1
      case enter =>
        refine Calls.mono h1 (fun e w'' he => ?_)
        cases e with
        | returned v => exact hn _ _ he
        | panicked c => exact hp _ _ _ he
        | outgrown =>
          obtain ⟨a2, w2, h3⟩ := he
          rcases h3 with h3 | h3
          · cases h3.1
          · exact ⟨a2, w2, h3.2⟩
      case row => exact Rows.mono h1 (fun _ _ he => hn _ _ he)
    | halt x w' =>
      cases x <;> simp only [Oper.upon] at h1 ⊢
      case panic => exact hp _ _ _ h1
  · refine .inr ⟨h1, ?_⟩
    rcases h2 with h2 | h2
    · cases h2.1
    · exact ⟨a', w', h2.2⟩
theorem anyH_same {md : Region.Mode} {S : World → Prop} {fuel : Nat} {listed : Array Bool} {i : Nat} {o : Oper} (hr : Region.ready md ops listed = [i]) (hi : ops[i]? = some o) (hw : Region.wanted o (yielded ops a.tmps) = true) (v : Value)
    (hrun : (execOp a.eval o).run P w = .ok (.value v) w) (hS : S w) (h : wpAnyH P md ops Q S fuel (listed.setIfInBounds i true) (a.put o.dst v) w) : wpAnyH P md ops Q S (fuel + 1) listed a w := anyH_op hr hi hw v w hrun hS h
theorem wpOp_callT {j : Nat} {oj : Oper} {K : Act → World → Prop} (hj : ops[j]? = some oj) (hwj : Region.wanted oj (yielded ops a.tmps) = true) (kf : FuncId) (hk : enters P kf) (xs : Array Operand) (ts : Array TypeId)
    (ho : oj.op = .call { callee := .value (.func kf), args := xs, argTypes := ts }) (args : Array Value) (hal : xs.toList.map a.eval = args.toList) {R : Ending → World → Prop} (hc : Calls P kf args w R) (h : ∀ e w', R e w' → ∃ v, e = .returned v ∧ K (a.put oj.dst v) w') : wpOp P ops Q j K a w := by
  unfold wpOp
  simp only [hj, hwj, if_true]
  refine .inl ?_
  have ha : xs.map a.eval = args := Array.toList_inj.1 (by simpa using hal)
  obtain ⟨dst, op, ty, pos, after, guard⟩ := oj
  simp only at ho
  subst ho
  unfold Oper.wp
  rw [execOp_call_go, ha]
  simp only [Array.append_empty, Array.empty_append]
  rw [hk]
  refine hc.mono fun e w' hR => ?_
  obtain ⟨v, rfl, h1⟩ := h e w' hR
  exact h1
end
theorem bytes_app (x y : List UInt8) : (⟨x.toArray⟩ : ByteArray) ++ ⟨y.toArray⟩ = ⟨(x ++ y).toArray⟩ := by
  apply ByteArray.ext
  simp [ByteArray.data_append]
theorem textOf_digit (n : Nat) : textOf [48 + (n : Int)] = ⟨[UInt8.ofNat (48 + n)].toArray⟩ := by
  apply ByteArray.ext
  have : (48 + (n : Int)).toNat = 48 + n := by omega
  simp [textOf, this, ByteArray.push]
theorem dec_small {n : Nat} (h : n < 10) : Lib.decDigits n = [UInt8.ofNat (48 + n)] := by rw [Lib.decDigits, dif_pos h]
theorem dec_more {n : Nat} (h : ¬ n < 10) : Lib.decDigits n = Lib.decDigits (n / 10) ++ [UInt8.ofNat (48 + n % 10)] := by rw [Lib.decDigits, dif_neg h]
theorem dec_len {n : Nat} (h : n < 1000) : (Lib.decDigits n).length ≤ 3 := by
  by_cases h1 : n < 10
  · rw [dec_small h1]; simp
  · rw [dec_more h1]
    by_cases h2 : n / 10 < 10
    · rw [dec_small h2]; simp
    · rw [dec_more h2, dec_small (show n / 10 / 10 < 10 by omega)]; simp
/-- The sets in decimal, with , between them: the first k. -/
def stJ (l : List Int) (k : Nat) : List UInt8 := Lib.join ((l.take k).map fun a => Lib.decDigits a.toNat) [44]
theorem join_snoc (xs : List (List UInt8)) (y sep : List UInt8) : Lib.join (xs ++ [y]) sep = if xs = [] then y else Lib.join xs sep ++ sep ++ y := by
  cases xs with
  | nil => simp [Lib.join_one]
  | cons x r =>
    rw [List.cons_append, Lib.join_cons, Lib.join_cons, if_neg (by simp)]
    simp [Lib.joinTail]
theorem stJ_zero (l : List Int) : stJ l 0 = [] := rfl
theorem take_map_dec (l : List Int) (k : Nat) (hk : k < l.length) : (l.take (k + 1)).map (fun a => Lib.decDigits a.toNat) = (l.take k).map (fun a => Lib.decDigits a.toNat) ++ [Lib.decDigits (l[k]?.getD 0).toNat] := by
  rw [List.take_add_one, List.map_append, List.getElem?_eq_getElem hk]
  rfl
theorem stJ_one (l : List Int) (h : 0 < l.length) : stJ l 1 = Lib.decDigits (l[0]?.getD 0).toNat := by
  unfold stJ
  rw [take_map_dec l 0 h, join_snoc]
  simp
theorem stJ_next (l : List Int) (k : Nat) (hk : k < l.length) (h0 : 0 < k) : stJ l (k + 1) = stJ l k ++ [44] ++ Lib.decDigits (l[k]?.getD 0).toNat := by
  unfold stJ
  rw [take_map_dec l k hk, join_snoc, if_neg]
  intro e
  have := congrArg List.length e
  rw [List.length_map, List.length_take, List.length_nil] at this
  omega
theorem stJ_len (l : List Int) (hr : ∀ j, j < l.length → 0 ≤ l[j]?.getD 0 ∧ l[j]?.getD 0 < 128) : ∀ k, k ≤ l.length → (stJ l k).length ≤ 4 * k
  | 0, _ => by simp [stJ_zero]
  | k + 1, hk => by
    have ih := stJ_len l hr k (by omega)
    have h1 := hr k (by omega)
    have h2 := dec_len (n := (l[k]?.getD 0).toNat) (by omega)
    rcases Nat.eq_zero_or_pos k with h0 | h0
    · subst h0
      rw [stJ_one l (by omega)]
      omega
    · rw [stJ_next l k (by omega) h0, List.length_append, List.length_append, List.length_singleton]
      omega
def stA (N : Nat) (l : List Int) (k : Nat) : List UInt8 := Lib.decDigits N ++ [58] ++ stJ l k
theorem stA_zero (N : Nat) (l : List Int) : stA N l 0 = Lib.decDigits N ++ [58] := by simp [stA, stJ_zero]
theorem stA_one (N : Nat) (l : List Int) (h : 0 < l.length) : stA N l 1 = stA N l 0 ++ Lib.decDigits (l[0]?.getD 0).toNat := by simp [stA, stJ_one l h, stJ_zero]
theorem stA_next (N : Nat) (l : List Int) (k : Nat) (hk : k < l.length) (h0 : 0 < k) : stA N l (k + 1) = stA N l k ++ [44] ++ Lib.decDigits (l[k]?.getD 0).toNat := by simp [stA, stJ_next l k hk h0]
theorem stA_len {N : Nat} (hN : N < 1000) (l : List Int) (hr : ∀ j, j < l.length → 0 ≤ l[j]?.getD 0 ∧ l[j]?.getD 0 < 128) (k : Nat) (hk : k ≤ l.length) : (stA N l k).length ≤ 4 + 4 * k := by
  have h1 := stJ_len l hr k hk
  have h2 := dec_len hN
  simp [stA]
  omega
theorem size_mk (x : List UInt8) : (⟨x.toArray⟩ : ByteArray).size = x.length := by simp [ByteArray.size]
theorem sliceUT : Tryd.prog.underlying 86 = some (.slice 5) := Tryd.underlying86
theorem byteUT : Tryd.prog.underlying 5 = some (.int .u8) := Tryd.underlying5
theorem stringUT : Tryd.prog.underlying 9 = some .string := Tryd.underlying9
theorem ent_l1NumT : enters Tryd.prog 38 := enters_of Tryd.func38 (by kernel_rfl) (by kernel_rfl)
theorem bytesAt_cell {w : World} {g : Nat} {y : Int} (h : w.cell? ⟨g, 0, none⟩ = some (.int .u8 y)) : bytesAt w (.slice (some ⟨g, 0, none⟩) 1 1) [y] := by
  refine ⟨⟨g, 0, none⟩, 1, rfl, fun j hj => ?_⟩
  have : j = 0 := by simp at hj; omega
  subst this
  rw [show (⟨g, 0, none⟩ : Addr).add 0 = ⟨g, 0, none⟩ by simp [Addr.add], h]
  rfl
attribute [local irreducible] p2 low memB risB textOf
set_option maxHeartbeats 1000000 in
theorem l1NumT_c (f : Nat) : ∀ (n : Nat) (w : World), n < 10 ^ (f + 1) → f ≤ 2 →
    Calls Tryd.prog 38 #[.int .i64 (n : Int)] w fun e w' => e = .returned (.string ⟨(Lib.decDigits n).toArray⟩) ∧ Below w.heap.size w w' := by
  induction f with
  | zero =>
    intro n w h hf
    have hlt : ((n : Int) < 10) := by omega
    have hn : n < 10 := by omega
    have H0 := hide ((Below.refl w.heap.size w).alloc (Nat.le_refl _) (.cells #[.int .u8 (48 + (n : Int))] 5))
    have HV := hide (show (⟨(Lib.decDigits n).toArray⟩ : ByteArray) = textOf [48 + (n : Int)] by rw [textOf_digit, dec_small hn])
    clear h
    rw [HV.out]
    go_enter Tryd.func38, Tryd.ntmps38
    go_wp2_with (refine wpList_text sliceUT byteUT stringUT rfl (.tmp _) rfl _ rfl _ (bytesAt_one _ _ _) ?_)
    go_ret
    exact ⟨rfl, H0.out⟩
  | succ f ih =>
    intro n w h hf
    by_cases hn : n < 10
    · have hlt : ((n : Int) < 10) := by omega
      have H0 := hide ((Below.refl w.heap.size w).alloc (Nat.le_refl _) (.cells #[.int .u8 (48 + (n : Int))] 5))
      have HV := hide (show (⟨(Lib.decDigits n).toArray⟩ : ByteArray) = textOf [48 + (n : Int)] by rw [textOf_digit, dec_small hn])
      clear h ih
      rw [HV.out]
      go_enter Tryd.func38, Tryd.ntmps38
      go_wp2_with (refine wpList_text sliceUT byteUT stringUT rfl (.tmp _) rfl _ rfl _ (bytesAt_one _ _ _) ?_)
      go_ret
      exact ⟨rfl, H0.out⟩
    · have hq : n / 10 < 10 ^ (f + 1) := by
        rw [Nat.pow_succ] at h
        omega
      have HIH := hide (fun w' => ih (n / 10) w' hq (by omega))
      have hn1000 : n < 1000 := by
        have : 10 ^ (f + 1 + 1) ≤ 10 ^ 3 := Nat.pow_le_pow_right (by omega) (by omega)
        omega
      have HV := hide (show (⟨(Lib.decDigits n).toArray⟩ : ByteArray) = ⟨(Lib.decDigits (n / 10)).toArray⟩ ++ textOf [48 + ((n % 10 : Nat) : Int)] by rw [textOf_digit, bytes_app, dec_more hn])
      have hdl := dec_len (n := n / 10) (by omega)
      have hts := textOf_size [48 + ((n % 10 : Nat) : Int)]
      have hnq : ((n : Int)).tdiv 10 = ((n / 10 : Nat) : Int) := by rw [Int.tdiv_eq_ediv_of_nonneg (by omega)]; omega
      have hnr : ((n : Int)).tmod 10 = ((n % 10 : Nat) : Int) := by rw [Int.tmod_eq_emod_of_nonneg (by omega)]; omega
      have hge : ¬ ((n : Int) < 10) := by omega
      have hr10 : n % 10 < 10 := by omega
      have hq100 : n / 10 < 100 := by omega
      generalize n / 10 = q at HIH HV hdl hnq hq100
      generalize n % 10 = r at HV hts hnr hr10
      have hsum : ¬ (9223372036854775807 < (⟨(Lib.decDigits q).toArray⟩ : ByteArray).size + (textOf [48 + (r : Int)]).size) := by rw [hts, size_mk]; simp; omega
      generalize (⟨(Lib.decDigits q).toArray⟩ : ByteArray) = A at HIH HV hsum
      have hwq : IntKind.i64.wrap (q : Int) = (q : Int) := IntWalk.i64_in _ (by omega)
      have hwr : IntKind.i64.wrap (r : Int) = (r : Int) := IntWalk.i64_in _ (by omega)
      have hw8 : IntKind.i64.wrap (48 + (r : Int)) = 48 + (r : Int) := IntWalk.i64_in _ (by omega)
      have hwu : IntKind.u8.wrap (48 + (r : Int)) = 48 + (r : Int) := by unfold IntKind.wrap; simp [IntKind.bits]; omega
      clear h ih hq hn
      go_enter Tryd.func38, Tryd.ntmps38
      go_wp2
      refine wp_region_held (S := fun _ => True) (by kernel_rfl) ?_
      have hS : True := trivial
      refine wpAnyH_take (i := 0) (v := .int .i64 (n : Int)) rfl (by kernel_rfl) (by kernel_rfl) (by kernel_rfl) (fun _ _ _ h => h) (.inl ⟨rfl, fun w' _ => by go_simp⟩) hS ?_
      simp only [Act.put, List.getElem_toArray, List.getElem_cons_zero, List.getElem_cons_succ, List.setIfInBounds_toArray, List.set_cons_zero, List.set_cons_succ]
      refine wpAnyH_take (i := 1) (v := .int .i64 (q : Int)) rfl (by kernel_rfl) (by kernel_rfl) (by kernel_rfl) (fun _ _ _ h => h) (.inl ⟨rfl, fun w' _ => by go_simp⟩) hS ?_
      simp only [Act.put, List.getElem_toArray, List.getElem_cons_zero, List.getElem_cons_succ, List.setIfInBounds_toArray, List.set_cons_zero, List.set_cons_succ]
      refine wpAnyH_take (i := 3) (v := .int .i64 (n : Int)) rfl (by kernel_rfl) (by kernel_rfl) (by kernel_rfl) (fun _ _ _ h => h) (.inl ⟨rfl, fun w' _ => by go_simp⟩) hS ?_
      simp only [Act.put, List.getElem_toArray, List.getElem_cons_zero, List.getElem_cons_succ, List.setIfInBounds_toArray, List.set_cons_zero, List.set_cons_succ]
      refine wpAnyH_take (i := 4) (v := .int .i64 (r : Int)) rfl (by kernel_rfl) (by kernel_rfl) (by kernel_rfl) (fun _ _ _ h => h) (.inl ⟨rfl, fun w' _ => by go_simp⟩) hS ?_
      simp only [Act.put, List.getElem_toArray, List.getElem_cons_zero, List.getElem_cons_succ, List.setIfInBounds_toArray, List.set_cons_zero, List.set_cons_succ]
      refine wpAnyH_take (i := 5) (v := .int .i64 (48 + (r : Int))) rfl (by kernel_rfl) (by kernel_rfl) (by kernel_rfl) (fun _ _ _ h => h) (.inl ⟨rfl, fun w' _ => by go_simp⟩) hS ?_
      simp only [Act.put, List.getElem_toArray, List.getElem_cons_zero, List.getElem_cons_succ, List.setIfInBounds_toArray, List.set_cons_zero, List.set_cons_succ]
      refine wpAnyH_take (i := 6) (v := .int .u8 (48 + (r : Int))) rfl (by kernel_rfl) (by kernel_rfl) (by kernel_rfl) (fun _ _ _ h => h) (.inl ⟨rfl, fun w' _ => by go_simp⟩) hS ?_
      simp only [Act.put, List.getElem_toArray, List.getElem_cons_zero, List.getElem_cons_succ, List.setIfInBounds_toArray, List.set_cons_zero, List.set_cons_succ]
      refine wpAnyH_all (rs := [2, 7]) (by kernel_rfl) (by simp) fun y hy => ?_
      rcases (show y = 2 ∨ y = 7 by simpa using hy) with rfl | rfl
      · refine wpOp_callT (j := 2) rfl rfl 38 ent_l1NumT _ _ rfl #[.int .i64 (q : Int)] rfl (HIH.out _) ?_
        rintro e w1 ⟨rfl, hb1⟩
        refine ⟨_, rfl, trivial, ?_⟩
        simp only [Act.put, List.getElem_toArray, List.getElem_cons_zero, List.getElem_cons_succ, List.setIfInBounds_toArray, List.set_cons_zero, List.set_cons_succ]
        refine anyH_op (i := 7) (by kernel_rfl) rfl rfl (.slice (some ⟨w1.heap.size, 0, none⟩) 1 1) (w1.alloc (.cells #[.int .u8 (48 + (r : Int))] 5)) (by simp [go_sem]) trivial ?_
        simp only [Act.put, List.getElem_toArray, List.getElem_cons_zero, List.getElem_cons_succ, List.setIfInBounds_toArray, List.set_cons_zero, List.set_cons_succ]
        have HBF : Below w.heap.size w (w1.alloc (.cells #[.int .u8 (48 + (r : Int))] 5)) := ((Below.refl w.heap.size w).drew.trans hb1).alloc hb1.size _
        refine wpAnyH_all (rs := [8]) (by kernel_rfl) (by simp) fun y hy => ?_
        obtain rfl : y = 8 := by simpa using hy
        refine wpOp_of_list (i := 8) rfl rfl ?_
        intro Q1 hQ1
        refine wpList_text sliceUT byteUT stringUT rfl (.tmp 17) rfl _ rfl _ (bytesAt_one _ _ _) ?_
        refine wpList_nil ?_
        refine hQ1 _ _ ⟨trivial, ?_⟩
        simp only [Act.put, List.getElem_toArray, List.getElem_cons_zero, List.getElem_cons_succ, List.setIfInBounds_toArray, List.set_cons_zero, List.set_cons_succ]
        refine anyH_same (i := 9) (by kernel_rfl) rfl rfl (.string (A ++ textOf [48 + (r : Int)])) (by simp [go_sem, hsum]) trivial ?_
        simp only [Act.put, List.getElem_toArray, List.getElem_cons_zero, List.getElem_cons_succ, List.setIfInBounds_toArray, List.set_cons_zero, List.set_cons_succ]
        refine anyH_same (i := 10) (by kernel_rfl) rfl rfl (.string (A ++ textOf [48 + (r : Int)])) (by simp [go_sem]) trivial ?_
        refine wpAnyH_done (by kernel_rfl) ?_ _
        simp only [Act.put, List.getElem_toArray, List.getElem_cons_zero, List.getElem_cons_succ, List.setIfInBounds_toArray, List.set_cons_zero, List.set_cons_succ]
        go_wp2
        go_ret
        exact ⟨by rw [HV.out]; rfl, HBF⟩
      · refine wpOp_op (i := 7) rfl rfl (.slice (some ⟨w.heap.size, 0, none⟩) 1 1) (w.drew.alloc (.cells #[.int .u8 (48 + (r : Int))] 5)) (by simp [go_sem]) ⟨trivial, ?_⟩
        simp only [Act.put, List.getElem_toArray, List.getElem_cons_zero, List.getElem_cons_succ, List.setIfInBounds_toArray, List.set_cons_zero, List.set_cons_succ]
        have hba : Below w.heap.size w (w.drew.alloc (.cells #[.int .u8 (48 + (r : Int))] 5)) := (Below.refl w.heap.size w).drew.alloc (Nat.le_refl _) _
        have hcg : (w.drew.alloc (.cells #[.int .u8 (48 + (r : Int))] 5)).cell? ⟨w.heap.size, 0, none⟩ = some (.int .u8 (48 + (r : Int))) := by
          show (w.drew.alloc (.cells #[.int .u8 (48 + (r : Int))] 5)).cell? ⟨w.drew.heap.size, 0, none⟩ = _
          rw [hp_cell (hp_last _ _)]; rfl
        have hza : (w.drew.alloc (.cells #[.int .u8 (48 + (r : Int))] 5)).heap.size = w.heap.size + 1 := by simp
        refine wpAnyH_all (rs := [2, 8]) (by kernel_rfl) (by simp) fun y hy => ?_
        rcases (show y = 2 ∨ y = 8 by simpa using hy) with rfl | rfl
        · refine wpOp_callT (j := 2) rfl rfl 38 ent_l1NumT _ _ rfl #[.int .i64 (q : Int)] rfl (HIH.out _) ?_
          rintro e w1 ⟨rfl, hb1⟩
          refine ⟨_, rfl, trivial, ?_⟩
          simp only [Act.put, List.getElem_toArray, List.getElem_cons_zero, List.getElem_cons_succ, List.setIfInBounds_toArray, List.set_cons_zero, List.set_cons_succ]
          have HBF : Below w.heap.size w w1 := hba.trans (hb1.mono (by omega))
          refine wpAnyH_all (rs := [8]) (by kernel_rfl) (by simp) fun y hy => ?_
          obtain rfl : y = 8 := by simpa using hy
          refine wpOp_of_list (i := 8) rfl rfl ?_
          intro Q1 hQ1
          refine wpList_text sliceUT byteUT stringUT rfl (.tmp 17) rfl _ rfl _ (bytesAt_cell ((hb1.cell (p := ⟨w.heap.size, 0, none⟩) (by show w.heap.size < _; omega)).trans hcg)) ?_
          refine wpList_nil ?_
          refine hQ1 _ _ ⟨trivial, ?_⟩
          simp only [Act.put, List.getElem_toArray, List.getElem_cons_zero, List.getElem_cons_succ, List.setIfInBounds_toArray, List.set_cons_zero, List.set_cons_succ]
          refine anyH_same (i := 9) (by kernel_rfl) rfl rfl (.string (A ++ textOf [48 + (r : Int)])) (by simp [go_sem, hsum]) trivial ?_
          simp only [Act.put, List.getElem_toArray, List.getElem_cons_zero, List.getElem_cons_succ, List.setIfInBounds_toArray, List.set_cons_zero, List.set_cons_succ]
          refine anyH_same (i := 10) (by kernel_rfl) rfl rfl (.string (A ++ textOf [48 + (r : Int)])) (by simp [go_sem]) trivial ?_
          refine wpAnyH_done (by kernel_rfl) ?_ _
          simp only [Act.put, List.getElem_toArray, List.getElem_cons_zero, List.getElem_cons_succ, List.setIfInBounds_toArray, List.set_cons_zero, List.set_cons_succ]
          go_wp2
          go_ret
          exact ⟨by rw [HV.out]; rfl, HBF⟩
        · refine wpOp_of_list (i := 8) rfl rfl ?_
          intro Q1 hQ1
          refine wpList_text sliceUT byteUT stringUT rfl (.tmp 17) rfl _ rfl _ (bytesAt_cell hcg) ?_
          refine wpList_nil ?_
          refine hQ1 _ _ ⟨trivial, ?_⟩
          simp only [Act.put, List.getElem_toArray, List.getElem_cons_zero, List.getElem_cons_succ, List.setIfInBounds_toArray, List.set_cons_zero, List.set_cons_succ]
          refine anyH_call (i := 2) (by kernel_rfl) rfl rfl 38 ent_l1NumT _ _ rfl #[.int .i64 (q : Int)] rfl (HIH.out _) ?_
          rintro e w1 ⟨rfl, hb1⟩
          refine ⟨_, rfl, trivial, ?_⟩
          have HBF : Below w.heap.size w w1 := hba.trans (hb1.mono (by omega))
          simp only [Act.put, List.getElem_toArray, List.getElem_cons_zero, List.getElem_cons_succ, List.setIfInBounds_toArray, List.set_cons_zero, List.set_cons_succ]
          refine anyH_same (i := 9) (by kernel_rfl) rfl rfl (.string (A ++ textOf [48 + (r : Int)])) (by simp [go_sem, hsum]) trivial ?_
          simp only [Act.put, List.getElem_toArray, List.getElem_cons_zero, List.getElem_cons_succ, List.setIfInBounds_toArray, List.set_cons_zero, List.set_cons_succ]
          refine anyH_same (i := 10) (by kernel_rfl) rfl rfl (.string (A ++ textOf [48 + (r : Int)])) (by simp [go_sem]) trivial ?_
          refine wpAnyH_done (by kernel_rfl) ?_ _
          simp only [Act.put, List.getElem_toArray, List.getElem_cons_zero, List.getElem_cons_succ, List.setIfInBounds_toArray, List.set_cons_zero, List.set_cons_succ]
          go_wp2
          go_ret
          exact ⟨by rw [HV.out]; rfl, HBF⟩
set_option maxHeartbeats 1000000 in
theorem spText_c (N : Nat) (v : Value) (l : List Int) (w : World) (hl : ints w.heap.size w v l) (hN : N < 1000) (hr : ∀ j, j < l.length → 0 ≤ l[j]?.getD 0 ∧ l[j]?.getD 0 < 128) (hlen : l.length ≤ 128) :
    Calls Tryd.prog 21 #[.agg #[.int .i64 (N : Int), v]] w fun e w' => e = .returned (.string ⟨(stA N l l.length).toArray⟩) ∧ Below w.heap.size w w' := by
  have HL := hide (hl.alloc (.cells #[.int .i64 (N : Int), v] 28))
  have H0 := hide ((Below.refl w.heap.size w).alloc (Nat.le_refl _) (.cells #[.int .i64 (N : Int), v] 28))
  have HS0 := hide (hp_last w (.cells #[.int .i64 (N : Int), v] 28))
  have HZ := hide (show (w.alloc (.cells #[.int .i64 (N : Int), v] 28)).heap.size = w.heap.size + 1 by simp)
  have c0 := cells_at0 HS0.out
  have c1 := cells_at1 HS0.out
  have HR := hide hr
  have HNU := hide (fun (n : Nat) (w' : World) (h : n < 1000) => l1NumT_c 2 n w' (by omega) (Nat.le_refl _))
  have HA0 := hide (show (⟨(stA N l 0).toArray⟩ : ByteArray) = ⟨(Lib.decDigits N).toArray⟩ ++ ⟨#[58]⟩ by rw [stA_zero, ← bytes_app])
  have hdl := dec_len hN
  have hsz0 : ¬ (9223372036854775807 < (⟨(Lib.decDigits N).toArray⟩ : ByteArray).size + (⟨#[58]⟩ : ByteArray).size) := by rw [size_mk, show (⟨#[58]⟩ : ByteArray).size = 1 from rfl]; omega
  have HNN := hide (fun w' => HNU.out N w' hN)
  obtain ⟨va, vc, hv⟩ := hl.shape
  subst hv
  clear hl hr
  generalize (⟨(Lib.decDigits N).toArray⟩ : ByteArray) = D at HA0 hsz0 HNN
  go_enter Tryd.func21, Tryd.ntmps21
  go_wp2_with (first
    | (go_at_call 38; refine (HNN.out _).mono ?_; rintro e w1 ⟨rfl, hb1⟩; have hs1 := (hb1.block w.heap.size (by rw [HZ.out]; omega)).trans HS0.out; have d0 := cells_at0 hs1; have d1 := cells_at1 hs1; have HB1 := hide (H0.out.trans (hb1.mono (by rw [HZ.out]; omega))); have HL1 := hide (HL.out.below hb1 (by rw [HZ.out]; omega)); clear hb1 hs1 c0 c1)
    | (refine wpList_len sliceT rfl (.tmp _) rfl _ rfl w.heap.size l HL1.out ?_))
  rw [← HA0.out]
  go_loopw [3, 13] (fun s i wr => ∃ k : Nat, k ≤ l.length ∧ i = .int .i64 (k : Int) ∧ s = .string ⟨(stA N l k).toArray⟩ ∧ Hid (Below w1.heap.size w1 wr)) (fun _ i _ => l.length - (intOf i).toNat)
  case atStart => exact ⟨0, Nat.zero_le _, rfl, rfl, Below.refl _ _⟩
  case round =>
    obtain ⟨k, hk, rfl, rfl, HB⟩ := hrel
    have hsz := HB.out.size
    have hz1 := HB1.out.size
    have HLW := hide (HL1.out.below HB.out (by omega))
    by_cases hlt : k < l.length
    · have hrk := HR.out k hlt
      have hsl := stA_len hN l HR.out k hk
      have H1 := hide (fun h0 : k = 0 => show (⟨(stA N l (k + 1)).toArray⟩ : ByteArray) = ⟨(stA N l k).toArray⟩ ++ ⟨(Lib.decDigits (l[k]?.getD 0).toNat).toArray⟩ by subst h0; rw [bytes_app, stA_one N l hlt])
      have H2 := hide (fun h0 : 0 < k => show (⟨(stA N l (k + 1)).toArray⟩ : ByteArray) = (⟨(stA N l k).toArray⟩ ++ ⟨#[44]⟩) ++ ⟨(Lib.decDigits (l[k]?.getD 0).toNat).toArray⟩ by rw [show (⟨#[44]⟩ : ByteArray) = ⟨([44] : List UInt8).toArray⟩ from rfl, bytes_app, bytes_app, stA_next N l k hlt h0])
      have hsa := size_mk (stA N l k)
      generalize (⟨(stA N l k).toArray⟩ : ByteArray) = A at hsa H1 H2 ⊢
      generalize hx : l[k]?.getD 0 = x at hrk H1 H2
      have HX := hide hx
      clear hx
      obtain ⟨n, rfl⟩ := Int.eq_ofNat_of_zero_le hrk.1
      rw [Int.toNat_natCast] at H1 H2
      have hsd := size_mk (Lib.decDigits n)
      have hdn := dec_len (n := n) (by omega)
      have HNX := hide (fun w' => HNU.out n w' (by omega))
      generalize (⟨(Lib.decDigits n).toArray⟩ : ByteArray) = B at hsd H1 H2 HNX
      have hs1 : ¬ (9223372036854775807 < A.size + B.size) := by omega
      have hs2 : ¬ (9223372036854775807 < A.size + (⟨#[44]⟩ : ByteArray).size) := by rw [show (⟨#[44]⟩ : ByteArray).size = 1 from rfl]; omega
      have hs3 : ¬ (9223372036854775807 < (A ++ ⟨#[44]⟩).size + B.size) := by rw [ByteArray.size_append, show (⟨#[44]⟩ : ByteArray).size = 1 from rfl]; omega
      rcases Nat.eq_zero_or_pos k with h0 | h0
      · have HE := hide (H1.out h0)
        have hb : ¬ ((0 : Int) < (k : Int)) := by omega
        clear H1 H2
        go_wp2_with (first
          | (refine wpList_at sliceT intS rfl (.tmp _) (.tmp _) rfl _ rfl k rfl w.heap.size l HLW.out hlt ?_; intro ad hcell hblk; rw [HX.out] at hcell)
          | (go_at_call 38; refine (HNX.out _).mono ?_; rintro e w2 ⟨rfl, hb2⟩; have HB2 := hide (HB.out.trans (hb2.mono (by omega))); clear hb2))
        go_roundw
        case rel => exact ⟨k + 1, by omega, by go_num, by rw [HE.out], HB2⟩
        case measure => (simp [intOf] <;> omega)
      · have HE := hide (H2.out h0)
        have hb : ((0 : Int) < (k : Int)) := by omega
        clear H1 H2
        generalize hC : A ++ (⟨#[44]⟩ : ByteArray) = C at HE hs3
        go_wp2_with (first
          | (refine wpList_at sliceT intS rfl (.tmp _) (.tmp _) rfl _ rfl k rfl w.heap.size l HLW.out hlt ?_; intro ad hcell hblk; rw [HX.out] at hcell)
          | (go_at_call 38; refine (HNX.out _).mono ?_; rintro e w2 ⟨rfl, hb2⟩; have HB2 := hide (HB.out.trans (hb2.mono (by omega))); clear hb2))
        go_roundw
        case rel => exact ⟨k + 1, by omega, by go_num, by rw [HE.out], HB2⟩
        case measure => (simp [intOf] <;> omega)
    · have hlt' : ¬ ((k : Int) < (l.length : Int)) := by omega
      have hkl : k = l.length := by omega
      subst hkl
      go_wp2
      go_ret
      exact ⟨rfl, HB1.out.trans (HB.out.mono (by omega))⟩
def stR (n : Int) (l : List Int) : ByteArray := if okSp n l then ⟨(stA n.toNat l l.length).toArray⟩ else ⟨#[]⟩
theorem stR_no {n : Int} {l : List Int} (h : okSp n l = false) : stR n l = ⟨#[]⟩ := by simp [stR, h]
theorem stR_yes {n : Int} {l : List Int} (h : okSp n l = true) : stR n l = ⟨(stA n.toNat l l.length).toArray⟩ := by simp [stR, h]
end Go.Proofs.YtppojaekngeelaaDoor
