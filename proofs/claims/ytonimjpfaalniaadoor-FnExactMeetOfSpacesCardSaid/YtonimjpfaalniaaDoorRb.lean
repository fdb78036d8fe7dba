/- Contracts: the family of all sets for which what they leave is accepted; the family of all sets that are reached one item at a time. -/
import Derived.Test.YtonimjpfaalniaaDoorFwh
import Derived.Test.YtonimjpfaalniaaDoorNa
import Derived.Test.YtonimjpfaalniaaDoorTz
namespace Go.Proofs.YtonimjpfaalniaaDoor
open Go.RowKit
set_option maxRecDepth 100000
set_option linter.unusedSimpArgs false
/-! ### Mathematics: what is reached, as the program finds it -/
inductive RchN (nx : Nat → Nat) : Nat → Prop
  | zero : RchN nx 0
  | step (a i : Nat) : RchN nx a → (nx a).testBit i = true → RchN nx (a ||| p2 i)
def rbIn (I : List Int) (s : Nat) (F : Nat → Bool) : Nat → (Nat → Bool)
  | 0 => F
  | j + 1 => upd (rbIn I s F j) (s ||| p2 (nth I j)) true
def rbNx (nx : Nat → Nat) (s : Nat) (F : Nat → Bool) : Nat → Bool := if F s then rbIn (itemsL (nx s)) s F (itemsL (nx s)).length else F
def rbOut (nx : Nat → Nat) : Nat → (Nat → Bool)
  | 0 => upd noSet 0 true
  | s + 1 => rbNx nx s (rbOut nx s)
theorem rbNx_yes {nx : Nat → Nat} {s : Nat} {F : Nat → Bool} (h : F s = true) : rbNx nx s F = rbIn (itemsL (nx s)) s F (itemsL (nx s)).length := by unfold rbNx; rw [h]; rfl
theorem rbNx_no {nx : Nat → Nat} {s : Nat} {F : Nat → Bool} (h : F s = false) : rbNx nx s F = F := by unfold rbNx; rw [h]; rfl
theorem rbIn_iff (I : List Int) (s : Nat) (F : Nat → Bool) (x : Nat) : ∀ J, rbIn I s F J x = true ↔ F x = true ∨ ∃ j, j < J ∧ x = s ||| p2 (nth I j)
  | 0 => by simp [rbIn]
  | J + 1 => by
    have ih := rbIn_iff I s F x J
    rw [rbIn, upd]
    split
    · rename_i e
      exact ⟨fun _ => .inr ⟨J, by omega, e⟩, fun _ => rfl⟩
    · rename_i e
      rw [ih]
      constructor
      · rintro (h | ⟨j, h1, h2⟩)
        · exact .inl h
        · exact .inr ⟨j, by omega, h2⟩
      · rintro (h | ⟨j, h1, h2⟩)
        · exact .inl h
        · rcases Nat.lt_or_ge j J with h3 | h3
          · exact .inr ⟨j, h3, h2⟩
          · have : j = J := by omega
            subst this
            exact absurd h2 e
theorem rbNx_iff {nx : Nat → Nat} {s : Nat} {F : Nat → Bool} (h : F s = true → nx s < 128) (x : Nat) : rbNx nx s F x = true ↔ F x = true ∨ (F s = true ∧ ∃ i, (nx s).testBit i = true ∧ x = s ||| p2 i) := by
  cases hs : F s
  · rw [rbNx_no hs]
    simp
  · rw [rbNx_yes hs, rbIn_iff]
    constructor
    · rintro (h1 | ⟨j, h1, h2⟩)
      · exact .inl h1
      · exact .inr ⟨rfl, _, (item_at (h hs) h1).2.2, h2⟩
    · rintro (h1 | ⟨_, i, h1, h2⟩)
      · exact .inl h1
      · obtain ⟨m, hm, e⟩ := (items_mem (h hs)).1 h1
        exact .inr ⟨m, hm, by rw [e]; exact h2⟩
section
variable {nx : Nat → Nat} {m : Nat} (h7 : m ≤ 7) (h : ∀ a, RchN nx a → nx a < 2 ^ m)
include h
theorem rchN_lt {x : Nat} (hx : RchN nx x) : x < 2 ^ m := by
  induction hx with
  | zero => exact p2_pos _
  | step a i ha hi ih =>
    exact Nat.or_lt_two_pow ih (p2_lt i m (bit_lt (h a ha) hi))
include h7
theorem nx_128 {a : Nat} (ha : RchN nx a) : nx a < 128 := by
  have h1 := h a ha
  have h2 := p2_le m 7 h7
  omega
theorem rbOut_rch : ∀ t x, rbOut nx t x = true → RchN nx x
  | 0, x, hx => by
    simp only [rbOut, upd, noSet] at hx
    split at hx
    · rename_i e; subst e; exact .zero
    · cases hx
  | t + 1, x, hx => by
    rcases (rbNx_iff (fun hs => nx_128 h7 h (rbOut_rch t t hs)) x).1 hx with h1 | ⟨h1, i, h2, h3⟩
    · exact rbOut_rch t x h1
    · rw [h3]; exact .step t i (rbOut_rch t t h1) h2
theorem rbOut_mono (x : Nat) : ∀ d t, rbOut nx t x = true → rbOut nx (t + d) x = true
  | 0, _, hx => hx
  | d + 1, t, hx => (rbNx_iff (fun hs => nx_128 h7 h (rbOut_rch h7 h (t + d) (t + d) hs)) x).2 (.inl (rbOut_mono x d t hx))
theorem rch_rb {x : Nat} (hx : RchN nx x) : ∀ t, x ≤ t → rbOut nx t x = true := by
  induction hx with
  | zero =>
    intro t _
    have := rbOut_mono h7 h 0 t 0 (by simp [rbOut, upd])
    rw [Nat.zero_add] at this
    exact this
  | step a i ha hi ih =>
    intro t ht
    have h1 : a ≤ a ||| p2 i := Nat.left_le_or
    rcases Nat.lt_or_ge a (a ||| p2 i) with h2 | h2
    · have h3 : rbOut nx (a + 1) (a ||| p2 i) = true := (rbNx_iff (fun hs => nx_128 h7 h (rbOut_rch h7 h a a hs)) _).2 (.inr ⟨ih a (Nat.le_refl _), i, hi, rfl⟩)
      obtain ⟨d, hd⟩ := Nat.exists_eq_add_of_le (show a + 1 ≤ t by omega)
      rw [hd]
      exact rbOut_mono h7 h _ d _ h3
    · have e : a ||| p2 i = a := by omega
      rw [e] at ht ⊢
      exact ih t ht
theorem rb_iff (x : Nat) : rbOut nx (2 ^ m) x = true ↔ RchN nx x :=
  ⟨rbOut_rch h7 h _ x, fun hx => rch_rb h7 h hx _ (Nat.le_of_lt (rchN_lt h hx))⟩
end
def lvK (K : Nat → Bool) (n s : Nat) : Bool := K (andNot (low n) s)
section
variable {P : Program}
theorem q_callP {ops : Array Oper} {rest : List Oper} {o : Oper} {a : Act} {w : World} {Q : Act → Prop} (hw : Region.wanted o (yielded ops a.tmps) = true) (k : FuncId) (pre caps : Array Value) (hk : enters P k) (x : Operand) (xs : Array Operand) (ts : Array TypeId)
    (ho : o.op = .call { callee := .value x, args := xs, argTypes := ts }) (hx : a.eval x = .func (.func k) pre caps) (args : Array Value) (hal : xs.toList.map a.eval = args.toList) (v : Value)
    (hc : ∀ w', Below w.heap.size w w' → Calls P k (pre ++ args ++ caps) w' fun e w'' => e = .returned v ∧ Below w'.heap.size w' w'')
    (h : wpQuiet P ops (fun w' => Below w.heap.size w w') Q rest (a.put o.dst v)) : wpQuiet P ops (fun w' => Below w.heap.size w w') Q (o :: rest) a := by
  have ha : xs.map a.eval = args := Array.toList_inj.1 (by simpa using hal)
  refine BigFrame.wpQuiet_want hw fun K hK => ⟨v, fun w' hC => ?_, hK _ h⟩
  have he : execOp a.eval o = callFunc k (pre ++ args ++ caps) := by
    unfold execOp
    simp only [ho, resolve, hx, ha, Deferred.ofValue, pure_bind, invoke]
  unfold Oper.quietAt
  rw [he, hk]
  exact ⟨rfl, (hc w' hC).mono fun e w'' ⟨he, hb⟩ => ⟨he, hC.trans (hb.mono hC.size)⟩⟩
end
attribute [local irreducible] p2 low memB risB
theorem ent_belowJ : enters Tryd.prog 151 := enters_of Tryd.func151 (by kernel_rfl) (by kernel_rfl)
theorem ent_leaving1 : enters Tryd.prog 169 := enters_of Tryd.func169 (by kernel_rfl) (by kernel_rfl)
theorem familyLeaving1_c (m s : Nat) (kf : Nat) (pre caps : Array Value) (b : Bool) (g1 g2 : Nat) (w : World) (hm7 : m ≤ 7) (hk : enters Tryd.prog kf)
    (hc1 : w.cell? ⟨g1, 0, none⟩ = some (.func (.func kf) pre caps)) (hc2 : w.cell? ⟨g2, 0, none⟩ = some (.int .i64 (m : Int))) (hg1 : g1 < w.heap.size) (hg2 : g2 < w.heap.size)
    (hcl : ∀ w1, Below w.heap.size w w1 → Calls Tryd.prog kf (pre ++ #[.int .i64 (andNot (low m) s : Int)] ++ caps) w1 fun e w2 => e = .returned (.bool b) ∧ Below w1.heap.size w1 w2) :
    Calls Tryd.prog 169 #[.int .i64 (s : Int), .pointer (some ⟨g1, 0, none⟩), .pointer (some ⟨g2, 0, none⟩)] w fun e w' => e = .returned (.bool b) ∧ Below w.heap.size w w' := by
  have hlo := low_lt m hm7
  have han := i64_andNot (low m) s (by omega)
  have HC1 := hide hc1
  have HC2 := hide hc2
  have HCL := hide hcl
  clear hc1 hc2 hcl
  generalize andNot (low m) s = r at *
  go_enter Tryd.func169, Tryd.ntmps169
  go_wp2_with fail
  refine wp_region_old (by kernel_rfl) (by kernel_rfl) ?_
  refine q_load_cell (by kernel_rfl) rfl (.tmp _) rfl ⟨g1, 0, none⟩ rfl (.func (.func kf) pre caps) (fun w' h => (h.cell (p := ⟨g1, 0, none⟩) hg1).trans HC1.out) ?_
  simp only [Act.put, List.setIfInBounds_toArray, List.set_cons_zero, List.set_cons_succ]
  refine q_load_cell rowI rfl (.tmp _) rfl ⟨g2, 0, none⟩ rfl (.int .i64 (m : Int)) (fun w' h => (h.cell (p := ⟨g2, 0, none⟩) hg2).trans HC2.out) ?_
  simp only [Act.put, List.setIfInBounds_toArray, List.set_cons_zero, List.set_cons_succ]
  refine q_pure rfl 151 ent_belowJ _ _ rfl #[.int .i64 (m : Int)] rfl (.int .i64 (low m : Int)) (fun w' _ => by have := below_c (m : Int) w' (by omega) (by omega); rw [Int.toNat_natCast] at this; exact this) ?_
  simp only [Act.put, List.setIfInBounds_toArray, List.set_cons_zero, List.set_cons_succ]
  go_big_quiet_step ((first | exact fun _ => rfl | exact fun _ => ⟨rfl, rfl⟩))
  go_big_quiet_step ((first | exact fun _ => rfl | exact fun _ => ⟨rfl, rfl⟩))
  refine q_callP rfl kf pre caps hk (.tmp _) _ _ rfl rfl #[.int .i64 (r : Int)] rfl (.bool b) (fun w' hb => HCL.out w' hb) ?_
  simp only [Act.put, List.setIfInBounds_toArray, List.set_cons_zero, List.set_cons_succ]
  repeat (first | go_big_quiet_skip | go_big_quiet_step ((first | exact fun _ => rfl | exact fun _ => ⟨rfl, rfl⟩)))
  refine wpQuiet_nil ?_
  intro w2 hb2
  go_wp2
  go_ret
  exact ⟨rfl, hb2⟩
set_option maxHeartbeats 2000000 in
theorem familyLeaving_c (m : Nat) (kf : Nat) (pre caps : Array Value) (K : Nat → Bool) (w : World) (hm7 : m ≤ 7) (hk : enters Tryd.prog kf)
    (hcl : ∀ (s : Nat) (w1 : World), s < 2 ^ m → Below w.heap.size w w1 → Calls Tryd.prog kf (pre ++ #[.int .i64 (s : Int)] ++ caps) w1 fun e w2 => e = .returned (.bool (K s)) ∧ Below w1.heap.size w1 w2) :
    Calls Tryd.prog 124 #[.int .i64 (m : Int), .func (.func kf) pre caps] w fun e w' => e = .returned (.agg (fam (m : Int) (cutAt (lvK K m) (low m + 1)))) ∧ Below w.heap.size w w' := by
  have HCL := hide hcl
  have HLS := hide (low_succ m)
  have hb2 : (((w.alloc (.cells #[.int .i64 (m : Int)] 3)).alloc (.cells #[.func (.func kf) pre caps] 141)).alloc (.cells (fam 0 noSet) 83)).heap[w.heap.size]? = some (.cells #[.int .i64 (m : Int)] 3) := (hp_old _ _ _ (by simp; omega)).trans ((hp_old _ _ _ (by simp)).trans (hp_last _ _))
  have hb1 : (((w.alloc (.cells #[.int .i64 (m : Int)] 3)).alloc (.cells #[.func (.func kf) pre caps] 141)).alloc (.cells (fam 0 noSet) 83)).heap[w.heap.size + 1]? = some (.cells #[.func (.func kf) pre caps] 141) := (hp_old _ _ _ (by simp)).trans (by have h := hp_last (w.alloc (.cells #[.int .i64 (m : Int)] 3)) (.cells #[.func (.func kf) pre caps] 141); simpa using h)
  have hc2 : (((w.alloc (.cells #[.int .i64 (m : Int)] 3)).alloc (.cells #[.func (.func kf) pre caps] 141)).alloc (.cells (fam 0 noSet) 83)).cell? ⟨w.heap.size, 0, none⟩ = some (.int .i64 (m : Int)) := by rw [hp_cell hb2]; rfl
  have hc1 : (((w.alloc (.cells #[.int .i64 (m : Int)] 3)).alloc (.cells #[.func (.func kf) pre caps] 141)).alloc (.cells (fam 0 noSet) 83)).cell? ⟨w.heap.size + 1, 0, none⟩ = some (.func (.func kf) pre caps) := by rw [hp_cell hb1]; rfl
  clear hb1 hb2
  have HF := hide (show famAt 83 (((w.alloc (.cells #[.int .i64 (m : Int)] 3)).alloc (.cells #[.func (.func kf) pre caps] 141)).alloc (.cells (fam 0 noSet) 83)) (w.heap.size + 2) 0 noSet by
    have h := famAt.new 83 ((w.alloc (.cells #[.int .i64 (m : Int)] 3)).alloc (.cells #[.func (.func kf) pre caps] 141)) 0 noSet; simpa using h)
  have HB := hide ((((Below.refl w.heap.size w).alloc (Nat.le_refl _) (.cells #[.int .i64 (m : Int)] 3)).alloc (by simp) (.cells #[.func (.func kf) pre caps] 141)).alloc (by simp; omega) (.cells (fam 0 noSet) 83))
  have HZ := hide (show (((w.alloc (.cells #[.int .i64 (m : Int)] 3)).alloc (.cells #[.func (.func kf) pre caps] 141)).alloc (.cells (fam 0 noSet) 83)).heap.size = w.heap.size + 3 by simp)
  have HC1 := hide hc1
  have HC2 := hide hc2
  clear hc1 hcl
  go_enter Tryd.func124, Tryd.ntmps124
  go_wp2_with (first
    | (refine wpList_alloc_fam zeroT rfl rfl _ (by first | (simp only [World.size_alloc]; rfl) | rfl) ?_)
    | (go_at_call 137; refine (familyWhere_c m 169 #[] #[.pointer (some ⟨w.heap.size + 1, 0, none⟩), .pointer (some ⟨w.heap.size, 0, none⟩)] (lvK K m) _ hm7 ent_leaving1 (fun s w5 hs5 hb5 => familyLeaving1_c m s kf pre caps (lvK K m s) (w.heap.size + 1) w.heap.size w5 hm7 hk ((hb5.cell (p := ⟨w.heap.size + 1, 0, none⟩) (by show w.heap.size + 1 < _; rw [HZ.out]; omega)).trans HC1.out) ((hb5.cell (p := ⟨w.heap.size, 0, none⟩) (by show w.heap.size < _; rw [HZ.out]; omega)).trans HC2.out) (by have := hb5.size; rw [HZ.out] at this; omega) (by have := hb5.size; rw [HZ.out] at this; omega) (fun w6 hb6 => HCL.out _ w6 (andNot_lt (low m) s m (by have := HLS.out; omega)) (HB.out.trans ((hb5.trans (hb6.mono hb5.size)).mono (by rw [HZ.out]; omega)))))).mono ?_; rintro e w2 ⟨rfl, hb2⟩; rw [HZ.out] at hb2; have HF2 := hide (HF.out.below hb2 (by omega)); have HB2 := hide (HB.out.trans (hb2.mono (by omega))); clear hb2 hc2)
    | (refine wpList_store_fam sizeT rfl (.tmp _) (.tmp _) rfl (w.heap.size + 2) (m : Int) _ rfl rfl _ _ HF2.out ?_))
  exact bodyPost_ret (v := .agg (fam (m : Int) (cutAt (lvK K m) (low m + 1)))) (results_fam rowT sizeT rfl _ _ (w.heap.size + 2) rfl _ _ (HF2.out.row _ _)) rfl ⟨rfl, bl_row HB2.out (by omega) _⟩

theorem ent_itemsR : enters Tryd.prog 131 := enters_of Tryd.func131 (by kernel_rfl) (by kernel_rfl)
set_option maxHeartbeats 4000000 in
theorem reachedBy_c (m : Nat) (kf : Nat) (pre caps : Array Value) (nx : Nat → Nat) (w : World) (hm7 : m ≤ 7) (hk : enters Tryd.prog kf) (hT : tab w) (hnx : ∀ a, RchN nx a → nx a < 2 ^ m)
    (hcl : ∀ (s : Nat) (w1 : World), s < 2 ^ m → RchN nx s → Below w.heap.size w w1 → Calls Tryd.prog kf (pre ++ #[.int .i64 (s : Int)] ++ caps) w1 fun e w2 => e = .returned (.int .i64 (nx s : Int)) ∧ Below w1.heap.size w1 w2) :
    Calls Tryd.prog 94 #[.int .i64 (m : Int), .func (.func kf) pre caps] w fun e w' => e = .returned (.agg (fam (m : Int) (rbOut nx (2 ^ m)))) ∧ Below w.heap.size w w' := by
  have hk1 : ∀ (args : Array Value) (w : World), Sem.run Tryd.prog (callFunc kf args) w = .ok (.enter kf args) w := hk
  have hlo := low_lt m hm7
  have HLS := hide (low_succ m)
  have HCL := hide hcl
  have HT := hide hT
  have HNX := hide hnx
  have HRC := hide (rbOut_rch hm7 hnx)
  have hg0 : ∀ (W : World), famAt 83 W (w.heap.size + 1) (m : Int) noSet → famAt 83 (W.setCell ⟨w.heap.size + 1, 1 + 0, none⟩ (.bool true)) (w.heap.size + 1) (m : Int) (rbOut nx 0) := fun W h => h.set 0 (by omega) true
  have HB1 := hide ((Below.refl w.heap.size w).alloc (Nat.le_refl _) (.cells (fam 0 noSet) 83))
  have HF0 := hide (famAt.new 83 w 0 noSet)
  have hf1 : famAt 83 ((w.alloc (.cells (fam 0 noSet) 83)).alloc (.cells (fam 0 noSet) 83)) (w.heap.size + 1) 0 noSet := by have h := famAt.new 83 (w.alloc (.cells (fam 0 noSet) 83)) 0 noSet; simpa using h
  have HF1 := hide hf1
  have hf2 := hf1.row (m : Int) noSet
  have k2 := hf2.get 0 (by omega)
  have f2 := hf2.free (1 + 0)
  have HF2 := hide (hg0 _ hf2)
  have HB2 := hide ((bl_row (HB1.out.alloc (by simp) (.cells (fam 0 noSet) 83)) (show w.heap.size ≤ w.heap.size + 1 by omega) (fam (m : Int) noSet)).setCell (show w.heap.size ≤ (⟨w.heap.size + 1, 1 + 0, none⟩ : Addr).block from by show w.heap.size ≤ w.heap.size + 1; omega) (.bool true))
  have HR2 := hide (((HF0.out.alloc (.cells (fam 0 noSet) 83)).rowO (w.heap.size + 1) (by omega) (fam (m : Int) noSet)).setO ⟨w.heap.size + 1, 1 + 0, none⟩ (by show w.heap.size ≠ w.heap.size + 1; omega) (.bool true))
  have HFU : Hid (∀ (G : Nat → Bool) (w1 : World), Calls Tryd.prog 97 #[.agg (fam (m : Int) G)] w1 fun e w' => e = .returned (.int .i64 (low m : Int)) ∧ Below w1.heap.size w1 w') := hide fun G w1 => by
    have := full_c (m : Int) G w1 (by omega) (by omega)
    rw [Int.toNat_natCast] at this
    exact this
  have HZ2 := hide (show ((((w.alloc (.cells (fam 0 noSet) 83)).alloc (.cells (fam 0 noSet) 83)).setRow (w.heap.size + 1) (fam (m : Int) noSet)).setCell ⟨w.heap.size + 1, 1 + 0, none⟩ (.bool true)).heap.size = w.heap.size + 2 by simp [World.setRow])
  clear hcl hf1 hf2 hg0 hT hnx
  go_enter Tryd.func94, Tryd.ntmps94
  go_wp2_with (first
    | (refine wpList_alloc_fam zeroT rfl rfl _ (by first | (simp only [World.size_alloc]; rfl) | rfl) ?_)
    | (refine wpList_build_fam builtT rfl _ rfl _ rfl ?_)
    | (refine wpList_store_fam sizeT rfl (.tmp _) (.tmp _) rfl _ (m : Int) noSet rfl rfl _ _ HF1.out ?_)
    | (refine wpList_load_fam rowT sizeT rfl (.tmp _) rfl _ rfl (m : Int) _ HF2.out ?_)
    | (go_at_call 97; refine (HFU.out _ _).mono ?_; rintro e w2 ⟨rfl, hb2⟩; have hz2 := hb2.size; rw [HZ2.out] at hz2; have HF3 := hide (HF2.out.below hb2 HF2.out.lt); have HR3 := hide (HR2.out.below hb2 (by rw [HZ2.out]; omega)); have HB3 := hide (HB2.out.trans (hb2.mono (by rw [HZ2.out]; omega))); clear hb2))
  go_loopw [16] (fun i wr => ∃ k : Nat, k ≤ low m + 1 ∧ i = .int .i64 (k : Int) ∧ Hid (famAt 83 wr (w.heap.size + 1) (m : Int) (rbOut nx k)) ∧ Hid (famAt 83 wr w.heap.size 0 noSet) ∧ Hid (Below w.heap.size w wr)) (fun i _ => low m + 1 - (intOf i).toNat)
  case atStart => exact ⟨0, by omega, rfl, HF3, HR3, HB3⟩
  case round =>
    clear HF3 HR3 HB3 HF0 HF1 HF2 HB1 HB2 HR2 HZ2 k2 f2
    obtain ⟨k, hk, rfl, HF, HR, HB⟩ := hrel
    have hlf := HF.out.lt
    by_cases hlt : k < low m + 1
    · have hk128 : k < 128 := by omega
      have hlt' : ((k : Int) < (low m : Int) + 1) := by omega
      have hlt2 : k ≤ low m := by omega
      have hkm : k < 2 ^ m := by have := HLS.out; omega
      have hmk := HF.out.get k hk128
      have HST := hide (show rbOut nx (k + 1) = rbNx nx k (rbOut nx k) from rfl)
      have HRK := hide (fun h => HRC.out k k h)
      generalize rbOut nx k = G at HF HST hmk HRK
      cases he : G k
      · rw [rbNx_no he] at HST
        rw [he] at hmk
        clear he hkm
        go_wp2_with fail
        go_roundw
        case rel => exact ⟨k + 1, by omega, by go_num, by rw [HST.out]; exact HF, HR, HB⟩
        case measure => simp [intOf]; omega
      · rw [rbNx_yes he] at HST
        rw [he] at hmk
        have hr := HRK.out he
        have hS8 : nx k < 128 := nx_128 hm7 HNX.out hr
        have HC := hide (fun w1 h => HCL.out k w1 hkm hr h)
        generalize nx k = sm at *
        have HIT := hide (fun j hj => item_at (S := sm) (m := j) hS8 hj)
        have h7l := items_short sm
        have HIN0 := hide (show rbIn (itemsL sm) k G 0 = G from rfl)
        clear he hkm hr HRK
        go_wp2_with fail
        refine (HC.out _ HB.out).mono ?_
        rintro e w6 ⟨rfl, hb6⟩
        have hz6 := hb6.size
        have HB6 := hide (HB.out.trans (hb6.mono (by omega)))
        have HG6 := hide (HF.out.below hb6 hlf)
        have HR6 := hide (HR.out.below hb6 (by omega))
        clear hb6 hmk
        go_wp2_with (first
          | (go_at_call 131; refine (items_c sm _ hS8 (HT.out.below HB6.out)).mono ?_; rintro e w7 ⟨v7, rfl, ho7, hb7⟩; have hz7 := hb7.size; have HB7 := hide (HB6.out.trans (hb7.mono (by omega))); have HG7 := hide (HG6.out.below hb7 (by omega)); have HR7 := hide (HR6.out.below hb7 (by omega)); have HO7 := hide ho7; clear hb7 ho7)
          | (refine wpList_len sliceT rfl (.tmp _) rfl v7 rfl w7.heap.size (itemsL sm) HO7.out.ints ?_))
        have hg6 : w.heap.size + 1 < w6.heap.size := by omega
        clear HB6 HG6 HR6 HF HR HB
        go_loopw [29] (fun i ws => ∃ j : Nat, j ≤ (itemsL sm).length ∧ i = .int .i64 (j : Int) ∧ Hid (famAt 83 ws (w.heap.size + 1) (m : Int) (rbIn (itemsL sm) k G j)) ∧ Hid (famAt 83 ws w.heap.size 0 noSet) ∧ Hid (own 3 ws w6.heap.size v7 (itemsL sm)) ∧ Hid (Below w.heap.size w ws)) (fun i _ => (itemsL sm).length - (intOf i).toNat)
        case atStart => exact ⟨0, Nat.zero_le _, rfl, by rw [HIN0.out]; exact HG7, HR7, HO7, HB7⟩
        case round =>
          clear HB7 HG7 HR7 HO7
          obtain ⟨j, hj, rfl, HGI, HRI, HOI, HBI⟩ := hrel
          by_cases hlj : j < (itemsL sm).length
          · obtain ⟨i1, i2, _⟩ := HIT.out j hlj
            have HX := hide i1
            have HNI := hide (show rbIn (itemsL sm) k G (j + 1) = upd (rbIn (itemsL sm) k G j) (k ||| p2 (nth (itemsL sm) j)) true from rfl)
            generalize rbIn (itemsL sm) k G j = G' at HGI HNI
            generalize nth (itemsL sm) j = o at *
            have hko := or_lt128 k (p2 o) hk128 (p2_lt128 o i2)
            have c3 := HGI.out.get (k ||| p2 o) hko
            have f3 := HGI.out.free (1 + (k ||| p2 o))
            clear i1
            go_wp2_with (first
              | (refine wpList_at sliceT intS rfl (.tmp _) (.tmp _) rfl v7 rfl j rfl _ (itemsL sm) HOI.out.ints hlj ?_; intro ad hcell2 hblk; rw [HX.out] at hcell2)
              | (go_at_call 115; refine (with_c _ _ _ (by omega) (by omega) (by omega) (by omega)).mono ?_; rw [Int.toNat_natCast, Int.toNat_natCast]; rintro e w8 ⟨rfl, rfl⟩))
            go_roundw
            case rel => exact ⟨j + 1, by omega, by go_num, by rw [HNI.out]; exact HGI.out.set _ hko _, HRI.out.setO _ (by show w.heap.size ≠ w.heap.size + 1; omega) _, HOI.out.setLow _ (by show w.heap.size + 1 < w6.heap.size; exact hg6) _, HBI.out.setCell (by show w.heap.size ≤ w.heap.size + 1; omega) _⟩
            case measure => simp [intOf]; omega
          · have HE2 := hide (show j = (itemsL sm).length by omega)
            have hlj' : ¬ ((j : Int) < ((itemsL sm).length : Int)) := by omega
            go_wp2
            go_roundw
            case rel => exact ⟨k + 1, by omega, by go_num, by rw [HST.out, ← HE2.out]; exact HGI, HRI, HBI⟩
            case measure => simp [intOf]; omega
    · have hlt' : ¬ ((k : Int) < (low m : Int) + 1) := by omega
      have HFF := hide (show famAt 83 wr (w.heap.size + 1) (m : Int) (rbOut nx (2 ^ m)) by rw [show 2 ^ m = k by have := HLS.out; omega]; exact HF.out)
      clear hk hlt
      go_wp2_with (first
        | (refine wpList_load_fam rowT sizeT rfl (.tmp _) rfl _ rfl (m : Int) _ HFF.out ?_)
        | (refine wpList_store_fam sizeT rfl (.tmp _) (.tmp _) rfl w.heap.size (m : Int) _ rfl rfl _ _ HR.out ?_))
      exact bodyPost_ret (v := .agg (fam (m : Int) (rbOut nx (2 ^ m)))) (results_fam rowT sizeT rfl _ _ w.heap.size rfl _ _ (HR.out.row _ _)) rfl ⟨rfl, bl_row HB.out (Nat.le_refl _) _⟩
end Go.Proofs.YtonimjpfaalniaaDoor
