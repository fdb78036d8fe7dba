/- Contracts: how many words lead from each of the sets to all items, the program's. -/
import Derived.Test.YtblglkgmnaklbaaDoorTz
import Derived.Test.YtblglkgmnaklbaaDoorLib
import Derived.Test.YtblglkgmnaklbaaDoorMk
namespace Go.Proofs.YtblglkgmnaklbaaDoor
open Go.RowKit
set_option maxRecDepth 100000

/-! ### Arrays of 128 numbers -/
def cRow (A : Nat → Nat) : List Int := (List.range 128).map fun i : Nat => (A i : Int)
def updN (A : Nat → Nat) (i v : Nat) : Nat → Nat := fun j => if j = i then v else A j
/-- 128 zeros. -/
def zRow : List Int := cRow (fun _ => 0)
theorem cRow_len (A : Nat → Nat) : (cRow A).length = 128 := by simp [cRow]
theorem cRow_get (A : Nat → Nat) (i : Nat) (h : i < 128) : (cRow A)[i]?.getD 0 = (A i : Int) := by simp [cRow, h]
theorem cRow_congr {A B : Nat → Nat} (h : ∀ i, i < 128 → A i = B i) : cRow A = cRow B := by
  unfold cRow
  exact List.map_congr_left fun i hi => by rw [h i (by simpa using hi)]
theorem cRow_set (A : Nat → Nat) (i v : Nat) : (cRow A).set i (v : Int) = cRow (updN A i v) := by
  apply List.ext_getElem?
  intro j
  rw [List.getElem?_set]
  by_cases hij : i = j
  · subst hij
    by_cases hi : i < 128
    · rw [if_pos rfl, if_pos (by rw [cRow_len]; exact hi)]
      simp [cRow, hi, updN]
    · rw [if_pos rfl, if_neg (by rw [cRow_len]; exact hi), List.getElem?_eq_none (by rw [cRow_len]; omega)]
  · rw [if_neg hij]
    by_cases hj : j < 128
    · have : ¬ j = i := fun e => hij e.symm
      simp [cRow, hj, updN, this]
    · rw [List.getElem?_eq_none (by rw [cRow_len]; omega), List.getElem?_eq_none (by rw [cRow_len]; omega)]
def rowV (m : List Int) : Array Value := (m.map (Value.int .i64)).toArray
theorem rowV_size (m : List Int) : (rowV m).size = m.length := by simp [rowV]
theorem rowV_one (m : List Int) : (rowV m).all (·.oneCell') = true := by
  rw [Array.all_eq_true_iff_forall_mem]
  intro v hv
  simp [rowV] at hv
  obtain ⟨i, _, rfl⟩ := hv
  rfl
theorem blk.new (T : TypeId) (w : World) (m : List Int) : blk T (w.alloc (.cells (rowV m) T)) w.heap.size m := hp_last _ _
theorem blk.row {I : TypeId} {w : World} {g : Nat} {m : List Int} (h : blk I w g m) (m2 : List Int) : blk I (w.setRow g (rowV m2)) g m2 := hp_row w g _ _ I h
theorem blk.alloc {I : TypeId} {w : World} {g : Nat} {m : List Int} (h : blk I w g m) (o : Obj) : blk I (w.alloc o) g m := (hp_old w o g h.lt).trans h
theorem blk.setO {I : TypeId} {w : World} {g : Nat} {m : List Int} (h : blk I w g m) (a : Addr) (ha : g ≠ a.block) (v : Value) : blk I (w.setCell a v) g m := (hp_setO w a g v ha).trans h
theorem blk.rowO {I : TypeId} {w : World} {g : Nat} {m : List Int} (h : blk I w g m) (b : Nat) (hb : g ≠ b) (c : Array Value) : blk I (w.setRow b c) g m := (hp_rowO w b g c hb).trans h
section
variable {P : Program}
theorem wpList_load_arr {T : TypeId} (hT : (P.underlying T).map TypeDesc.isRow = some true) (hS : (P.info? T).map (·.size) = some 128)
    {ops : Array Oper} {rest : List Oper} {o : Oper} {a : Act} {w : World} {Q : Exit → Act → World → Prop} (hw : Region.wanted o (yielded ops a.tmps) = true) (x : Operand) (ho : o.op = .load T x)
    (g : Nat) (hx : a.eval x = .pointer (some ⟨g, 0, none⟩)) (m : List Int) (hm : m.length = 128) (hg : blk T w g m)
    (h : wpList P ops Q rest (a.put o.dst (.agg (rowV m))) w) : wpList P ops Q (o :: rest) a w := by
  obtain ⟨d, hu, hd⟩ := rowTy_of hT
  exact wpList_of_wp hw fun _ hK => wp_load_row T x ho g hx T (rowV m) (0, 0) d hg hu (by cases d <;> first | rfl | (cases hd)) (by rw [hS, rowV_size, hm]) (hK _ _ h)
theorem wpList_store_arr {T : TypeId} (hS : (P.info? T).map (·.size) = some 128)
    {ops : Array Oper} {rest : List Oper} {o : Oper} {a : Act} {w : World} {Q : Exit → Act → World → Prop} (hw : Region.wanted o (yielded ops a.tmps) = true) (x y : Operand) (ho : o.op = .store T x y)
    (g : Nat) (m : List Int) (hm : m.length = 128) (hx : a.eval x = .pointer (some ⟨g, 0, none⟩)) (hy : a.eval y = .agg (rowV m)) (m0 : List Int) (hm0 : m0.length = 128) (hg : blk T w g m0)
    (h : wpList P ops Q rest (a.put o.dst undef) (w.setRow g (rowV m))) : wpList P ops Q (o :: rest) a w :=
  wpList_of_wp hw fun _ hK => wp_store_row T x y ho g (rowV m) hx hy T (rowV m0) hg (by rw [hS, rowV_size, hm]) (by rw [rowV_size, rowV_size, hm, hm0]) (rowV_one m) (hK _ _ h)
theorem results_arr {T : TypeId} (hT : (P.underlying T).map TypeDesc.isRow = some true) (hS : (P.info? T).map (·.size) = some 128) {fn : Func} {p : Tmp} (h : fn.results = #[.cell p T]) (tmps : Array Value) (w : World) (g : Nat)
    (hp : tmps.getD p undef = .pointer (some ⟨g, 0, none⟩)) (m : List Int) (hm : m.length = 128) (hg : blk T w g m) : (results fn tmps).run P w = .ok (.agg (rowV m)) w := by
  obtain ⟨d, hu, hd⟩ := rowTy_of hT
  exact results_cell_row h tmps w g T (rowV m) (0, 0) d hp hg hu (by cases d <;> first | rfl | (cases hd)) (by rw [hS, rowV_size, hm])
theorem wpList_alloc_arr {T : TypeId} {m0 : List Int} (hz : ((P.info? T).bind (·.zero)).map Value.cells = some (rowV m0)) {ops : Array Oper} {rest : List Oper} {o : Oper} {a : Act} {w : World} {Q : Exit → Act → World → Prop}
    (hw : Region.wanted o (yielded ops a.tmps) = true) (ho : o.op = .alloc T) (m : Nat) (hm : w.heap.size = m)
    (h : wpList P ops Q rest (a.put o.dst (.pointer (some ⟨m, 0, none⟩))) (w.alloc (.cells (rowV m0) T))) : wpList P ops Q (o :: rest) a w := by
  subst hm
  refine wpList_of_wp hw fun K hK => ?_
  have hrun : (Instr.alloc T true (.tuple #[])).run P w = .ok (.pointer (some ⟨w.heap.size, 0, none⟩)) (w.alloc (.cells (rowV m0) T)) := by
    cases hq : P.info? T with
    | none => simp [hq] at hz
    | some i =>
      cases hv : i.zero with
      | none => simp [hq, hv] at hz
      | some v =>
        have hc : v.cells = rowV m0 := by simpa [hq, hv] using hz
        have hzv : (zeroValue T).run P w = .ok v w := by simp [zeroValue, typeInfo, hq, hv]
        unfold Instr.alloc
        simp only [Sem.run_bind, hzv, Result.andThen_ok]
        simp [newVar, newRow, hc]
  unfold Oper.wp execOp
  simp only [ho, Sem.run_bind, hrun, Sem.run_pure, Result.andThen_ok]
  exact hK _ _ h
/-- A number of an array that is a value. -/
theorem wpList_num {A B : TypeId} (hA : P.underlying A = some (.array 128 B)) (hB : (P.info? B).map (·.size) = some 1) (hr : (P.underlying B).map TypeDesc.isRow = some false)
    {ops : Array Oper} {rest : List Oper} {o : Oper} {a : Act} {w : World} {Q : Exit → Act → World → Prop} (hw : Region.wanted o (yielded ops a.tmps) = true) (x y : Operand) (ho : o.op = .index A x y)
    (m : List Int) (hm : m.length = 128) (hx : a.eval x = .agg (rowV m)) (i : Nat) (hy : a.eval y = .int .i64 (i : Int)) (hi : i < 128) (b : Int) (hb : m[i]?.getD 0 = b)
    (h : wpList P ops Q rest (a.put o.dst (.int .i64 b)) w) : wpList P ops Q (o :: rest) a w := by
  have hB' : (sizeOf B).run P w = .ok 1 w := run_sizeOf' hB w
  have hg : (rowV m)[i]? = some (.int .i64 b) := by
    rw [← hb]
    simp [rowV, hm, hi]
  have hag : (isAgg B).run P w = .ok false w := run_isAgg hr w
  have hrun : (Instr.index A (.agg (rowV m)) (.int .i64 (i : Int))).run P w = .ok (.int .i64 b) w := by
    unfold Instr.index part
    have h1 : (0 : Int) ≤ (i : Int) ∧ (i : Int) < ((128 : Nat) : Int) := by omega
    simp only [asIntOf, Sem.run_bind, Sem.run_pure, Result.andThen_ok, run_underlying hA w, if_pos h1, hB', hag, Int.toNat_natCast, Nat.mul_one, hg]
    simp
  refine wpList_of_wp hw fun K hK => ?_
  unfold Oper.wp execOp
  simp only [ho, hx, hy, Sem.run_bind, Sem.run_pure, hrun, Result.andThen_ok]
  exact hK _ _ h
end
theorem rowC : (Tryd.prog.underlying 79).map TypeDesc.isRow = some true := by kernel_rfl
theorem sizeC : (Tryd.prog.info? 79).map (·.size) = some 128 := by kernel_rfl
theorem arrC : Tryd.prog.underlying 79 = some (.array 128 3) := by kernel_rfl
theorem zeroC : ((Tryd.prog.info? 79).bind (·.zero)).map Value.cells = some (rowV zRow) := by kernel_rfl
theorem ent_withC : enters Tryd.prog 82 := enters_of Tryd.func82 (by kernel_rfl) (by kernel_rfl)
theorem zRow_len : zRow.length = 128 := cRow_len _

/-! ### Sums over items -/
def isum (g : Nat → Nat) (L : List Int) (j : Nat) : Nat := lsum g ((L.take j).map Int.toNat)
theorem isum_zero (g : Nat → Nat) (L : List Int) : isum g L 0 = 0 := rfl
theorem isum_step (g : Nat → Nat) (L : List Int) (j : Nat) (h : j < L.length) : isum g L (j + 1) = isum g L j + g (L[j]?.getD 0).toNat := by
  unfold isum
  rw [List.take_add_one, List.map_append, lsum_app, List.getElem?_eq_getElem h]
  simp [lsum]
theorem isum_le (g : Nat → Nat) (L : List Int) (j : Nat) : isum g L j ≤ isum g L L.length := by
  unfold isum
  rw [List.take_length]
  have h := lsum_app g ((L.take j).map Int.toNat) ((L.drop j).map Int.toNat)
  rw [← List.map_append, List.take_append_drop] at h
  omega
theorem lsum_congr {f g : Nat → Nat} : ∀ {l : List Nat}, (∀ x ∈ l, f x = g x) → lsum f l = lsum g l
  | [], _ => rfl
  | a :: l, h => by
    have h1 := lsum_congr (l := l) fun x hx => h x (by simp [hx])
    show f a + lsum f l = g a + lsum g l
    rw [h a (by simp), h1]
theorem sumN_r (F : Nat → Bool) (A : Nat → Nat) (s : Nat) : ∀ k, sumN F A s k = lsum (fun i => if (!s.testBit i && F (p2s s i)) = true then A (p2s s i) else 0) (List.range k)
  | 0 => rfl
  | k + 1 => by
    rw [sumN, sumN_r F A s k, List.range_succ, lsum_app]
    simp [lsum]
theorem or_ne (s i : Nat) : ((s ||| p2 i) != s) = !s.testBit i := by
  rw [Bool.eq_iff_iff, bne_iff_ne, Bool.not_eq_true']
  constructor
  · intro h
    cases hs : s.testBit i
    · rfl
    · exfalso; apply h
      apply Nat.eq_of_testBit_eq
      intro j
      rw [Nat.testBit_or, p2_bit]
      by_cases hij : i = j
      · subst hij; rw [hs]; rfl
      · rw [decide_eq_false hij, Bool.or_false]
  · intro h e
    have := congrArg (fun z => z.testBit i) e
    simp [Nat.testBit_or, p2_bit, h] at this
theorem outer_bit (F : Nat → Bool) (n s i : Nat) : (outerOf F n s).testBit i = (decide (i < n) && (!s.testBit i && F (p2s s i))) := by
  unfold outerOf
  rw [itemsOf_bit, or_ne]; rfl
theorem isum_all (F : Nat → Bool) (A : Nat → Nat) (n s : Nat) (h7 : n ≤ 7) (hF : ∀ x, F x = true → x < 2 ^ n) :
    isum (fun i => A (p2s s i)) (itemsL (outerOf F n s)) (itemsL (outerOf F n s)).length = sumN F A s n := by
  unfold isum
  rw [List.take_length, ← sumN_cut F A s n hF 7 h7, sumN_r]
  have e : (itemsL (outerOf F n s)).map Int.toNat = itemsN (outerOf F n s) := by
    unfold itemsL
    rw [List.map_map]
    conv => rhs; rw [← List.map_id (itemsN (outerOf F n s))]
    exact List.map_congr_left fun x _ => by simp
  rw [e]
  unfold itemsN
  rw [lsum_filter]
  refine lsum_congr fun i _ => ?_
  rw [outer_bit]
  by_cases hi : i < n
  · rw [decide_eq_true hi, Bool.true_and]
  · rw [decide_eq_false hi, Bool.false_and]
    cases hf : F (p2s s i)
    · simp
    · have h2 := hF _ hf
      have h3 : 2 ^ n ≤ 2 ^ i := p2_le n i (by omega)
      have h4 : (p2s s i).testBit i = true := by unfold p2s; rw [Nat.testBit_or, p2_bit]; simp
      rw [Nat.testBit_lt_two_pow (Nat.lt_of_lt_of_le h2 h3)] at h4
      cases h4
theorem itemsL_at (y j : Nat) (h : j < (itemsL y).length) : ∃ i : Nat, (itemsL y)[j]?.getD 0 = (i : Int) ∧ i < 7 ∧ y.testBit i = true := by
  unfold itemsL at h ⊢
  rw [List.length_map] at h
  have hm := List.getElem_mem h
  unfold itemsN at hm
  rw [List.mem_filter, List.mem_range] at hm
  exact ⟨(itemsN y)[j], by simp [h], hm.1, hm.2⟩
theorem itemsL_len (y : Nat) (h : y < 128) : (itemsL y).length ≤ 7 := by
  unfold itemsL
  rw [List.length_map]
  exact items_len y h
theorem p2s_gt {s i : Nat} (h : s.testBit i = false) : s < p2s s i := by
  have h1 := Nat.left_le_or (n := s) (m := p2 i)
  have h2 := or_ne s i
  rw [h] at h2
  have h3 : (s ||| p2 i) ≠ s := by simpa using h2
  unfold p2s
  omega
theorem outer_lt (F : Nat → Bool) (n s : Nat) (h7 : n ≤ 7) : outerOf F n s < 128 := by
  have := itemsOf_lt (fun i => (s ||| p2 i) != s && F (s ||| p2 i)) n
  have h2 := p2_le n 7 h7
  unfold outerOf
  omega
/-- The counts of the sets from k on. -/
def cK (F : Nat → Bool) (n k : Nat) : Nat → Nat := fun x => if k ≤ x then cnt F n x else 0
theorem cK_zero (F : Nat → Bool) (n : Nat) : cRow (cK F n 0) = cRow (cnt F n) := cRow_congr fun i _ => by simp [cK]
theorem cK_start (F : Nat → Bool) (n : Nat) (h7 : n ≤ 7) (hF : ∀ x, F x = true → x < 2 ^ n) : cRow (updN (fun _ => 0) (low n) 1) = cRow (cK F n (low n)) := cRow_congr fun i hi => by
  unfold updN cK
  have hl := low_succ n
  rw [cnt_eq F n h7 i hi]
  by_cases h1 : i = low n
  · simp [h1]
  · rw [if_neg h1]
    by_cases h2 : low n ≤ i
    · rw [if_pos h2, if_neg h1]
      cases hf : F i
      · simp
      · have := hF i hf; omega
    · rw [if_neg h2]
theorem cK_skip (F : Nat → Bool) (n k : Nat) (h7 : n ≤ 7) (hk : k < low n) (hF : F k = false) : cRow (cK F n (k + 1)) = cRow (cK F n k) := cRow_congr fun i hi => by
  unfold cK
  by_cases h1 : i = k
  · subst h1
    rw [if_neg (by omega), if_pos (Nat.le_refl _), cnt_eq F n h7 i hi, if_neg (by omega), hF]; rfl
  · by_cases h2 : k ≤ i
    · rw [if_pos h2, if_pos (by omega)]
    · rw [if_neg h2, if_neg (by omega)]
theorem cK_done (F : Nat → Bool) (n k : Nat) (h7 : n ≤ 7) (hk : k < low n) (hk2 : k < 128) (hF : F k = true) : cRow (updN (cK F n (k + 1)) k (sumN F (cnt F n) k n)) = cRow (cK F n k) := cRow_congr fun i hi => by
  unfold cK updN
  by_cases h1 : i = k
  · subst h1
    rw [if_pos rfl, if_pos (Nat.le_refl _), cnt_eq F n h7 i hi, if_neg (by omega), hF]; rfl
  · rw [if_neg h1]
    show (if k + 1 ≤ i then cnt F n i else 0) = if k ≤ i then cnt F n i else 0
    by_cases h2 : k ≤ i
    · rw [if_pos h2, if_pos (by omega)]
    · rw [if_neg h2, if_neg (by omega)]
theorem cK_upd0 (F : Nat → Bool) (n k : Nat) : cRow (updN (cK F n (k + 1)) k 0) = cRow (cK F n (k + 1)) := cRow_congr fun i _ => by
  unfold cK updN
  by_cases h1 : i = k
  · rw [if_pos h1, if_neg (by omega)]
  · rw [if_neg h1]
end Go.Proofs.YtblglkgmnaklbaaDoor
