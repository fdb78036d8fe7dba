/- Laws of my own that every text of mine imports: what a family of sets (a struct of a number and 128 marks) reads as, plain facts on blocks of memory, and facts on sums of powers of two. No program is named here. -/
import Derived.WalkKit
import Derived.LoopTactic
import Derived.Below
import Derived.Deep.MidRow
import Derived.ChangeAlike
import Derived.RegionTactic
import Derived.Outline
import Derived.WalkSpells
import Derived.Deep.LoopGhost
import Derived.Deep.QuietTactic
import Derived.BigQuiet
import Derived.ChangeKeysEq
import Derived.Laws.StructEq
import Derived.OrdersHeld
namespace Go.Proofs.YtblglkgmnaklbaaDoor
open Go.RowKit

/-! ### The marks of a family -/
theorem hide {p : Prop} (h : p) : Hid p := h
def famRow (F : Nat → Bool) : List Value := (List.range 128).map fun i => Value.bool (F i)
def fam (n : Int) (F : Nat → Bool) : Array Value := (Value.int .i64 n :: famRow F).toArray
def upd (F : Nat → Bool) (i : Nat) (v : Bool) : Nat → Bool := fun j => if j = i then v else F j
def noSet : Nat → Bool := fun _ => false

theorem famRow_len (F : Nat → Bool) : (famRow F).length = 128 := by simp [famRow]
theorem fam_size (n : Int) (F : Nat → Bool) : (fam n F).size = 129 := by simp [fam, famRow_len]
@[go_sem] theorem famRow_get (F : Nat → Bool) (i : Nat) (h : i < 128) : (famRow F)[i]? = some (.bool (F i)) := by
  simp [famRow, h]
@[go_sem, simp] theorem fam_get0 (n : Int) (F : Nat → Bool) : (fam n F)[0]? = some (.int .i64 n) := by simp [fam]
theorem fam_get (n : Int) (F : Nat → Bool) (i : Nat) (h : i < 128) : (fam n F)[1 + i]? = some (.bool (F i)) := by
  rw [Nat.add_comm]; simp [fam, famRow_get F i h]
theorem fam_congr (n : Int) {F G : Nat → Bool} (h : ∀ i, i < 128 → F i = G i) : fam n F = fam n G := by
  unfold fam famRow
  rw [List.map_congr_left (fun i hi => by rw [h i (by simpa using hi)])]
theorem famRow_congr {F G : Nat → Bool} (h : ∀ i, i < 128 → F i = G i) : famRow F = famRow G := by
  unfold famRow
  exact List.map_congr_left (fun i hi => by rw [h i (by simpa using hi)])
theorem fam_set (n : Int) (F : Nat → Bool) (i : Nat) (v : Bool) (h : i < 128) : (fam n F).setIfInBounds (1 + i) (.bool v) = fam n (upd F i v) := by
  apply Array.ext_getElem?
  intro j
  rw [Array.getElem?_setIfInBounds]
  by_cases hj : 1 + i = j
  · subst hj
    rw [if_pos rfl, if_pos (by rw [fam_size]; omega), fam_get _ _ _ h]
    simp [upd]
  · rw [if_neg hj]
    cases j with
    | zero => rw [fam_get0, fam_get0]
    | succ j =>
      rw [Nat.add_comm j 1]
      by_cases h2 : j < 128
      · rw [fam_get _ _ _ h2, fam_get _ _ _ h2]
        have : ¬ j = i := by omega
        simp [upd, this]
      · rw [Array.getElem?_eq_none (by rw [fam_size]; omega), Array.getElem?_eq_none (by rw [fam_size]; omega)]
theorem fam_one (n : Int) (F : Nat → Bool) : (fam n F).all (·.oneCell') = true := by
  rw [Array.all_eq_true_iff_forall_mem]
  intro v hv
  simp [fam, famRow] at hv
  rcases hv with rfl | ⟨i, _, rfl⟩ <;> rfl
theorem fam_extract (n : Int) (F : Nat → Bool) : ((fam n F).extract 1 (1 + 128)).toList = famRow F := by
  apply List.ext_getElem?
  intro j
  by_cases h : j < 128
  · rw [famRow_get _ _ h, Array.getElem?_toList, Array.getElem?_extract]
    have : j < min (1 + 128) (fam n F).size - 1 := by rw [fam_size]; omega
    rw [if_pos this, fam_get _ _ _ h]
  · rw [List.getElem?_eq_none (l := famRow F) (by rw [famRow_len]; omega), List.getElem?_eq_none (by simp; omega)]

/-! ### Blocks -/
theorem hp_last (w : World) (o : Obj) : (w.alloc o).heap[w.heap.size]? = some o := by
  show (w.heap.push o)[w.heap.size]? = _
  simp
theorem hp_old (w : World) (o : Obj) (k : Nat) (h : k < w.heap.size) : (w.alloc o).heap[k]? = w.heap[k]? := Below.heap_alloc w o k h
theorem hp_set (w : World) (b i : Nat) (cs : Array Value) (t : TypeId) (v : Value) (h : w.heap[b]? = some (.cells cs t)) : (w.setCell ⟨b, i, none⟩ v).heap[b]? = some (.cells (cs.setIfInBounds i v) t) := by
  simp only [World.setCell, Array.getElem?_modify, if_true, h, Option.map_some]
  simp
theorem hp_setO (w : World) (a : Addr) (k : Nat) (v : Value) (h : k ≠ a.block) : (w.setCell a v).heap[k]? = w.heap[k]? := Below.heap_setCell w a v k h
theorem hp_row (w : World) (b : Nat) (cs c : Array Value) (t : TypeId) (h : w.heap[b]? = some (.cells cs t)) : (w.setRow b c).heap[b]? = some (.cells c t) := by
  simp only [World.setRow, Array.getElem?_modify, if_true, h, Option.map_some]
theorem hp_rowO (w : World) (b k : Nat) (c : Array Value) (h : k ≠ b) : (w.setRow b c).heap[k]? = w.heap[k]? := by
  simp only [World.setRow, Array.getElem?_modify]
  rw [if_neg (by omega)]
theorem hp_cell {w : World} {b : Nat} {cs : Array Value} {t : TypeId} {fr : Nat × Nat} (h : w.heap[b]? = some (.cells cs t fr)) (i : Nat) : w.cell? ⟨b, i, none⟩ = cs[i]? := by
  simp [World.cell?, h]
theorem hp_free {w : World} {b : Nat} {cs : Array Value} {t : TypeId} (h : w.heap[b]? = some (.cells cs t)) (i : Nat) : w.frozen? ⟨b, i, none⟩ = false := by
  simp [World.frozen?, h]
theorem hp_lt {w : World} {b : Nat} {o : Obj} (h : w.heap[b]? = some o) : b < w.heap.size := by
  rcases Nat.lt_or_ge b w.heap.size with h1 | h1
  · exact h1
  · rw [Array.getElem?_eq_none h1] at h; cases h
theorem bl_row {B : Nat} {a w : World} (h : Below B a w) {g : Nat} (hg : B ≤ g) (c : Array Value) : Below B a (w.setRow g c) :=
  h.trans ⟨rfl, rfl, rfl, by simp [World.setRow], fun k hk => hp_rowO _ _ _ _ (by omega)⟩

/-! ### The families in memory: block b is a family's variable (T: its type) -/
def famAt (T : TypeId) (w : World) (b : Nat) (n : Int) (F : Nat → Bool) : Prop := w.heap[b]? = some (.cells (fam n F) T)
theorem famAt.get {T : TypeId} {w : World} {b : Nat} {n : Int} {F : Nat → Bool} (h : famAt T w b n F) (i : Nat) (hi : i < 128) : w.cell? ⟨b, 1 + i, none⟩ = some (.bool (F i)) := by
  rw [hp_cell h, fam_get _ _ _ hi]
theorem famAt.get0 {T : TypeId} {w : World} {b : Nat} {n : Int} {F : Nat → Bool} (h : famAt T w b n F) : w.cell? ⟨b, 0, none⟩ = some (.int .i64 n) := by
  rw [hp_cell h, fam_get0]
theorem famAt.free {T : TypeId} {w : World} {b : Nat} {n : Int} {F : Nat → Bool} (h : famAt T w b n F) (i : Nat) : w.frozen? ⟨b, i, none⟩ = false := hp_free h i
theorem famAt.lt {T : TypeId} {w : World} {b : Nat} {n : Int} {F : Nat → Bool} (h : famAt T w b n F) : b < w.heap.size := hp_lt h
theorem famAt.below {T : TypeId} {w w' : World} {b B : Nat} {n : Int} {F : Nat → Bool} (h : famAt T w b n F) (hb : Below B w w') (hB : b < B) : famAt T w' b n F := (hb.block b hB).trans h
theorem famAt.new (T : TypeId) (w : World) (n : Int) (F : Nat → Bool) : famAt T (w.alloc (.cells (fam n F) T)) w.heap.size n F := hp_last _ _
theorem famAt.alloc {T : TypeId} {w : World} {b : Nat} {n : Int} {F : Nat → Bool} (h : famAt T w b n F) (o : Obj) : famAt T (w.alloc o) b n F := (hp_old w o b h.lt).trans h
theorem famAt.set {T : TypeId} {w : World} {b : Nat} {n : Int} {F : Nat → Bool} (h : famAt T w b n F) (i : Nat) (hi : i < 128) (v : Bool) : famAt T (w.setCell ⟨b, 1 + i, none⟩ (.bool v)) b n (upd F i v) := by
  unfold famAt
  rw [hp_set w b (1 + i) _ T _ h, fam_set _ _ _ _ hi]
theorem famAt.setO {T : TypeId} {w : World} {b : Nat} {n : Int} {F : Nat → Bool} (h : famAt T w b n F) (a : Addr) (ha : b ≠ a.block) (v : Value) : famAt T (w.setCell a v) b n F := (hp_setO w a b v ha).trans h
theorem famAt.row {T : TypeId} {w : World} {b : Nat} {n : Int} {F : Nat → Bool} (h : famAt T w b n F) (m : Int) (G : Nat → Bool) : famAt T (w.setRow b (fam m G)) b m G := hp_row w b _ _ T h
theorem famAt.range {T : TypeId} {w : World} {b : Nat} {n : Int} {F : Nat → Bool} (h : famAt T w b n F) : w.rangeAt b 1 (famRow F) := by
  intro j v hv
  rcases Nat.lt_or_ge j 128 with hj | hj
  · rw [famRow_get F j hj] at hv
    rw [h.get j hj]; exact hv
  · rw [List.getElem?_eq_none (by rw [famRow_len]; omega)] at hv; cases hv

/-! ### Functions called through a value: number k has a body -/
def enters (P : Program) (k : Nat) : Prop := ∀ (args : Array Value) (w : World), Sem.run P (callFunc k args) w = .ok (.enter k args) w
theorem enters_of {P : Program} {k : Nat} {fn : Func} (hf : P.funcs[k]? = some fn) (hn : (fn.name == "runtime.NumGoroutine") = false) (hb : fn.body.isNone = false) : enters P k := by
  intro args w
  have hn' : ¬ fn.name = "runtime.NumGoroutine" := by simpa using hn
  have hb' : ¬ fn.body = none := by intro h; rw [h] at hb; cases hb
  simp [callFunc, program, hf, hn', hb', Sem.run]

section
variable {P : Program}
theorem rowTy_of {ty : TypeId} (h : (P.underlying ty).map TypeDesc.isRow = some true) : ∃ d, P.underlying ty = some d ∧ d.isRow = true := by
  cases hd : P.underlying ty with
  | none => rw [hd] at h; cases h
  | some d => rw [hd] at h; exact ⟨d, rfl, by simpa using h⟩
theorem wpList_of_wp {ops : Array Oper} {rest : List Oper} {o : Oper} {a : Act} {w : World} {Q : Exit → Act → World → Prop} (hw : Region.wanted o (yielded ops a.tmps) = true)
    (h : ∀ K : Act → World → Prop, (∀ a w, wpList P ops Q rest a w → K a w) → o.wp P a w K Q) : wpList P ops Q (o :: rest) a w :=
  wpList_step fun K hK => by rw [if_pos hw]; exact h K hK
/-- A family is read whole. -/
theorem wpList_load_fam {T : TypeId} (hT : (P.underlying T).map TypeDesc.isRow = some true) (hS : (P.info? T).map (·.size) = some 129)
    {ops : Array Oper} {rest : List Oper} {o : Oper} {a : Act} {w : World} {Q : Exit → Act → World → Prop} (hw : Region.wanted o (yielded ops a.tmps) = true) (x : Operand) (ho : o.op = .load T x)
    (g : Nat) (hx : a.eval x = .pointer (some ⟨g, 0, none⟩)) (n : Int) (F : Nat → Bool) (hg : famAt T w g n F)
    (h : wpList P ops Q rest (a.put o.dst (.agg (fam n F))) w) : wpList P ops Q (o :: rest) a w := by
  obtain ⟨d, hu, hd⟩ := rowTy_of hT
  exact wpList_of_wp hw fun _ hK => wp_load_row T x ho g hx T (fam n F) (0, 0) d hg hu (by cases d <;> first | rfl | (cases hd)) (by rw [hS, fam_size]) (hK _ _ h)
/-- The marks of a family are read whole. -/
theorem wpList_load_marks {T A : TypeId} (hT : (P.underlying A).map TypeDesc.isRow = some true) (hS : (P.info? A).map (·.size) = some 128)
    {ops : Array Oper} {rest : List Oper} {o : Oper} {a : Act} {w : World} {Q : Exit → Act → World → Prop} (hw : Region.wanted o (yielded ops a.tmps) = true) (x : Operand) (ho : o.op = .load A x)
    (g : Nat) (hx : a.eval x = .pointer (some ⟨g, 1, none⟩)) (n : Int) (F : Nat → Bool) (hg : famAt T w g n F)
    (h : wpList P ops Q rest (a.put o.dst (.agg (famRow F).toArray)) w) : wpList P ops Q (o :: rest) a w := by
  obtain ⟨d, hu, hd⟩ := rowTy_of hT
  exact wpList_of_wp hw fun _ hK => wp_load_mid A x ho g 1 hx (famRow F) d hg.range hu hd (by rw [hS, famRow_len]) (hK _ _ h)
/-- A family is written whole. -/
theorem wpList_store_fam {T : TypeId} (hS : (P.info? T).map (·.size) = some 129)
    {ops : Array Oper} {rest : List Oper} {o : Oper} {a : Act} {w : World} {Q : Exit → Act → World → Prop} (hw : Region.wanted o (yielded ops a.tmps) = true) (x y : Operand) (ho : o.op = .store T x y)
    (g : Nat) (m : Int) (G : Nat → Bool) (hx : a.eval x = .pointer (some ⟨g, 0, none⟩)) (hy : a.eval y = .agg (fam m G)) (n : Int) (F : Nat → Bool) (hg : famAt T w g n F)
    (h : wpList P ops Q rest (a.put o.dst undef) (w.setRow g (fam m G))) : wpList P ops Q (o :: rest) a w :=
  wpList_of_wp hw fun _ hK => wp_store_row T x y ho g (fam m G) hx hy T (fam n F) hg (by rw [hS, fam_size]) (by rw [fam_size, fam_size]) (fam_one m G) (hK _ _ h)
/-- A function's result that is a family. -/
theorem results_fam {T : TypeId} (hT : (P.underlying T).map TypeDesc.isRow = some true) (hS : (P.info? T).map (·.size) = some 129) {fn : Func} {p : Tmp} (h : fn.results = #[.cell p T]) (tmps : Array Value) (w : World) (g : Nat)
    (hp : tmps.getD p undef = .pointer (some ⟨g, 0, none⟩)) (n : Int) (F : Nat → Bool) (hg : famAt T w g n F) : (results fn tmps).run P w = .ok (.agg (fam n F)) w := by
  obtain ⟨d, hu, hd⟩ := rowTy_of hT
  exact results_cell_row h tmps w g T (fam n F) (0, 0) d hp hg hu (by cases d <;> first | rfl | (cases hd)) (by rw [hS, fam_size])
/-- A new family: no items, no marks. -/
theorem wpList_alloc_fam {T : TypeId} (hz : ((P.info? T).bind (·.zero)).map Value.cells = some (fam 0 noSet)) {ops : Array Oper} {rest : List Oper} {o : Oper} {a : Act} {w : World} {Q : Exit → Act → World → Prop}
    (hw : Region.wanted o (yielded ops a.tmps) = true) (ho : o.op = .alloc T) (m : Nat) (hm : w.heap.size = m)
    (h : wpList P ops Q rest (a.put o.dst (.pointer (some ⟨m, 0, none⟩))) (w.alloc (.cells (fam 0 noSet) T))) : wpList P ops Q (o :: rest) a w := by
  subst hm
  refine wpList_of_wp hw fun K hK => ?_
  have hrun : (Instr.alloc T true (.tuple #[])).run P w = .ok (.pointer (some ⟨w.heap.size, 0, none⟩)) (w.alloc (.cells (fam 0 noSet) T)) := by
    cases hq : P.info? T with
    | none => simp [hq] at hz
    | some i =>
      cases hv : i.zero with
      | none => simp [hq, hv] at hz
      | some v =>
        have hc : v.cells = fam 0 noSet := by simpa [hq, hv] using hz
        have hzv : (zeroValue T).run P w = .ok v w := by simp [zeroValue, typeInfo, hq, hv]
        unfold Instr.alloc
        simp only [Sem.run_bind, hzv, Result.andThen_ok]
        simp [newVar, newRow, hc]
  unfold Oper.wp execOp
  simp only [ho, Sem.run_bind, hrun, Sem.run_pure, Result.andThen_ok]
  exact hK _ _ h
/-- A family with so many items, no marks, as a value. -/
theorem wpList_build_fam {T : TypeId} (hb : ∀ n : Int, P.built T [(0, .int .i64 n)] = some (fam n noSet)) {ops : Array Oper} {rest : List Oper} {o : Oper} {a : Act} {w : World} {Q : Exit → Act → World → Prop}
    (hgd : o.guard = none) (x : Operand) (ho : o.op = .build T #[(0, x)]) (n : Int) (hx : a.eval x = .int .i64 n)
    (h : wpList P ops Q rest (a.put o.dst (.agg (fam n noSet))) w) : wpList P ops Q (o :: rest) a w := by
  have e : (P.built T ((#[(0, x)] : Array (Nat × Operand)).map fun (i, x) => (i, a.eval x)).toList) = some (fam n noSet) := by
    simpa [hx] using hb n
  exact wpList_build hgd T #[(0, x)] ho (by rw [e]; rfl) (by rw [e]; exact h)
theorem wpList_build_fam0 {T : TypeId} (hb : P.built T [] = some (fam 0 noSet)) {ops : Array Oper} {rest : List Oper} {o : Oper} {a : Act} {w : World} {Q : Exit → Act → World → Prop}
    (hgd : o.guard = none) (ho : o.op = .build T #[])
    (h : wpList P ops Q rest (a.put o.dst (.agg (fam 0 noSet))) w) : wpList P ops Q (o :: rest) a w := by
  have e : (P.built T ((#[] : Array (Nat × Operand)).map fun (i, x) => (i, a.eval x)).toList) = some (fam 0 noSet) := by
    simpa using hb
  exact wpList_build hgd T #[] ho (by rw [e]; rfl) (by rw [e]; exact h)
/-- Two results, the first a family. -/
theorem results_fam2 {T : TypeId} (hT : (P.underlying T).map TypeDesc.isRow = some true) (hS : (P.info? T).map (·.size) = some 129) {fn : Func} {p q : Tmp} (h : fn.results = #[.cell p T, .tmp q]) (tmps : Array Value) (w : World) (g : Nat)
    (hp : tmps.getD p undef = .pointer (some ⟨g, 0, none⟩)) (n : Int) (F : Nat → Bool) (hg : famAt T w g n F) : (results fn tmps).run P w = .ok (.tuple #[.agg (fam n F), tmps.getD q undef]) w := by
  obtain ⟨d, hu, hd⟩ := rowTy_of hT
  have hp' : tmps[p]?.getD undef = .pointer (some ⟨g, 0, none⟩) := by simpa using hp
  have hl := run_loadVar_row (P := P) w g T T (fam n F) (0, 0) d hg hu (by cases d <;> first | rfl | (cases hd)) (by rw [hS, fam_size])
  simp [results, h, hp', asAddr, hl]
/-- Three results, the first a family. -/
theorem results_fam3 {T : TypeId} (hT : (P.underlying T).map TypeDesc.isRow = some true) (hS : (P.info? T).map (·.size) = some 129) {fn : Func} {p q r : Tmp} (h : fn.results = #[.cell p T, .tmp q, .tmp r]) (tmps : Array Value) (w : World) (g : Nat)
    (hp : tmps.getD p undef = .pointer (some ⟨g, 0, none⟩)) (n : Int) (F : Nat → Bool) (hg : famAt T w g n F) : (results fn tmps).run P w = .ok (.tuple #[.agg (fam n F), tmps.getD q undef, tmps.getD r undef]) w := by
  obtain ⟨d, hu, hd⟩ := rowTy_of hT
  have hp' : tmps[p]?.getD undef = .pointer (some ⟨g, 0, none⟩) := by simpa using hp
  have hl := run_loadVar_row (P := P) w g T T (fam n F) (0, 0) d hg hu (by cases d <;> first | rfl | (cases hd)) (by rw [hS, fam_size])
  simp [results, h, hp', asAddr, hl]
/-- A mark of a row that is a value. -/
theorem wpList_mark {A B : TypeId} (hA : P.underlying A = some (.array 128 B)) (hB : (P.info? B).map (·.size) = some 1) (hr : (P.underlying B).map TypeDesc.isRow = some false)
    {ops : Array Oper} {rest : List Oper} {o : Oper} {a : Act} {w : World} {Q : Exit → Act → World → Prop} (hw : Region.wanted o (yielded ops a.tmps) = true) (x y : Operand) (ho : o.op = .index A x y)
    (F : Nat → Bool) (hx : a.eval x = .agg (famRow F).toArray) (i : Nat) (hy : a.eval y = .int .i64 (i : Int)) (hi : i < 128) (b : Bool) (hb : F i = b)
    (h : wpList P ops Q rest (a.put o.dst (.bool b)) w) : wpList P ops Q (o :: rest) a w := by
  have hB' : (sizeOf B).run P w = .ok 1 w := by
    cases hq : P.info? B with
    | none => simp [hq] at hB
    | some j =>
      have : j.size = 1 := by simpa [hq] using hB
      simp [sizeOf, typeInfo, hq, this]
  have hg : (famRow F).toArray[i]? = some (.bool b) := by rw [← hb]; simpa using famRow_get F i hi
  have hag : (isAgg B).run P w = .ok false w := by
    unfold isAgg
    cases hq : P.underlying B with
    | none => simp [hq] at hr
    | some d =>
      rw [Sem.run_bind, run_underlying hq w]
      cases d <;> simp_all [TypeDesc.isRow]
  have hrun : (Instr.index A (.agg (famRow F).toArray) (.int .i64 (i : Int))).run P w = .ok (.bool b) w := by
    unfold Instr.index part
    have h1 : (0 : Int) ≤ (i : Int) ∧ (i : Int) < ((128 : Nat) : Int) := by omega
    simp only [asIntOf, Sem.run_bind, Sem.run_pure, Result.andThen_ok, run_underlying hA w, if_pos h1, hB', hag, Int.toNat_natCast, Nat.mul_one, hg]
    simp
  refine wpList_of_wp hw fun K hK => ?_
  unfold Oper.wp execOp
  simp only [ho, hx, hy, Sem.run_bind, Sem.run_pure, hrun, Result.andThen_ok]
  exact hK _ _ h
/-! A drawn region whose operations only read, and whose calls leave old memory alone: one walk in the order of the text. -/
theorem wp_region_old {id : Nat} {Q : Exit → Act → World → Prop} {a : Act} {w : World} {l : List Oper} (hm : P.follows .mixedOrders = true) (hB : Region.lexB .any l.toArray = true)
    (h : wpQuiet P l.toArray (fun w' => Below w.heap.size w w') (fun a' => ∀ w', Below w.heap.size w w' → Q .normal a' w') l a) : (Code.region id l.toArray true).wp P Q a w :=
  wp_region_quiet (C := fun w' => Below w.heap.size w w') hm hB (Below.refl _ _).drew (by simpa using h)
theorem q_load_fam {T : TypeId} (hT : (P.underlying T).map TypeDesc.isRow = some true) (hS : (P.info? T).map (·.size) = some 129)
    {ops : Array Oper} {rest : List Oper} {o : Oper} {a : Act} {C : World → Prop} {Q : Act → Prop} (hw : Region.wanted o (yielded ops a.tmps) = true) (x : Operand) (ho : o.op = .load T x)
    (g : Nat) (hx : a.eval x = .pointer (some ⟨g, 0, none⟩)) (n : Int) (F : Nat → Bool) (hg : ∀ w, C w → famAt T w g n F)
    (h : wpQuiet P ops C Q rest (a.put o.dst (.agg (fam n F)))) : wpQuiet P ops C Q (o :: rest) a := by
  obtain ⟨d, hu, hd⟩ := rowTy_of hT
  refine BigFrame.wpQuiet_want hw fun K hK => ⟨_, fun w hC => ?_, hK _ h⟩
  unfold Oper.quietAt execOp
  simp only [ho, hx, Instr.loadAt, Instr.sureAddr, Sem.run_bind, Sem.run_pure, Result.andThen_ok, run_loadVar_row w g T T (fam n F) (0, 0) d (hg w hC) hu (by cases d <;> first | rfl | (cases hd)) (by rw [hS, fam_size])]
  exact ⟨rfl, rfl⟩
theorem q_call {ops : Array Oper} {rest : List Oper} {o : Oper} {a : Act} {w : World} {Q : Act → Prop} (hw : Region.wanted o (yielded ops a.tmps) = true) (k : FuncId) (hk : enters P k) (xs : Array Operand) (ts : Array TypeId)
    (ho : o.op = .call { callee := .value (.func k), args := xs, argTypes := ts }) (args : Array Value) (ha : xs.map a.eval = args) (v : Value)
    (hc : ∀ w', Below w.heap.size w w' → Calls P k args w' fun e w'' => e = .returned v ∧ Below w'.heap.size w' w'')
    (h : wpQuiet P ops (fun w' => Below w.heap.size w w') Q rest (a.put o.dst v)) : wpQuiet P ops (fun w' => Below w.heap.size w w') Q (o :: rest) a := by
  refine BigFrame.wpQuiet_want hw fun K hK => ⟨v, fun w' hC => ?_, hK _ h⟩
  obtain ⟨op, dst, ty, pos, after, guard⟩ := o
  simp only at ho
  subst ho
  unfold Oper.quietAt
  rw [execOp_call_go, ha]
  simp only [Array.append_empty, Array.empty_append]
  rw [hk]
  exact ⟨rfl, (hc w' hC).mono fun e w'' ⟨he, hb⟩ => ⟨he, hC.trans (hb.mono hC.size)⟩⟩
end

/-! ### Slices of int in memory -/
def intsAt (w : World) (b : Nat) (o : Nat) (l : List Int) : Prop := b < w.heap.size ∧ ∀ j, j < l.length → w.cell? ⟨b, o + j, none⟩ = some (.int .i64 (l[j]?.getD 0))
theorem intsAt.below {w w' : World} {b o B : Nat} {l : List Int} (h : intsAt w b o l) (hb : Below B w w') (hB : b < B) : intsAt w' b o l :=
  ⟨Nat.lt_of_lt_of_le h.1 hb.size, fun j hj => (hb.cell (p := ⟨b, o + j, none⟩) hB).trans (h.2 j hj)⟩
theorem intsAt.alloc {w : World} {b o : Nat} {l : List Int} (h : intsAt w b o l) (ob : Obj) : intsAt (w.alloc ob) b o l :=
  h.below ((Below.refl _ _).alloc (Nat.le_refl _) ob) h.1

end Go.Proofs.YtblglkgmnaklbaaDoor
/- Plain facts on sets told as sums of powers of two (natural numbers and their bits). No program is named here. -/
namespace Go.Proofs.YtblglkgmnaklbaaDoor
open Go.RowKit

def andNot (a b : Nat) : Nat := a ^^^ (a &&& b)
theorem andNot_bit (a b i : Nat) : (andNot a b).testBit i = (a.testBit i && !b.testBit i) := by
  simp only [andNot, Nat.testBit_xor, Nat.testBit_and]
  cases a.testBit i <;> cases b.testBit i <;> rfl
theorem andNot_lt (a b n : Nat) (h : a < 2 ^ n) : andNot a b < 2 ^ n := by
  apply Nat.lt_pow_two_of_testBit
  intro i hi
  rw [andNot_bit, Nat.testBit_lt_two_pow (Nat.lt_of_lt_of_le h (Nat.pow_le_pow_right (by omega) hi))]
  rfl

theorem p2_le (i n : Nat) (h : i ≤ n) : 2 ^ i ≤ 2 ^ n := Nat.pow_le_pow_right (by omega) h
theorem p2_lt (i n : Nat) (h : i < n) : 2 ^ i < 2 ^ n := Nat.pow_lt_pow_right (by omega) h
theorem p2_pos (i : Nat) : 0 < 2 ^ i := Nat.two_pow_pos i
theorem p2_cast (i : Nat) : ((2 : Int) ^ i) = ((2 ^ i : Nat) : Int) := by simp

/-- The set of the one item n; the set of the items below n. (Names, so that casts stay where they are.) -/
def p2 (n : Nat) : Nat := 2 ^ n
def low (n : Nat) : Nat := 2 ^ n - 1
theorem p2_lt128 (n : Nat) (h : n < 7) : p2 n < 128 := p2_lt n 7 h
theorem p2_le128 (n : Nat) (h : n ≤ 7) : p2 n ≤ 128 := p2_le n 7 h
theorem low_lt (n : Nat) (h : n ≤ 7) : low n < 128 := by have := p2_le n 7 h; unfold low; omega
theorem low_bit (n i : Nat) : (low n).testBit i = decide (i < n) := by unfold low; rw [Nat.testBit_two_pow_sub_one]
theorem p2_bit (n i : Nat) : (p2 n).testBit i = decide (n = i) := by unfold p2; rw [Nat.testBit_two_pow]
theorem wrap_p2 (n : Nat) (h : n ≤ 7) : wrap64 (2 ^ n) = (p2 n : Int) := by
  have h1 := p2_le128 n h
  have h2 : ((2 : Int) ^ n) = (p2 n : Int) := by simp [p2]
  rw [h2]
  exact IntWalk.wrap64_in _ (by omega)
theorem bit_test (a n : Nat) : (a &&& p2 n != 0) = a.testBit n := by
  unfold p2
  rw [nat_bit n a, Nat.testBit_eq_decide_div_mod_eq]
  have h := p2_pos n
  rcases Nat.mod_two_eq_zero_or_one (a / 2 ^ n) with h1 | h1
  · rw [h1]; simp
  · rw [h1]; simp

/-! ### Go's bit operations on int, where both numbers are small and not negative -/
theorem ofInt_i64 (a : Nat) (ha : a < 9223372036854775808) : (BitVec.ofInt 64 (a : Int)).toNat = a := by
  rw [BitVec.toNat_ofInt]; omega
theorem ofInt_i64v (a : Nat) : BitVec.ofInt 64 (a : Int) = BitVec.ofNat 64 a := by
  apply BitVec.eq_of_toNat_eq; rw [BitVec.toNat_ofInt, BitVec.toNat_ofNat]; omega
theorem i64_of_lt (r : Nat) (h : r < 9223372036854775808) : IntKind.i64.wrap (r : Int) = (r : Int) := IntWalk.i64_in _ (by omega)
theorem i64_or (a b : Nat) (ha : a < 2 ^ 62) (hb : b < 2 ^ 62) : bits .or .i64 (a : Int) (b : Int) = ((a ||| b : Nat) : Int) := by
  have h := Nat.or_lt_two_pow ha hb
  show IntKind.i64.wrap (((BitVec.ofInt 64 (a : Int)) ||| (BitVec.ofInt 64 (b : Int))).toNat : Int) = _
  rw [BitVec.toNat_or, ofInt_i64 a (by omega), ofInt_i64 b (by omega)]
  exact i64_of_lt _ (by omega)
theorem i64_and (a b : Nat) (ha : a < 2 ^ 62) (hb : b < 2 ^ 62) : bits .and .i64 (a : Int) (b : Int) = ((a &&& b : Nat) : Int) := by
  have h := Nat.and_lt_two_pow a hb
  show IntKind.i64.wrap (((BitVec.ofInt 64 (a : Int)) &&& (BitVec.ofInt 64 (b : Int))).toNat : Int) = _
  rw [BitVec.toNat_and, ofInt_i64 a (by omega), ofInt_i64 b (by omega)]
  exact i64_of_lt _ (by omega)
theorem i64_xor (a b : Nat) (ha : a < 2 ^ 62) (hb : b < 2 ^ 62) : bits .xor .i64 (a : Int) (b : Int) = ((a ^^^ b : Nat) : Int) := by
  have h := Nat.xor_lt_two_pow ha hb
  show IntKind.i64.wrap (((BitVec.ofInt 64 (a : Int)) ^^^ (BitVec.ofInt 64 (b : Int))).toNat : Int) = _
  rw [BitVec.toNat_xor, ofInt_i64 a (by omega), ofInt_i64 b (by omega)]
  exact i64_of_lt _ (by omega)
theorem i64_andNot (a b : Nat) (ha : a < 2 ^ 62) : bits .andNot .i64 (a : Int) (b : Int) = ((andNot a b : Nat) : Int) := by
  have h := andNot_lt a b 62 ha
  have e : (BitVec.ofNat 64 a &&& ~~~BitVec.ofNat 64 b).toNat = andNot a b := by
    apply Nat.eq_of_testBit_eq
    intro i
    rw [andNot_bit, BitVec.testBit_toNat, BitVec.getLsbD_and, BitVec.getLsbD_not, BitVec.getLsbD_ofNat, BitVec.getLsbD_ofNat]
    by_cases hi : i < 64
    · simp [hi]
    · have : a.testBit i = false := Nat.testBit_lt_two_pow (Nat.lt_of_lt_of_le ha (p2_le _ _ (by omega)))
      simp [hi, this]
  show IntKind.i64.wrap (((BitVec.ofInt 64 (a : Int)) &&& ~~~(BitVec.ofInt 64 (b : Int))).toNat : Int) = _
  rw [ofInt_i64v, ofInt_i64v, e]
  exact i64_of_lt _ (by omega)

/-! ### Unions of many sets -/
def orTo (G : Nat → Nat) : Nat → Nat
  | 0 => 0
  | k + 1 => orTo G k ||| G k
theorem orTo_lt (G : Nat → Nat) (n : Nat) : ∀ k, (∀ i, i < k → G i < 2 ^ n) → orTo G k < 2 ^ n
  | 0, _ => p2_pos n
  | k + 1, h => Nat.or_lt_two_pow (orTo_lt G n k fun i hi => h i (by omega)) (h k (by omega))
theorem orTo_congr {G H : Nat → Nat} : ∀ k, (∀ i, i < k → G i = H i) → orTo G k = orTo H k
  | 0, _ => rfl
  | k + 1, h => by rw [orTo, orTo, orTo_congr k fun i hi => h i (by omega), h k (by omega)]
theorem orTo_bit (G : Nat → Nat) (b : Nat) : ∀ k, (orTo G k).testBit b = decide (∃ i, i < k ∧ (G i).testBit b = true)
  | 0 => by simp [orTo]
  | k + 1 => by
    rw [orTo, Nat.testBit_or, orTo_bit G b k, Bool.eq_iff_iff]
    simp only [Bool.or_eq_true, decide_eq_true_eq]
    constructor
    · rintro (⟨i, hi, h⟩ | h)
      · exact ⟨i, by omega, h⟩
      · exact ⟨k, by omega, h⟩
    · rintro ⟨i, hi, h⟩
      rcases Nat.lt_or_ge i k with h1 | h1
      · exact .inl ⟨i, h1, h⟩
      · have : i = k := by omega
        subst this; exact .inr h
/-- The items below n that are wanted. -/
def itemsOf (K : Nat → Bool) (n : Nat) : Nat := orTo (fun i => if K i then p2 i else 0) n
theorem itemsOf_bit (K : Nat → Bool) (n b : Nat) : (itemsOf K n).testBit b = (decide (b < n) && K b) := by
  rw [itemsOf, orTo_bit, Bool.eq_iff_iff]
  simp only [Bool.and_eq_true, decide_eq_true_eq]
  constructor
  · rintro ⟨i, hi, h⟩
    split at h
    · rename_i hk
      rw [p2_bit] at h
      have : i = b := by simpa using h
      subst this; exact ⟨hi, hk⟩
    · simp at h
  · rintro ⟨h1, h2⟩
    exact ⟨b, h1, by rw [if_pos h2, p2_bit]; simp⟩
theorem itemsOf_lt (K : Nat → Bool) (n : Nat) : itemsOf K n < 2 ^ n :=
  orTo_lt _ n n fun i hi => by
    split
    · exact p2_lt _ _ hi
    · exact p2_pos n
theorem itemsOf_congr {K L : Nat → Bool} (n : Nat) (h : ∀ i, i < n → K i = L i) : itemsOf K n = itemsOf L n :=
  orTo_congr n fun i hi => by rw [h i hi]

end Go.Proofs.YtblglkgmnaklbaaDoor
/- Slices of int told by the list of their numbers, nil ones among them: laws for len, an index, an append of one number. No program is named here. -/
namespace Go.Proofs.YtblglkgmnaklbaaDoor
open Go.RowKit
section
variable {P : Program}

/-- v is a slice that reads as l, its cells below block B. -/
def ints (B : Nat) (w : World) (v : Value) (l : List Int) : Prop :=
  (l = [] ∧ ∃ a c, v = .slice a 0 c) ∨
  ∃ b o c, v = .slice (some ⟨b, o, none⟩) l.length c ∧ b < B ∧ b < w.heap.size ∧ ∀ j, j < l.length → w.cell? ⟨b, o + j, none⟩ = some (.int .i64 (l[j]?.getD 0))
theorem ints.below {B B' : Nat} {w w' : World} {v : Value} {l : List Int} (h : ints B w v l) (hb : Below B' w w') (hB : B ≤ B') : ints B w' v l := by
  rcases h with h | ⟨b, o, c, h1, h2, h3, h4⟩
  · exact .inl h
  · exact .inr ⟨b, o, c, h1, h2, Nat.lt_of_lt_of_le h3 hb.size, fun j hj => (hb.cell (p := ⟨b, o + j, none⟩) (by show b < B'; omega)).trans (h4 j hj)⟩
theorem ints.mono {B B' : Nat} {w : World} {v : Value} {l : List Int} (h : ints B w v l) (hB : B ≤ B') : ints B' w v l := by
  rcases h with h | ⟨b, o, c, h1, h2, h3⟩
  · exact .inl h
  · exact .inr ⟨b, o, c, h1, by omega, h3⟩
theorem ints.alloc {B : Nat} {w : World} {v : Value} {l : List Int} (h : ints B w v l) (ob : Obj) : ints B (w.alloc ob) v l := by
  rcases h with h | ⟨b, o, c, h1, h2, h3, h4⟩
  · exact .inl h
  · exact .inr ⟨b, o, c, h1, h2, by simp; omega, fun j hj => ((Below.refl w.heap.size w).alloc (Nat.le_refl _) ob |>.cell (p := ⟨b, o + j, none⟩) h3).trans (h4 j hj)⟩
theorem ints.setCell {B : Nat} {w : World} {v : Value} {l : List Int} (h : ints B w v l) (a : Addr) (ha : B ≤ a.block) (u : Value) : ints B (w.setCell a u) v l :=
  h.below ((Below.refl B w).setCell ha u) (Nat.le_refl _)
theorem ints.shape {B : Nat} {w : World} {v : Value} {l : List Int} (h : ints B w v l) : ∃ a c, v = .slice a l.length c := by
  rcases h with ⟨rfl, h⟩ | ⟨b, o, c, h1, _⟩
  · exact h
  · exact ⟨_, _, h1⟩
theorem ints.one {B : Nat} {w : World} {v : Value} {l : List Int} (h : ints B w v l) : v.oneCell' = true := by
  obtain ⟨a, c, rfl⟩ := h.shape; rfl
theorem ints_nil (B : Nat) (w : World) (a : Option Addr) (c : Nat) : ints B w (.slice a 0 c) [] := .inl ⟨rfl, a, c, rfl⟩

theorem wpList_len {t I : TypeId} (ht : P.underlying t = some (.slice I)) {ops : Array Oper} {rest : List Oper} {o : Oper} {a : Act} {w : World} {Q : Exit → Act → World → Prop} (hw : Region.wanted o (yielded ops a.tmps) = true)
    (x : Operand) (ho : o.op = .call { callee := .builtin .len, args := #[x], argTypes := #[t] }) (v : Value) (hx : a.eval x = v) (B : Nat) (l : List Int) (hl : ints B w v l)
    (h : wpList P ops Q rest (a.put o.dst (.int .i64 (l.length : Int))) w) : wpList P ops Q (o :: rest) a w := by
  obtain ⟨b, c, rfl⟩ := hl.shape
  have he : P.underlying t = some (.slice (P.elem t)) := by
    rw [ht]; simp [Program.elem, ht]
  have hr : (Builtin.len_ #[t] o.type #[.slice b l.length c]).run P w = .ok (.int .i64 (l.length : Int)) w := by
    rw [run_len_slice (h := he)]
    simp [goInt]
  refine wpList_of_wp hw fun K hK => ?_
  unfold Oper.wp execOp
  simp only [ho, resolve, invoke, Sem.run_bind, Sem.run_pure, Result.andThen_ok, List.map_toArray, List.map_cons, List.map_nil, hx, BigFrame.builtin_len, hr]
  exact hK _ _ h

/-- The address of an element that is there. -/
theorem wpList_at {t I : TypeId} (ht : P.underlying t = some (.slice I)) (hI : (P.info? I).map (·.size) = some 1) {ops : Array Oper} {rest : List Oper} {o : Oper} {a : Act} {w : World} {Q : Exit → Act → World → Prop} (hw : Region.wanted o (yielded ops a.tmps) = true)
    (x y : Operand) (ho : o.op = .indexAddr t x y) (v : Value) (hx : a.eval x = v) (k : Nat) (hy : a.eval y = .int .i64 (k : Int)) (B : Nat) (l : List Int) (hl : ints B w v l) (hk : k < l.length)
    (h : ∀ ad : Addr, w.cell? ad = some (.int .i64 (l[k]?.getD 0)) → ad.block < B → wpList P ops Q rest (a.put o.dst (.pointer (some ad))) w) : wpList P ops Q (o :: rest) a w := by
  rcases hl with ⟨rfl, _⟩ | ⟨b, of, c, rfl, h2, h3, h4⟩
  · simp at hk
  have he : P.underlying t = some (.slice (P.elem t)) := by
    rw [ht]; simp [Program.elem, ht]
  have hE : P.elem t = I := by simp [Program.elem, ht]
  have hs : (sizeOf I).run P w = .ok 1 w := by
    cases hq : P.info? I with
    | none => simp [hq] at hI
    | some j =>
      have : j.size = 1 := by simpa [hq] using hI
      simp [sizeOf, typeInfo, hq, this]
  have hr : (Instr.indexAt t (.slice (some ⟨b, of, none⟩) l.length c) (.int .i64 (k : Int))).run P w = .ok (.pointer (some ⟨b, of + k, none⟩)) w := by
    rw [run_indexAt_slice (h := he), if_pos (by omega), hE, hs]
    simp [Addr.add]
  refine wpList_of_wp hw fun K hK => ?_
  unfold Oper.wp execOp
  simp only [ho, hx, hy, Sem.run_bind, Sem.run_pure, hr, Result.andThen_ok]
  exact hK _ _ (h ⟨b, of + k, none⟩ (h4 k hk) h2)

theorem wpList_atI {t I : TypeId} (ht : P.underlying t = some (.slice I)) (hI : (P.info? I).map (·.size) = some 1) {ops : Array Oper} {rest : List Oper} {o : Oper} {a : Act} {w : World} {Q : Exit → Act → World → Prop} (hw : Region.wanted o (yielded ops a.tmps) = true)
    (x y : Operand) (ho : o.op = .indexAddr t x y) (v : Value) (hx : a.eval x = v) (i : Int) (hy : a.eval y = .int .i64 i) (k : Nat) (hik : i = (k : Int)) (B : Nat) (l : List Int) (hl : ints B w v l) (hk : k < l.length)
    (h : ∀ ad : Addr, w.cell? ad = some (.int .i64 (l[k]?.getD 0)) → ad.block < B → wpList P ops Q rest (a.put o.dst (.pointer (some ad))) w) : wpList P ops Q (o :: rest) a w :=
  wpList_at ht hI hw x y ho v hx k (by rw [hy, hik]) B l hl hk h

/-! ### A slice that the call itself made -/
def own (I : TypeId) (w : World) (base : Nat) (v : Value) (l : List Int) : Prop := w.ownsRow base I 1 v l.length (l.map (Value.int .i64))
theorem own_nil (I : TypeId) (w : World) (base : Nat) : own I w base (.slice none 0 0) [] := World.ownsRow_nil _ _ _ _
theorem own.alloc {I : TypeId} {w : World} {base : Nat} {v : Value} {l : List Int} (h : own I w base v l) (o : Obj) : own I (w.alloc o) base v l := World.ownsRow.alloc h o
theorem own.mono {I : TypeId} {w : World} {base base' : Nat} {v : Value} {l : List Int} (h : own I w base v l) (hb : base' ≤ base) : own I w base' v l := by
  obtain ⟨h1, h2⟩ := h
  refine ⟨h1, ?_⟩
  rcases h2 with h2 | ⟨g, cap, cur, e, hg, r⟩
  · exact .inl h2
  · exact .inr ⟨g, cap, cur, e, by omega, r⟩
/-- Blocks below B are as they were; from B on only new blocks and the slice's own one may differ. -/
theorem own.kept {I : TypeId} {w w' : World} {base : Nat} {v : Value} {l : List Int} (h : own I w base v l) (hb : Below w.heap.size w w') : own I w' base v l := by
  obtain ⟨h1, h2⟩ := h
  refine ⟨h1, ?_⟩
  rcases h2 with h2 | ⟨g, cap, cur, e, hg, hh, r⟩
  · exact .inl h2
  · exact .inr ⟨g, cap, cur, e, hg, (hb.block g (hp_lt hh)).trans hh, r⟩
theorem own.ints {I : TypeId} {w : World} {base : Nat} {v : Value} {l : List Int} (h : own I w base v l) : ints w.heap.size w v l := by
  obtain ⟨h1, h2⟩ := h
  rcases h2 with ⟨e, h2⟩ | ⟨g, cap, cur, e, hg, hh, h3, h4, h5, h6⟩
  · have : l = [] := List.eq_nil_of_length_eq_zero h2
    subst this
    exact .inl ⟨rfl, none, 0, e⟩
  · refine .inr ⟨g, 0, cap, e, hp_lt hh, hp_lt hh, fun j hj => ?_⟩
    rw [Nat.zero_add, hp_cell hh]
    have h7 : (cur.toList.take (l.length * 1))[j]? = (l.map (Value.int .i64))[j]? := by rw [h6]
    rw [List.getElem?_take, if_pos (by omega), List.getElem?_map, List.getElem?_eq_getElem hj] at h7
    rw [← Array.getElem?_toList, h7, List.getElem?_eq_getElem hj]
    rfl
theorem own.shape {I : TypeId} {w : World} {base : Nat} {v : Value} {l : List Int} (h : own I w base v l) : ∃ a c, v = .slice a l.length c := h.ints.shape

/-- One number is appended. -/
theorem wpList_append1 {t I : TypeId} (ht : P.underlying t = some (.slice I)) (hI : (P.info? I).map (fun i => (i.zero, i.size, i.bytes)) = some (some (.int .i64 0), 1, 8))
    {ops : Array Oper} {rest : List Oper} {o : Oper} {a : Act} {w : World} {Q : Exit → Act → World → Prop} (hgd : o.guard = none) (s x : Operand)
    (ho : o.op = .call { callee := .builtin .append, args := #[s, x], argTypes := #[t, t] }) (base : Nat) (v : Value) (l : List Int) (hs : a.eval s = v) (hown : own I w base v l)
    (g : Nat) (y : Int) (hx : a.eval x = .slice (some ⟨g, 0, none⟩) 1 1) (hg : w.cell? ⟨g, 0, none⟩ = some (.int .i64 y)) (hbase : base ≤ w.heap.size) (hlen : l.length < 1000000000)
    (h : ∀ v' w', own I w' base v' (l ++ [y]) → Below base w w' → wpList P ops Q rest (a.put o.dst v') w') : wpList P ops Q (o :: rest) a w := by
  obtain ⟨i0, hi, hz0, hz1, hz2⟩ := info_parts hI
  refine wpList_append_own w hgd s x t ho base I i0 (.int .i64 0) 1 8 ht hi hz0 hz1 hz2 rfl (by decide) v l.length _ hs hown ⟨g, 0, none⟩ 1 1 [.int .i64 y] hx rfl ?_ ?_ (by unfold maxLen; omega) (by omega) hbase ?_
  · intro j u hj
    match j, hj with
    | 0, hj => simp at hj; subst hj; simpa [Addr.add] using hg
  · intro u hu; simp at hu; subst hu; rfl
  · intro v' w' hown' hgrow _
    refine h v' w' ?_ ?_
    · simpa [own] using hown'
    · refine ⟨hgrow.os, hgrow.tape, hgrow.output, hgrow.size, fun k hk => hgrow.block k (by omega) ?_⟩
      intro e
      have := (World.ownsRow.lt hown k e.symm).1
      omega

end
end Go.Proofs.YtblglkgmnaklbaaDoor
/- Two laws that the program's families want: '==' on two families; a drawn region walked by hand, loads first. No program is named here. -/
namespace Go.Proofs.YtblglkgmnaklbaaDoor
open Go.RowKit
section
variable {P : Program}

theorem run_isAgg {ty : TypeId} {b : Bool} (h : (P.underlying ty).map TypeDesc.isRow = some b) (w : World) : (isAgg ty).run P w = .ok b w := by
  unfold isAgg
  cases hq : P.underlying ty with
  | none => simp [hq] at h
  | some d =>
    rw [Sem.run_bind, run_underlying hq w]
    have h' : d.isRow = b := by simpa [hq] using h
    cases d <;> simp_all [TypeDesc.isRow]
theorem run_sizeOf' {ty : TypeId} {n : Nat} (h : (P.info? ty).map (·.size) = some n) (w : World) : (sizeOf ty).run P w = .ok n w := by
  cases hq : P.info? ty with
  | none => simp [hq] at h
  | some j =>
    have : j.size = n := by simpa [hq] using h
    simp [sizeOf, typeInfo, hq, this]
theorem run_part_cell {ty : TypeId} (h : (P.underlying ty).map TypeDesc.isRow = some false) (w : World) (cs : Array Value) (i : Nat) (v : Value) (hv : cs[i]? = some v) : (part ty cs i).run P w = .ok v w := by
  unfold part
  simp only [Sem.run_bind, run_isAgg h, Result.andThen_ok, hv]
  simp

def allEq (F G : Nat → Bool) : Bool := (List.range 128).all fun i => F i == G i
theorem run_eqItems_marks {B : TypeId} (hu : P.underlying B = some .bool) (d : Nat) (F G : Nat → Bool) (w : World) : ∀ is : List Nat, (∀ i ∈ is, i < 128) →
    (Op.eqItems (d + 1) B 1 (famRow F).toArray (famRow G).toArray is).run P w = .ok (is.all fun i => F i == G i) w
  | [], _ => by simp [Op.eqItems]
  | i :: is, h => by
    have hr : (P.underlying B).map TypeDesc.isRow = some false := by rw [hu]; rfl
    have h1 : (famRow F).toArray[i * 1]? = some (.bool (F i)) := by simpa using famRow_get F i (h i (by simp))
    have h2 : (famRow G).toArray[i * 1]? = some (.bool (G i)) := by simpa using famRow_get G i (h i (by simp))
    simp only [Op.eqItems, Sem.run_bind, run_part_cell hr w _ _ _ h1, run_part_cell hr w _ _ _ h2, Result.andThen_ok, run_equalIn_bool' w d B _ _ hu]
    cases hb : (F i == G i)
    · simp [hb]
    · have := run_eqItems_marks hu d F G w is fun j hj => h j (by simp [hj])
      simp [hb, this]
theorem run_eql_fam {T A B I : TypeId} (hT : P.underlying T = some (.struct (P.fieldsOf T))) (hst : P.stoodInHeld T = false)
    (hF : (P.fieldsOf T).toList.map (fun f => (f.name == "_", f.type, f.offset)) = [(false, I, 0), (false, A, 1)]) (hI : P.underlying I = some (.int .i64)) (hA : P.underlying A = some (.array 128 B)) (hB : P.underlying B = some .bool)
    (hcB : P.cellsOf B = 1) (hBi : (P.info? B).isSome = true) (hS : (P.info? A).map (·.size) = some 128) (w : World) (n m : Int) (F G : Nat → Bool) :
    (binOp .eql T (.agg (fam n F)) (.agg (fam m G))).run P w = .ok (.bool (n == m && allEq F G)) w := by
  rw [run_eql_struct, run_equalIn_struct w 9999 T _ _ hT hst]
  generalize (P.fieldsOf T).toList = fs at hF
  match fs, hF with
  | [], hF => simp at hF
  | [_], hF => simp at hF
  | _ :: _ :: _ :: _, hF => simp at hF
  | [f0, f1], hF =>
    simp only [List.map_cons, List.map_nil, List.cons.injEq, Prod.mk.injEq, and_true] at hF
    obtain ⟨⟨a0, a1, a2⟩, b0, b1, b2⟩ := hF
    have a0' : f0.name ≠ "_" := by simpa using a0
    have b0' : f1.name ≠ "_" := by simpa using b0
    have hIr : (P.underlying I).map TypeDesc.isRow = some false := by rw [hI]; rfl
    have hAr : (P.underlying A).map TypeDesc.isRow = some true := by rw [hA]; rfl
    obtain ⟨bi, hbi⟩ := Option.isSome_iff_exists.1 hBi
    have hp : ∀ k F, (part A (fam k F) 1).run P w = .ok (.agg (famRow F).toArray) w := fun k F => by
      unfold part
      have e : (fam k F).extract 1 (1 + 128) = (famRow F).toArray := by rw [← fam_extract k F]
      simp only [Sem.run_bind, run_isAgg hAr, Result.andThen_ok, if_true]
      simp only [run_sizeOf' hS, Result.andThen_ok, e]
      simp
    have hm := run_eqItems_marks (P := P) hB 9997 F G w (List.range 128) (by simp)
    simp only [Op.eqFields, a0', b0', ne_eq, not_false_eq_true, if_true, a1, a2, b1, b2, Sem.run_bind, run_part_cell hIr w _ _ _ (fam_get0 n F), run_part_cell hIr w _ _ _ (fam_get0 m G), Result.andThen_ok,
      run_equalIn_int w 9998 I .i64 .i64 n m hI]
    have ha : (Op.equalIn 9999 A (.agg (famRow F).toArray) (.agg (famRow G).toArray)).run P w = .ok (allEq F G) w := (run_equalIn_array w 9998 (famRow F).toArray (famRow G).toArray hA hbi).trans (by rw [hcB]; exact hm)
    cases hb : (n == m)
    · simp
    · cases hq : allEq F G <;> simp [hp, ha, hq]

theorem run_op_eql {T : TypeId} (hg : P.eqGuardType P.depth T = false) {o : Oper} (x y : Operand) (ho : o.op = .binOp .eql T x y T) {a : Act} {xs ys : Array Value} (hx : a.eval x = .agg xs) (hy : a.eval y = .agg ys) {w : World} {b : Bool}
    (h : (binOp .eql T (.agg xs) (.agg ys)).run P w = .ok (.bool b) w) : (execOp a.eval o).run P w = .ok (.value (.bool b)) w := by
  unfold execOp
  simp only [ho, hx, hy, Sem.run_bind, run_eqGuard_agg w .eql T x y xs ys hg, Result.andThen_ok, h, Sem.run_pure]

/-! ### A drawn region by hand: S holds in every world of it -/
variable {ops : Array Oper} {Q : Exit → Act → World → Prop} {md : Region.Mode} {S : World → Prop} {fuel : Nat} {listed : Array Bool} {a : Act} {w : World}
theorem yields_load_fam {T : TypeId} (hT : (P.underlying T).map TypeDesc.isRow = some true) (hS : (P.info? T).map (·.size) = some 129) {o : Oper} (hw : Region.wanted o (yielded ops a.tmps) = true) (x : Operand) (ho : o.op = .load T x)
    (g : Nat) (hx : a.eval x = .pointer (some ⟨g, 0, none⟩)) (n : Int) (F : Nat → Bool) (hg : ∀ w, S w → famAt T w g n F) : YieldsIf P ops S o (.agg (fam n F)) a := by
  obtain ⟨d, hu, hd⟩ := rowTy_of hT
  refine .inl ⟨hw, fun w hC => ?_⟩
  unfold execOp
  simp only [ho, hx, Instr.loadAt, Instr.sureAddr, Sem.run_bind, Sem.run_pure, Result.andThen_ok, run_loadVar_row w g T T (fam n F) (0, 0) d (hg w hC) hu (by cases d <;> first | rfl | (cases hd)) (by rw [hS, fam_size])]
theorem yields_load_cell {ty : TypeId} (hT : (P.underlying ty).map TypeDesc.isRow = some false) {o : Oper} (hw : Region.wanted o (yielded ops a.tmps) = true) (x : Operand) (ho : o.op = .load ty x)
    (ad : Addr) (hx : a.eval x = .pointer (some ad)) (v : Value) (hg : ∀ w, S w → w.cell? ad = some v) : YieldsIf P ops S o v a := by
  refine .inl ⟨hw, fun w hC => ?_⟩
  unfold execOp
  have hl : (load ad).run P w = .ok v w := by simp [run_load, hg w hC]
  simp only [ho, hx, Instr.loadAt, Instr.sureAddr, Sem.run_bind, Sem.run_pure, Result.andThen_ok, loadVar, run_isAgg hT, hl, Bool.false_eq_true, if_false]
theorem anyH_call {i : Nat} {o : Oper} (hr : Region.ready md ops listed = [i]) (hi : ops[i]? = some o) (hw : Region.wanted o (yielded ops a.tmps) = true) (k : FuncId) (hk : enters P k) (xs : Array Operand) (ts : Array TypeId)
    (ho : o.op = .call { callee := .value (.func k), args := xs, argTypes := ts }) (args : Array Value) (hal : xs.toList.map a.eval = args.toList) {R : Ending → World → Prop} (hc : Calls P k args w R)
    (h : ∀ e w', R e w' → ∃ v, e = .returned v ∧ S w' ∧ wpAnyH P md ops Q S fuel (listed.setIfInBounds i true) (a.put o.dst v) w') : wpAnyH P md ops Q S (fuel + 1) listed a w := by
  have ha : xs.map a.eval = args := Array.toList_inj.1 (by simpa using hal)
  refine wpAnyH_all hr (by simp) fun j hj => ?_
  have hj' : j = i := by simpa using hj
  subst hj'
  unfold wpOp
  simp only [hi, hw, if_true]
  refine .inl ?_
  obtain ⟨dst, op, ty, pos, after, guard⟩ := o
  simp only at ho
  subst ho
  unfold Oper.wp
  rw [execOp_call_go, ha]
  simp only [Array.append_empty, Array.empty_append]
  rw [hk]
  refine hc.mono fun e w' hR => ?_
  obtain ⟨v, rfl, h1, h2⟩ := h e w' hR
  exact ⟨h1, h2⟩
theorem anyH_op {i : Nat} {o : Oper} (hr : Region.ready md ops listed = [i]) (hi : ops[i]? = some o) (hw : Region.wanted o (yielded ops a.tmps) = true) (v : Value) (w' : World)
    (hrun : (execOp a.eval o).run P w = .ok (.value v) w') (hS : S w') (h : wpAnyH P md ops Q S fuel (listed.setIfInBounds i true) (a.put o.dst v) w') : wpAnyH P md ops Q S (fuel + 1) listed a w := by
  refine wpAnyH_all hr (by simp) fun j hj => ?_
  have hj' : j = i := by simpa using hj
  subst hj'
  unfold wpOp
  simp only [hi, hw, if_true]
  refine .inl ?_
  unfold Oper.wp
  rw [hrun]
  exact ⟨hS, h⟩
theorem anyH_skip {i : Nat} {o : Oper} (hr : Region.ready md ops listed = [i]) (hi : ops[i]? = some o) (hw : Region.wanted o (yielded ops a.tmps) = true) (w' : World)
    (hrun : (execOp a.eval o).run P w = .ok .skip w') (hS : S w') (h : wpAnyH P md ops Q S fuel (listed.setIfInBounds i true) (a.put o.dst undef) w') : wpAnyH P md ops Q S (fuel + 1) listed a w := by
  refine wpAnyH_all hr (by simp) fun j hj => ?_
  have hj' : j = i := by simpa using hj
  subst hj'
  unfold wpOp
  simp only [hi, hw, if_true]
  refine .inl ?_
  unfold Oper.wp
  rw [hrun]
  exact ⟨hS, h⟩
end
end Go.Proofs.YtblglkgmnaklbaaDoor
/- Steps of a drawn region that only reads, walked once in the order of the text: a cell, a length, an element. No program is named here. -/
namespace Go.Proofs.YtblglkgmnaklbaaDoor
open Go.RowKit
section
variable {P : Program} {ops : Array Oper} {rest : List Oper} {o : Oper} {a : Act} {C : World → Prop} {Q : Act → Prop}
theorem q_load_cell {ty : TypeId} (hT : (P.underlying ty).map TypeDesc.isRow = some false) (hw : Region.wanted o (yielded ops a.tmps) = true) (x : Operand) (ho : o.op = .load ty x)
    (ad : Addr) (hx : a.eval x = .pointer (some ad)) (v : Value) (hg : ∀ w, C w → w.cell? ad = some v)
    (h : wpQuiet P ops C Q rest (a.put o.dst v)) : wpQuiet P ops C Q (o :: rest) a := by
  refine BigFrame.wpQuiet_want hw fun K hK => ⟨_, fun w hC => ?_, hK _ h⟩
  have hl : (load ad).run P w = .ok v w := by simp [run_load, hg w hC]
  unfold Oper.quietAt execOp
  simp only [ho, hx, Instr.loadAt, Instr.sureAddr, Sem.run_bind, Sem.run_pure, Result.andThen_ok, loadVar, run_isAgg hT, hl, Bool.false_eq_true, if_false]
  exact ⟨rfl, rfl⟩
theorem q_len {t I : TypeId} (ht : P.underlying t = some (.slice I)) (hw : Region.wanted o (yielded ops a.tmps) = true)
    (x : Operand) (ho : o.op = .call { callee := .builtin .len, args := #[x], argTypes := #[t] }) (v : Value) (hx : a.eval x = v) (n : Nat) (hv : ∃ b c, v = .slice b n c)
    (h : wpQuiet P ops C Q rest (a.put o.dst (.int .i64 (n : Int)))) : wpQuiet P ops C Q (o :: rest) a := by
  obtain ⟨b, c, rfl⟩ := hv
  have he : P.underlying t = some (.slice (P.elem t)) := by
    rw [ht]; simp [Program.elem, ht]
  refine BigFrame.wpQuiet_want hw fun K hK => ⟨_, fun w hC => ?_, hK _ h⟩
  have hr : (Builtin.len_ #[t] o.type #[.slice b n c]).run P w = .ok (.int .i64 (n : Int)) w := by
    rw [run_len_slice (h := he)]
    simp [goInt]
  unfold Oper.quietAt execOp
  simp only [ho, resolve, invoke, Sem.run_bind, Sem.run_pure, Result.andThen_ok, List.map_toArray, List.map_cons, List.map_nil, hx, BigFrame.builtin_len, hr]
  exact ⟨rfl, rfl⟩
theorem q_at {t I : TypeId} (ht : P.underlying t = some (.slice I)) (hI : (P.info? I).map (·.size) = some 1) (hw : Region.wanted o (yielded ops a.tmps) = true)
    (x y : Operand) (ho : o.op = .indexAddr t x y) (v : Value) (hx : a.eval x = v) (i : Int) (hy : a.eval y = .int .i64 i) (k : Nat) (hik : i = (k : Int)) (B : Nat) (l : List Int) (w0 : World) (hl : ints B w0 v l) (hk : k < l.length)
    (h : ∀ ad : Addr, w0.cell? ad = some (.int .i64 (l[k]?.getD 0)) → ad.block < B → wpQuiet P ops C Q rest (a.put o.dst (.pointer (some ad)))) : wpQuiet P ops C Q (o :: rest) a := by
  subst hik
  rcases hl with ⟨rfl, _⟩ | ⟨b, of, c, rfl, h2, h3, h4⟩
  · simp at hk
  have he : P.underlying t = some (.slice (P.elem t)) := by
    rw [ht]; simp [Program.elem, ht]
  have hE : P.elem t = I := by simp [Program.elem, ht]
  refine BigFrame.wpQuiet_want hw fun K hK => ⟨_, fun w hC => ?_, hK _ (h ⟨b, of + k, none⟩ (h4 k hk) h2)⟩
  have hr : (Instr.indexAt t (.slice (some ⟨b, of, none⟩) l.length c) (.int .i64 (k : Int))).run P w = .ok (.pointer (some ⟨b, of + k, none⟩)) w := by
    rw [run_indexAt_slice (h := he), if_pos (by omega), hE, run_sizeOf' hI]
    simp [Addr.add]
  unfold Oper.quietAt execOp
  simp only [ho, hx, hy, Sem.run_bind, Sem.run_pure, hr, Result.andThen_ok]
  exact ⟨rfl, rfl⟩
/-- A call that leaves the world as it is. -/
theorem q_pure {w : World} (hw : Region.wanted o (yielded ops a.tmps) = true) (k : FuncId) (hk : enters P k) (xs : Array Operand) (ts : Array TypeId)
    (ho : o.op = .call { callee := .value (.func k), args := xs, argTypes := ts }) (args : Array Value) (hal : xs.toList.map a.eval = args.toList) (v : Value)
    (hc : ∀ w', Below w.heap.size w w' → Calls P k args w' fun e w'' => e = .returned v ∧ w' = w'')
    (h : wpQuiet P ops (fun w' => Below w.heap.size w w') Q rest (a.put o.dst v)) : wpQuiet P ops (fun w' => Below w.heap.size w w') Q (o :: rest) a :=
  q_call hw k hk xs ts ho args (Array.toList_inj.1 (by simpa using hal)) v (fun w' hb => (hc w' hb).mono fun e w'' ⟨he, e2⟩ => ⟨he, by subst e2; exact Below.refl _ _⟩) h
end
end Go.Proofs.YtblglkgmnaklbaaDoor
/- A drawn region by hand: two operations may come up, one that only reads and a call that leaves the world alone: whichever comes first. No program is named here. -/
namespace Go.Proofs.YtblglkgmnaklbaaDoor
open Go.RowKit
section
variable {P : Program} {ops : Array Oper} {Q : Exit → Act → World → Prop} {md : Region.Mode} {S : World → Prop} {fuel : Nat} {listed : Array Bool} {a : Act} {w : World}
theorem anyH_op_call {i j : Nat} {oi oj : Oper} (hr : Region.ready md ops listed = [i, j]) (hri : Region.ready md ops (listed.setIfInBounds i true) = [j]) (hrj : Region.ready md ops (listed.setIfInBounds j true) = [i])
    (hi : ops[i]? = some oi) (hj : ops[j]? = some oj) (hij : i ≠ j) (v u : Value) (hcomm : (a.put oj.dst u).put oi.dst v = (a.put oi.dst v).put oj.dst u)
    (hwi : Region.wanted oi (yielded ops a.tmps) = true) (hwi2 : Region.wanted oi (yielded ops (a.put oj.dst u).tmps) = true)
    (hwj : Region.wanted oj (yielded ops a.tmps) = true) (hwj2 : Region.wanted oj (yielded ops (a.put oi.dst v).tmps) = true)
    (hrun : (execOp a.eval oi).run P w = .ok (.value v) w) (hrun2 : (execOp (a.put oj.dst u).eval oi).run P w = .ok (.value v) w)
    (k : FuncId) (hk : enters P k) (xs : Array Operand) (ts : Array TypeId) (ho : oj.op = .call { callee := .value (.func k), args := xs, argTypes := ts }) (args : Array Value)
    (hal : xs.toList.map a.eval = args.toList) (hal2 : xs.toList.map (a.put oi.dst v).eval = args.toList) (hc : Calls P k args w fun e w' => e = .returned u ∧ w = w') (hS : S w)
    (h : wpAnyH P md ops Q S fuel ((listed.setIfInBounds i true).setIfInBounds j true) ((a.put oi.dst v).put oj.dst u) w) : wpAnyH P md ops Q S (fuel + 1 + 1) listed a w := by
  refine wpAnyH_all hr (by simp) fun x hx => ?_
  rcases (show x = i ∨ x = j by simpa using hx) with rfl | rfl
  · unfold wpOp
    simp only [hi, hwi, if_true]
    refine .inl ?_
    unfold Oper.wp
    rw [hrun]
    refine ⟨hS, ?_⟩
    refine anyH_call hri hj hwj2 k hk xs ts ho args hal2 hc ?_
    rintro e w' ⟨rfl, rfl⟩
    exact ⟨u, rfl, hS, h⟩
  · unfold wpOp
    simp only [hj, hwj, if_true]
    refine .inl ?_
    have ha : xs.map a.eval = args := Array.toList_inj.1 (by simpa using hal)
    obtain ⟨dst, op, ty, pos, after, guard⟩ := oj
    simp only at ho
    subst ho
    unfold Oper.wp
    rw [execOp_call_go, ha]
    simp only [Array.append_empty, Array.empty_append]
    rw [hk]
    refine hc.mono ?_
    rintro e w' ⟨rfl, rfl⟩
    refine ⟨hS, ?_⟩
    refine anyH_op hrj hi hwi2 v w hrun2 hS ?_
    rw [hcomm, Array.setIfInBounds_comm _ _ (Ne.symm hij)]
    exact h
theorem wpOp_op {i : Nat} {o : Oper} {K : Act → World → Prop} (hi : ops[i]? = some o) (hw : Region.wanted o (yielded ops a.tmps) = true) (v : Value) (w' : World) (hrun : (execOp a.eval o).run P w = .ok (.value v) w') (h : K (a.put o.dst v) w') : wpOp P ops Q i K a w := by
  unfold wpOp
  simp only [hi, hw, if_true]
  refine .inl ?_
  unfold Oper.wp
  rw [hrun]
  exact h
theorem wpOp_pure {j : Nat} {oj : Oper} {K : Act → World → Prop} (hj : ops[j]? = some oj) (hwj : Region.wanted oj (yielded ops a.tmps) = true) (u : Value) (kf : FuncId) (hk : enters P kf) (xs : Array Operand) (ts : Array TypeId)
    (ho : oj.op = .call { callee := .value (.func kf), args := xs, argTypes := ts }) (args : Array Value) (hal : xs.toList.map a.eval = args.toList) (hc : Calls P kf args w fun e w' => e = .returned u ∧ w = w') (h : K (a.put oj.dst u) w) : wpOp P ops Q j K a w := by
  unfold wpOp
  simp only [hj, hwj, if_true]
  refine .inl ?_
  have ha : xs.map a.eval = args := Array.toList_inj.1 (by simpa using hal)
  obtain ⟨dst, op, ty, pos, after, guard⟩ := oj
  simp only at ho
  subst ho
  unfold Oper.wp
  rw [execOp_call_go, ha]
  simp only [Array.append_empty, Array.empty_append]
  rw [hk]
  refine hc.mono ?_
  rintro e w' ⟨rfl, rfl⟩
  exact h
/-- A load (i), a call that leaves the world alone (j), an address that hangs on it (k), a load there (l): in whatever order. -/
theorem anyH_load_call_load {i j k l : Nat} {oi oj ok ol : Oper} (hr : Region.ready md ops listed = [i, j]) (hri : Region.ready md ops (listed.setIfInBounds i true) = [j]) (hrij : Region.ready md ops ((listed.setIfInBounds i true).setIfInBounds j true) = [k])
    (hrijk : Region.ready md ops (((listed.setIfInBounds i true).setIfInBounds j true).setIfInBounds k true) = [l])
    (hrjk : Region.ready md ops ((listed.setIfInBounds j true).setIfInBounds k true) = [i, l])
    (hrjki : Region.ready md ops (((listed.setIfInBounds j true).setIfInBounds k true).setIfInBounds i true) = [l])
    (hrjkl : Region.ready md ops (((listed.setIfInBounds j true).setIfInBounds k true).setIfInBounds l true) = [i])
    (hi : ops[i]? = some oi) (hj : ops[j]? = some oj) (hk0 : ops[k]? = some ok) (hl0 : ops[l]? = some ol) (v u z y : Value)
    (hl1 : (((listed.setIfInBounds j true).setIfInBounds k true).setIfInBounds i true).setIfInBounds l true = (((listed.setIfInBounds i true).setIfInBounds j true).setIfInBounds k true).setIfInBounds l true)
    (hl2 : (((listed.setIfInBounds j true).setIfInBounds k true).setIfInBounds l true).setIfInBounds i true = (((listed.setIfInBounds i true).setIfInBounds j true).setIfInBounds k true).setIfInBounds l true)
    (hc1 : (((a.put oj.dst u).put ok.dst z).put oi.dst v).put ol.dst y = (((a.put oi.dst v).put oj.dst u).put ok.dst z).put ol.dst y)
    (hc2 : (((a.put oj.dst u).put ok.dst z).put ol.dst y).put oi.dst v = (((a.put oi.dst v).put oj.dst u).put ok.dst z).put ol.dst y)
    (hs : Region.noSelect ops = true) (hf : Region.free md ops (listed.setIfInBounds j true) k = true) (hrc : (Region.ready md ops (listed.setIfInBounds j true)).contains k = true)
    (hQ : ∀ c a w, Q (.panic c) (a.put ok.dst z) w → Q (.panic c) a w) (hy : YieldsIf P ops S ok z (a.put oj.dst u))
    (hwk : Region.wanted ok (yielded ops ((a.put oi.dst v).put oj.dst u).tmps) = true) (hrunk : (execOp ((a.put oi.dst v).put oj.dst u).eval ok).run P w = .ok (.value z) w)
    (hwi : Region.wanted oi (yielded ops a.tmps) = true) (hwi2 : Region.wanted oi (yielded ops ((a.put oj.dst u).put ok.dst z).tmps) = true) (hwi3 : Region.wanted oi (yielded ops (((a.put oj.dst u).put ok.dst z).put ol.dst y).tmps) = true)
    (hwj : Region.wanted oj (yielded ops a.tmps) = true) (hwj2 : Region.wanted oj (yielded ops (a.put oi.dst v).tmps) = true)
    (hwl : Region.wanted ol (yielded ops (((a.put oi.dst v).put oj.dst u).put ok.dst z).tmps) = true) (hwl2 : Region.wanted ol (yielded ops ((a.put oj.dst u).put ok.dst z).tmps) = true) (hwl3 : Region.wanted ol (yielded ops (((a.put oj.dst u).put ok.dst z).put oi.dst v).tmps) = true)
    (hrun : (execOp a.eval oi).run P w = .ok (.value v) w) (hrun2 : (execOp ((a.put oj.dst u).put ok.dst z).eval oi).run P w = .ok (.value v) w) (hrun3 : (execOp (((a.put oj.dst u).put ok.dst z).put ol.dst y).eval oi).run P w = .ok (.value v) w)
    (hrunl : (execOp (((a.put oi.dst v).put oj.dst u).put ok.dst z).eval ol).run P w = .ok (.value y) w) (hrunl2 : (execOp ((a.put oj.dst u).put ok.dst z).eval ol).run P w = .ok (.value y) w) (hrunl3 : (execOp (((a.put oj.dst u).put ok.dst z).put oi.dst v).eval ol).run P w = .ok (.value y) w)
    (kf : FuncId) (hk : enters P kf) (xs : Array Operand) (ts : Array TypeId) (ho : oj.op = .call { callee := .value (.func kf), args := xs, argTypes := ts }) (args : Array Value)
    (hal : xs.toList.map a.eval = args.toList) (hal2 : xs.toList.map (a.put oi.dst v).eval = args.toList) (hc : Calls P kf args w fun e w' => e = .returned u ∧ w = w') (hS : S w)
    (h : wpAnyH P md ops Q S fuel ((((listed.setIfInBounds i true).setIfInBounds j true).setIfInBounds k true).setIfInBounds l true) ((((a.put oi.dst v).put oj.dst u).put ok.dst z).put ol.dst y) w) : wpAnyH P md ops Q S (fuel + 1 + 1 + 1 + 1) listed a w := by
  refine wpAnyH_all hr (by simp) fun x hx => ?_
  rcases (show x = i ∨ x = j by simpa using hx) with rfl | rfl
  · refine wpOp_op hi hwi v w hrun ⟨hS, ?_⟩
    refine anyH_call hri hj hwj2 kf hk xs ts ho args hal2 hc ?_
    rintro e w' ⟨rfl, rfl⟩
    exact ⟨u, rfl, hS, anyH_op hrij hk0 hwk z w hrunk hS (anyH_op hrijk hl0 hwl y w hrunl hS h)⟩
  · refine wpOp_pure hj hwj u kf hk xs ts ho args hal hc ⟨hS, ?_⟩
    refine wpAnyH_take hk0 hs hf hrc hQ hy hS ?_
    refine wpAnyH_all hrjk (by simp) fun x hx => ?_
    rcases (show x = i ∨ x = l by simpa using hx) with rfl | rfl
    · refine wpOp_op hi hwi2 v w hrun2 ⟨hS, ?_⟩
      refine anyH_op hrjki hl0 hwl3 y w hrunl3 hS ?_
      rw [hc1, hl1]; exact h
    · refine wpOp_op hl0 hwl2 y w hrunl2 ⟨hS, ?_⟩
      refine anyH_op hrjkl hi hwi3 v w hrun3 hS ?_
      rw [hc2, hl2]; exact h
theorem anyH_store_fam {T : TypeId} (hSz : (P.info? T).map (·.size) = some 129) {i : Nat} {o : Oper} (hr : Region.ready md ops listed = [i]) (hi : ops[i]? = some o) (hw : Region.wanted o (yielded ops a.tmps) = true) (x y : Operand) (ho : o.op = .store T x y)
    (g : Nat) (m : Int) (G : Nat → Bool) (hx : a.eval x = .pointer (some ⟨g, 0, none⟩)) (hy : a.eval y = .agg (fam m G)) (n : Int) (F : Nat → Bool) (hg : famAt T w g n F) (hS : S (w.setRow g (fam m G)))
    (h : wpAnyH P md ops Q S fuel (listed.setIfInBounds i true) (a.put o.dst undef) (w.setRow g (fam m G))) : wpAnyH P md ops Q S (fuel + 1) listed a w := by
  refine wpAnyH_all hr (by simp) fun j hj => ?_
  have hj' : j = i := by simpa using hj
  subst hj'
  unfold wpOp
  simp only [hi, hw, if_true]
  exact .inl (wp_store_row T x y ho g (fam m G) hx hy T (fam n F) hg (by rw [hSz, fam_size]) (by rw [fam_size, fam_size]) (fam_one m G) ⟨hS, h⟩)
end
end Go.Proofs.YtblglkgmnaklbaaDoor
