/- Laws of my own that every text of mine imports: what a family of sets (a struct of a number and 128 marks) reads as, plain facts on blocks of memory, and facts on sums of powers of two. No program is named here. -/
import Derived.WalkKit
import Derived.LoopTactic
import Derived.Below
import Derived.Deep.MidRow
import Derived.ChangeAlike
import Derived.RegionTactic
import Derived.Outline
import Derived.WalkSpells
import Derived.Deep.LoopGhost
import Derived.Deep.QuietTactic
import Derived.BigQuiet
namespace Go.Proofs.Ytlgcnablhkmdaaa
open Go.RowKit

/-! ### The marks of a family -/
theorem hide {p : Prop} (h : p) : Hid p := h
def famRow (F : Nat → Bool) : List Value := (List.range 128).map fun i => Value.bool (F i)
def fam (n : Int) (F : Nat → Bool) : Array Value := (Value.int .i64 n :: famRow F).toArray
def upd (F : Nat → Bool) (i : Nat) (v : Bool) : Nat → Bool := fun j => if j = i then v else F j
def noSet : Nat → Bool := fun _ => false

theorem famRow_len (F : Nat → Bool) : (famRow F).length = 128 := by simp [famRow]
theorem fam_size (n : Int) (F : Nat → Bool) : (fam n F).size = 129 := by simp [fam, famRow_len]
@[go_sem] theorem famRow_get (F : Nat → Bool) (i : Nat) (h : i < 128) : (famRow F)[i]? = some (.bool (F i)) := by
  simp [famRow, h]
@[go_sem, simp] theorem fam_get0 (n : Int) (F : Nat → Bool) : (fam n F)[0]? = some (.int .i64 n) := by simp [fam]
theorem fam_get (n : Int) (F : Nat → Bool) (i : Nat) (h : i < 128) : (fam n F)[1 + i]? = some (.bool (F i)) := by
  rw [Nat.add_comm]; simp [fam, famRow_get F i h]
theorem fam_congr (n : Int) {F G : Nat → Bool} (h : ∀ i, i < 128 → F i = G i) : fam n F = fam n G := by
  unfold fam famRow
  rw [List.map_congr_left (fun i hi => by rw [h i (by simpa using hi)])]
theorem famRow_congr {F G : Nat → Bool} (h : ∀ i, i < 128 → F i = G i) : famRow F = famRow G := by
  unfold famRow
  exact List.map_congr_left (fun i hi => by rw [h i (by simpa using hi)])
theorem fam_set (n : Int) (F : Nat → Bool) (i : Nat) (v : Bool) (h : i < 128) : (fam n F).setIfInBounds (1 + i) (.bool v) = fam n (upd F i v) := by
  apply Array.ext_getElem?
  intro j
  rw [Array.getElem?_setIfInBounds]
  by_cases hj : 1 + i = j
  · subst hj
    rw [if_pos rfl, if_pos (by rw [fam_size]; omega), fam_get _ _ _ h]
    simp [upd]
  · rw [if_neg hj]
    cases j with
    | zero => rw [fam_get0, fam_get0]
    | succ j =>
      rw [Nat.add_comm j 1]
      by_cases h2 : j < 128
      · rw [fam_get _ _ _ h2, fam_get _ _ _ h2]
        have : ¬ j = i := by omega
        simp [upd, this]
      · rw [Array.getElem?_eq_none (by rw [fam_size]; omega), Array.getElem?_eq_none (by rw [fam_size]; omega)]
theorem fam_one (n : Int) (F : Nat → Bool) : (fam n F).all (·.oneCell') = true := by
  rw [Array.all_eq_true_iff_forall_mem]
  intro v hv
  simp [fam, famRow] at hv
  rcases hv with rfl | ⟨i, _, rfl⟩ <;> rfl
theorem fam_extract (n : Int) (F : Nat → Bool) : ((fam n F).extract 1 (1 + 128)).toList = famRow F := by
  apply List.ext_getElem?
  intro j
  by_cases h : j < 128
  · rw [famRow_get _ _ h, Array.getElem?_toList, Array.getElem?_extract]
    have : j < min (1 + 128) (fam n F).size - 1 := by rw [fam_size]; omega
    rw [if_pos this, fam_get _ _ _ h]
  · rw [List.getElem?_eq_none (l := famRow F) (by rw [famRow_len]; omega), List.getElem?_eq_none (by simp; omega)]

/-! ### Blocks -/
theorem hp_last (w : World) (o : Obj) : (w.alloc o).heap[w.heap.size]? = some o := by
  show (w.heap.push o)[w.heap.size]? = _
  simp
theorem hp_old (w : World) (o : Obj) (k : Nat) (h : k < w.heap.size) : (w.alloc o).heap[k]? = w.heap[k]? := Below.heap_alloc w o k h
theorem hp_set (w : World) (b i : Nat) (cs : Array Value) (t : TypeId) (v : Value) (h : w.heap[b]? = some (.cells cs t)) : (w.setCell ⟨b, i, none⟩ v).heap[b]? = some (.cells (cs.setIfInBounds i v) t) := by
  simp only [World.setCell, Array.getElem?_modify, if_true, h, Option.map_some]
  simp
theorem hp_setO (w : World) (a : Addr) (k : Nat) (v : Value) (h : k ≠ a.block) : (w.setCell a v).heap[k]? = w.heap[k]? := Below.heap_setCell w a v k h
theorem hp_row (w : World) (b : Nat) (cs c : Array Value) (t : TypeId) (h : w.heap[b]? = some (.cells cs t)) : (w.setRow b c).heap[b]? = some (.cells c t) := by
  simp only [World.setRow, Array.getElem?_modify, if_true, h, Option.map_some]
theorem hp_rowO (w : World) (b k : Nat) (c : Array Value) (h : k ≠ b) : (w.setRow b c).heap[k]? = w.heap[k]? := by
  simp only [World.setRow, Array.getElem?_modify]
  rw [if_neg (by omega)]
theorem hp_cell {w : World} {b : Nat} {cs : Array Value} {t : TypeId} {fr : Nat × Nat} (h : w.heap[b]? = some (.cells cs t fr)) (i : Nat) : w.cell? ⟨b, i, none⟩ = cs[i]? := by
  simp [World.cell?, h]
theorem hp_free {w : World} {b : Nat} {cs : Array Value} {t : TypeId} (h : w.heap[b]? = some (.cells cs t)) (i : Nat) : w.frozen? ⟨b, i, none⟩ = false := by
  simp [World.frozen?, h]
theorem hp_lt {w : World} {b : Nat} {o : Obj} (h : w.heap[b]? = some o) : b < w.heap.size := by
  rcases Nat.lt_or_ge b w.heap.size with h1 | h1
  · exact h1
  · rw [Array.getElem?_eq_none h1] at h; cases h
theorem bl_row {B : Nat} {a w : World} (h : Below B a w) {g : Nat} (hg : B ≤ g) (c : Array Value) : Below B a (w.setRow g c) :=
  h.trans ⟨rfl, rfl, rfl, by simp [World.setRow], fun k hk => hp_rowO _ _ _ _ (by omega)⟩

/-! ### The families in memory: block b is a family's variable (T: its type) -/
def famAt (T : TypeId) (w : World) (b : Nat) (n : Int) (F : Nat → Bool) : Prop := w.heap[b]? = some (.cells (fam n F) T)
theorem famAt.get {T : TypeId} {w : World} {b : Nat} {n : Int} {F : Nat → Bool} (h : famAt T w b n F) (i : Nat) (hi : i < 128) : w.cell? ⟨b, 1 + i, none⟩ = some (.bool (F i)) := by
  rw [hp_cell h, fam_get _ _ _ hi]
theorem famAt.get0 {T : TypeId} {w : World} {b : Nat} {n : Int} {F : Nat → Bool} (h : famAt T w b n F) : w.cell? ⟨b, 0, none⟩ = some (.int .i64 n) := by
  rw [hp_cell h, fam_get0]
theorem famAt.free {T : TypeId} {w : World} {b : Nat} {n : Int} {F : Nat → Bool} (h : famAt T w b n F) (i : Nat) : w.frozen? ⟨b, i, none⟩ = false := hp_free h i
theorem famAt.lt {T : TypeId} {w : World} {b : Nat} {n : Int} {F : Nat → Bool} (h : famAt T w b n F) : b < w.heap.size := hp_lt h
theorem famAt.below {T : TypeId} {w w' : World} {b B : Nat} {n : Int} {F : Nat → Bool} (h : famAt T w b n F) (hb : Below B w w') (hB : b < B) : famAt T w' b n F := (hb.block b hB).trans h
theorem famAt.new (T : TypeId) (w : World) (n : Int) (F : Nat → Bool) : famAt T (w.alloc (.cells (fam n F) T)) w.heap.size n F := hp_last _ _
theorem famAt.alloc {T : TypeId} {w : World} {b : Nat} {n : Int} {F : Nat → Bool} (h : famAt T w b n F) (o : Obj) : famAt T (w.alloc o) b n F := (hp_old w o b h.lt).trans h
theorem famAt.set {T : TypeId} {w : World} {b : Nat} {n : Int} {F : Nat → Bool} (h : famAt T w b n F) (i : Nat) (hi : i < 128) (v : Bool) : famAt T (w.setCell ⟨b, 1 + i, none⟩ (.bool v)) b n (upd F i v) := by
  unfold famAt
  rw [hp_set w b (1 + i) _ T _ h, fam_set _ _ _ _ hi]
theorem famAt.setO {T : TypeId} {w : World} {b : Nat} {n : Int} {F : Nat → Bool} (h : famAt T w b n F) (a : Addr) (ha : b ≠ a.block) (v : Value) : famAt T (w.setCell a v) b n F := (hp_setO w a b v ha).trans h
theorem famAt.row {T : TypeId} {w : World} {b : Nat} {n : Int} {F : Nat → Bool} (h : famAt T w b n F) (m : Int) (G : Nat → Bool) : famAt T (w.setRow b (fam m G)) b m G := hp_row w b _ _ T h
theorem famAt.range {T : TypeId} {w : World} {b : Nat} {n : Int} {F : Nat → Bool} (h : famAt T w b n F) : w.rangeAt b 1 (famRow F) := by
  intro j v hv
  rcases Nat.lt_or_ge j 128 with hj | hj
  · rw [famRow_get F j hj] at hv
    rw [h.get j hj]; exact hv
  · rw [List.getElem?_eq_none (by rw [famRow_len]; omega)] at hv; cases hv

/-! ### Functions called through a value: number k has a body -/
def enters (P : Program) (k : Nat) : Prop := ∀ (args : Array Value) (w : World), Sem.run P (callFunc k args) w = .ok (.enter k args) w
theorem enters_of {P : Program} {k : Nat} {fn : Func} (hf : P.funcs[k]? = some fn) (hn : (fn.name == "runtime.NumGoroutine") = false) (hb : fn.body.isNone = false) : enters P k := by
  intro args w
  have hn' : ¬ fn.name = "runtime.NumGoroutine" := by simpa using hn
  have hb' : ¬ fn.body = none := by intro h; rw [h] at hb; cases hb
  simp [callFunc, program, hf, hn', hb', Sem.run]

section
variable {P : Program}
theorem rowTy_of {ty : TypeId} (h : (P.underlying ty).map TypeDesc.isRow = some true) : ∃ d, P.underlying ty = some d ∧ d.isRow = true := by
  cases hd : P.underlying ty with
  | none => rw [hd] at h; cases h
  | some d => rw [hd] at h; exact ⟨d, rfl, by simpa using h⟩
theorem wpList_of_wp {ops : Array Oper} {rest : List Oper} {o : Oper} {a : Act} {w : World} {Q : Exit → Act → World → Prop} (hw : Region.wanted o (yielded ops a.tmps) = true)
    (h : ∀ K : Act → World → Prop, (∀ a w, wpList P ops Q rest a w → K a w) → o.wp P a w K Q) : wpList P ops Q (o :: rest) a w :=
  wpList_step fun K hK => by rw [if_pos hw]; exact h K hK
/-- A family is read whole. -/
theorem wpList_load_fam {T : TypeId} (hT : (P.underlying T).map TypeDesc.isRow = some true) (hS : (P.info? T).map (·.size) = some 129)
    {ops : Array Oper} {rest : List Oper} {o : Oper} {a : Act} {w : World} {Q : Exit → Act → World → Prop} (hw : Region.wanted o (yielded ops a.tmps) = true) (x : Operand) (ho : o.op = .load T x)
    (g : Nat) (hx : a.eval x = .pointer (some ⟨g, 0, none⟩)) (n : Int) (F : Nat → Bool) (hg : famAt T w g n F)
    (h : wpList P ops Q rest (a.put o.dst (.agg (fam n F))) w) : wpList P ops Q (o :: rest) a w := by
  obtain ⟨d, hu, hd⟩ := rowTy_of hT
  exact wpList_of_wp hw fun _ hK => wp_load_row T x ho g hx T (fam n F) (0, 0) d hg hu (by cases d <;> first | rfl | (cases hd)) (by rw [hS, fam_size]) (hK _ _ h)
/-- The marks of a family are read whole. -/
theorem wpList_load_marks {T A : TypeId} (hT : (P.underlying A).map TypeDesc.isRow = some true) (hS : (P.info? A).map (·.size) = some 128)
    {ops : Array Oper} {rest : List Oper} {o : Oper} {a : Act} {w : World} {Q : Exit → Act → World → Prop} (hw : Region.wanted o (yielded ops a.tmps) = true) (x : Operand) (ho : o.op = .load A x)
    (g : Nat) (hx : a.eval x = .pointer (some ⟨g, 1, none⟩)) (n : Int) (F : Nat → Bool) (hg : famAt T w g n F)
    (h : wpList P ops Q rest (a.put o.dst (.agg (famRow F).toArray)) w) : wpList P ops Q (o :: rest) a w := by
  obtain ⟨d, hu, hd⟩ := rowTy_of hT
  exact wpList_of_wp hw fun _ hK => wp_load_mid A x ho g 1 hx (famRow F) d hg.range hu hd (by rw [hS, famRow_len]) (hK _ _ h)
/-- A family is written whole. -/
theorem wpList_store_fam {T : TypeId} (hS : (P.info? T).map (·.size) = some 129)
    {ops : Array Oper} {rest : List Oper} {o : Oper} {a : Act} {w : World} {Q : Exit → Act → World → Prop} (hw : Region.wanted o (yielded ops a.tmps) = true) (x y : Operand) (ho : o.op = .store T x y)
    (g : Nat) (m : Int) (G : Nat → Bool) (hx : a.eval x = .pointer (some ⟨g, 0, none⟩)) (hy : a.eval y = .agg (fam m G)) (n : Int) (F : Nat → Bool) (hg : famAt T w g n F)
    (h : wpList P ops Q rest (a.put o.dst undef) (w.setRow g (fam m G))) : wpList P ops Q (o :: rest) a w :=
  wpList_of_wp hw fun _ hK => wp_store_row T x y ho g (fam m G) hx hy T (fam n F) hg (by rw [hS, fam_size]) (by rw [fam_size, fam_size]) (fam_one m G) (hK _ _ h)
/-- A function's result that is a family. -/
theorem results_fam {T : TypeId} (hT : (P.underlying T).map TypeDesc.isRow = some true) (hS : (P.info? T).map (·.size) = some 129) {fn : Func} {p : Tmp} (h : fn.results = #[.cell p T]) (tmps : Array Value) (w : World) (g : Nat)
    (hp : tmps.getD p undef = .pointer (some ⟨g, 0, none⟩)) (n : Int) (F : Nat → Bool) (hg : famAt T w g n F) : (results fn tmps).run P w = .ok (.agg (fam n F)) w := by
  obtain ⟨d, hu, hd⟩ := rowTy_of hT
  exact results_cell_row h tmps w g T (fam n F) (0, 0) d hp hg hu (by cases d <;> first | rfl | (cases hd)) (by rw [hS, fam_size])
/-- A new family: no items, no marks. -/
theorem wpList_alloc_fam {T : TypeId} (hz : ((P.info? T).bind (·.zero)).map Value.cells = some (fam 0 noSet)) {ops : Array Oper} {rest : List Oper} {o : Oper} {a : Act} {w : World} {Q : Exit → Act → World → Prop}
    (hw : Region.wanted o (yielded ops a.tmps) = true) (ho : o.op = .alloc T) (m : Nat) (hm : w.heap.size = m)
    (h : wpList P ops Q rest (a.put o.dst (.pointer (some ⟨m, 0, none⟩))) (w.alloc (.cells (fam 0 noSet) T))) : wpList P ops Q (o :: rest) a w := by
  subst hm
  refine wpList_of_wp hw fun K hK => ?_
  have hrun : (Instr.alloc T true (.tuple #[])).run P w = .ok (.pointer (some ⟨w.heap.size, 0, none⟩)) (w.alloc (.cells (fam 0 noSet) T)) := by
    cases hq : P.info? T with
    | none => simp [hq] at hz
    | some i =>
      cases hv : i.zero with
      | none => simp [hq, hv] at hz
      | some v =>
        have hc : v.cells = fam 0 noSet := by simpa [hq, hv] using hz
        have hzv : (zeroValue T).run P w = .ok v w := by simp [zeroValue, typeInfo, hq, hv]
        unfold Instr.alloc
        simp only [Sem.run_bind, hzv, Result.andThen_ok]
        simp [newVar, newRow, hc]
  unfold Oper.wp execOp
  simp only [ho, Sem.run_bind, hrun, Sem.run_pure, Result.andThen_ok]
  exact hK _ _ h
/-- A family with so many items, no marks, as a value. -/
theorem wpList_build_fam {T : TypeId} (hb : ∀ n : Int, P.built T [(0, .int .i64 n)] = some (fam n noSet)) {ops : Array Oper} {rest : List Oper} {o : Oper} {a : Act} {w : World} {Q : Exit → Act → World → Prop}
    (hgd : o.guard = none) (x : Operand) (ho : o.op = .build T #[(0, x)]) (n : Int) (hx : a.eval x = .int .i64 n)
    (h : wpList P ops Q rest (a.put o.dst (.agg (fam n noSet))) w) : wpList P ops Q (o :: rest) a w := by
  have e : (P.built T ((#[(0, x)] : Array (Nat × Operand)).map fun (i, x) => (i, a.eval x)).toList) = some (fam n noSet) := by
    simpa [hx] using hb n
  exact wpList_build hgd T #[(0, x)] ho (by rw [e]; rfl) (by rw [e]; exact h)
theorem wpList_build_fam0 {T : TypeId} (hb : P.built T [] = some (fam 0 noSet)) {ops : Array Oper} {rest : List Oper} {o : Oper} {a : Act} {w : World} {Q : Exit → Act → World → Prop}
    (hgd : o.guard = none) (ho : o.op = .build T #[])
    (h : wpList P ops Q rest (a.put o.dst (.agg (fam 0 noSet))) w) : wpList P ops Q (o :: rest) a w := by
  have e : (P.built T ((#[] : Array (Nat × Operand)).map fun (i, x) => (i, a.eval x)).toList) = some (fam 0 noSet) := by
    simpa using hb
  exact wpList_build hgd T #[] ho (by rw [e]; rfl) (by rw [e]; exact h)
/-- Two results, the first a family. -/
theorem results_fam2 {T : TypeId} (hT : (P.underlying T).map TypeDesc.isRow = some true) (hS : (P.info? T).map (·.size) = some 129) {fn : Func} {p q : Tmp} (h : fn.results = #[.cell p T, .tmp q]) (tmps : Array Value) (w : World) (g : Nat)
    (hp : tmps.getD p undef = .pointer (some ⟨g, 0, none⟩)) (n : Int) (F : Nat → Bool) (hg : famAt T w g n F) : (results fn tmps).run P w = .ok (.tuple #[.agg (fam n F), tmps.getD q undef]) w := by
  obtain ⟨d, hu, hd⟩ := rowTy_of hT
  have hp' : tmps[p]?.getD undef = .pointer (some ⟨g, 0, none⟩) := by simpa using hp
  have hl := run_loadVar_row (P := P) w g T T (fam n F) (0, 0) d hg hu (by cases d <;> first | rfl | (cases hd)) (by rw [hS, fam_size])
  simp [results, h, hp', asAddr, hl]
/-- Three results, the first a family. -/
theorem results_fam3 {T : TypeId} (hT : (P.underlying T).map TypeDesc.isRow = some true) (hS : (P.info? T).map (·.size) = some 129) {fn : Func} {p q r : Tmp} (h : fn.results = #[.cell p T, .tmp q, .tmp r]) (tmps : Array Value) (w : World) (g : Nat)
    (hp : tmps.getD p undef = .pointer (some ⟨g, 0, none⟩)) (n : Int) (F : Nat → Bool) (hg : famAt T w g n F) : (results fn tmps).run P w = .ok (.tuple #[.agg (fam n F), tmps.getD q undef, tmps.getD r undef]) w := by
  obtain ⟨d, hu, hd⟩ := rowTy_of hT
  have hp' : tmps[p]?.getD undef = .pointer (some ⟨g, 0, none⟩) := by simpa using hp
  have hl := run_loadVar_row (P := P) w g T T (fam n F) (0, 0) d hg hu (by cases d <;> first | rfl | (cases hd)) (by rw [hS, fam_size])
  simp [results, h, hp', asAddr, hl]
/-- A mark of a row that is a value. -/
theorem wpList_mark {A B : TypeId} (hA : P.underlying A = some (.array 128 B)) (hB : (P.info? B).map (·.size) = some 1) (hr : (P.underlying B).map TypeDesc.isRow = some false)
    {ops : Array Oper} {rest : List Oper} {o : Oper} {a : Act} {w : World} {Q : Exit → Act → World → Prop} (hw : Region.wanted o (yielded ops a.tmps) = true) (x y : Operand) (ho : o.op = .index A x y)
    (F : Nat → Bool) (hx : a.eval x = .agg (famRow F).toArray) (i : Nat) (hy : a.eval y = .int .i64 (i : Int)) (hi : i < 128) (b : Bool) (hb : F i = b)
    (h : wpList P ops Q rest (a.put o.dst (.bool b)) w) : wpList P ops Q (o :: rest) a w := by
  have hB' : (sizeOf B).run P w = .ok 1 w := by
    cases hq : P.info? B with
    | none => simp [hq] at hB
    | some j =>
      have : j.size = 1 := by simpa [hq] using hB
      simp [sizeOf, typeInfo, hq, this]
  have hg : (famRow F).toArray[i]? = some (.bool b) := by rw [← hb]; simpa using famRow_get F i hi
  have hag : (isAgg B).run P w = .ok false w := by
    unfold isAgg
    cases hq : P.underlying B with
    | none => simp [hq] at hr
    | some d =>
      rw [Sem.run_bind, run_underlying hq w]
      cases d <;> simp_all [TypeDesc.isRow]
  have hrun : (Instr.index A (.agg (famRow F).toArray) (.int .i64 (i : Int))).run P w = .ok (.bool b) w := by
    unfold Instr.index part
    have h1 : (0 : Int) ≤ (i : Int) ∧ (i : Int) < ((128 : Nat) : Int) := by omega
    simp only [asIntOf, Sem.run_bind, Sem.run_pure, Result.andThen_ok, run_underlying hA w, if_pos h1, hB', hag, Int.toNat_natCast, Nat.mul_one, hg]
    simp
  refine wpList_of_wp hw fun K hK => ?_
  unfold Oper.wp execOp
  simp only [ho, hx, hy, Sem.run_bind, Sem.run_pure, hrun, Result.andThen_ok]
  exact hK _ _ h
/-! A drawn region whose operations only read, and whose calls leave old memory alone: one walk in the order of the text. -/
theorem wp_region_old {id : Nat} {Q : Exit → Act → World → Prop} {a : Act} {w : World} {l : List Oper} (hm : P.follows .mixedOrders = true) (hB : Region.lexB .any l.toArray = true)
    (h : wpQuiet P l.toArray (fun w' => Below w.heap.size w w') (fun a' => ∀ w', Below w.heap.size w w' → Q .normal a' w') l a) : (Code.region id l.toArray true).wp P Q a w :=
  wp_region_quiet (C := fun w' => Below w.heap.size w w') hm hB (Below.refl _ _).drew (by simpa using h)
theorem q_load_fam {T : TypeId} (hT : (P.underlying T).map TypeDesc.isRow = some true) (hS : (P.info? T).map (·.size) = some 129)
    {ops : Array Oper} {rest : List Oper} {o : Oper} {a : Act} {C : World → Prop} {Q : Act → Prop} (hw : Region.wanted o (yielded ops a.tmps) = true) (x : Operand) (ho : o.op = .load T x)
    (g : Nat) (hx : a.eval x = .pointer (some ⟨g, 0, none⟩)) (n : Int) (F : Nat → Bool) (hg : ∀ w, C w → famAt T w g n F)
    (h : wpQuiet P ops C Q rest (a.put o.dst (.agg (fam n F)))) : wpQuiet P ops C Q (o :: rest) a := by
  obtain ⟨d, hu, hd⟩ := rowTy_of hT
  refine BigFrame.wpQuiet_want hw fun K hK => ⟨_, fun w hC => ?_, hK _ h⟩
  unfold Oper.quietAt execOp
  simp only [ho, hx, Instr.loadAt, Instr.sureAddr, Sem.run_bind, Sem.run_pure, Result.andThen_ok, run_loadVar_row w g T T (fam n F) (0, 0) d (hg w hC) hu (by cases d <;> first | rfl | (cases hd)) (by rw [hS, fam_size])]
  exact ⟨rfl, rfl⟩
theorem q_call {ops : Array Oper} {rest : List Oper} {o : Oper} {a : Act} {w : World} {Q : Act → Prop} (hw : Region.wanted o (yielded ops a.tmps) = true) (k : FuncId) (hk : enters P k) (xs : Array Operand) (ts : Array TypeId)
    (ho : o.op = .call { callee := .value (.func k), args := xs, argTypes := ts }) (args : Array Value) (ha : xs.map a.eval = args) (v : Value)
    (hc : ∀ w', Below w.heap.size w w' → Calls P k args w' fun e w'' => e = .returned v ∧ Below w'.heap.size w' w'')
    (h : wpQuiet P ops (fun w' => Below w.heap.size w w') Q rest (a.put o.dst v)) : wpQuiet P ops (fun w' => Below w.heap.size w w') Q (o :: rest) a := by
  refine BigFrame.wpQuiet_want hw fun K hK => ⟨v, fun w' hC => ?_, hK _ h⟩
  obtain ⟨op, dst, ty, pos, after, guard⟩ := o
  simp only at ho
  subst ho
  unfold Oper.quietAt
  rw [execOp_call_go, ha]
  simp only [Array.append_empty, Array.empty_append]
  rw [hk]
  exact ⟨rfl, (hc w' hC).mono fun e w'' ⟨he, hb⟩ => ⟨he, hC.trans (hb.mono hC.size)⟩⟩
end

/-! ### Slices of int in memory -/
def intsAt (w : World) (b : Nat) (o : Nat) (l : List Int) : Prop := b < w.heap.size ∧ ∀ j, j < l.length → w.cell? ⟨b, o + j, none⟩ = some (.int .i64 (l[j]?.getD 0))
theorem intsAt.below {w w' : World} {b o B : Nat} {l : List Int} (h : intsAt w b o l) (hb : Below B w w') (hB : b < B) : intsAt w' b o l :=
  ⟨Nat.lt_of_lt_of_le h.1 hb.size, fun j hj => (hb.cell (p := ⟨b, o + j, none⟩) hB).trans (h.2 j hj)⟩
theorem intsAt.alloc {w : World} {b o : Nat} {l : List Int} (h : intsAt w b o l) (ob : Obj) : intsAt (w.alloc ob) b o l :=
  h.below ((Below.refl _ _).alloc (Nat.le_refl _) ob) h.1

end Go.Proofs.Ytlgcnablhkmdaaa
