/- Contracts: the plans, the program's. -/
import Derived.Test.YtijgngnjhmkhaaaDoorId
import Derived.Test.YtijgngnjhmkhaaaDoorHf
namespace Go.Proofs.YtijgngnjhmkhaaaDoor
open Go.RowKit
open Go.Maps (Keyed IsMap)
set_option maxRecDepth 100000
set_option linter.unusedSimpArgs false
section
variable {P : Program} {T : TypeId} {cs : Array Value}
theorem results_csP (hT : (P.underlying T).map TypeDesc.isRow = some true) (hS : (P.info? T).map (·.size) = some cs.size) {fn : Func} {p : Tmp} (h : fn.results = #[.cell p T]) (tmps : Array Value) (w : World) (g : Nat)
    (hp : tmps.getD p undef = .pointer (some ⟨g, 0, none⟩)) (hg : w.heap[g]? = some (.cells cs T)) : (results fn tmps).run P w = .ok (.agg cs) w := by
  obtain ⟨d, hu, hd⟩ := rowTy_of hT
  exact results_cell_row h tmps w g T cs (0, 0) d hp hg hu (by cases d <;> first | rfl | (cases hd)) hS
theorem wpList_load_csP (hT : (P.underlying T).map TypeDesc.isRow = some true) (hS : (P.info? T).map (·.size) = some cs.size)
    {ops : Array Oper} {rest : List Oper} {o : Oper} {a : Act} {w : World} {Q : Exit → Act → World → Prop} (hw : Region.wanted o (yielded ops a.tmps) = true) (x : Operand) (ho : o.op = .load T x)
    (g : Nat) (hx : a.eval x = .pointer (some ⟨g, 0, none⟩)) (hg : w.heap[g]? = some (.cells cs T))
    (h : wpList P ops Q rest (a.put o.dst (.agg cs)) w) : wpList P ops Q (o :: rest) a w := by
  obtain ⟨d, hu, hd⟩ := rowTy_of hT
  exact wpList_of_wp hw fun _ hK => wp_load_row T x ho g hx T cs (0, 0) d hg hu (by cases d <;> first | rfl | (cases hd)) hS (hK _ _ h)
end
theorem planUI : Tryd.prog.underlying 70 = some (.map 46 68) := by kernel_rfl
theorem rowPl : (Tryd.prog.underlying 68).map TypeDesc.isRow = some true := by kernel_rfl
theorem sizePl : (Tryd.prog.info? 68).map (·.size) = some 2 := by kernel_rfl
theorem zeroPl (w : World) : (zeroValue 68).run Tryd.prog w = .ok (.agg #[.int .i64 0, .int .i64 0]) w := by kernel_rfl
theorem fieldPl (a b : Int) (w : World) : (Instr.field 68 (.agg #[.int .i64 a, .int .i64 b]) 1).run Tryd.prog w = .ok (.int .i64 b) w := by kernel_rfl
theorem fieldPl0 (a b : Int) (w : World) : (Instr.field 68 (.agg #[.int .i64 a, .int .i64 b]) 0).run Tryd.prog w = .ok (.int .i64 a) w := by kernel_rfl
/-- How a plan reads. -/
def plL : List Value → Option (DataW Unit × List MemPlace)
  | [.int .i64 a, .int .i64 b] => some (.agg [.lit (.int .i64 a), .lit (.int .i64 b)], [])
  | _ => none
def plR : Value → Option (DataW Unit × List MemPlace)
  | .agg xs => plL xs.toList
  | _ => none
theorem plR_mk (a b : Int) : plR (.agg #[.int .i64 a, .int .i64 b]) = some (.agg [.lit (.int .i64 a), .lit (.int .i64 b)], []) := rfl
theorem plL_inv {l : List Value} {z : DataW Unit × List MemPlace} (h : plL l = some z) : ∃ a b, l = [.int .i64 a, .int .i64 b] ∧ z = (.agg [.lit (.int .i64 a), .lit (.int .i64 b)], []) := by
  unfold plL at h
  split at h
  · exact ⟨_, _, rfl, (Option.some.inj h).symm⟩
  · cases h
theorem plR_inv {v : Value} {z : DataW Unit × List MemPlace} (h : plR v = some z) : ∃ a b, v = .agg #[.int .i64 a, .int .i64 b] ∧ z = (.agg [.lit (.int .i64 a), .lit (.int .i64 b)], []) := by
  unfold plR at h
  split at h
  · rename_i xs
    obtain ⟨a, b, e, hz⟩ := plL_inv h
    exact ⟨a, b, by rw [← Array.toList_inj.1 (show xs.toList = (#[Value.int .i64 a, Value.int .i64 b] : Array Value).toList from e)], hz⟩
  · cases h
def mapPl (w : World) (b n : Nat) (D : DataW Unit) : Prop := w.ownsMap Tryd.prog 46 plR b n D
def planD (m : Nat) (F : Nat → Bool) : DataW Unit := .agg [.lit (.int .i64 (viN gW m F : Int)), .lit (.int .i64 (vmN gW m F : Int))]
def planOk (m : Nat) (D : DataW Unit) : Prop := ∀ F, (∀ x, F x = true → x ≤ low m) → Maps.has D (kf m F) = true → ∀ zd, D.atKey (kf m F) zd = planD m F
theorem planOk_new (m : Nat) : planOk m (.map []) := fun F _ h => by simp [Maps.has] at h
theorem planOk_put {m : Nat} (hm : m ≤ 7) {D : DataW Unit} (h : planOk m D) (hD : IsMap D) {G : Nat → Bool} (hG : ∀ x, G x = true → x ≤ low m) : planOk m (D.put (kf m G) (planD m G)) := by
  intro F hF hh zd
  by_cases e : kf m F = kf m G
  · have := kf_inj hm hF hG e
    subst this
    exact Maps.atKey_put_same hD (by unfold kf; trivial) _ _
  · rw [Maps.has_put_other e] at hh
    rw [Maps.atKey_put_other e]
    exact h F hF hh zd
theorem mapPl.own {w : World} {b n : Nat} {D : DataW Unit} (h : mapPl w b n D) : w.ownsMap Tryd.prog 46 plR b n D := h
theorem mapPl.mk {w : World} {b n : Nat} {D : DataW Unit} (h : w.ownsMap Tryd.prog 46 plR b n D) : mapPl w b n D := h
theorem mapPl.lt {w : World} {b n : Nat} {D : DataW Unit} (h : mapPl w b n D) : b < w.heap.size := World.ownsMap.lt h
theorem mapPl.isMap {w : World} {b n : Nat} {D : DataW Unit} (h : mapPl w b n D) : IsMap D := World.ownsMap.isMap h
theorem mapPl.blx {w w' : World} {b n : Nat} {D : DataW Unit} (h : mapPl w b n D) (hb : Below w.heap.size w w') : mapPl w' b n D := World.ownsMap.kept h (⟨hb.os, hb.tape, hb.output, hb.size, fun k hk _ => hb.block k hk⟩ : w.grownBy w' none) (by simp)
theorem mapPl_new (w : World) : mapPl (w.alloc (.map #[] 0)) w.heap.size 0 (.map []) := World.ownsMap_made w Tryd.prog 46 _
theorem vW_pc (m : Nat) (hm7 : m ≤ 7) : ∀ d F, (∀ x, F x = true → x ≤ low m) → pc (opN m F) ≤ d → vmN gW m F ≤ d := by
  intro d
  induction d with
  | zero =>
    intro F _ h
    have h8 := opN_lt m hm7 F
    rw [vmN_zero (pc_zero0I _ h8 (by omega))]; omega
  | succ d ih =>
    intro F hF h
    by_cases h0 : opN m F = 0
    · rw [vmN_zero h0]; omega
    · obtain ⟨a1, a2, _, _⟩ := vmN_next (g := gW) hm7 hF h0
      have p1 := pc_part hm7 a1 true
      have p2 := pc_part hm7 a1 false
      have c1 := ih _ (low_part (i := viN gW m F) (b := true) hF) (by omega)
      have c2 := ih _ (low_part (i := viN gW m F) (b := false) hF) (by omega)
      have e : vmN gW m F = 1 + max (vmN gW m (ptF F (viN gW m F) true)) (vmN gW m (ptF F (viN gW m F) false)) := by
        unfold vcN gW at a2; exact Int.ofNat.inj a2
      omega
/-- The first item that is good enough is the plan's. -/
theorem plan_found {m : Nat} (hm7 : m ≤ 7) {F : Nat → Bool} (hF : ∀ x, F x = true → x ≤ low m) {I : List Int} {k x : Nat} (hk : k < I.length) (hinc : ∀ i j, i < j → j < I.length → nth I i < nth I j) (hbit : (opN m F).testBit (nth I k) = true)
    (hall : ∀ b, (opN m F).testBit b = true → ∃ j, j < I.length ∧ nth I j = b) (hx : x ≤ vmN gW m F) (hno : ∀ j, j < k → (x : Int) < vcN gW m F (nth I j)) (hc : vcN gW m F (nth I k) ≤ (x : Int)) : viN gW m F = nth I k ∧ vmN gW m F = x := by
  have h0 : opN m F ≠ 0 := by intro e; rw [e, Nat.zero_testBit] at hbit; cases hbit
  obtain ⟨a1, a2, a3, a4⟩ := vmN_next (g := gW) hm7 hF h0
  have h1 := a3 _ hbit
  have hx2 : vmN gW m F = x := by omega
  refine ⟨vi_of hm7 hF hbit (by omega) (fun j hj hjb e => ?_), hx2⟩
  obtain ⟨q, hq, hqe⟩ := hall j hjb
  have hqk : q < k := by
    rcases Nat.lt_trichotomy q k with h | h | h
    · exact h
    · subst h; omega
    · have := hinc k q h hq; omega
  have := hno q hqk
  rw [hqe] at this
  omega
theorem plan_more {m : Nat} (hm7 : m ≤ 7) {F : Nat → Bool} (hF : ∀ x, F x = true → x ≤ low m) (h0 : opN m F ≠ 0) {I : List Int} {x : Nat} (hall : ∀ b, (opN m F).testBit b = true → ∃ j, j < I.length ∧ nth I j = b) (hno : ∀ j, j < I.length → (x : Int) < vcN gW m F (nth I j)) : x < vmN gW m F := by
  obtain ⟨a1, a2, _, _⟩ := vmN_next (g := gW) hm7 hF h0
  obtain ⟨q, hq, hqe⟩ := hall _ a1
  have := hno q hq
  rw [hqe, ← a2] at this
  omega
theorem vW_max (m : Nat) (F : Nat → Bool) (i : Nat) : vcN gW m F i = 1 + ((max (vmN gW m (ptF F i true)) (vmN gW m (ptF F i false)) : Nat) : Int) := by unfold vcN gW; omega
attribute [local irreducible] p2 low memB risB famAt own mapAt mapPl
end Go.Proofs.YtijgngnjhmkhaaaDoor
