/- Contracts: the plans, the program's. -/
import Derived.Test.YtppojaekngeelaaDoorId
import Derived.Test.YtppojaekngeelaaDoorHf
import Derived.WalkMore
import Derived.Deep.Cut
namespace Go.Proofs.YtppojaekngeelaaDoor
open Go.RowKit
open Go.Maps (Keyed IsMap)
set_option maxRecDepth 100000
set_option linter.unusedSimpArgs false
section
variable {P : Program} {T : TypeId} {cs : Array Value}
theorem results_csP (hT : (P.underlying T).map TypeDesc.isRow = some true) (hS : (P.info? T).map (·.size) = some cs.size) {fn : Func} {p : Tmp} (h : fn.results = #[.cell p T]) (tmps : Array Value) (w : World) (g : Nat)
    (hp : tmps.getD p undef = .pointer (some ⟨g, 0, none⟩)) (hg : w.heap[g]? = some (.cells cs T)) : (results fn tmps).run P w = .ok (.agg cs) w := by
  obtain ⟨d, hu, hd⟩ := rowTy_of hT
  exact results_cell_row h tmps w g T cs (0, 0) d hp hg hu (by cases d <;> first | rfl | (cases hd)) hS
theorem wpList_load_csP (hT : (P.underlying T).map TypeDesc.isRow = some true) (hS : (P.info? T).map (·.size) = some cs.size)
    {ops : Array Oper} {rest : List Oper} {o : Oper} {a : Act} {w : World} {Q : Exit → Act → World → Prop} (hw : Region.wanted o (yielded ops a.tmps) = true) (x : Operand) (ho : o.op = .load T x)
    (g : Nat) (hx : a.eval x = .pointer (some ⟨g, 0, none⟩)) (hg : w.heap[g]? = some (.cells cs T))
    (h : wpList P ops Q rest (a.put o.dst (.agg cs)) w) : wpList P ops Q (o :: rest) a w := by
  obtain ⟨d, hu, hd⟩ := rowTy_of hT
  exact wpList_of_wp hw fun _ hK => wp_load_row T x ho g hx T cs (0, 0) d hg hu (by cases d <;> first | rfl | (cases hd)) hS (hK _ _ h)
end
theorem planUI : Tryd.prog.underlying 78 = some (.map 45 80) := by kernel_rfl
theorem rowPl : (Tryd.prog.underlying 80).map TypeDesc.isRow = some true := by kernel_rfl
theorem sizePl : (Tryd.prog.info? 80).map (·.size) = some 2 := by kernel_rfl
theorem zeroPl (w : World) : (zeroValue 80).run Tryd.prog w = .ok (.agg #[.int .i64 0, .int .i64 0]) w := by kernel_rfl
theorem fieldPl (a b : Int) (w : World) : (Instr.field 80 (.agg #[.int .i64 a, .int .i64 b]) 1).run Tryd.prog w = .ok (.int .i64 b) w := by kernel_rfl
theorem fieldPl0 (a b : Int) (w : World) : (Instr.field 80 (.agg #[.int .i64 a, .int .i64 b]) 0).run Tryd.prog w = .ok (.int .i64 a) w := by kernel_rfl
/-- How a plan reads. -/
def plL : List Value → Option (DataW Unit × List MemPlace)
  | [.int .i64 a, .int .i64 b] => some (.agg [.lit (.int .i64 a), .lit (.int .i64 b)], [])
  | _ => none
def plR : Value → Option (DataW Unit × List MemPlace)
  | .agg xs => plL xs.toList
  | _ => none
theorem plR_mk (a b : Int) : plR (.agg #[.int .i64 a, .int .i64 b]) = some (.agg [.lit (.int .i64 a), .lit (.int .i64 b)], []) := rfl
theorem plL_inv {l : List Value} {z : DataW Unit × List MemPlace} (h : plL l = some z) : ∃ a b, l = [.int .i64 a, .int .i64 b] ∧ z = (.agg [.lit (.int .i64 a), .lit (.int .i64 b)], []) := by
  unfold plL at h
  split at h
  · exact ⟨_, _, rfl, (Option.some.inj h).symm⟩
  · cases h
theorem plR_inv {v : Value} {z : DataW Unit × List MemPlace} (h : plR v = some z) : ∃ a b, v = .agg #[.int .i64 a, .int .i64 b] ∧ z = (.agg [.lit (.int .i64 a), .lit (.int .i64 b)], []) := by
  unfold plR at h
  split at h
  · rename_i xs
    obtain ⟨a, b, e, hz⟩ := plL_inv h
    exact ⟨a, b, by rw [← Array.toList_inj.1 (show xs.toList = (#[Value.int .i64 a, Value.int .i64 b] : Array Value).toList from e)], hz⟩
  · cases h
def mapPl (w : World) (b n : Nat) (D : DataW Unit) : Prop := w.ownsMap Tryd.prog 45 plR b n D
def planD (m : Nat) (F : Nat → Bool) : DataW Unit := .agg [.lit (.int .i64 (viN gW m F : Int)), .lit (.int .i64 (vmN gW m F : Int))]
def planOk (m : Nat) (D : DataW Unit) : Prop := ∀ F, (∀ x, F x = true → x ≤ low m) → Maps.has D (kf m F) = true → ∀ zd, D.atKey (kf m F) zd = planD m F
theorem planOk_new (m : Nat) : planOk m (.map []) := fun F _ h => by simp [Maps.has] at h
theorem planOk_put {m : Nat} (hm : m ≤ 7) {D : DataW Unit} (h : planOk m D) (hD : IsMap D) {G : Nat → Bool} (hG : ∀ x, G x = true → x ≤ low m) : planOk m (D.put (kf m G) (planD m G)) := by
  intro F hF hh zd
  by_cases e : kf m F = kf m G
  · have := kf_inj hm hF hG e
    subst this
    exact Maps.atKey_put_same hD (by unfold kf; trivial) _ _
  · rw [Maps.has_put_other e] at hh
    rw [Maps.atKey_put_other e]
    exact h F hF hh zd
theorem mapPl.own {w : World} {b n : Nat} {D : DataW Unit} (h : mapPl w b n D) : w.ownsMap Tryd.prog 45 plR b n D := h
theorem mapPl.mk {w : World} {b n : Nat} {D : DataW Unit} (h : w.ownsMap Tryd.prog 45 plR b n D) : mapPl w b n D := h
theorem mapPl.lt {w : World} {b n : Nat} {D : DataW Unit} (h : mapPl w b n D) : b < w.heap.size := World.ownsMap.lt h
theorem mapPl.isMap {w : World} {b n : Nat} {D : DataW Unit} (h : mapPl w b n D) : IsMap D := World.ownsMap.isMap h
theorem mapPl.blx {w w' : World} {b n : Nat} {D : DataW Unit} (h : mapPl w b n D) (hb : Below w.heap.size w w') : mapPl w' b n D := World.ownsMap.kept h (⟨hb.os, hb.tape, hb.output, hb.size, fun k hk _ => hb.block k hk⟩ : w.grownBy w' none) (by simp)
theorem mapPl_new (w : World) : mapPl (w.alloc (.map #[] 0)) w.heap.size 0 (.map []) := World.ownsMap_made w Tryd.prog 45 _
theorem vW_pc (m : Nat) (hm7 : m ≤ 7) : ∀ d F, (∀ x, F x = true → x ≤ low m) → pc (opN m F) ≤ d → vmN gW m F ≤ d := by
  intro d
  induction d with
  | zero =>
    intro F _ h
    have h8 := opN_lt m hm7 F
    rw [vmN_zero (pc_zero0I _ h8 (by omega))]; omega
  | succ d ih =>
    intro F hF h
    by_cases h0 : opN m F = 0
    · rw [vmN_zero h0]; omega
    · obtain ⟨a1, a2, _, _⟩ := vmN_next (g := gW) hm7 hF h0
      have p1 := pc_part hm7 a1 true
      have p2 := pc_part hm7 a1 false
      have c1 := ih _ (low_part (i := viN gW m F) (b := true) hF) (by omega)
      have c2 := ih _ (low_part (i := viN gW m F) (b := false) hF) (by omega)
      have e : vmN gW m F = 1 + max (vmN gW m (ptF F (viN gW m F) true)) (vmN gW m (ptF F (viN gW m F) false)) := by
        unfold vcN gW at a2; exact Int.ofNat.inj a2
      omega
/-- The first item that is good enough is the plan's. -/
theorem plan_found {m : Nat} (hm7 : m ≤ 7) {F : Nat → Bool} (hF : ∀ x, F x = true → x ≤ low m) {I : List Int} {k x : Nat} (hk : k < I.length) (hinc : ∀ i j, i < j → j < I.length → nth I i < nth I j) (hbit : (opN m F).testBit (nth I k) = true)
    (hall : ∀ b, (opN m F).testBit b = true → ∃ j, j < I.length ∧ nth I j = b) (hx : x ≤ vmN gW m F) (hno : ∀ j, j < k → (x : Int) < vcN gW m F (nth I j)) (hc : vcN gW m F (nth I k) ≤ (x : Int)) : viN gW m F = nth I k ∧ vmN gW m F = x := by
  have h0 : opN m F ≠ 0 := by intro e; rw [e, Nat.zero_testBit] at hbit; cases hbit
  obtain ⟨a1, a2, a3, a4⟩ := vmN_next (g := gW) hm7 hF h0
  have h1 := a3 _ hbit
  have hx2 : vmN gW m F = x := by omega
  refine ⟨vi_of hm7 hF hbit (by omega) (fun j hj hjb e => ?_), hx2⟩
  obtain ⟨q, hq, hqe⟩ := hall j hjb
  have hqk : q < k := by
    rcases Nat.lt_trichotomy q k with h | h | h
    · exact h
    · subst h; omega
    · have := hinc k q h hq; omega
  have := hno q hqk
  rw [hqe] at this
  omega
theorem plan_more {m : Nat} (hm7 : m ≤ 7) {F : Nat → Bool} (hF : ∀ x, F x = true → x ≤ low m) (h0 : opN m F ≠ 0) {I : List Int} {x : Nat} (hall : ∀ b, (opN m F).testBit b = true → ∃ j, j < I.length ∧ nth I j = b) (hno : ∀ j, j < I.length → (x : Int) < vcN gW m F (nth I j)) : x < vmN gW m F := by
  obtain ⟨a1, a2, _, _⟩ := vmN_next (g := gW) hm7 hF h0
  obtain ⟨q, hq, hqe⟩ := hall _ a1
  have := hno q hq
  rw [hqe, ← a2] at this
  omega
theorem vW_max (m : Nat) (F : Nat → Bool) (i : Nat) : vcN gW m F i = 1 + ((max (vmN gW m (ptF F i true)) (vmN gW m (ptF F i false)) : Nat) : Int) := by unfold vcN gW; omega
attribute [local irreducible] p2 low memB risB famAt own mapAt mapPl
end Go.Proofs.YtppojaekngeelaaDoor
/- Contracts: a plan for a family, the program's. -/
namespace Go.Proofs.YtppojaekngeelaaDoor
open Go.RowKit
open Go.Maps (Keyed IsMap)
set_option maxRecDepth 100000
set_option linter.unusedSimpArgs false
section
variable {P : Program} {T : TypeId} {cs : Array Value}
theorem wpList_store_csG (hS : (P.info? T).map (·.size) = some cs.size)
    {ops : Array Oper} {rest : List Oper} {o : Oper} {a : Act} {w : World} {Q : Exit → Act → World → Prop} (hw : Region.wanted o (yielded ops a.tmps) = true) (x y : Operand) (ho : o.op = .store T x y)
    (g : Nat) (hx : a.eval x = .pointer (some ⟨g, 0, none⟩)) (hy : a.eval y = .agg cs) (old : Array Value) (hg : w.heap[g]? = some (.cells old T)) (hold : old.size = cs.size) (h1 : cs.all (·.oneCell') = true)
    (h : wpList P ops Q rest (a.put o.dst undef) (w.setRow g cs)) : wpList P ops Q (o :: rest) a w :=
  wpList_of_wp hw fun _ hK => wp_store_row T x y ho g cs hx hy T old hg hS hold h1 (hK _ _ h)
end
def plC (a b : Int) : Array Value := #[.int .i64 a, .int .i64 b]
theorem plC_one (a b : Int) : (plC a b).all (·.oneCell') = true := by first | rfl | kernel_rfl | (unfold plC; simp [Value.oneCell']; done) | simp [plC, Value.oneCell']
theorem built_pl (a b : Int) : Tryd.prog.built 80 [(0, .int .i64 a), (1, .int .i64 b)] = some (plC a b) := by kernel_rfl
theorem built_pl0 : Tryd.prog.built 80 [] = some (plC 0 0) := by kernel_rfl
theorem wpList_build_pl0 {ops : Array Oper} {rest : List Oper} {o : Oper} {a : Act} {w : World} {Q : Exit → Act → World → Prop} (hgd : o.guard = none) (ho : o.op = .build 80 #[])
    (h : wpList Tryd.prog ops Q rest (a.put o.dst (.agg (plC 0 0))) w) : wpList Tryd.prog ops Q (o :: rest) a w := by
  have e : (Tryd.prog.built 80 ((#[] : Array (Nat × Operand)).map fun (i, x) => (i, a.eval x)).toList) = some (plC 0 0) := by simpa using built_pl0
  exact wpList_build hgd 80 #[] ho (by rw [e]; rfl) (by rw [e]; exact h)
theorem wpList_build_pl {ops : Array Oper} {rest : List Oper} {o : Oper} {a : Act} {w : World} {Q : Exit → Act → World → Prop} (hgd : o.guard = none) (x y : Operand) (ho : o.op = .build 80 #[(0, x), (1, y)]) (p q : Int) (hx : a.eval x = .int .i64 p) (hy : a.eval y = .int .i64 q)
    (h : wpList Tryd.prog ops Q rest (a.put o.dst (.agg (plC p q))) w) : wpList Tryd.prog ops Q (o :: rest) a w := by
  have e : (Tryd.prog.built 80 ((#[(0, x), (1, y)] : Array (Nat × Operand)).map fun (i, x) => (i, a.eval x)).toList) = some (plC p q) := by simpa [hx, hy] using built_pl p q
  exact wpList_build hgd 80 #[(0, x), (1, y)] ho (by rw [e]; rfl) (by rw [e]; exact h)
theorem pc_le7 : ∀ x, x < 128 → pc x ≤ 7 := by decide +kernel
theorem wpList_fieldPl {ops : Array Oper} {rest : List Oper} {o : Oper} {a : Act} {w : World} {Q : Exit → Act → World → Prop} (hw : Region.wanted o (yielded ops a.tmps) = true) (x : Operand) (ho : o.op = .field 80 x 1) (p q : Int) (hx : a.eval x = .agg (plC p q))
    (h : wpList Tryd.prog ops Q rest (a.put o.dst (.int .i64 q)) w) : wpList Tryd.prog ops Q (o :: rest) a w := by
  refine wpList_of_wp hw fun _ hK => ?_
  have hf : (Instr.field 80 (.agg (plC p q)) 1).run Tryd.prog w = .ok (.int .i64 q) w := fieldPl p q w
  unfold Oper.wp
  simp [execOp, ho, hx, hf, Result.andThen]
  exact hK _ _ h
theorem lookPl {m : Nat} {F : Nat → Bool} {D : DataW Unit} {va vb : Int} {ps : List MemPlace} {zd : DataW Unit} (h : (D.atKey (kf m F) zd, ps) = (DataW.agg [.lit (.int .i64 va), .lit (.int .i64 vb)], [])) (h2 : D.atKey (kf m F) zd = planD m F) : va = (viN gW m F : Int) ∧ vb = (vmN gW m F : Int) := by
  have h3 := congrArg Prod.fst h
  rw [h2] at h3
  unfold planD at h3
  simp at h3
  exact ⟨h3.1.symm, h3.2.symm⟩
theorem lookPl_run {m b n : Nat} (hm7 : m ≤ 7) {F : Nat → Bool} (hF : ∀ x, F x = true → x ≤ low m) {D : DataW Unit} (hok : planOk m D) {w : World} (hM : mapPl w b n D) :
    ∃ va vb : Int, (Maps.has D (kf m F) = true → va = (viN gW m F : Int) ∧ vb = (vmN gW m F : Int)) ∧ ∀ w', mapPl w' b n D → (Instr.lookup 78 (.map (some b)) (.agg (fam (m : Int) F)) true).run Tryd.prog w' = .ok (.tuple #[.agg #[.int .i64 va, .int .i64 vb], .bool (Maps.has D (kf m F))]) w' := by
  obtain ⟨v, ps, hrun, hv⟩ := hM.own.look_ok (e := 80) lawFam planUI (zeroPl w) (plR_mk 0 0) (kf_is hm7 F)
  obtain ⟨va, vb, rfl, hvz⟩ := plR_inv hv
  refine ⟨va, vb, fun hh => lookPl hvz (hok F hF hh _), fun w' hM' => ?_⟩
  obtain ⟨v', ps', hrun', hv'⟩ := hM'.own.look_ok (e := 80) lawFam planUI (zeroPl w') (plR_mk 0 0) (kf_is hm7 F)
  obtain ⟨va', vb', rfl, hvz'⟩ := plR_inv hv'
  have h3 := congrArg Prod.fst hvz
  have h4 := congrArg Prod.fst hvz'
  rw [h3] at h4
  simp at h4
  rw [hrun', h4.1, h4.2]
theorem yields_look {P : Program} {ops : Array Oper} {S : World → Prop} {o : Oper} {a : Act} (hw : Region.wanted o (yielded ops a.tmps) = true) (t : TypeId) (x y : Operand) (hop : o.op = Op.lookup t x y true) (b : Nat) (hm : a.eval x = .map (some b)) (key : Value) (hx : a.eval y = key) (v : Value)
    (hrun : ∀ w, S w → (Instr.lookup t (.map (some b)) key true).run P w = .ok v w) : YieldsIf P ops S o v a := by
  refine .inl ⟨hw, fun w hS => ?_⟩
  unfold execOp
  simp [hop, hm, hx, hrun w hS, Result.andThen]
theorem wpList_look {P : Program} {ops : Array Oper} {rest : List Oper} {o : Oper} {a : Act} {w : World} {Q : Exit → Act → World → Prop} (hg : o.guard = none) (t : TypeId) (x y : Operand) (hop : o.op = Op.lookup t x y true) (b : Nat) (hm : a.eval x = .map (some b)) (key : Value) (hx : a.eval y = key) (v : Value)
    (hrun : (Instr.lookup t (.map (some b)) key true).run P w = .ok v w) (h : wpList P ops Q rest (a.put o.dst v) w) : wpList P ops Q (o :: rest) a w := by
  refine wpList_plain hg fun K' hK' => ?_
  unfold Oper.wp
  simp [execOp, hop, hm, hx, hrun, Result.andThen]
  exact hK' _ _ h
theorem mapPl.rowO {w : World} {b n : Nat} {D : DataW Unit} (h : mapPl w b n D) (g : Nat) (hg : b ≠ g) (c : Array Value) : mapPl (w.setRow g c) b n D :=
  World.ownsMap.kept h (⟨rfl, rfl, rfl, by simp [World.setRow], fun k _ hne => hp_rowO w g k c (fun e => hne (by rw [e]))⟩ : w.grownBy (w.setRow g c) (some g)) (by simp; omega)
theorem plLast {W : World} {k : Nat} (h : W.heap.size = k) (a b : Int) : (W.alloc (.cells #[.int .i64 a, .int .i64 b] 80)).heap[k]? = some (.cells (plC a b) 80) := by subst h; exact hp_last _ _
attribute [local irreducible] p2 low memB risB famAt own mapAt mapPl
set_option maxHeartbeats 16000000 in
theorem planFor_step (m b U : Nat) (F : Nat → Bool) (hm7 : m ≤ 7) (hgb : 3 ≠ b) (hF : ∀ x, F x = true → x ≤ low m)
    (hIH : ∀ (i : Nat) (bb : Bool) (w : World) (n : Nat) (D : DataW Unit), (opN m F).testBit i = true → mapPl w b n D → planOk m D → n + U < maxLen → tab w →
      Calls Tryd.prog 50 #[.map (some b), .agg (fam (m : Int) (ptF F i bb))] w fun e w' => ∃ n' D', e = .returned (.agg (plC (viN gW m (ptF F i bb) : Int) (vmN gW m (ptF F i bb) : Int))) ∧ mapPl w' b n' D' ∧ planOk m D' ∧ n' ≤ n + U ∧ Blx (some b) w.heap.size w w')
    (w : World) (n : Nat) (D : DataW Unit) (hM : mapPl w b n D) (hok : planOk m D) (hU : n + 112 * U + 1 < maxLen) (hT : tab w) :
    Calls Tryd.prog 50 #[.map (some b), .agg (fam (m : Int) F)] w fun e w' => ∃ n' D', e = .returned (.agg (plC (viN gW m F : Int) (vmN gW m F : Int))) ∧ mapPl w' b n' D' ∧ planOk m D' ∧ n' ≤ n + 112 * U + 1 ∧ Blx (some b) w.heap.size w w' := by
  have hbw := hM.lt
  have hb0 := ((Below.refl w.heap.size w).alloc (Nat.le_refl _) (.cells (fam (m : Int) F) 45)).alloc (by simp) (.cells #[.int .i64 0, .int .i64 0] 80)
  have HM0 := hide (hM.blx hb0)
  have HT0 := hide (hT.below hb0)
  have HF0 := hide ((famAt.new 45 w (m : Int) F).alloc (.cells #[.int .i64 0, .int .i64 0] 80))
  have HR0 := hide (show ((w.alloc (.cells (fam (m : Int) F) 45)).alloc (.cells #[.int .i64 0, .int .i64 0] 80)).heap[w.heap.size + 1]? = some (.cells (plC 0 0) 80) by have h := hp_last (w.alloc (.cells (fam (m : Int) F) 45)) (.cells #[.int .i64 0, .int .i64 0] 80); have h2 : ((w.alloc (.cells (fam (m : Int) F) 45)).alloc (.cells #[.int .i64 0, .int .i64 0] 80)).heap[w.heap.size + 1]? = some (.cells #[.int .i64 0, .int .i64 0] 80) := (by simpa using h); exact h2)
  have HB0 := hide (Blx.of (o := some b) hb0)
  have HZ0 := hide (show ((w.alloc (.cells (fam (m : Int) F) 45)).alloc (.cells #[.int .i64 0, .int .i64 0] 80)).heap.size = w.heap.size + 2 by simp)
  have HFF := hide hF
  have HOK := hide hok
  have HIH := hide hIH
  have hO8 := opN_lt m hm7 F
  clear hM hT hb0 hok hIH hF
  obtain ⟨va, vb, hvv, hrun⟩ := lookPl_run hm7 HFF.out HOK.out HM0.out
  have HVV := hide hvv
  have HRUN := hide hrun
  clear hvv hrun
  have hzw : (w.alloc (.cells (fam (m : Int) F) 45)).heap.size = w.heap.size + 1 := by simp
  go_enter Tryd.func50, Tryd.ntmps50
  go_wp2
  generalize hW : (w.alloc (.cells (fam (m : Int) F) 45)).alloc (.cells #[.int .i64 0, .int .i64 0] 80) = W at *
  generalize hhs : Maps.has D (kf m F) = hs at *
  have hzW := HZ0.out
  clear hW
  have HL2 := hide (show (W.alloc (.cells #[.int .i64 0, .int .i64 0] 80)).heap[w.heap.size + 2]? = some (.cells #[.int .i64 0, .int .i64 0] 80) by rw [← hzW]; exact hp_last _ _)
  have hb2 := bl_row ((Below.refl W.heap.size W).alloc (Nat.le_refl _) (.cells #[.int .i64 0, .int .i64 0] 80)) (show W.heap.size ≤ w.heap.size + 2 by omega) (plC va vb)
  have HM2 := hide (HM0.out.blx hb2)
  have HT2 := hide (HT0.out.below hb2)
  have HF2 := hide (HF0.out.below hb2 HF0.out.lt)
  have HR2 := hide ((hb2.block (w.heap.size + 1) (by omega)).trans HR0.out)
  have HP2 := hide (hp_row (W.alloc (.cells #[.int .i64 0, .int .i64 0] 80)) (w.heap.size + 2) _ (plC va vb) _ HL2.out)
  have HB2 := hide (HB0.out.trans (Blx.of (o := some b) (hb2.mono (by omega))))
  have HZ2 := hide (show ((W.alloc (.cells #[.int .i64 0, .int .i64 0] 80)).setRow (w.heap.size + 2) (plC va vb)).heap.size = w.heap.size + 3 by simp [World.setRow, hzW])
  clear hb2
  refine wp_scope_straight ?_
  cases hs
  · obtain ⟨hs1, hs2, hs3⟩ := items_seq hO8
    have HS1 := hide hs1
    have hlen7 := itemsL_len (opN m F) hO8
    have hvle : hvN (cntS F) ≤ vmN gW m F := hv_wm hm7 HFF.out
    have hpc7 : pc (opN m F) ≤ 7 := by generalize opN m F = O at hO8; exact pc_le7 O hO8
    have hv7 : vmN gW m F ≤ 7 := vW_pc m hm7 7 F HFF.out hpc7
    have HFOUND := hide (fun (k x : Nat) (hk : k < (itemsL (opN m F)).length) (hx : x ≤ vmN gW m F) (hno : ∀ j, j < k → (x : Int) < vcN gW m F (nth (itemsL (opN m F)) j)) (hc : vcN gW m F (nth (itemsL (opN m F)) k) ≤ (x : Int)) => plan_found hm7 HFF.out hk hs2 (hs1 k hk).2.2 hs3 hx hno hc)
    have HMORE := hide (fun (h0 : opN m F ≠ 0) (x : Nat) (hno : ∀ j, j < (itemsL (opN m F)).length → (x : Int) < vcN gW m F (nth (itemsL (opN m F)) j)) => plan_more hm7 HFF.out h0 hs3 hno)
    have HNIL := hide (show (itemsL (opN m F)).length = 0 → opN m F = 0 from fun h => by
      apply Nat.eq_of_testBit_eq
      intro q
      rw [Nat.zero_testBit]
      cases e : (opN m F).testBit q
      · rfl
      · obtain ⟨j, hj, _⟩ := hs3 q e; omega)
    have HZERO := hide (show opN m F = 0 → (viN gW m F : Int) = 0 ∧ (vmN gW m F : Int) = 0 from fun h => ⟨by unfold viN; rw [if_pos h]; rfl, by rw [vmN_zero h]; rfl⟩)
    have HNZ := hide (show (itemsL (opN m F)).length ≠ 0 → opN m F ≠ 0 from fun h e => h (by rw [e]; rfl))
    have HOP := hide (fun w1 => open_c m F w1 hm7)
    have HVT := hide (fun i => vW_max m F i)
    have hcl := cntS_le F
    have HCN := hide (fun w1 => count_c (m : Int) F w1)
    have HHV := hide (fun w1 => halvings_c (cntS F) w1 hcl)
    have HPUT := hide (fun D2 (h : planOk m D2) (hD : IsMap D2) => planOk_put hm7 h hD HFF.out)
    have HIT := hide (fun w1 (h : tab w1) => items_c (opN m F) w1 hO8 h)
    clear hs1 hs2 hs3 hpc7
    generalize opN m F = O at *
    generalize itemsL O = I at *
    by_cases hI : I.length = 0
    · have hIb : ((I.length : Int) == 0) = true := by simp [hI]
      go_wp2_with (first
        | (refine wpList_load_fam rowT sizeT rfl (.tmp 3) rfl w.heap.size rfl (m : Int) F (by first | exact HF4.out | exact HF2.out | exact HF0.out) ?_)
        | (at_lookup; refine wpList_look rfl 78 (.tmp 15) (.tmp 16) rfl b rfl _ rfl _ (HRUN.out _ HM0.out) ?_)
        | (refine wpList_store_csG (cs := plC va vb) sizePl rfl (.tmp 5) (.tmp 18) rfl (w.heap.size + 2) rfl rfl _ HL2.out rfl (plC_one _ _) ?_)
        | (go_at_call 51; refine (HOP.out _).mono ?_; rintro e w1 ⟨rfl, hb1⟩; have hz1 := hb1.size; rw [HZ2.out] at hz1; have HM3 := hide (HM2.out.blx hb1); have HT3 := hide (HT2.out.below hb1); have HF3 := hide (HF2.out.below hb1 HF2.out.lt); have HR3 := hide ((hb1.block (w.heap.size + 1) (by rw [HZ2.out]; omega)).trans HR2.out); have HB3 := hide (HB2.out.trans (Blx.of (hb1.mono (by rw [HZ2.out]; omega)))); clear hb1)
        | (go_at_call 67; refine (HIT.out _ HT3.out).mono ?_; rintro e w2 ⟨v2, rfl, ho2, hb2⟩; have hz2 := hb2.size; have HO4 := hide ho2; have HLI := hide ho2.ints; have HM4 := hide (HM3.out.blx hb2); have HT4 := hide (HT3.out.below hb2); have HF4 := hide (HF3.out.below hb2 HF3.out.lt); have HR4 := hide ((hb2.block (w.heap.size + 1) (by omega)).trans HR3.out); have HB4 := hide (HB3.out.trans (Blx.of (hb2.mono (by omega)))); clear ho2 hb2)
        | (refine wpList_len sliceT rfl (.tmp 25) rfl v2 rfl w2.heap.size I HLI.out ?_)
        | (refine wpList_build_pl0 rfl rfl ?_)
        | (refine wpList_store_csG (cs := plC 0 0) sizePl rfl (.tmp 4) (.tmp 28) rfl (w.heap.size + 1) rfl rfl _ HR4.out rfl (plC_one _ _) ?_))
      have HOO := HNIL.out hI
      obtain ⟨e1, e2⟩ := HZERO.out HOO
      have hbr := hp_row w2 (w.heap.size + 1) _ (plC 0 0) _ HR4.out
      have hbm := HM4.out.lt
      have HM5 := HM4.out.rowO (w.heap.size + 1) (by omega) (plC 0 0)
      have HB5 := HB4.out.trans (Blx.of (o := some b) ((bl_row (Below.refl (w.heap.size + 1) w2) (Nat.le_refl _) (plC 0 0)).mono (show w.heap.size ≤ w.heap.size + 1 by omega)))
      go_wp2
      rw [Exit.noGoto_ret]
      refine (show bodyPost _ _ _ Exit.ret _ _ from ?_)
      exact bodyPost_ret (v := .agg (plC 0 0)) (results_csP (cs := plC 0 0) rowPl sizePl rfl _ _ (w.heap.size + 1) rfl hbr) rfl ⟨n, D, by rw [e1, e2], HM5, HOK.out, by omega, HB5⟩
    · have hIb : ((I.length : Int) == 0) = false := by rw [beq_eq_false_iff_ne]; omega
      go_wp2_with (first
        | (refine wpList_load_fam rowT sizeT rfl (.tmp 3) rfl w.heap.size rfl (m : Int) F (by first | exact HF4.out | exact HF2.out | exact HF0.out) ?_)
        | (at_lookup; refine wpList_look rfl 78 (.tmp 15) (.tmp 16) rfl b rfl _ rfl _ (HRUN.out _ HM0.out) ?_)
        | (refine wpList_store_csG (cs := plC va vb) sizePl rfl (.tmp 5) (.tmp 18) rfl (w.heap.size + 2) rfl rfl _ HL2.out rfl (plC_one _ _) ?_)
        | (go_at_call 51; refine (HOP.out _).mono ?_; rintro e w1 ⟨rfl, hb1⟩; have hz1 := hb1.size; rw [HZ2.out] at hz1; have HM3 := hide (HM2.out.blx hb1); have HT3 := hide (HT2.out.below hb1); have HF3 := hide (HF2.out.below hb1 HF2.out.lt); have HR3 := hide ((hb1.block (w.heap.size + 1) (by rw [HZ2.out]; omega)).trans HR2.out); have HB3 := hide (HB2.out.trans (Blx.of (hb1.mono (by rw [HZ2.out]; omega)))); clear hb1)
        | (go_at_call 67; refine (HIT.out _ HT3.out).mono ?_; rintro e w2 ⟨v2, rfl, ho2, hb2⟩; have hz2 := hb2.size; have HO4 := hide ho2; have HLI := hide ho2.ints; have HM4 := hide (HM3.out.blx hb2); have HT4 := hide (HT3.out.below hb2); have HF4 := hide (HF3.out.below hb2 HF3.out.lt); have HR4 := hide ((hb2.block (w.heap.size + 1) (by omega)).trans HR3.out); have HB4 := hide (HB3.out.trans (Blx.of (hb2.mono (by omega)))); clear ho2 hb2)
        | (refine wpList_len sliceT rfl (.tmp 25) rfl v2 rfl w2.heap.size I HLI.out ?_)
        )
      apply wp_label
      have hb5 := (Below.refl w2.heap.size w2).alloc (Nat.le_refl _) (.cells #[.int .i64 0, .int .i64 0] 80)
      have HM5 := hide (HM4.out.blx hb5)
      have HT5 := hide (HT4.out.below hb5)
      have HF5 := hide (HF4.out.below hb5 HF4.out.lt)
      have HO5 := hide (HO4.out.kept hb5)
      have HR5 := hide ((hb5.block (w.heap.size + 1) (by omega)).trans HR4.out)
      have HP5 := hide (hp_last w2 (.cells #[.int .i64 0, .int .i64 0] 80))
      have HB5 := hide (HB4.out.trans (Blx.of (o := some b) (hb5.mono (by omega))))
      have HZ5 := hide (show (w2.alloc (.cells #[.int .i64 0, .int .i64 0] 80)).heap.size = w2.heap.size + 1 by simp)
      clear hb5
      go_wp2_with (first
        | (refine wpList_load_fam rowT sizeT rfl (.tmp 3) rfl w.heap.size rfl (m : Int) F HF5.out ?_)
        | (go_at_call 69; refine (HCN.out _).mono ?_; rintro e w3 ⟨rfl, hb3⟩; have hz3 := hb3.size; rw [HZ5.out] at hz3; have HM6 := hide (HM5.out.blx hb3); have HT6 := hide (HT5.out.below hb3); have HF6 := hide (HF5.out.below hb3 HF5.out.lt); have HO6 := hide (HO5.out.kept hb3); have HR6 := hide ((hb3.block (w.heap.size + 1) (by rw [HZ5.out]; omega)).trans HR5.out); have HP6 := hide ((hb3.block w2.heap.size (by rw [HZ5.out]; omega)).trans HP5.out); have HB6 := hide (HB5.out.trans (Blx.of (hb3.mono (by rw [HZ5.out]; omega)))); clear hb3)
        | (go_at_call 68; refine (HHV.out _).mono ?_; rintro e w4 ⟨rfl, rfl⟩))
      go_loopw [9] (fun x wr => ∃ (c n2 : Nat) (D2 : DataW Unit), x = .int .i64 (c : Int) ∧ hvN (cntS F) ≤ c ∧ c ≤ vmN gW m F ∧ n2 ≤ n + 14 * (c - hvN (cntS F)) * U ∧ Hid (mapPl wr b n2 D2) ∧ Hid (planOk m D2) ∧ Hid (tab wr) ∧ Hid (famAt 45 wr w.heap.size (m : Int) F) ∧ Hid (own 3 wr w1.heap.size v2 I) ∧ Hid (wr.heap[w.heap.size + 1]? = some (.cells (plC 0 0) 80)) ∧ Hid (wr.heap[w2.heap.size]? = some (.cells #[.int .i64 0, .int .i64 0] 80)) ∧ Hid (w2.heap.size < wr.heap.size) ∧ Hid (Blx (some b) w.heap.size w wr)) (fun x _ => vmN gW m F + 1 - (intOf x).toNat)
      case atStart => exact ⟨hvN (cntS F), n, D, rfl, Nat.le_refl _, hvle, by simp, HM6, HOK, HT6, HF6, HO6, HR6, HP6, hide (by omega), HB6⟩
      case round =>
        clear HM6 HT6 HF6 HO6 HR6 HP6 HB6 HM5 HT5 HF5 HO5 HR5 HP5 HB5 HZ5 HM4 HT4 HF4 HO4 HLI HR4 HB4 HM3 HT3 HF3 HR3 HB3 HM2 HT2 HF2 HR2 HP2 HB2 HL2 HZ2 HM0 HT0 HF0 HR0 HB0 HRUN HVV HOP HIT HCN HHV
        obtain ⟨c, n2, D2, rfl, hc1, hc2, hn2, HMr, HOKr, HTr, HFr, HOr, HRr, HPr, HZr, HBr⟩ := hrel
        have HLr := hide HOr.out.ints
        have hc7 : c ≤ 7 := by omega
        have hzr := HZr.out
        go_wp2_with (refine wpList_len sliceT rfl (.tmp 34) rfl v2 rfl wr.heap.size I HLr.out ?_)
        have hnn : n2 + 14 * U + 1 ≤ n + 112 * U + 1 := by
          have h1 : 14 * (c - hvN (cntS F)) * U ≤ 14 * 7 * U := Nat.mul_le_mul_right U (Nat.mul_le_mul_left 14 (by omega))
          omega
        go_loopw [36] (fun i wr => ∃ (k n3 : Nat) (D3 : DataW Unit), k ≤ I.length ∧ i = .int .i64 (k : Int) ∧ Hid (∀ j, j < k → (c : Int) < vcN gW m F (nth I j)) ∧ n3 ≤ n2 + 2 * k * U ∧ Hid (mapPl wr b n3 D3) ∧ Hid (planOk m D3) ∧ Hid (tab wr) ∧ Hid (famAt 45 wr w.heap.size (m : Int) F) ∧ Hid (own 3 wr w1.heap.size v2 I) ∧ Hid (wr.heap[w.heap.size + 1]? = some (.cells (plC 0 0) 80)) ∧ Hid (wr.heap[w2.heap.size]? = some (.cells #[.int .i64 0, .int .i64 0] 80)) ∧ Hid (w2.heap.size < wr.heap.size) ∧ Hid (Blx (some b) w.heap.size w wr)) (fun i _ => I.length - (intOf i).toNat)
        case atStart => exact ⟨0, n2, D2, Nat.zero_le _, rfl, hide (fun j hj => by omega), by omega, HMr, HOKr, HTr, HFr, HOr, HRr, HPr, HZr, HBr⟩
        case round =>
          clear HMr HOKr HTr HFr HOr HRr HPr HZr HBr HLr hzr
          obtain ⟨k, n3, D3, hk, rfl, HNO, hn3, HMr, HOKr, HTr, HFr, HOr, HRr, HPr, HZr, HBr⟩ := hrel
          have hzr := HZr.out
          have hbr := HMr.out.lt
          by_cases hlt : k < I.length
          · have HX := hide (HS1.out k hlt).1
            have hxb := (HS1.out k hlt).2.2
            have HLW := hide HOr.out.ints
            have HPT := hide (fun w1 => parted_c m F (nth I k) w1 hm7 HFF.out (HS1.out k hlt).2.1)
            have HI1 := hide (fun w1 n1 D1 => HIH.out (nth I k) true w1 n1 D1 hxb)
            have HI2 := hide (fun w1 n1 D1 => HIH.out (nth I k) false w1 n1 D1 hxb)
            have HFK := hide (HFOUND.out k c hlt hc2 HNO.out)
            have q3 := HVT.out (nth I k)
            have HNX := hide (show (c : Int) < vcN gW m F (nth I k) → ∀ j, j < k + 1 → (c : Int) < vcN gW m F (nth I j) from fun h j hj => by
              rcases Nat.lt_or_ge j k with h2 | h2
              · exact HNO.out j h2
              · rw [show j = k by omega]; exact h)
            generalize hG1 : ptF F (nth I k) true = G1 at *
            generalize hG2 : ptF F (nth I k) false = G2 at *
            generalize (vmN gW m G1) = z1 at *
            generalize (vmN gW m G2) = z2 at *
            clear hG1 hG2 hxb
            generalize vcN gW m F (nth I k) = ct at *
            generalize nth I k = s at *
            go_upto_region 14 with (first
              | (refine wpList_at sliceT intS rfl (.tmp _) (.tmp _) rfl _ rfl k rfl wr.heap.size I HLW.out hlt ?_; intro ad hcell hblk; rw [HX.out] at hcell)
              | (refine wpList_load_fam rowT sizeT rfl (.tmp 3) rfl w.heap.size rfl (m : Int) F HFr.out ?_)
              | (go_at_call 52; refine (HPT.out _).mono ?_; rintro e w5 ⟨rfl, hb5⟩; have hz5 := hb5.size; have HA := hide ((((famAt.new 45 w5 0 noSet).alloc (.cells (fam 0 noSet) 45)).row (m : Int) G1).rowO (w5.heap.size + 1) (by omega) (fam (m : Int) G2)); have HBB := hide (((show famAt 45 ((w5.alloc (.cells (fam 0 noSet) 45)).alloc (.cells (fam 0 noSet) 45)) (w5.heap.size + 1) 0 noSet by have h := famAt.new 45 (w5.alloc (.cells (fam 0 noSet) 45)) 0 noSet; simpa using h).rowO w5.heap.size (by omega) (fam (m : Int) G1)).row (m : Int) G2); have hbx := bl_row (bl_row (((Below.refl w5.heap.size w5).alloc (Nat.le_refl _) (.cells (fam 0 noSet) 45)).alloc (by simp) (.cells (fam 0 noSet) 45)) (Nat.le_refl _) (fam (m : Int) G1)) (show w5.heap.size ≤ w5.heap.size + 1 by omega) (fam (m : Int) G2); have HZ6 := hide (show ((((w5.alloc (.cells (fam 0 noSet) 45)).alloc (.cells (fam 0 noSet) 45)).setRow w5.heap.size (fam (m : Int) G1)).setRow (w5.heap.size + 1) (fam (m : Int) G2)).heap.size = w5.heap.size + 2 by simp [World.setRow]); have HB6 := hide (hb5.trans (hbx.mono hz5)); clear hb5 hbx)
              | (refine wpList_alloc_fam zeroT rfl rfl _ (by first | (simp only [World.size_alloc]; rfl) | rfl) ?_)
              | (refine wpList_store_fam sizeT rfl (.tmp 12) (.tmp _) rfl w5.heap.size _ _ rfl rfl _ _ ((famAt.new _ _ _ _).alloc _) ?_)
              | (refine wpList_store_fam sizeT rfl (.tmp 13) (.tmp _) rfl (w5.heap.size + 1) _ _ rfl rfl _ _ ((show famAt 45 ((w5.alloc (.cells (fam 0 noSet) 45)).alloc (.cells (fam 0 noSet) 45)) (w5.heap.size + 1) 0 noSet by have h := famAt.new 45 (w5.alloc (.cells (fam 0 noSet) 45)) 0 noSet; simpa using h).rowO w5.heap.size (by omega) (fam (m : Int) G1)) ?_))
            clear hcell hblk
            generalize (((w5.alloc (.cells (fam 0 noSet) 45)).alloc (.cells (fam 0 noSet) 45)).setRow w5.heap.size (fam (m : Int) G1)).setRow (w5.heap.size + 1) (fam (m : Int) G2) = V at *
            have hmul : 2 * (k + 1) * U = 2 * k * U + 2 * U := by rw [show 2 * (k + 1) = 2 * k + 2 by omega, Nat.add_mul]
            have hmul2 : 2 * (k + 1) * U ≤ 14 * U := Nat.mul_le_mul_right U (by omega)
            have hzV := HZ6.out
            have HMV := hide (HMr.out.blx HB6.out)
            have HTV := hide (HTr.out.below HB6.out)
            have HFV := hide (HFr.out.below HB6.out HFr.out.lt)
            have HOV := hide (HOr.out.kept HB6.out)
            have HRV := hide ((HB6.out.block (w.heap.size + 1) (by omega)).trans HRr.out)
            have HPV := hide ((HB6.out.block w2.heap.size (by omega)).trans HPr.out)
            have HBV := hide (HBr.out.trans (Blx.of (o := some b) (HB6.out.mono (by omega))))
            have hfl := HFr.out.lt
            clear HX HLW HPT HIH HPr HRr HOr HFr HTr HMr HBr HS1
            by_cases h1 : (z1 : Int) < (c : Int)
            · by_cases h2 : (z2 : Int) < (c : Int)
              · obtain ⟨e1, e2⟩ := HFK.out (by omega)
                have HV := hide (show plR (.agg (plC (s : Int) (c : Int))) = some (planD m F, []) by unfold planD; rw [e1, e2]; rfl)
                have HE := hide (show Value.agg (plC (viN gW m F : Int) (vmN gW m F : Int)) = Value.agg (plC (s : Int) (c : Int)) by rw [e1, e2])
                clear e1 e2
                go_wp2_with (first
                  | (refine wpList_load_fam rowT sizeT rfl (.tmp 12) rfl w5.heap.size rfl (m : Int) G1 HA.out ?_)
                  | (go_at_call 50; refine (HI1.out _ n3 D3 HMV.out HOKr.out (by omega) HTV.out).mono ?_; rintro e w6 ⟨n4, D4, rfl, hm6, hok6, hn4, hb6⟩; have hz6 := hb6.size; have HM6 := hide hm6; have HOK6 := hide hok6; have HT6 := hide (HTV.out.blx hb6 hgb); have HF6 := hide (HFV.out.blx hb6 (by omega) (by simp; omega)); have HO6 := hide (HOV.out.blx hb6 (fun (c : Nat) (hc : some b = some c) => show c < w1.heap.size from by rw [← Option.some.inj hc]; omega)); have HR6 := hide ((hb6.block (w.heap.size + 1) (by omega) (by simp; omega)).trans HRV.out); have HP6 := hide ((hb6.block w2.heap.size (by omega) (by simp; omega)).trans HPV.out); have HBB6 := hide (HBB.out.blx hb6 (by omega) (by simp; omega)); have HB7 := hide (HBV.out.trans (hb6.mono (by omega))); clear hm6 hok6 hb6 HI1)
                  | (refine wpList_fieldPl rfl (.tmp 48) rfl _ _ rfl ?_)
                  | (refine wpList_load_fam rowT sizeT rfl (.tmp 13) rfl (w5.heap.size + 1) rfl (m : Int) G2 HBB6.out ?_)
                  | (go_at_call 50; refine (HI2.out _ n4 D4 HM6.out HOK6.out (by omega) HT6.out).mono ?_; rintro e w7 ⟨n5, D5, rfl, hm7', hok7, hn5, hb7⟩; have hz7 := hb7.size; have HM7 := hide hm7'; have HOK7 := hide hok7; have HT7 := hide (HT6.out.blx hb7 hgb); have HF7 := hide (HF6.out.blx hb7 (by omega) (by simp; omega)); have HO7 := hide (HO6.out.blx hb7 (fun (c : Nat) (hc : some b = some c) => show c < w1.heap.size from by rw [← Option.some.inj hc]; omega)); have HR7 := hide ((hb7.block (w.heap.size + 1) (by omega) (by simp; omega)).trans HR6.out); have HP7 := hide ((hb7.block w2.heap.size (by omega) (by simp; omega)).trans HP6.out); have HB8 := hide (HB7.out.trans (hb7.mono (by omega))); clear hm7' hok7 hb7 HI2)
                  | (refine wpList_fieldPl rfl (.tmp 55) rfl _ _ rfl ?_)
                  | (refine wpList_build_pl rfl (.tmp 60) (.tmp 61) rfl (s : Int) (c : Int) rfl rfl ?_)
                  | (refine wpList_store_csG (cs := plC (s : Int) (c : Int)) sizePl rfl (.tmp 8) (.tmp 62) rfl w2.heap.size rfl rfl _ HP7.out rfl (plC_one _ _) ?_; have hbm := HM7.out.lt; have hbf := HF7.out.lt; have HF8 := hide (HF7.out.rowO w2.heap.size (by omega) (plC (s : Int) (c : Int))); have HM8 := hide (HM7.out.rowO w2.heap.size (by omega) (plC (s : Int) (c : Int))); have HP8 := hide (hp_row w7 w2.heap.size _ (plC (s : Int) (c : Int)) _ HP7.out); have HR8 := hide ((hp_rowO w7 w2.heap.size (w.heap.size + 1) (plC (s : Int) (c : Int)) (by omega)).trans HR7.out); have HB9 := hide (HB8.out.trans (Blx.of (o := some b) ((bl_row (Below.refl w2.heap.size w7) (Nat.le_refl _) (plC (s : Int) (c : Int))).mono (show w.heap.size ≤ w2.heap.size by omega)))); have hz8 : (w7.setRow w2.heap.size (plC (s : Int) (c : Int))).heap.size = w7.heap.size := by simp [World.setRow])
                  | (refine wpList_load_fam rowT sizeT rfl (.tmp 3) rfl w.heap.size rfl (m : Int) F HF8.out ?_)
                  | (refine wpList_load_csP (cs := plC (s : Int) (c : Int)) rowPl sizePl rfl (.tmp 8) rfl w2.heap.size rfl (by first | exact HP9.out | exact HP8.out) ?_)
                  | (at_mapUpdate; refine wpList_mapUpdate_own _ rfl _ _ _ 78 rfl 45 80 lawFam planUI _ b n5 D5 rfl HM8.out.own (by omega) _ _ (kf m F) rfl rfl (kf_is hm7 F) _ [] HV.out ?_; intro w9 hown9 hgrow9; have HM9 := hide (mapPl.mk hown9); have HP9 := hide ((hgrow9.block w2.heap.size (by omega) (by simp; omega)).trans HP8.out); have HR9 := hide ((hgrow9.block (w.heap.size + 1) (by omega) (by simp; omega)).trans HR8.out); have HB10 := hide (HB9.out.trans ((Blx.ofGrown hgrow9).mono (by omega))); clear hown9 hgrow9)
                  | (refine wpList_store_csG (cs := plC (s : Int) (c : Int)) sizePl rfl (.tmp 4) (.tmp 67) rfl (w.heap.size + 1) rfl rfl _ HR9.out rfl (plC_one _ _) ?_))
                have hbm9 := HM9.out.lt
                have hbr9 := hp_row w9 (w.heap.size + 1) _ (plC (s : Int) (c : Int)) _ HR9.out
                have HM10 := HM9.out.rowO (w.heap.size + 1) (by omega) (plC (s : Int) (c : Int))
                have HB11 := HB10.out.trans (Blx.of (o := some b) ((bl_row (Below.refl (w.heap.size + 1) w9) (Nat.le_refl _) (plC (s : Int) (c : Int))).mono (show w.heap.size ≤ w.heap.size + 1 by omega)))
                rw [Exit.noGoto_ret]
                refine (show bodyPost _ _ _ Exit.ret _ _ from ?_)
                exact bodyPost_ret (v := .agg (plC (s : Int) (c : Int))) (results_csP (cs := plC (s : Int) (c : Int)) rowPl sizePl rfl _ _ (w.heap.size + 1) rfl hbr9) rfl ⟨n5 + 1, D5.put (kf m F) (planD m F), by rw [HE.out], HM10, HPUT.out D5 HOK7.out HM7.out.isMap, by omega, HB11⟩
              · have HNK := hide (HNX.out (by omega))
                go_wp2_with (first
                  | (refine wpList_load_fam rowT sizeT rfl (.tmp 12) rfl w5.heap.size rfl (m : Int) G1 HA.out ?_)
                  | (go_at_call 50; refine (HI1.out _ n3 D3 HMV.out HOKr.out (by omega) HTV.out).mono ?_; rintro e w6 ⟨n4, D4, rfl, hm6, hok6, hn4, hb6⟩; have hz6 := hb6.size; have HM6 := hide hm6; have HOK6 := hide hok6; have HT6 := hide (HTV.out.blx hb6 hgb); have HF6 := hide (HFV.out.blx hb6 (by omega) (by simp; omega)); have HO6 := hide (HOV.out.blx hb6 (fun (c : Nat) (hc : some b = some c) => show c < w1.heap.size from by rw [← Option.some.inj hc]; omega)); have HR6 := hide ((hb6.block (w.heap.size + 1) (by omega) (by simp; omega)).trans HRV.out); have HP6 := hide ((hb6.block w2.heap.size (by omega) (by simp; omega)).trans HPV.out); have HBB6 := hide (HBB.out.blx hb6 (by omega) (by simp; omega)); have HB7 := hide (HBV.out.trans (hb6.mono (by omega))); clear hm6 hok6 hb6 HI1)
                  | (refine wpList_fieldPl rfl (.tmp 48) rfl _ _ rfl ?_)
                  | (refine wpList_load_fam rowT sizeT rfl (.tmp 13) rfl (w5.heap.size + 1) rfl (m : Int) G2 HBB6.out ?_)
                  | (go_at_call 50; refine (HI2.out _ n4 D4 HM6.out HOK6.out (by omega) HT6.out).mono ?_; rintro e w7 ⟨n5, D5, rfl, hm7', hok7, hn5, hb7⟩; have hz7 := hb7.size; have HM7 := hide hm7'; have HOK7 := hide hok7; have HT7 := hide (HT6.out.blx hb7 hgb); have HF7 := hide (HF6.out.blx hb7 (by omega) (by simp; omega)); have HO7 := hide (HO6.out.blx hb7 (fun (c : Nat) (hc : some b = some c) => show c < w1.heap.size from by rw [← Option.some.inj hc]; omega)); have HR7 := hide ((hb7.block (w.heap.size + 1) (by omega) (by simp; omega)).trans HR6.out); have HP7 := hide ((hb7.block w2.heap.size (by omega) (by simp; omega)).trans HP6.out); have HB8 := hide (HB7.out.trans (hb7.mono (by omega))); clear hm7' hok7 hb7 HI2)
                  | (refine wpList_fieldPl rfl (.tmp 55) rfl _ _ rfl ?_)
                  )
                go_roundw
                case rel => exact ⟨k + 1, n5, D5, by omega, by go_num, HNK, by omega, HM7, HOK7, HT7, HF7, HO7, HR7, HP7, hide (by omega), HB8⟩
                case measure => (simp [intOf] <;> omega)
            · have HNK := hide (HNX.out (by omega))
              go_wp2_with (first
                | (refine wpList_load_fam rowT sizeT rfl (.tmp 12) rfl w5.heap.size rfl (m : Int) G1 HA.out ?_)
                | (go_at_call 50; refine (HI1.out _ n3 D3 HMV.out HOKr.out (by omega) HTV.out).mono ?_; rintro e w6 ⟨n4, D4, rfl, hm6, hok6, hn4, hb6⟩; have hz6 := hb6.size; have HM6 := hide hm6; have HOK6 := hide hok6; have HT6 := hide (HTV.out.blx hb6 hgb); have HF6 := hide (HFV.out.blx hb6 (by omega) (by simp; omega)); have HO6 := hide (HOV.out.blx hb6 (fun (c : Nat) (hc : some b = some c) => show c < w1.heap.size from by rw [← Option.some.inj hc]; omega)); have HR6 := hide ((hb6.block (w.heap.size + 1) (by omega) (by simp; omega)).trans HRV.out); have HP6 := hide ((hb6.block w2.heap.size (by omega) (by simp; omega)).trans HPV.out); have HBB6 := hide (HBB.out.blx hb6 (by omega) (by simp; omega)); have HB7 := hide (HBV.out.trans (hb6.mono (by omega))); clear hm6 hok6 hb6 HI1)
                | (refine wpList_fieldPl rfl (.tmp 48) rfl _ _ rfl ?_)
                )
              go_roundw
              case rel => exact ⟨k + 1, n4, D4, by omega, by go_num, HNK, by omega, HM6, HOK6, HT6, HF6, HO6, HR6, HP6, hide (by omega), HB7⟩
              case measure => (simp [intOf] <;> omega)
          · have hke : k = I.length := by omega
            have HLT := hide (HMORE.out (HNZ.out hI) c (fun j hj => HNO.out j (by omega)))
            have hlt2 := HLT.out
            have hlt' : ¬ ((k : Int) < (I.length : Int)) := by omega
            have hmul : 2 * k * U ≤ 14 * U := Nat.mul_le_mul_right U (by omega)
            have hmul3 : 14 * (c + 1 - hvN (cntS F)) * U = 14 * (c - hvN (cntS F)) * U + 14 * U := by rw [show c + 1 - hvN (cntS F) = (c - hvN (cntS F)) + 1 by omega, Nat.mul_add, Nat.add_mul]
            go_wp2
            go_roundw
            case rel => exact ⟨c + 1, n3, D3, by go_num, by omega, by omega, by omega, HMr, HOKr, HTr, HFr, HOr, HRr, HPr, HZr, HBr⟩
            case measure => (simp [intOf] <;> omega)
  · obtain ⟨e1, e2⟩ := HVV.out rfl
    subst e1
    subst e2
    have hbr := hp_row ((W.alloc (.cells #[.int .i64 0, .int .i64 0] 80)).setRow (w.heap.size + 2) (plC (viN gW m F : Int) (vmN gW m F : Int))) (w.heap.size + 1) _ (plC (viN gW m F : Int) (vmN gW m F : Int)) _ HR2.out
    have HE := hide hbr
    have HBE := hide (HB2.out.trans (Blx.of (o := some b) (bl_row (Below.refl (w.heap.size + 1) ((W.alloc (.cells #[.int .i64 0, .int .i64 0] 80)).setRow (w.heap.size + 2) (plC (viN gW m F : Int) (vmN gW m F : Int)))) (Nat.le_refl _) (plC (viN gW m F : Int) (vmN gW m F : Int)) |>.mono (show w.heap.size ≤ w.heap.size + 1 by omega))))
    have hbm := HM2.out.lt
    have HME : Hid (mapPl (((W.alloc (.cells #[.int .i64 0, .int .i64 0] 80)).setRow (w.heap.size + 2) (plC (viN gW m F : Int) (vmN gW m F : Int))).setRow (w.heap.size + 1) (plC (viN gW m F : Int) (vmN gW m F : Int))) b n D) := hide (HM2.out.rowO _ (by omega) _)
    clear hbr
    go_wp2_with (first
      | (refine wpList_load_fam rowT sizeT rfl (.tmp 3) rfl w.heap.size rfl (m : Int) F HF0.out ?_)
      | (at_lookup; refine wpList_look rfl 78 (.tmp 15) (.tmp 16) rfl b rfl _ rfl _ (HRUN.out _ HM0.out) ?_)
      | (refine wpList_store_csG (cs := plC (viN gW m F : Int) (vmN gW m F : Int)) sizePl rfl (.tmp 5) (.tmp 18) rfl (w.heap.size + 2) rfl rfl _ HL2.out rfl (plC_one _ _) ?_)
      | (refine wpList_load_csP (cs := plC (viN gW m F : Int) (vmN gW m F : Int)) rowPl sizePl rfl (.tmp 5) rfl (w.heap.size + 2) rfl HP2.out ?_)
      | (refine wpList_store_csG (cs := plC (viN gW m F : Int) (vmN gW m F : Int)) sizePl rfl (.tmp 4) (.tmp 21) rfl (w.heap.size + 1) rfl rfl _ HR2.out rfl (plC_one _ _) ?_))
    exact bodyPost_ret (v := .agg (plC (viN gW m F : Int) (vmN gW m F : Int))) (results_csP (cs := plC (viN gW m F : Int) (vmN gW m F : Int)) rowPl sizePl rfl _ _ (w.heap.size + 1) rfl HE.out) rfl ⟨n, D, rfl, HME.out, HOK.out, by omega, HBE.out⟩
set_option maxHeartbeats 16000000 in
theorem planFor_c (m : Nat) (b : Nat) (hm7 : m ≤ 7) (hgb : 3 ≠ b) : ∀ (d : Nat) (F : Nat → Bool) (w : World) (n : Nat) (D : DataW Unit), (∀ x, F x = true → x ≤ low m) → pc (opN m F) ≤ d → mapPl w b n D → planOk m D → n + 113 ^ d < maxLen → tab w →
    Calls Tryd.prog 50 #[.map (some b), .agg (fam (m : Int) F)] w fun e w' => ∃ n' D', e = .returned (.agg (plC (viN gW m F : Int) (vmN gW m F : Int))) ∧ mapPl w' b n' D' ∧ planOk m D' ∧ n' ≤ n + 113 ^ d ∧ Blx (some b) w.heap.size w w' := by
  intro d
  induction d with
  | zero =>
    intro F w n D hF hpc hM hok hU hT
    have h0 : opN m F = 0 := by
      have h8 := opN_lt m hm7 F
      generalize opN m F = O at *
      exact pc_zero0I O h8 (by omega)
    refine (planFor_step m b 0 F hm7 hgb hF (fun i bb w1 n1 D1 hi => by rw [h0, Nat.zero_testBit] at hi; cases hi) w n D hM hok (by omega) hT).mono ?_
    rintro e w' ⟨n', D', rfl, h1, h2, h3, h4⟩
    exact ⟨n', D', rfl, h1, h2, by omega, h4⟩
  | succ d ih =>
    intro F w n D hF hpc hM hok hU hT
    have hpw : 113 ^ (d + 1) = 113 * 113 ^ d := by rw [Nat.pow_succ, Nat.mul_comm]
    have hpos : 0 < 113 ^ d := Nat.pow_pos (by omega)
    generalize hP : 113 ^ d = P at *
    rw [hpw] at hU ⊢
    refine (planFor_step m b P F hm7 hgb hF (fun i bb w1 n1 D1 hi hM1 hok1 hU1 hT1 => ?_) w n D hM hok (by omega) hT).mono ?_
    · have := pc_part hm7 hi bb
      exact ih (ptF F i bb) w1 n1 D1 (low_part hF) (by omega) hM1 hok1 hU1 hT1
    · rintro e w' ⟨n', D', rfl, h1, h2, h3, h4⟩
      exact ⟨n', D', rfl, h1, h2, by omega, h4⟩
end Go.Proofs.YtppojaekngeelaaDoor
