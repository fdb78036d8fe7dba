/- For the laws' walks: nets, as structs of one slice: copies, sizes, comparisons, marks. -/
import Derived.Test.YtonimjpfaalniaaDoorHar
import Derived.ProofKit
import Derived.OpenShut
import Derived.Lib.SmallJoins
namespace Go.Proofs.YtonimjpfaalniaaDoor
open Go.ChangeShapes Go.WideShapes Go.RowKit Go.Deep Go.WideElems Go.Maps Go.Joins
set_option maxRecDepth 100000
theorem cell1_at0 {w : World} {b : Nat} {x : Value} {T : TypeId} (h : w.heap[b]? = some (.cells #[x] T)) : w.cell? ⟨b, 0, none⟩ = some x := by rw [hp_cell h]; rfl
theorem rowNp : (Tryd.prog.underlying 62).map TypeDesc.isRow = some true := by kernel_rfl
theorem rowNl : (Tryd.prog.underlying 59).map TypeDesc.isRow = some true := by kernel_rfl
theorem sizeNp : (Tryd.prog.info? 62).map (·.size) = some 1 := by kernel_rfl
theorem sizeNl : (Tryd.prog.info? 59).map (·.size) = some 1 := by kernel_rfl
theorem ent_toNet : enters Tryd.prog 48 := enters_of Tryd.func48 (by kernel_rfl) (by kernel_rfl)
theorem ent_eqNet : enters Tryd.prog 50 := enters_of Tryd.func50 (by kernel_rfl) (by kernel_rfl)
theorem yields_load_one {ops : Array Oper} {S : World → Prop} {a : Act} {ty : TypeId} (hT : (Tryd.prog.underlying ty).map TypeDesc.isRow = some true) (hZ : (Tryd.prog.info? ty).map (·.size) = some 1) {o : Oper} (hw : Region.wanted o (yielded ops a.tmps) = true) (x : Operand) (ho : o.op = .load ty x)
    (g : Nat) (hx : a.eval x = .pointer (some ⟨g, 0, none⟩)) (u : Value) (h0 : ∀ w, S w → w.cell? ⟨g, 0, none⟩ = some u) : YieldsIf Tryd.prog ops S o (.agg #[u]) a := by
  obtain ⟨d, hu, hd⟩ := rowTy_of hT
  exact yieldsIf_load_mid hw ty x ho g 0 hx [u] d (fun w hS j y hy => by
    match j, hy with
    | 0, hy => simp at hy; subst hy; exact h0 w hS
    | j + 1, hy => simp at hy) hu hd (by rw [hZ]; rfl)

/-- A struct of one field of one cell, by value, opened. -/
theorem open_agg1 {H : Type} {enc : TypeId × Value → H} {P : Program} {w : World} {base : Nat} {spare : Nat → Bool} {held : Bool} {r : Reach} {b0 : Nat} {t : TypeId} {f0 : Field} {v : Value} {d : DataW H} {p : List MemPlace} (hs : P.underlying t = some (.struct #[f0])) (hone : oneCellFields P #[f0] = true) (hC : P.cellsOf t = 1)
    (hv : Value.okWide P w r b0 t v) (h : DataW.Trod enc P w base spare held t v d p) :
    ∃ (v0 : Value) (y0 : DataW H × List MemPlace) (n : Nat), v = .agg #[v0] ∧ d = .agg [y0.1] ∧ p = y0.2 ∧ DataW.trod enc P w base spare held n f0.type [v0] = some y0 := by
  obtain ⟨cs, rfl, hsz⟩ := okWide_struct hs hv
  obtain ⟨c0, rfl⟩ : ∃ c0, cs = #[c0] := by
    obtain ⟨l⟩ := cs
    match l, hsz.trans hC with
    | [c0], _ => exact ⟨c0, rfl⟩
  obtain ⟨fuel, hf⟩ := h
  obtain ⟨xs, n, _, hx, _, hlen, hff⟩ := DataW.trod_struct hs hf
  match xs, hlen with
  | [y0], _ =>
    obtain ⟨o0, k0⟩ := hone_of hone 0 f0 rfl
    have h0 := hff 0 f0 rfl
    simp only [Prod.mk.injEq] at hx
    refine ⟨c0, y0, n, rfl, by simpa using hx.1, by simpa using hx.2, ?_⟩
    simpa [Value.cells, o0, k0] using h0

theorem szNet_c (v : Value) (l : List Int) (left : Int) (w : World) (hl : ints w.heap.size w v l) (hlen : l.length ≤ 9223372036854775807) (h1 : 0 ≤ left) (h2 : left ≤ 1048576) :
    Calls Tryd.prog 46 #[.agg #[v], .int .i64 left] w fun e w' => e = .returned (.int .i64 (szOf left l.length)) ∧ Below w.heap.size w w' := by
  have HL1 := hide (hl.alloc (.cells #[v] 59))
  clear hl
  have hz : szOf left l.length = -1 ∨ ¬ szOf left l.length < 0 := by unfold szOf; split <;> omega
  generalize hq : szOf left l.length = q at hz ⊢
  have HQ := hide hq
  clear hq
  rcases hz with hz | hz
  · have HZ := hide hz
    have h3 : q < 0 := by omega
    clear hz
    go_enter Tryd.func46, Tryd.ntmps46
    go_wp2_with (go_at_call 60; refine (szIntS_c v l left _ (HL1.out.mono (by simp)) hlen h1 h2).mono ?_; rw [HQ.out]; rintro e w' ⟨rfl, rfl⟩)
    go_ret
    exact ⟨ret_i HZ.out.symm, (Below.refl _ _).alloc (Nat.le_refl _) _⟩
  · go_enter Tryd.func46, Tryd.ntmps46
    go_wp2_with (go_at_call 60; refine (szIntS_c v l left _ (HL1.out.mono (by simp)) hlen h1 h2).mono ?_; rw [HQ.out]; rintro e w' ⟨rfl, rfl⟩)
    go_ret
    exact ⟨rfl, (Below.refl _ _).alloc (Nat.le_refl _) _⟩

set_option maxHeartbeats 400000 in
theorem toNet_c (v : Value) (l : List Int) (w : World) (hl : ints w.heap.size w v l) (hlen : l.length < 1000000000) :
    Calls Tryd.prog 48 #[.agg #[v]] w fun e w' => ∃ g, e = .returned (.agg #[.slice (some ⟨g, 0, none⟩) l.length l.length]) ∧ w.heap.size ≤ g ∧ blk 3 w' g l ∧ Below w.heap.size w w' := by
  have HL := hide hl
  clear hl
  go_enter Tryd.func48, Tryd.ntmps48
  go_wp2_with fail
  refine (toIntS_c v l _ ((((HL.out.alloc _).alloc _).alloc _).mono (by simp; omega)) hlen).mono ?_
  rintro e w1 ⟨rfl, hb, hw⟩
  have hz : (((w.alloc (.cells #[v] 59)).alloc (.cells #[.slice none 0 0] 62)).alloc (.cells #[.slice none 0 0] 62)).heap.size = w.heap.size + 1 + 1 + 1 := by simp
  rw [hz] at hb hw ⊢
  have c21 : w1.cell? ⟨w.heap.size + 1 + 1, 0, none⟩ = some (.slice none 0 0) := by rw [hw.cell (p := ⟨w.heap.size + 1 + 1, 0, none⟩) (by show w.heap.size + 1 + 1 < _; omega)]; simp [go_sem]
  have f21 : w1.frozen? ⟨w.heap.size + 1 + 1, 0, none⟩ = false := by rw [hw.frozen (p := ⟨w.heap.size + 1 + 1, 0, none⟩) (by show w.heap.size + 1 + 1 < _; omega)]; simp [go_sem]
  have c11 : w1.cell? ⟨w.heap.size + 1, 0, none⟩ = some (.slice none 0 0) := by rw [hw.cell (p := ⟨w.heap.size + 1, 0, none⟩) (by show w.heap.size + 1 < _; omega)]; simp [go_sem]
  have f11 : w1.frozen? ⟨w.heap.size + 1, 0, none⟩ = false := by rw [hw.frozen (p := ⟨w.heap.size + 1, 0, none⟩) (by show w.heap.size + 1 < _; omega)]; simp [go_sem]
  have HB := hide hb
  have HW := hide hw
  clear hb hw hz
  go_wp2
  have hlt := HB.out.lt
  have hb0 := (((Below.refl w.heap.size w).alloc (Nat.le_refl _) (.cells #[v] 59)).alloc (by simp) (.cells #[.slice none 0 0] 62)).alloc (by simp; omega) (.cells #[.slice none 0 0] 62)
  refine bodyPost_ret (v := .agg #[.slice (some ⟨w.heap.size + 1 + 1 + 1, 0, none⟩) l.length l.length]) (by simp [results, Tryd.results48, go_sem, c11]) rfl ⟨_, rfl, by omega, ?_, ?_⟩
  · exact (hp_setO _ _ _ _ (by show _ ≠ w.heap.size + 1; omega)).trans ((hp_setO _ _ _ _ (by show _ ≠ w.heap.size + 1 + 1; omega)).trans HB.out)
  · exact ((hb0.trans (HW.out.mono (by omega))).setCell (by show _ ≤ w.heap.size + 1 + 1; omega) _).setCell (by show _ ≤ w.heap.size + 1; omega) _

set_option maxHeartbeats 400000 in
theorem eqNet_same_c (va vb : Value) (l : List Int) (w : World) (ha : ints w.heap.size w va l) (hb : ints w.heap.size w vb l) (hla : l.length < 1000000000) :
    Calls Tryd.prog 50 #[.agg #[va], .agg #[vb]] w fun e w' => e = .returned (.bool true) ∧ Below w.heap.size w w' := by
  have HA := hide (((ha.alloc (.cells #[va] 62)).alloc (.cells #[vb] 62)).mono (show w.heap.size ≤ ((w.alloc (.cells #[va] 62)).alloc (.cells #[vb] 62)).heap.size by simp; omega))
  have HB := hide (((hb.alloc (.cells #[va] 62)).alloc (.cells #[vb] 62)).mono (show w.heap.size ≤ ((w.alloc (.cells #[va] 62)).alloc (.cells #[vb] 62)).heap.size by simp; omega))
  have H0 := hide (((Below.refl w.heap.size w).alloc (Nat.le_refl _) (.cells #[va] 62)).alloc (by simp) (.cells #[vb] 62))
  clear ha hb
  go_enter Tryd.func50, Tryd.ntmps50
  go_wp2_with (go_at_call 30; refine (eqIntS_same_c va vb l _ HA.out HB.out hla).mono ?_; rintro e w' ⟨rfl, hb1⟩)
  go_ret
  exact ⟨rfl, H0.out.trans (hb1.mono (by simp; omega))⟩

set_option maxHeartbeats 400000 in
theorem markNet_c (v : Value) (l : List Int) (k0 : Int) (w : World) (base : Nat) (hl : own 3 w base v l) (hlen : l.length < 1000000000) (h1 : 0 ≤ k0) (h2 : k0 < 1000000000) :
    Calls Tryd.prog 51 #[.agg #[v], .int .i64 k0] w fun e w' => e = .returned (.int .i64 (k0 + l.length)) ∧ own 3 w' base v (upFrom k0 l.length) ∧ Other v w w' := by
  have HL := hide (hl.alloc (.cells #[v] 62))
  have HB := hide (Below.other v ((Below.refl w.heap.size w).alloc (Nat.le_refl _) (.cells #[v] 62)))
  clear hl
  go_enter Tryd.func51, Tryd.ntmps51
  go_wp2_with (go_at_call 33; refine (markIntS_c v l k0 _ base HL.out hlen h1 h2).mono ?_; rintro e w' ⟨rfl, ho, hb⟩; have HO := hide ho; have HB2 := hide hb; clear ho hb)
  go_ret
  exact ⟨rfl, HO.out, HB.out.trans HB2.out⟩
end Go.Proofs.YtonimjpfaalniaaDoor
