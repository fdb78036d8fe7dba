/- Contracts: a run that a guide tells, the program's. -/
import Derived.Test.YtjmhmmenampgbaaDoorYh
import Derived.Test.YtjmhmmenampgbaaDoorTw
import Derived.Test.YtjmhmmenampgbaaDoorAp
import Derived.Test.YtjmhmmenampgbaaDoorTz
import Derived.OwnWalk
namespace Go.Proofs.YtjmhmmenampgbaaDoor
open Go.RowKit
set_option maxRecDepth 100000
set_option linter.unusedSimpArgs false
/-- What a guide is: a value of a type whose method is at hand. -/
structure GuideOk (P : Program) (T : TypeId) (x : Value) (k : FuncId) : Prop where
  na : ∀ w, (nilAhead (P.types.size + Made.depth) T x "loop.example/g01137/impl.next").run P w = .ok (some false) w
  me : ∀ w, (method (P.types.size + Made.depth) T x "loop.example/g01137/impl.next").run P w = .ok (k, x) w
  en : enters P k
section
variable {P : Program} {ops : Array Oper} {Q : Exit → Act → World → Prop} {md : Region.Mode} {S : World → Prop} {fuel : Nat} {listed : Array Bool} {a : Act} {w : World}
theorem anyH_invoke {i : Nat} {o : Oper} (hr : Region.ready md ops listed = [i]) (hi : ops[i]? = some o) (hw : Region.wanted o (yielded ops a.tmps) = true) (T : TypeId) (x : Value) (k : FuncId) (hg : GuideOk P T x k) (recv : Operand) (xs : Array Operand) (ts : Array TypeId)
    (ho : o.op = .call { callee := .invoke recv "loop.example/g01137/impl.next", args := xs, argTypes := ts }) (hx : a.eval recv = .iface T x) (args : Array Value) (hal : xs.toList.map a.eval = args.toList) {R : Ending → World → Prop} (hc : Calls P k (#[x] ++ args) w R)
    (h : ∀ e w', R e w' → ∃ v, e = .returned v ∧ S w' ∧ wpAnyH P md ops Q S fuel (listed.setIfInBounds i true) (a.put o.dst v) w') : wpAnyH P md ops Q S (fuel + 1) listed a w := by
  have ha : xs.map a.eval = args := Array.toList_inj.1 (by simpa using hal)
  refine wpAnyH_all hr (by simp) fun j hj => ?_
  have hj' : j = i := by simpa using hj
  subst hj'
  unfold wpOp
  simp only [hi, hw, if_true]
  refine .inl ?_
  have he : (execOp a.eval o).run P w = .ok (.enter k (#[x] ++ args)) w := by
    unfold execOp
    simp only [ho, resolve, hx, ha, pure_bind]
    have e1 : (#[Value.iface T x] ++ args)[0]? = some (Value.iface T x) := by rw [Array.getElem?_append_left (by simp)]; rfl
    have e2 : (#[Value.iface T x] ++ args).extract 1 (#[Value.iface T x] ++ args).size = args := by simp
    simp only [invoke, e1, e2, callMethod, Sem.run_bind, run_program, Result.andThen_ok, hg.me]
    exact hg.en _ _
  unfold Oper.wp
  rw [he]
  refine hc.mono fun e w' hR => ?_
  obtain ⟨v, rfl, h1, h2⟩ := h e w' hR
  exact ⟨h1, h2⟩
end
/-- The run that a guide tells, at most f moves more: its moves, and what lies there behind it. -/
def gdF (n : Nat) (L : Nat → Nat → Int) (nx : List Int → List Int → Option Int) : Nat → List Int → (Nat → Int) → List Int × (Nat → Int)
  | 0, rs, a => (rs, a)
  | f + 1, rs, a => if opL n L a = [] then (rs, a) else match nx rs (opL n L a) with
    | none => (rs, a)
    | some p => gdF n L nx f (rs ++ [p]) (mvF L p.toNat a)
theorem gdF_end {n : Nat} {L : Nat → Nat → Int} {nx : List Int → List Int → Option Int} {f : Nat} {rs : List Int} {a : Nat → Int} (h : opL n L a = []) : gdF n L nx f rs a = (rs, a) := by
  cases f
  · rfl
  · rw [gdF, if_pos h]
theorem gdF_stop {n : Nat} {L : Nat → Nat → Int} {nx : List Int → List Int → Option Int} {f : Nat} {rs : List Int} {a : Nat → Int} (h : nx rs (opL n L a) = none) : gdF n L nx f rs a = (rs, a) := by
  cases f
  · rfl
  · rw [gdF]
    split
    · rfl
    · rw [h]
theorem gdF_go {n : Nat} {L : Nat → Nat → Int} {nx : List Int → List Int → Option Int} {f : Nat} {rs : List Int} {a : Nat → Int} {p : Int} (h0 : opL n L a ≠ []) (h : nx rs (opL n L a) = some p) : gdF n L nx (f + 1) rs a = gdF n L nx f (rs ++ [p]) (mvF L p.toNat a) := by
  rw [gdF, if_neg h0, h]
def lnY : Value → Nat
  | .slice _ n _ => n
  | _ => 0
theorem own.lnY {I : TypeId} {w : World} {base : Nat} {v : Value} {l : List Int} (h : own I w base v l) : lnY v = l.length := by
  obtain ⟨a, c, e⟩ := h.shape
  rw [e]; rfl
theorem ent_open : enters Tryd.prog 45 := enters_of Tryd.func45 (by kernel_rfl) (by kernel_rfl)
theorem ent_itemsY : enters Tryd.prog 46 := enters_of Tryd.func46 (by kernel_rfl) (by kernel_rfl)
attribute [local irreducible] p2 low memB risB
set_option maxHeartbeats 8000000 in
theorem run_cY (n : Nat) (L : Nat → Nat → Int) (a0 : Nat → Int) (T : TypeId) (x : Value) (k : FuncId) (lim : Nat) (nx : List Int → List Int → Option Int) (I : List Int → Prop) (w : World) (hL : LnOk n L) (ha : AtOk n a0 30) (hg : GuideOk Tryd.prog T x k) (hlim : lim ≤ 120) (hT : tab w)
    (hnx : ∀ (u v : Value) (rs Ol : List Int) (w1 : World), Below w.heap.size w w1 → ints w1.heap.size w1 u rs → ints w1.heap.size w1 v Ol → 0 < Ol.length → Ol.length ≤ 5 → rs.length ≤ 120 → I rs → Calls Tryd.prog k (#[x] ++ #[u, v]) w1 fun e w2 => (∃ y, e = .returned (.tuple #[.int .i64 y, .bool (nx rs Ol).isSome]) ∧ ∀ z, nx rs Ol = some z → y = z) ∧ Below w1.heap.size w1 w2)
    (hmem : ∀ rs a, opL n L a ≠ [] → ∀ z, nx rs (opL n L a) = some z → z ∈ opL n L a) (hI0 : I []) (hI1 : ∀ rs Ol p, I rs → nx rs Ol = some p → I (rs ++ [p])) :
    Calls Tryd.prog 73 #[.agg (rowV (plR n L a0)), .iface T x, .int .i64 (lim : Int)] w fun e w' => ∃ v, e = .returned (.tuple #[v, .agg (rowV (plR n L (gdF n L nx lim [] a0).2))]) ∧ own 3 w' w.heap.size v (gdF n L nx lim [] a0).1 ∧ Below w.heap.size w w' := by
  have HB0 := hide (((Below.refl w.heap.size w).alloc (Nat.le_refl _) (.cells (rowV (plR n L a0)) 55)).alloc (by simp) (.cells (rowV (plR 0 zL zA)) 55))
  have HK0 := hide ((pkAt.new w n L a0).alloc (.cells (rowV (plR 0 zL zA)) 55))
  have HZ0 := hide (show pkAt ((w.alloc (.cells (rowV (plR n L a0)) 55)).alloc (.cells (rowV (plR 0 zL zA)) 55)) (w.heap.size + 1) 0 zL zA by have h := pkAt.new (w.alloc (.cells (rowV (plR n L a0)) 55)) 0 zL zA; simpa using h)
  have hz0 : ((w.alloc (.cells (rowV (plR n L a0)) 55)).alloc (.cells (rowV (plR 0 zL zA)) 55)).heap.size = w.heap.size + 2 := by simp
  obtain ⟨R, hR⟩ : ∃ R, R = gdF n L nx lim [] a0 := ⟨_, rfl⟩
  rw [← hR]
  have HR := hide hR
  have HL := hide hL
  have HA := hide (show AtOk n a0 (30 + 3 * (([] : List Int).length : Int)) from ha)
  have HG := hide hg
  have HT := hide hT
  have HNX := hide hnx
  have HME := hide hmem
  have HI0 := hide hI0
  have HI1 := hide hI1
  have h5 := hL.n5
  clear hL ha hg hT hnx hmem hR hI0 hI1
  go_enter Tryd.func73, Tryd.ntmps73
  go_wp2_with (first
    | (refine wpList_alloc_csY zeroPK rfl rfl _ (by first | (simp only [World.size_alloc]; rfl) | rfl) ?_))
  generalize (w.alloc (.cells (rowV (plR n L a0)) 55)).alloc (.cells (rowV (plR 0 zL zA)) 55) = W at *
  go_loopw [8] (fun v8 wr => ∃ (f : Nat) (rs : List Int) (a : Nat → Int), rs.length + f = lim ∧ Hid (I rs) ∧ Hid (R = gdF n L nx f rs a) ∧ Hid (AtOk n a (30 + 3 * (rs.length : Int))) ∧ Hid (own 3 wr (w.heap.size + 2) v8 rs) ∧ Hid (pkAt wr w.heap.size n L a) ∧ Hid (pkAt wr (w.heap.size + 1) 0 zL zA) ∧ Hid (w.heap.size + 2 ≤ wr.heap.size) ∧ Hid (Below w.heap.size w wr)) (fun v8 _ => lim - lnY v8)
  case atStart => exact ⟨lim, [], a0, by simp, HI0, HR, HA, own_nil _ _ _, HK0, HZ0, by rw [hz0]; exact Nat.le_refl _, HB0⟩
  case round =>
    clear HK0 HZ0 HB0 HR HA
    obtain ⟨f, rs, a, hf, HI, HRR, HAT, HV, HK, HZ, HS, HB⟩ := hrel
    have hs := HS.out
    have HOP := hide (fun w1 => open_cY n L a w1 HL.out)
    have hol := opL_len (n := n) L a
    have HLY := hide HV.out.lnY
    rcases Nat.eq_zero_or_pos f with h0 | h0
    · subst h0
      have HE := hide (show R = (rs, a) from HRR.out)
      have hnl : ¬ ((rs.length : Int) < (lim : Int)) := by omega
      go_wp2_with (first
        | (refine wpList_len sliceT rfl (.tmp _) rfl u8 rfl wr.heap.size rs HV.out.ints ?_))
      have HVx := HV
      have HKx := HK
      have HZx := HZ
      have HBx := HB
      have HSx := HS
      generalize wr = X at *
      refine wp_region_held (S := fun w' => pkAt w' w.heap.size n L a) (by kernel_rfl) ?_
      have hS0 : Below X.heap.size X { X with drawn := X.drawn + 1 } := (Below.refl _ _).drew
      have hz0 : ({ X with drawn := X.drawn + 1 } : World).heap.size = X.heap.size := rfl
      generalize ({ X with drawn := X.drawn + 1 } : World) = V0 at hS0 hz0 ⊢
      have hxs := HSx.out
      have hK0 : pkAt V0 w.heap.size n L a := HKx.out.below hS0 (by omega)
      have hK1 : pkAt V0 (w.heap.size + 1) 0 zL zA := HZx.out.below hS0 (by omega)
      refine wpAnyH_take (i := 0) (v := u8) rfl (by kernel_rfl) (by kernel_rfl) (by kernel_rfl) (fun _ _ _ h => h) (.inl ⟨rfl, fun w' _ => by go_simp⟩) hK0 ?_
      simp only [Act.put, List.getElem_toArray, List.getElem_cons_zero, List.getElem_cons_succ, List.setIfInBounds_toArray, List.set_cons_zero, List.set_cons_succ]
      refine wpAnyH_take (i := 1) rfl (by kernel_rfl) (by kernel_rfl) (by kernel_rfl) (fun _ _ _ h => h) (yields_load_csY (cs := rowV (plR n L a)) rowPK (sizePKl n L a) rfl (.tmp _) rfl w.heap.size rfl (fun w' h => h)) hK0 ?_
      simp only [Act.put, List.getElem_toArray, List.getElem_cons_zero, List.getElem_cons_succ, List.setIfInBounds_toArray, List.set_cons_zero, List.set_cons_succ]
      refine anyH_op (i := 2) (by kernel_rfl) rfl rfl u8 V0 (by simp [go_sem]) hK0 ?_
      simp only [Act.put, List.getElem_toArray, List.getElem_cons_zero, List.getElem_cons_succ, List.setIfInBounds_toArray, List.set_cons_zero, List.set_cons_succ]
      refine anyH_store_row (i := 3) _ (rowV (plR n L a)) (sizePKl n L a) (by kernel_rfl) rfl rfl (.tmp _) (.tmp _) rfl (w.heap.size + 1) rfl rfl hK1 (by simp [rowV, plR_len]) (rowV_one _) (hK0.rowO _ (by omega) _) ?_
      refine wpAnyH_done (by kernel_rfl) ?_ _
      simp only [Act.put, List.getElem_toArray, List.getElem_cons_zero, List.getElem_cons_succ, List.setIfInBounds_toArray, List.set_cons_zero, List.set_cons_succ]
      go_wp2
      refine (show bodyPost _ _ _ Exit.ret _ _ from ?_)
      refine bodyPost_ret (v := .tuple #[u8, .agg (rowV (plR n L a))]) (results_2csY rowPK (sizePKl n L a) (fn := Tryd.f73) (p := 7) (q := 6) rfl _ _ (w.heap.size + 1) rfl (hK1.row (m := n) (K := L) (b := a))) rfl ⟨u8, ?_, ?_, ?_⟩
      · rw [HE.out]
      · rw [HE.out]
        exact (((HVx.out.kept hS0)).same fun k hk => hp_rowO _ _ _ _ (by omega)).mono (by omega)
      · exact bl_row (HBx.out.trans (hS0.mono (by omega))) (by omega) _
    · obtain ⟨g, rfl⟩ : ∃ g, f = g + 1 := ⟨f - 1, by omega⟩
      have hnl : ((rs.length : Int) < (lim : Int)) := by omega
      by_cases hop : opL n L a = []
      · have HE := hide (show R = (rs, a) by rw [HRR.out, gdF_end hop])
        rw [(opM_zero h5).2 hop] at HOP
        go_wp2_with (first
          | (refine wpList_len sliceT rfl (.tmp _) rfl u8 rfl wr.heap.size rs HV.out.ints ?_)
          | (refine wpList_load_csY rowPK (sizePKl n L a) rfl (.tmp _) rfl w.heap.size rfl HK.out ?_)
          | (go_at_call 45; refine (HOP.out _).mono ?_; rintro e X ⟨rfl, hbx⟩; have hzx := hbx.size; have HVx := hide (HV.out.kept hbx); have HKx := hide (HK.out.below hbx (by omega)); have HZx := hide (HZ.out.below hbx (by omega)); have HBx := hide (HB.out.trans (hbx.mono (by omega))); have HSx := hide (show w.heap.size + 2 ≤ X.heap.size by omega); clear hbx))
        refine wp_region_held (S := fun w' => pkAt w' w.heap.size n L a) (by kernel_rfl) ?_
        have hS0 : Below X.heap.size X { X with drawn := X.drawn + 1 } := (Below.refl _ _).drew
        have hz0 : ({ X with drawn := X.drawn + 1 } : World).heap.size = X.heap.size := rfl
        generalize ({ X with drawn := X.drawn + 1 } : World) = V0 at hS0 hz0 ⊢
        have hxs := HSx.out
        have hK0 : pkAt V0 w.heap.size n L a := HKx.out.below hS0 (by omega)
        have hK1 : pkAt V0 (w.heap.size + 1) 0 zL zA := HZx.out.below hS0 (by omega)
        refine wpAnyH_take (i := 0) (v := u8) rfl (by kernel_rfl) (by kernel_rfl) (by kernel_rfl) (fun _ _ _ h => h) (.inl ⟨rfl, fun w' _ => by go_simp⟩) hK0 ?_
        simp only [Act.put, List.getElem_toArray, List.getElem_cons_zero, List.getElem_cons_succ, List.setIfInBounds_toArray, List.set_cons_zero, List.set_cons_succ]
        refine wpAnyH_take (i := 1) rfl (by kernel_rfl) (by kernel_rfl) (by kernel_rfl) (fun _ _ _ h => h) (yields_load_csY (cs := rowV (plR n L a)) rowPK (sizePKl n L a) rfl (.tmp _) rfl w.heap.size rfl (fun w' h => h)) hK0 ?_
        simp only [Act.put, List.getElem_toArray, List.getElem_cons_zero, List.getElem_cons_succ, List.setIfInBounds_toArray, List.set_cons_zero, List.set_cons_succ]
        refine anyH_op (i := 2) (by kernel_rfl) rfl rfl u8 V0 (by simp [go_sem]) hK0 ?_
        simp only [Act.put, List.getElem_toArray, List.getElem_cons_zero, List.getElem_cons_succ, List.setIfInBounds_toArray, List.set_cons_zero, List.set_cons_succ]
        refine anyH_store_row (i := 3) _ (rowV (plR n L a)) (sizePKl n L a) (by kernel_rfl) rfl rfl (.tmp _) (.tmp _) rfl (w.heap.size + 1) rfl rfl hK1 (by simp [rowV, plR_len]) (rowV_one _) (hK0.rowO _ (by omega) _) ?_
        refine wpAnyH_done (by kernel_rfl) ?_ _
        simp only [Act.put, List.getElem_toArray, List.getElem_cons_zero, List.getElem_cons_succ, List.setIfInBounds_toArray, List.set_cons_zero, List.set_cons_succ]
        go_wp2
        refine (show bodyPost _ _ _ Exit.ret _ _ from ?_)
        refine bodyPost_ret (v := .tuple #[u8, .agg (rowV (plR n L a))]) (results_2csY rowPK (sizePKl n L a) (fn := Tryd.f73) (p := 7) (q := 6) rfl _ _ (w.heap.size + 1) rfl (hK1.row (m := n) (K := L) (b := a))) rfl ⟨u8, ?_, ?_, ?_⟩
        · rw [HE.out]
        · rw [HE.out]
          exact (((HVx.out.kept hS0)).same fun k hk => hp_rowO _ _ _ _ (by omega)).mono (by omega)
        · exact bl_row (HBx.out.trans (hS0.mono (by omega))) (by omega) _
      · have hmz : ¬ (opM n L a : Int) = 0 := fun e => hop ((opM_zero h5).1 (by omega))
        have hmb : ((opM n L a : Int) != 0) = true := by rw [bne_iff_ne]; exact hmz
        have hm8 := opM_lt h5 L a
        have hpo : 0 < (opL n L a).length := List.length_pos_iff.2 hop
        have HIT := hide (fun w1 h => items_c (opM n L a) w1 hm8 h)
        rw [opL_items h5] at HIT
        have HST := hide (fun h => gdF_stop (n := n) (L := L) (nx := nx) (f := g + 1) (rs := rs) (a := a) h)
        have HGO := hide (fun p h => gdF_go (n := n) (L := L) (nx := nx) (f := g) (rs := rs) (a := a) (p := p) hop h)
        have HMV := hide (fun z h => op_move (HME.out rs a hop z h))
        have HIN := hide (fun p h => HI1.out rs (opL n L a) p HI.out h)
        go_wp2_with (first
          | (refine wpList_len sliceT rfl (.tmp _) rfl u8 rfl wr.heap.size rs HV.out.ints ?_)
          | (refine wpList_load_csY rowPK (sizePKl n L a) rfl (.tmp _) rfl w.heap.size rfl HK.out ?_)
          | (go_at_call 45; refine (HOP.out _).mono ?_; rintro e W1 ⟨rfl, hb1⟩; have hz1 := hb1.size; have HV1 := hide (HV.out.kept hb1); have HK1 := hide (HK.out.below hb1 (by omega)); have HZ1 := hide (HZ.out.below hb1 (by omega)); have HB1 := hide (HB.out.trans (hb1.mono (by omega))); clear hb1))
        refine wp_region_held (S := fun w' => pkAt w' w.heap.size n L a) (by kernel_rfl) ?_
        have hS0 : Below W1.heap.size W1 { W1 with drawn := W1.drawn + 1 } := (Below.refl _ _).drew
        have hzV : ({ W1 with drawn := W1.drawn + 1 } : World).heap.size = W1.heap.size := rfl
        generalize ({ W1 with drawn := W1.drawn + 1 } : World) = V0 at hS0 hzV ⊢
        have hK0 : pkAt V0 w.heap.size n L a := HK1.out.below hS0 (by omega)
        have hme := HG.out.na
        simp [go_sem] at hme
        refine wpAnyH_take (i := 0) (v := .iface T x) rfl (by kernel_rfl) (by kernel_rfl) (by kernel_rfl) (fun _ _ _ h => h) (.inl ⟨rfl, fun w' _ => by go_simp⟩) hK0 ?_
        simp only [Act.put, List.getElem_toArray, List.getElem_cons_zero, List.getElem_cons_succ, List.setIfInBounds_toArray, List.set_cons_zero, List.set_cons_succ]
        refine wpAnyH_take (i := 1) (v := u8) rfl (by kernel_rfl) (by kernel_rfl) (by kernel_rfl) (fun _ _ _ h => h) (.inl ⟨rfl, fun w' _ => by go_simp⟩) hK0 ?_
        simp only [Act.put, List.getElem_toArray, List.getElem_cons_zero, List.getElem_cons_succ, List.setIfInBounds_toArray, List.set_cons_zero, List.set_cons_succ]
        refine wpAnyH_take (i := 2) rfl (by kernel_rfl) (by kernel_rfl) (by kernel_rfl) (fun _ _ _ h => h) (yields_load_csY (cs := rowV (plR n L a)) rowPK (sizePKl n L a) rfl (.tmp _) rfl w.heap.size rfl (fun w' h => h)) hK0 ?_
        simp only [Act.put, List.getElem_toArray, List.getElem_cons_zero, List.getElem_cons_succ, List.setIfInBounds_toArray, List.set_cons_zero, List.set_cons_succ]
        refine wpAnyH_take (i := 5) (v := .func (.method "loop.example/g01137/impl.next") #[.iface T x] #[]) rfl (by kernel_rfl) (by kernel_rfl) (by kernel_rfl) (fun _ _ _ h => h) (.inl ⟨rfl, fun w' _ => by simp [execOp, go_sem, Instr.makeFunc]⟩) hK0 ?_
        simp only [Act.put, List.getElem_toArray, List.getElem_cons_zero, List.getElem_cons_succ, List.setIfInBounds_toArray, List.set_cons_zero, List.set_cons_succ]
        refine wpAnyH_take (i := 6) (v := .func (.method "loop.example/g01137/impl.next") #[.iface T x] #[]) rfl (by kernel_rfl) (by kernel_rfl) (by kernel_rfl) (fun _ _ _ h => h) (.inl ⟨rfl, fun w' _ => by simp [execOp, go_sem, hme]⟩) hK0 ?_
        simp only [Act.put, List.getElem_toArray, List.getElem_cons_zero, List.getElem_cons_succ, List.setIfInBounds_toArray, List.set_cons_zero, List.set_cons_succ]
        refine wpAnyH_take (i := 7) (v := .iface T x) rfl (by kernel_rfl) (by kernel_rfl) (by kernel_rfl) (fun _ _ _ h => h) (.inl ⟨rfl, fun w' _ => by go_simp⟩) hK0 ?_
        simp only [Act.put, List.getElem_toArray, List.getElem_cons_zero, List.getElem_cons_succ, List.setIfInBounds_toArray, List.set_cons_zero, List.set_cons_succ]
        refine anyH_call (i := 3) (by kernel_rfl) rfl rfl 45 ent_open _ _ rfl #[.agg (rowV (plR n L a))] rfl (HOP.out V0) ?_
        rintro e V1 ⟨rfl, hb2⟩
        have hK2 := hK0.below hb2 hK0.lt
        refine ⟨_, rfl, hK2, ?_⟩
        simp only [Act.put, List.getElem_toArray, List.getElem_cons_zero, List.getElem_cons_succ, List.setIfInBounds_toArray, List.set_cons_zero, List.set_cons_succ]
        have hS1 := hS0.trans (hb2.mono (by omega))
        have hz2 := hb2.size
        refine anyH_call (i := 4) (by kernel_rfl) rfl rfl 46 ent_itemsY _ _ rfl #[.int .i64 (opM n L a : Int)] rfl (HIT.out V1 (HT.out.below (HB1.out.trans (hS1.mono (by omega))))) ?_
        rintro e V2 ⟨v2, rfl, ho2, hb3⟩
        have hK3 := hK2.below hb3 hK2.lt
        refine ⟨_, rfl, hK3, ?_⟩
        simp only [Act.put, List.getElem_toArray, List.getElem_cons_zero, List.getElem_cons_succ, List.setIfInBounds_toArray, List.set_cons_zero, List.set_cons_succ]
        have hS2 := hS1.trans (hb3.mono (by omega))
        have hz3 := hb3.size
        refine anyH_invoke (i := 8) (by kernel_rfl) rfl rfl T x k HG.out (.tmp _) _ _ rfl rfl #[u8, v2] rfl (HNX.out u8 v2 rs (opL n L a) V2 (HB1.out.trans (hS2.mono (by omega))) (HV1.out.kept hS2).ints ho2.ints hpo (by omega) (by omega) HI.out) ?_
        rintro e V3 ⟨⟨y, rfl, hy⟩, hb4⟩
        have hK4 := hK3.below hb4 hK3.lt
        have hS3 := hS2.trans (hb4.mono (by omega))
        refine ⟨_, rfl, hK4, ?_⟩
        simp only [Act.put, List.getElem_toArray, List.getElem_cons_zero, List.getElem_cons_succ, List.setIfInBounds_toArray, List.set_cons_zero, List.set_cons_succ]
        refine wpAnyH_take (i := 9) (v := .tuple #[.int .i64 y, .bool (nx rs (opL n L a)).isSome]) rfl (by kernel_rfl) (by kernel_rfl) (by kernel_rfl) (fun _ _ _ h => h) (.inl ⟨rfl, fun w' _ => by go_simp⟩) hK4 ?_
        simp only [Act.put, List.getElem_toArray, List.getElem_cons_zero, List.getElem_cons_succ, List.setIfInBounds_toArray, List.set_cons_zero, List.set_cons_succ]
        refine wpAnyH_take (i := 10) (v := .int .i64 y) rfl (by kernel_rfl) (by kernel_rfl) (by kernel_rfl) (fun _ _ _ h => h) (.inl ⟨rfl, fun w' _ => by go_simp⟩) hK4 ?_
        simp only [Act.put, List.getElem_toArray, List.getElem_cons_zero, List.getElem_cons_succ, List.setIfInBounds_toArray, List.set_cons_zero, List.set_cons_succ]
        refine wpAnyH_take (i := 11) (v := .bool (nx rs (opL n L a)).isSome) rfl (by kernel_rfl) (by kernel_rfl) (by kernel_rfl) (fun _ _ _ h => h) (.inl ⟨rfl, fun w' _ => by go_simp⟩) hK4 ?_
        simp only [Act.put, List.getElem_toArray, List.getElem_cons_zero, List.getElem_cons_succ, List.setIfInBounds_toArray, List.set_cons_zero, List.set_cons_succ]
        refine wpAnyH_take (i := 12) (v := .int .i64 y) rfl (by kernel_rfl) (by kernel_rfl) (by kernel_rfl) (fun _ _ _ h => h) (.inl ⟨rfl, fun w' _ => by go_simp⟩) hK4 ?_
        simp only [Act.put, List.getElem_toArray, List.getElem_cons_zero, List.getElem_cons_succ, List.setIfInBounds_toArray, List.set_cons_zero, List.set_cons_succ]
        refine anyH_op (i := 13) (by kernel_rfl) rfl rfl (.bool (nx rs (opL n L a)).isSome) V3 (by simp [go_sem]) hK4 ?_
        refine wpAnyH_done (by kernel_rfl) ?_ _
        simp only [Act.put, List.getElem_toArray, List.getElem_cons_zero, List.getElem_cons_succ, List.setIfInBounds_toArray, List.set_cons_zero, List.set_cons_succ]
        have hz4 := hb4.size
        have HVx := hide (HV1.out.kept hS3)
        have HKx := hide hK4
        have HZx := hide (HZ1.out.below hS3 (by omega))
        have HBx := hide (HB1.out.trans (hS3.mono (by omega)))
        have HSx := hide (show w.heap.size + 2 ≤ V3.heap.size by omega)
        have hsx := HSx.out
        clear hS0 hS1 hS2 hS3 hK0 hK2 hK3 hK4 hb2 hb3 hb4 ho2 hzV
        generalize hnn : nx rs (opL n L a) = o at *
        cases o with
        | none =>
          have HE := hide (show R = (rs, a) by rw [HRR.out, HST.out rfl])
          rw [show (none : Option Int).isSome = false from rfl]
          generalize V3 = X at *
          go_wp2
          refine wp_region_held (S := fun w' => pkAt w' w.heap.size n L a) (by kernel_rfl) ?_
          have hS0 : Below X.heap.size X { X with drawn := X.drawn + 1 } := (Below.refl _ _).drew
          have hz0 : ({ X with drawn := X.drawn + 1 } : World).heap.size = X.heap.size := rfl
          generalize ({ X with drawn := X.drawn + 1 } : World) = V0 at hS0 hz0 ⊢
          have hxs := HSx.out
          have hK0 : pkAt V0 w.heap.size n L a := HKx.out.below hS0 (by omega)
          have hK1 : pkAt V0 (w.heap.size + 1) 0 zL zA := HZx.out.below hS0 (by omega)
          refine wpAnyH_take (i := 0) (v := u8) rfl (by kernel_rfl) (by kernel_rfl) (by kernel_rfl) (fun _ _ _ h => h) (.inl ⟨rfl, fun w' _ => by go_simp⟩) hK0 ?_
          simp only [Act.put, List.getElem_toArray, List.getElem_cons_zero, List.getElem_cons_succ, List.setIfInBounds_toArray, List.set_cons_zero, List.set_cons_succ]
          refine wpAnyH_take (i := 1) rfl (by kernel_rfl) (by kernel_rfl) (by kernel_rfl) (fun _ _ _ h => h) (yields_load_csY (cs := rowV (plR n L a)) rowPK (sizePKl n L a) rfl (.tmp _) rfl w.heap.size rfl (fun w' h => h)) hK0 ?_
          simp only [Act.put, List.getElem_toArray, List.getElem_cons_zero, List.getElem_cons_succ, List.setIfInBounds_toArray, List.set_cons_zero, List.set_cons_succ]
          refine anyH_op (i := 2) (by kernel_rfl) rfl rfl u8 V0 (by simp [go_sem]) hK0 ?_
          simp only [Act.put, List.getElem_toArray, List.getElem_cons_zero, List.getElem_cons_succ, List.setIfInBounds_toArray, List.set_cons_zero, List.set_cons_succ]
          refine anyH_store_row (i := 3) _ (rowV (plR n L a)) (sizePKl n L a) (by kernel_rfl) rfl rfl (.tmp _) (.tmp _) rfl (w.heap.size + 1) rfl rfl hK1 (by simp [rowV, plR_len]) (rowV_one _) (hK0.rowO _ (by omega) _) ?_
          refine wpAnyH_done (by kernel_rfl) ?_ _
          simp only [Act.put, List.getElem_toArray, List.getElem_cons_zero, List.getElem_cons_succ, List.setIfInBounds_toArray, List.set_cons_zero, List.set_cons_succ]
          go_wp2
          refine (show bodyPost _ _ _ Exit.ret _ _ from ?_)
          refine bodyPost_ret (v := .tuple #[u8, .agg (rowV (plR n L a))]) (results_2csY rowPK (sizePKl n L a) (fn := Tryd.f73) (p := 7) (q := 6) rfl _ _ (w.heap.size + 1) rfl (hK1.row (m := n) (K := L) (b := a))) rfl ⟨u8, ?_, ?_, ?_⟩
          · rw [HE.out]
          · rw [HE.out]
            exact (((HVx.out.kept hS0)).same fun k hk => hp_rowO _ _ _ _ (by omega)).mono (by omega)
          · exact bl_row (HBx.out.trans (hS0.mono (by omega))) (by omega) _
        | some p =>
          have hyp := hy p rfl
          subst hyp
          have hp := HMV.out y rfl
          obtain ⟨i, rfl⟩ : ∃ i : Nat, y = (i : Int) := ⟨_, hp.1⟩
          rw [Int.toNat_natCast] at hp
          have HR2 := hide (show R = gdF n L nx g (rs ++ [(i : Int)]) (mvF L i a) by rw [HRR.out, HGO.out _ rfl, Int.toNat_natCast])
          have HAO := hide (HAT.out.mono (show (30 : Int) + 3 * (rs.length : Int) ≤ 500 by omega))
          have HA2 := hide (show AtOk n (mvF L i a) (30 + 3 * ((rs ++ [(i : Int)]).length : Int)) from (mvF_ok HL.out HAT.out hp.2.1 hp.2.2).mono (by simp; omega))
          have HMO := hide (fun w1 => moved_c n L a i w1 HL.out hp.2.1 HAO.out)
          have hi := hp.2.1
          have HI2 := hide (HIN.out _ rfl)
          clear hp hy hnn HST HGO HMV HRR HIN
          rw [show (some (i : Int)).isSome = true from rfl]
          generalize mvF L i a = b at *
          go_wp2_with (first
            | (at_builtin; refine wpList_append1 sliceT intI rfl _ _ rfl (w.heap.size + 2) _ _ rfl (HVx.out.alloc _) _ (i : Int) rfl (by simp [go_sem]) (by simp; omega) (by omega) ?_; intro v10 w10 ho10 hb10; have hb11 := ((Below.refl (w.heap.size + 2) V3).alloc (by omega) _).trans hb10; have hz10 := hb11.size; have HV10 := hide ho10; have HK10 := hide (HKx.out.below hb11 (by omega)); have HZ10 := hide (HZx.out.below hb11 (by omega)); have HB10 := hide (HBx.out.trans (hb11.mono (by omega))); clear ho10 hb10 hb11)
            | (refine wpList_load_csY rowPK (sizePKl n L a) rfl (.tmp _) rfl w.heap.size rfl HK10.out ?_)
            | (go_at_call 82; refine (HMO.out _).mono ?_; rintro e W5 ⟨rfl, hb12⟩; have hz12 := hb12.size; have HV12 := hide (HV10.out.kept hb12); have HK12 := hide (HK10.out.below hb12 (by omega)); have HZ12 := hide (HZ10.out.below hb12 (by omega)); have HB12 := hide (HB10.out.trans (hb12.mono (by omega))); clear hb12)
            | (refine wpList_store_csY (sizePKl n L b) rfl (.tmp _) (.tmp _) rfl w.heap.size rfl rfl _ HK12.out (by simp [rowV, plR_len]) (rowV_one _) ?_))
          have HVr := hide (HV12.out.same fun k hk => hp_rowO (b := w.heap.size) (c := rowV (plR n L b)) W5 k (by omega))
          have HLY2 := hide HVr.out.lnY
          simp only [Act.put, List.getElem_toArray, List.getElem_cons_zero, List.getElem_cons_succ, List.setIfInBounds_toArray, List.set_cons_zero, List.set_cons_succ]
          go_roundw
          case rel => exact ⟨g, rs ++ [(i : Int)], b, by simp; omega, HI2, HR2, HA2, HVr, HK12.out.row, HZ12.out.rowO w.heap.size (by omega) _, (by show w.heap.size + 2 ≤ (W5.setRow w.heap.size (rowV (plR n L b))).heap.size; rw [show (W5.setRow w.heap.size (rowV (plR n L b))).heap.size = W5.heap.size by simp [World.setRow]]; omega), bl_row HB12.out (Nat.le_refl _) _⟩
          case measure =>
            have h1 := HLY2.out
            have h2 := HLY.out
            simp at h1
            omega
end Go.Proofs.YtjmhmmenampgbaaDoor
