/- Contracts: sets put into chains: the whole chaining, the program's. -/
import Derived.Test.YtblglkgmnaklbaaCg
namespace Go.Proofs.Ytblglkgmnaklbaa
open Go.RowKit
set_option maxRecDepth 100000
set_option linter.unusedSimpArgs false
section
variable {P : Program} {T : TypeId} {cs : Array Value}
theorem wpList_load_cs (hT : (P.underlying T).map TypeDesc.isRow = some true) (hS : (P.info? T).map (·.size) = some cs.size)
    {ops : Array Oper} {rest : List Oper} {o : Oper} {a : Act} {w : World} {Q : Exit → Act → World → Prop} (hw : Region.wanted o (yielded ops a.tmps) = true) (x : Operand) (ho : o.op = .load T x)
    (g : Nat) (hx : a.eval x = .pointer (some ⟨g, 0, none⟩)) (hg : w.heap[g]? = some (.cells cs T))
    (h : wpList P ops Q rest (a.put o.dst (.agg cs)) w) : wpList P ops Q (o :: rest) a w := by
  obtain ⟨d, hu, hd⟩ := rowTy_of hT
  exact wpList_of_wp hw fun _ hK => wp_load_row T x ho g hx T cs (0, 0) d hg hu (by cases d <;> first | rfl | (cases hd)) hS (hK _ _ h)
theorem wpList_store_cs (hS : (P.info? T).map (·.size) = some cs.size)
    {ops : Array Oper} {rest : List Oper} {o : Oper} {a : Act} {w : World} {Q : Exit → Act → World → Prop} (hw : Region.wanted o (yielded ops a.tmps) = true) (x y : Operand) (ho : o.op = .store T x y)
    (g : Nat) (hx : a.eval x = .pointer (some ⟨g, 0, none⟩)) (hy : a.eval y = .agg cs) (old : Array Value) (hg : w.heap[g]? = some (.cells old T)) (hold : old.size = cs.size) (h1 : cs.all (·.oneCell') = true)
    (h : wpList P ops Q rest (a.put o.dst undef) (w.setRow g cs)) : wpList P ops Q (o :: rest) a w :=
  wpList_of_wp hw fun _ hK => wp_store_row T x y ho g cs hx hy T old hg hS hold h1 (hK _ _ h)
theorem results_cs (hT : (P.underlying T).map TypeDesc.isRow = some true) (hS : (P.info? T).map (·.size) = some cs.size) {fn : Func} {p : Tmp} (h : fn.results = #[.cell p T]) (tmps : Array Value) (w : World) (g : Nat)
    (hp : tmps.getD p undef = .pointer (some ⟨g, 0, none⟩)) (hg : w.heap[g]? = some (.cells cs T)) : (results fn tmps).run P w = .ok (.agg cs) w := by
  obtain ⟨d, hu, hd⟩ := rowTy_of hT
  exact results_cell_row h tmps w g T cs (0, 0) d hp hg hu (by cases d <;> first | rfl | (cases hd)) hS
theorem wpList_alloc_cs (hz : ((P.info? T).bind (·.zero)).map Value.cells = some cs) {ops : Array Oper} {rest : List Oper} {o : Oper} {a : Act} {w : World} {Q : Exit → Act → World → Prop}
    (hw : Region.wanted o (yielded ops a.tmps) = true) (ho : o.op = .alloc T) (m : Nat) (hm : w.heap.size = m)
    (h : wpList P ops Q rest (a.put o.dst (.pointer (some ⟨m, 0, none⟩))) (w.alloc (.cells cs T))) : wpList P ops Q (o :: rest) a w := by
  subst hm
  refine wpList_of_wp hw fun K hK => ?_
  have hrun : (Instr.alloc T true (.tuple #[])).run P w = .ok (.pointer (some ⟨w.heap.size, 0, none⟩)) (w.alloc (.cells cs T)) := by
    cases hq : P.info? T with
    | none => simp [hq] at hz
    | some i =>
      cases hv : i.zero with
      | none => simp [hq, hv] at hz
      | some v =>
        have hc : v.cells = cs := by simpa [hq, hv] using hz
        have hzv : (zeroValue T).run P w = .ok v w := by simp [zeroValue, typeInfo, hq, hv]
        unfold Instr.alloc
        simp only [Sem.run_bind, hzv, Result.andThen_ok]
        simp [newVar, newRow, hc]
  unfold Oper.wp execOp
  simp only [ho, Sem.run_bind, hrun, Sem.run_pure, Result.andThen_ok]
  exact hK _ _ h
end
def chg (n : Int) (P : Nat → Bool) (nx : Nat → Nat) : Array Value := (chgL n P nx).toArray
theorem chg_size (n : Int) (P : Nat → Bool) (nx : Nat → Nat) : (chg n P nx).size = 257 := by simp [chg, chgL, famRow_len]
theorem chg_one (n : Int) (P : Nat → Bool) (nx : Nat → Nat) : (chg n P nx).all (·.oneCell') = true := by
  rw [Array.all_eq_true_iff_forall_mem]
  intro v hv
  simp only [chg, chgL, famRow, List.mem_toArray, List.mem_append, List.mem_cons, List.mem_map] at hv
  rcases hv with (rfl | ⟨i, _, rfl⟩) | ⟨i, _, rfl⟩ <;> rfl
def nxZ : Nat → Nat := fun _ => 0
theorem chgAt_iff {T : TypeId} {w : World} {g : Nat} {n : Int} {P : Nat → Bool} {nx : Nat → Nat} : chgAt T w g n P nx ↔ w.heap[g]? = some (.cells (chg n P nx) T) := Iff.rfl
theorem rowCh : (Try.prog.underlying 66).map TypeDesc.isRow = some true := by kernel_rfl
theorem sizeCh0 : (Try.prog.info? 66).map (·.size) = some 257 := by kernel_rfl
theorem sizeCh (n : Int) (P : Nat → Bool) (nx : Nat → Nat) : (Try.prog.info? 66).map (·.size) = some (chg n P nx).size := by rw [sizeCh0, chg_size]
theorem zeroCh : ((Try.prog.info? 66).bind (·.zero)).map Value.cells = some (chg 0 noSet nxZ) := by kernel_rfl
theorem zeroTr : ((Try.prog.info? 46).bind (·.zero)).map Value.cells = some (famRow noSet).toArray := by kernel_rfl
theorem builtCh (n : Int) (P : Nat → Bool) : Try.prog.built 66 [(0, .agg (fam n P))] = some (chg n P nxZ) := by kernel_rfl
theorem wpList_build_chg {Q1 : Program} {T : TypeId} (hb : ∀ (n : Int) (P : Nat → Bool), Q1.built T [(0, .agg (fam n P))] = some (chg n P nxZ)) {ops : Array Oper} {rest : List Oper} {o : Oper} {a : Act} {w : World} {Q : Exit → Act → World → Prop}
    (hgd : o.guard = none) (x : Operand) (ho : o.op = .build T #[(0, x)]) (n : Int) (P : Nat → Bool) (hx : a.eval x = .agg (fam n P))
    (h : wpList Q1 ops Q rest (a.put o.dst (.agg (chg n P nxZ))) w) : wpList Q1 ops Q (o :: rest) a w := by
  have e : (Q1.built T ((#[(0, x)] : Array (Nat × Operand)).map fun (i, x) => (i, a.eval x)).toList) = some (chg n P nxZ) := by
    simpa [hx] using hb n P
  exact wpList_build hgd T #[(0, x)] ho (by rw [e]; rfl) (by rw [e]; exact h)
attribute [local irreducible] p2 low memB risB chg
theorem maTo_no {P : Nat → Bool} {k : Nat} (h : P k = false) : maTo P (k + 1) = maTo P k := by rw [maTo, if_neg (by rw [h]; simp)]
theorem maTo_yes {P : Nat → Bool} {k : Nat} (h : P k = true) : maTo P (k + 1) = maSt P k (maTo P k) := by rw [maTo, if_pos h]
set_option maxHeartbeats 4000000 in
theorem chainingOf_c (m : Nat) (P : Nat → Bool) (w : World) (hm7 : m ≤ 7) (h0 : P 0 = false) (hP : ∀ x, P x = true → x < 128) :
    Calls Try.prog 47 #[.agg (fam (m : Int) P)] w fun e w' => e = .returned (.agg (chg (m : Int) P (maTo P (low m + 1)).nx)) ∧ Below w.heap.size w w' := by
  have hlo := low_lt m hm7
  have HF0 := hide (show famAt 48 (((w.alloc (.cells (fam (m : Int) P) 48)).alloc (.cells (chg 0 noSet nxZ) 66)).alloc (.cells (chg 0 noSet nxZ) 66)) w.heap.size (m : Int) P from ((famAt.new 48 w (m : Int) P).alloc _).alloc _)
  have HFA := hide (show famAt 48 ((w.alloc (.cells (fam (m : Int) P) 48)).alloc (.cells (chg 0 noSet nxZ) 66)) w.heap.size (m : Int) P from (famAt.new 48 w (m : Int) P).alloc _)
  have hr0 : (((w.alloc (.cells (fam (m : Int) P) 48)).alloc (.cells (chg 0 noSet nxZ) 66)).alloc (.cells (chg 0 noSet nxZ) 66)).heap[w.heap.size + 1]? = some (.cells (chg 0 noSet nxZ) 66) := (hp_old _ _ _ (by simp)).trans (by have h := hp_last (w.alloc (.cells (fam (m : Int) P) 48)) (.cells (chg 0 noSet nxZ) 66); simpa using h)
  have hc0 : (((w.alloc (.cells (fam (m : Int) P) 48)).alloc (.cells (chg 0 noSet nxZ) 66)).alloc (.cells (chg 0 noSet nxZ) 66)).heap[w.heap.size + 2]? = some (.cells (chg 0 noSet nxZ) 66) := by have h := hp_last ((w.alloc (.cells (fam (m : Int) P) 48)).alloc (.cells (chg 0 noSet nxZ) 66)) (.cells (chg 0 noSet nxZ) 66); simpa using h
  have HC0 := hide hc0
  have HC1 := hide (show chgAt 66 ((((w.alloc (.cells (fam (m : Int) P) 48)).alloc (.cells (chg 0 noSet nxZ) 66)).alloc (.cells (chg 0 noSet nxZ) 66)).setRow (w.heap.size + 2) (chg (m : Int) P nxZ)) (w.heap.size + 2) (m : Int) P nxZ from chgAt_iff.2 (hp_row _ _ _ _ _ hc0))
  have HR1 := hide ((hp_rowO (((w.alloc (.cells (fam (m : Int) P) 48)).alloc (.cells (chg 0 noSet nxZ) 66)).alloc (.cells (chg 0 noSet nxZ) 66)) (w.heap.size + 2) (w.heap.size + 1) (chg (m : Int) P nxZ) (by omega)).trans hr0)
  have HF1 := hide (HF0.out.rowO (w.heap.size + 2) (by omega) (chg (m : Int) P nxZ))
  have HB1 := hide (bl_row ((((Below.refl w.heap.size w).alloc (Nat.le_refl _) (.cells (fam (m : Int) P) 48)).alloc (by simp) (.cells (chg 0 noSet nxZ) 66)).alloc (by simp; omega) (.cells (chg 0 noSet nxZ) 66)) (show w.heap.size ≤ w.heap.size + 2 by omega) (chg (m : Int) P nxZ))
  have HZ1 := hide (show ((((w.alloc (.cells (fam (m : Int) P) 48)).alloc (.cells (chg 0 noSet nxZ) 66)).alloc (.cells (chg 0 noSet nxZ) 66)).setRow (w.heap.size + 2) (chg (m : Int) P nxZ)).heap.size = w.heap.size + 3 by simp [World.setRow])
  have HFU : Hid (∀ (w1 : World), Calls Try.prog 57 #[.agg (fam (m : Int) P)] w1 fun e w' => e = .returned (.int .i64 (low m : Int)) ∧ Below w1.heap.size w1 w') := hide fun w1 => by
    have := full_c (m : Int) P w1 (by omega) (by omega)
    rw [Int.toNat_natCast] at this
    exact this
  have HAT := hide (fun k => maTo_at h0 hP k)
  have HST := hide (fun k (h : P k = true) => maSt_some h0 hP (maTo_at h0 hP k) h)
  clear hc0 hr0 HF0
  go_enter Try.func47, Try.ntmps47
  go_wp2_with (first
    | (refine wpList_alloc_cs zeroCh rfl rfl _ (by first | (simp only [World.size_alloc]; rfl) | rfl) ?_)
    | (refine wpList_load_fam rowT sizeT rfl (.tmp 1) rfl w.heap.size rfl (m : Int) P HFA.out ?_)
    | (refine wpList_build_chg builtCh rfl (.tmp 6) rfl (m : Int) P rfl ?_)
    | (refine wpList_store_cs (sizeCh (m : Int) P nxZ) rfl (.tmp 3) (.tmp 7) rfl (w.heap.size + 2) rfl rfl (chg 0 noSet nxZ) HC0.out (by rw [chg_size, chg_size]) (chg_one _ _ _) ?_)
    | (refine wpList_load_fam rowT sizeT rfl (.tmp 1) rfl w.heap.size rfl (m : Int) P HF1.out ?_)
    | (go_at_call 57; refine (HFU.out _).mono ?_; rintro e w1 ⟨rfl, hb1⟩; have hz1 := hb1.size; rw [HZ1.out] at hz1 hb1; have HF2 := hide (HF1.out.below hb1 (by omega)); have HR2 := hide ((hb1.block (w.heap.size + 1) (by omega)).trans HR1.out); have HC2 := hide (show chgAt 66 w1 (w.heap.size + 2) (m : Int) P nxZ from (hb1.block (w.heap.size + 2) (by omega)).trans HC1.out); have HB2 := hide (HB1.out.trans (hb1.mono (by omega))); clear hb1))
  go_loopw [11] (fun i wr => ∃ k : Nat, k ≤ low m + 1 ∧ i = .int .i64 (k : Int) ∧ Hid (famAt 48 wr w.heap.size (m : Int) P) ∧ Hid (wr.heap[w.heap.size + 1]? = some (.cells (chg 0 noSet nxZ) 66)) ∧ Hid (chgAt 66 wr (w.heap.size + 2) (m : Int) P (maTo P k).nx) ∧ Hid (w.heap.size + 3 ≤ wr.heap.size) ∧ Hid (Below w.heap.size w wr)) (fun i _ => low m + 1 - (intOf i).toNat)
  case atStart => exact ⟨0, by omega, rfl, HF2, HR2, HC2, hz1, HB2⟩
  case round =>
    clear HF2 HR2 HC2 HB2 HFA HC0 HC1 HR1 HF1 HB1 HZ1
    obtain ⟨k, hk, rfl, HF, HR, HC, HZ, HB⟩ := hrel
    have hz := HZ.out
    by_cases hlt : k < low m + 1
    · have hk8 : k < 128 := by omega
      have c1 := HF.out.get k hk8
      cases hp : P k
      · have HN := hide (maTo_no (P := P) hp)
        rw [hp] at c1
        clear hp
        go_wp2_with fail
        go_roundw
        case rel => exact ⟨k + 1, by omega, by go_num, HF, HR, hide (by rw [HN.out]; exact HC.out), HZ, HB⟩
        case measure => (simp [intOf] <;> omega)
      · have HN := hide (maTo_yes (P := P) hp)
        obtain ⟨r, hpu, _⟩ := HST.out k hp
        have hnl := (HAT.out k).lt
        have hc1 : chgAt 66 (wr.alloc (.cells (famRow noSet).toArray 46)) (w.heap.size + 2) (m : Int) P (maTo P k).nx := (hp_old _ _ _ (by omega)).trans HC.out
        have HPC := hide (put_c (m : Int) P fuM k _ r _ hpu hk8 hnl (wr.alloc (.cells (famRow noSet).toArray 46)) (w.heap.size + 2) wr.heap.size (by omega) hc1 (hp_last _ _))
        rw [hp] at c1
        clear hp hpu hnl hc1
        go_wp2_with (first
          | (refine wpList_alloc_cs zeroTr rfl rfl _ rfl ?_)
          | (go_at_call 62; refine HPC.out.mono ?_; rintro e w3 ⟨rfl, hc3, _, hb3⟩; have hz3 := hb3.size; simp only [World.size_alloc] at hz3; have HC3 := hide hc3; have HF3 := hide ((HF.out.alloc (.cells (famRow noSet).toArray 46)).below hb3 (by omega)); have HR3 := hide ((hb3.block (w.heap.size + 1) (by omega)).trans ((hp_old wr (.cells (famRow noSet).toArray 46) _ (by omega)).trans HR.out)); have HB3 := hide ((HB.out.alloc (by omega) (.cells (famRow noSet).toArray 46)).trans (hb3.mono (by omega))); clear hc3 hb3 c1))
        go_roundw
        case rel => exact ⟨k + 1, by omega, by go_num, HF3, HR3, hide (by rw [HN.out]; exact HC3.out), hide (by omega), HB3⟩
        case measure => (simp [intOf] <;> omega)
    · have hke : k = low m + 1 := by omega
      subst hke
      have hlt' : ¬ (((low m + 1 : Nat) : Int) < (low m : Int) + 1) := by omega
      clear hlt hk
      go_wp2_with (first
        | (refine wpList_load_cs rowCh (sizeCh (m : Int) P (maTo P (low m + 1)).nx) rfl (.tmp 3) rfl (w.heap.size + 2) rfl (chgAt_iff.1 HC.out) ?_)
        | (refine wpList_store_cs (sizeCh (m : Int) P (maTo P (low m + 1)).nx) rfl (.tmp 2) (.tmp _) rfl (w.heap.size + 1) rfl rfl (chg 0 noSet nxZ) HR.out (by rw [chg_size, chg_size]) (chg_one _ _ _) ?_))
      exact bodyPost_ret (v := .agg (chg (m : Int) P (maTo P (low m + 1)).nx)) (results_cs rowCh (sizeCh (m : Int) P (maTo P (low m + 1)).nx) rfl _ _ (w.heap.size + 1) rfl (hp_row _ _ _ _ _ HR.out)) rfl ⟨rfl, bl_row HB.out (by omega) _⟩
end Go.Proofs.Ytblglkgmnaklbaa
