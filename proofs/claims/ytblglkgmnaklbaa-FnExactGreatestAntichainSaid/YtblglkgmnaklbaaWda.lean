/- Contracts: the sets that are behind none, and how many they are, the program's. -/
import Derived.Test.YtblglkgmnaklbaaCk
namespace Go.Proofs.Ytblglkgmnaklbaa
open Go.RowKit
set_option maxRecDepth 100000
set_option linter.unusedSimpArgs false
/-- Numbers as the cells of an array. -/
def nxV (nx : Nat → Nat) : Array Value := ((List.range 128).map fun i => Value.int .i64 (nx i : Int)).toArray
theorem nxV_get (nx : Nat → Nat) (i : Nat) (h : i < 128) : (nxV nx)[i]? = some (.int .i64 (nx i : Int)) := by unfold nxV; simp [h]
/-- The marks of P less the first k of what follows. -/
def rmTo (P : Nat → Bool) (nx : Nat → Nat) : Nat → Nat → Bool
  | 0 => P
  | k + 1 => upd (rmTo P nx k) (nx k) false
theorem rmTo_iff (P : Nat → Bool) (nx : Nat → Nat) (x : Nat) : ∀ k, rmTo P nx k x = true ↔ P x = true ∧ ∀ j, j < k → nx j ≠ x
  | 0 => by simp [rmTo]
  | k + 1 => by
    have ih := rmTo_iff P nx x k
    unfold rmTo upd
    by_cases h : x = nx k
    · rw [if_pos h]
      constructor
      · intro e; cases e
      · intro ⟨_, e⟩; exact absurd h.symm (e k (Nat.lt_succ_self k))
    · rw [if_neg h, ih]
      constructor
      · rintro ⟨h1, h2⟩
        refine ⟨h1, fun j hj => ?_⟩
        rcases Nat.lt_or_ge j k with hk | hk
        · exact h2 j hk
        · rw [show j = k by omega]; exact fun e => h e.symm
      · rintro ⟨h1, h2⟩
        exact ⟨h1, fun j hj => h2 j (by omega)⟩
section
variable {P : Program} {A : TypeId} {ops : Array Oper} {rest : List Oper} {o : Oper} {a : Act} {w : World} {Q : Exit → Act → World → Prop}
theorem wpList_load_midM (hT : (P.underlying A).map TypeDesc.isRow = some true) (cs : List Value) (hS : (P.info? A).map (·.size) = some cs.length) (hw : Region.wanted o (yielded ops a.tmps) = true) (x : Operand) (ho : o.op = .load A x)
    (g off : Nat) (hx : a.eval x = .pointer (some ⟨g, off, none⟩)) (hg : ∀ j y, cs[j]? = some y → w.cell? ⟨g, off + j, none⟩ = some y)
    (h : wpList P ops Q rest (a.put o.dst (.agg cs.toArray)) w) : wpList P ops Q (o :: rest) a w := by
  obtain ⟨d, hu, hd⟩ := rowTy_of hT
  exact wpList_of_wp hw fun _ hK => wp_load_mid A x ho g off hx cs d hg hu hd hS (hK _ _ h)
theorem wpList_index_nx {B : TypeId} (hA : P.underlying A = some (.array 128 B)) (hB : (P.info? B).map (·.size) = some 1) (hr : (P.underlying B).map TypeDesc.isRow = some false)
    (hw : Region.wanted o (yielded ops a.tmps) = true) (x y : Operand) (ho : o.op = .index A x y)
    (nx : Nat → Nat) (hx : a.eval x = .agg (nxV nx)) (i : Nat) (hy : a.eval y = .int .i64 (i : Int)) (hi : i < 128)
    (h : wpList P ops Q rest (a.put o.dst (.int .i64 (nx i : Int))) w) : wpList P ops Q (o :: rest) a w := by
  have hB' : (sizeOf B).run P w = .ok 1 w := by
    cases hq : P.info? B with
    | none => simp [hq] at hB
    | some j =>
      have : j.size = 1 := by simpa [hq] using hB
      simp [sizeOf, typeInfo, hq, this]
  have hg := nxV_get nx i hi
  have hag : (isAgg B).run P w = .ok false w := by
    unfold isAgg
    cases hq : P.underlying B with
    | none => simp [hq] at hr
    | some d =>
      rw [Sem.run_bind, run_underlying hq w]
      cases d <;> simp_all [TypeDesc.isRow]
  have hrun : (Instr.index A (.agg (nxV nx)) (.int .i64 (i : Int))).run P w = .ok (.int .i64 (nx i : Int)) w := by
    unfold Instr.index part
    have h1 : (0 : Int) ≤ (i : Int) ∧ (i : Int) < ((128 : Nat) : Int) := by omega
    simp only [asIntOf, Sem.run_bind, Sem.run_pure, Result.andThen_ok, run_underlying hA w, if_pos h1, hB', hag, Int.toNat_natCast, Nat.mul_one, hg]
    simp
  refine wpList_of_wp hw fun K hK => ?_
  unfold Oper.wp execOp
  simp only [ho, hx, hy, Sem.run_bind, Sem.run_pure, hrun, Result.andThen_ok]
  exact hK _ _ h
end
theorem chg_part (n : Int) (P : Nat → Bool) (nx : Nat → Nat) (j : Nat) (y : Value) (h : (Value.int .i64 n :: famRow P)[j]? = some y) : (chgL n P nx).toArray[j]? = some y := by
  rw [List.getElem?_toArray]
  unfold chgL
  rw [List.getElem?_append_left (List.getElem?_eq_some_iff.1 h).1, h]
theorem chgAt.part {T : TypeId} {w : World} {g : Nat} {n : Int} {P : Nat → Bool} {nx : Nat → Nat} (h : chgAt T w g n P nx) (j : Nat) (y : Value) (hy : (Value.int .i64 n :: famRow P)[j]? = some y) : w.cell? ⟨g, 0 + j, none⟩ = some y := by
  rw [Nat.zero_add, hp_cell h]; exact chg_part n P nx j y hy
theorem chgAt.partN {T : TypeId} {w : World} {g : Nat} {n : Int} {P : Nat → Bool} {nx : Nat → Nat} (h : chgAt T w g n P nx) (j : Nat) (y : Value) (hy : ((List.range 128).map fun i => Value.int .i64 (nx i : Int))[j]? = some y) : w.cell? ⟨g, 129 + j, none⟩ = some y := by
  have hj : j < 128 := by have := (List.getElem?_eq_some_iff.1 hy).1; simpa using this
  rw [h.getN j hj, ← hy]
  simp [hj]
theorem rowNx : (Try.prog.underlying 64).map TypeDesc.isRow = some true := by kernel_rfl
theorem sizeNx : (Try.prog.info? 64).map (·.size) = some 128 := by kernel_rfl
theorem undNx : Try.prog.underlying 64 = some (.array 128 63) := by kernel_rfl
theorem sizeIs1 : (Try.prog.info? 63).map (·.size) = some 1 := by kernel_rfl
theorem rowIs0 : (Try.prog.underlying 63).map TypeDesc.isRow = some false := by kernel_rfl
attribute [local irreducible] p2 low memB risB chg nxV famAt own
set_option maxHeartbeats 4000000 in
theorem firsts_c (m : Nat) (P : Nat → Bool) (nx : Nat → Nat) (g : Nat) (w : World) (hc : chgAt 66 w g (m : Int) P nx) (hnx : ∀ j, nx j < 128) :
    Calls Try.prog 48 #[.pointer (some ⟨g, 0, none⟩)] w fun e w' => ∃ v, e = .returned v ∧ own 3 w' w.heap.size v (setsTo (rmTo P nx 128) 128) ∧ Below w.heap.size w w' := by
  have HC := hide hc
  have HNX := hide hnx
  have hlt := hc.lt
  have HF0 := hide ((famAt.new 48 w 0 noSet).row (m : Int) P)
  have HB0 := hide (bl_row ((Below.refl w.heap.size w).alloc (Nat.le_refl _) (.cells (fam 0 noSet) 48)) (Nat.le_refl _) (fam (m : Int) P))
  have HC1 := hide (show chgAt 66 ((w.alloc (.cells (fam 0 noSet) 48)).setRow w.heap.size (fam (m : Int) P)) g (m : Int) P nx from (hp_rowO _ _ _ _ (by omega)).trans ((hp_old w (.cells (fam 0 noSet) 48) g hlt).trans hc))
  have HL1 : Hid ((Value.int .i64 (m : Int) :: famRow P).toArray = fam (m : Int) P) := hide rfl
  have HL2 : Hid (((List.range 128).map fun i => Value.int .i64 (nx i : Int)).toArray = nxV nx) := hide (by unfold nxV; rfl)
  clear hc hnx
  go_enter Try.func48, Try.ntmps48
  go_wp2_with (first
    | (refine wpList_load_midM rowT (Value.int .i64 (m : Int) :: famRow P) (by rw [chg_lenA]; exact sizeT) rfl (.tmp 8) rfl g 0 rfl HC.out.part ?_; rw [HL1.out])
    | (refine wpList_alloc_fam zeroT rfl rfl _ (by first | (simp only [World.size_alloc]; rfl) | rfl) ?_)
    | (refine wpList_store_fam sizeT rfl (.tmp 3) (.tmp _) rfl w.heap.size _ _ rfl rfl _ _ (famAt.new _ _ _ _) ?_)
    | (refine wpList_load_midM rowNx ((List.range 128).map fun i => Value.int .i64 (nx i : Int)) (by rw [List.length_map, List.length_range]; exact sizeNx) rfl (.tmp 12) rfl g 129 rfl HC1.out.partN ?_; rw [HL2.out]))
  go_loopw [14] (fun i wr => ∃ k : Nat, k ≤ 128 ∧ i = .int .i64 (k : Int) ∧ Hid (famAt 48 wr w.heap.size (m : Int) (rmTo P nx k)) ∧ Hid (Below w.heap.size w wr)) (fun i _ => 128 - (intOf i).toNat)
  case atStart => exact ⟨0, by omega, rfl, HF0, HB0⟩
  case round =>
    clear HF0 HB0 HC1
    obtain ⟨k, hk, rfl, HF, HB⟩ := hrel
    have hsz := HB.out.size
    by_cases hlt : k < 128
    · have hy := HNX.out k
      have HR := hide (show rmTo P nx (k + 1) = upd (rmTo P nx k) (nx k) false from rfl)
      have c1 := HF.out.get (nx k) hy
      have f1 := HF.out.free (1 + nx k)
      generalize hX : nx k = x at hy HR c1 f1
      have HX := hide hX
      clear hX
      go_wp2_with (refine wpList_index_nx undNx sizeIs1 rowIs0 rfl (.tmp 13) (.tmp 14) rfl nx rfl k rfl hlt ?_; rw [HX.out])
      go_roundw
      case rel => exact ⟨k + 1, by omega, by go_num, hide (by rw [HR.out]; exact HF.out.set x hy false), hide (HB.out.setCell (by show w.heap.size ≤ w.heap.size; omega) _)⟩
      case measure => (simp [intOf] <;> omega)
    · have hke : k = 128 := by omega
      subst hke
      clear hlt hk
      go_wp2_with (first
        | (refine wpList_load_fam rowT sizeT rfl (.tmp 3) rfl w.heap.size rfl (m : Int) _ HF.out ?_)
        | (go_at_call 52; refine (sets_c (m : Int) (rmTo P nx 128) _).mono ?_; rintro e w2 ⟨v2, rfl, ho2, hb2⟩; have HO2 := hide (ho2.mono hsz); have HB2 := hide (HB.out.trans (hb2.mono hsz)); clear ho2 hb2))
      go_ret
      exact ⟨_, rfl, HO2.out, HB2.out⟩
/-- How many sets are behind none. -/
def wdF (m : Nat) (P : Nat → Bool) : Nat → Bool := rmTo P (maTo P (low m + 1)).nx 128
def wdN (m : Nat) (P : Nat → Bool) : Nat := (setsTo (wdF m P) 128).length
set_option maxHeartbeats 4000000 in
theorem width_c (m : Nat) (P : Nat → Bool) (w : World) (hm7 : m ≤ 7) (h0 : P 0 = false) (hP : ∀ x, P x = true → x < 128) :
    Calls Try.prog 32 #[.agg (fam (m : Int) P)] w fun e w' => e = .returned (.int .i64 (wdN m P : Int)) ∧ Below w.heap.size w w' := by
  have HF := hide (famAt.new 48 w (m : Int) P)
  have HB0 := hide ((Below.refl w.heap.size w).alloc (Nat.le_refl _) (.cells (fam (m : Int) P) 48))
  have hz0 : (w.alloc (.cells (fam (m : Int) P) 48)).heap.size = w.heap.size + 1 := by simp
  have HCO := hide (fun w1 => chainingOf_c m P w1 hm7 h0 hP)
  have HFI := hide (fun g w1 h => firsts_c m P (maTo P (low m + 1)).nx g w1 h (maTo_at h0 hP (low m + 1)).lt)
  have HLN := hide (show (setsTo (rmTo P (maTo P (low m + 1)).nx 128) 128).length = wdN m P from rfl)
  generalize (maTo P (low m + 1)).nx = nx at *
  generalize hR : setsTo (rmTo P nx 128) 128 = R at *
  clear hR
  go_enter Try.func32, Try.ntmps32
  go_wp2_with (first
    | (refine wpList_load_fam rowT sizeT rfl (.tmp 1) rfl w.heap.size rfl (m : Int) P HF.out ?_)
    | (go_at_call 47; refine (HCO.out _).mono ?_; rintro e w1 ⟨rfl, hb1⟩; have hz1 := hb1.size; rw [hz0] at hz1; have HB1 := hide (HB0.out.trans (hb1.mono (by rw [hz0]; omega))); have hc1 := hp_last w1 (.cells (chg 0 noSet nxZ) 66); have HC1 := hide (chgAt_iff.2 (hp_row _ w1.heap.size _ (chg (m : Int) P nx) _ hc1)); have HC0 := hide hc1; have HB2 := hide (bl_row (HB1.out.alloc (by omega) (.cells (chg 0 noSet nxZ) 66)) (show w.heap.size ≤ w1.heap.size by omega) (chg (m : Int) P nx)); clear hb1 hc1)
    | (refine wpList_alloc_cs zeroCh rfl rfl _ (by first | (simp only [World.size_alloc]; rfl) | rfl) ?_)
    | (refine wpList_store_cs (sizeCh (m : Int) P nx) rfl (.tmp 3) (.tmp _) rfl w1.heap.size rfl rfl (chg 0 noSet nxZ) HC0.out (by rw [chg_size, chg_size]) (chg_one _ _ _) ?_)
    | (go_at_call 48; refine (HFI.out w1.heap.size _ HC1.out).mono ?_; rintro e w2 ⟨v2, rfl, ho2, hb2⟩; have HI2 := hide ho2.ints; have HB3 := hide (HB2.out.trans (hb2.mono HB2.out.size)); clear ho2 hb2)
    | (refine wpList_len sliceT rfl (.tmp _) rfl _ rfl w2.heap.size R HI2.out ?_))
  go_ret
  exact ⟨by rw [← HLN.out]; rfl, HB3.out⟩
end Go.Proofs.Ytblglkgmnaklbaa
