/- Contracts: the specification's counts of words. -/
import Derived.Test.YtblglkgmnaklbaaDoorWi2
import Derived.Test.YtblglkgmnaklbaaDoorHar
namespace Go.Proofs.YtblglkgmnaklbaaDoor
open Go.RowKit
set_option maxRecDepth 100000

/-- The counts of the sets of a list from number k on. -/
def wRow (l : List Int) (A : Nat → Nat) (k : Nat) : List Int := (List.range l.length).map fun j : Nat => if k ≤ j then (A (nth l j) : Int) else 0
theorem wRow_len (l : List Int) (A : Nat → Nat) (k : Nat) : (wRow l A k).length = l.length := by simp [wRow]
theorem wRow_get (l : List Int) (A : Nat → Nat) (k j : Nat) (h : j < l.length) : (wRow l A k)[j]?.getD 0 = if k ≤ j then (A (nth l j) : Int) else 0 := by simp [wRow, h]
theorem wRow_end (l : List Int) (A : Nat → Nat) : wRow l A l.length = List.replicate l.length 0 := by
  apply List.ext_getElem (by simp [wRow])
  intro j h1 h2
  rw [wRow_len] at h1
  simp [wRow]
  omega
theorem wRow_set (l : List Int) (A : Nat → Nat) (k : Nat) (h : k < l.length) : (wRow l A (k + 1)).set k (A (nth l k) : Int) = wRow l A k := by
  apply eq_of_getD (by simp [wRow])
  intro j hj
  rw [wRow_len] at hj
  rw [wRow_get l A k j hj]
  by_cases hjk : k = j
  · subst hjk
    rw [if_pos (Nat.le_refl _), List.getElem?_set_self (by rw [wRow_len]; exact h)]; rfl
  · rw [List.getElem?_set_ne hjk, wRow_get l A (k + 1) j hj]
    by_cases h2 : k ≤ j
    · rw [if_pos h2, if_pos (by omega)]
    · rw [if_neg h2, if_neg (by omega)]
theorem wRow_set0 (l : List Int) (A : Nat → Nat) (k : Nat) : (wRow l A (k + 1)).set k 0 = wRow l A (k + 1) := by
  apply eq_of_getD (by simp [wRow])
  intro j hj
  rw [wRow_len] at hj
  rw [wRow_get l A (k + 1) j hj]
  by_cases hjk : k = j
  · subst hjk
    rw [if_neg (by omega), List.getElem?_set_self (by rw [wRow_len]; exact hj)]; rfl
  · rw [List.getElem?_set_ne hjk, wRow_get l A (k + 1) j hj]
theorem okSp_nth_inc {n : Int} {l : List Int} (h : okSp n l = true) (i j : Nat) (hij : i < j) (hj : j < l.length) : nth l i < nth l j := by
  have h1 := okSp_inc h i j hij hj
  have h2 := okSp_pos h i (by omega)
  unfold nth; omega
theorem okSp_nth_lt {n : Int} {l : List Int} (h : okSp n l = true) (j : Nat) (hj : j < l.length) : nth l j < 128 := okSp_lt128 h _ ((okSp_has h _).2 ⟨j, hj, rfl⟩)
theorem nth_castW {n : Int} {l : List Int} (h : okSp n l = true) (k : Nat) (hk : k < l.length) : l[k]?.getD 0 = (nth l k : Int) := by
  have := okSp_pos h k hk
  unfold nth; omega
theorem okSp_ne {n : Int} {l : List Int} (h : okSp n l = true) : 0 < l.length := by
  obtain ⟨j, hj, _⟩ := (okSp_has h 0).1 (okSp_spc h).zero
  omega
/-- The last one of the sets is that of all items. -/
theorem okSp_last {n : Int} {l : List Int} (h : okSp n l = true) (j : Nat) (hj : j < l.length) : nth l j = low n.toNat ↔ j + 1 = l.length := by
  obtain ⟨i, hi, e⟩ := (okSp_has h (low n.toNat)).1 (okSp_spc h).full
  have hmax : ∀ k, k < l.length → nth l k ≤ low n.toNat := fun k hk => by
    have h1 := okSp_lt h _ ((okSp_has h (nth l k)).2 ⟨k, hk, rfl⟩)
    have h2 := low_succ n.toNat
    omega
  have hlast : i + 1 = l.length := by
    rcases Nat.lt_or_ge (i + 1) l.length with h1 | h1
    · have h2 := okSp_nth_inc h i (i + 1) (by omega) h1
      have h3 := hmax (i + 1) h1
      omega
    · omega
  constructor
  · intro e2
    rcases Nat.lt_or_ge j i with h1 | h1
    · have := okSp_nth_inc h j i h1 hi; omega
    · omega
  · intro e2
    have : j = i := by omega
    rw [this, e]
theorem ways_last {n : Int} {l : List Int} (h : okSp n l = true) (j : Nat) (hj : j + 1 = l.length) : cnt (marksTo l l.length) n.toNat (nth l j) = 1 := by
  rw [cnt_eq _ _ (by have := okSp_n h; omega) _ (okSp_nth_lt h j (by omega)), if_pos ((okSp_last h j (by omega)).2 hj)]
theorem ways_sum {n : Int} {l : List Int} (h : okSp n l = true) (j : Nat) (hj : j + 1 < l.length) : sumS l (cnt (marksTo l l.length) n.toNat) (nth l j) l.length = cnt (marksTo l l.length) n.toNat (nth l j) := by
  have h1 := okSp_nth_lt h j (by omega)
  rw [sum_same h _ _ h1, cnt_eq _ _ (by have := okSp_n h; omega) _ h1, if_neg (by rw [okSp_last h j (by omega)]; omega), if_pos ((okSp_has h _).2 ⟨j, by omega, rfl⟩)]
theorem ways_low {n : Int} {l : List Int} (h : okSp n l = true) (A : Nat → Nat) (k : Nat) (hk : k < l.length) : sumS l A (nth l k) (k + 1) = 0 := by
  refine sumS_low (fun j hj hle => stepS_gt _ (okSp_nth_lt h k hk) _ (okSp_nth_lt h j hj) hle) (k + 1) (by omega) fun j hj => ?_
  rcases Nat.lt_or_ge j k with h1 | h1
  · have := okSp_nth_inc h j k h1 hk; omega
  · have : j = k := by omega
    subst this; exact Nat.le_refl _
theorem ways_le {n : Int} {l : List Int} (h : okSp n l = true) (k j : Nat) (hk : k < l.length) (hj : j ≤ l.length) : sumS l (cnt (marksTo l l.length) n.toNat) (nth l k) j ≤ 5764801 := by
  have h1 := sumS_mono (l := l) (A := cnt (marksTo l l.length) n.toNat) (s := nth l k) j l.length hj
  have h2 := okSp_n h
  rw [sum_same h _ _ (okSp_nth_lt h k hk)] at h1
  have := cnt_sum_le (marksTo l l.length) n.toNat (by omega) (nth l k) n.toNat (by omega)
  omega
theorem yields_atW {P : Program} {ops : Array Oper} {S : World → Prop} {a : Act} {t I : TypeId} (ht : P.underlying t = some (.slice I)) (hI : (P.info? I).map (·.size) = some 1) {o : Oper} (hw : Region.wanted o (yielded ops a.tmps) = true) (x y : Operand) (ho : o.op = .indexAddr t x y)
    (g len c : Nat) (hx : a.eval x = .slice (some ⟨g, 0, none⟩) len c) (i : Int) (hy : a.eval y = .int .i64 i) (k : Nat) (hik : i = (k : Int)) (hk : k < len) : YieldsIf P ops S o (.pointer (some ⟨g, k, none⟩)) a := by
  refine .inl ⟨hw, fun w _ => ?_⟩
  subst hik
  have he : P.underlying t = some (.slice (P.elem t)) := by
    rw [ht]; simp [Program.elem, ht]
  have hE : P.elem t = I := by simp [Program.elem, ht]
  have hr : (Instr.indexAt t (.slice (some ⟨g, 0, none⟩) len c) (.int .i64 (k : Int))).run P w = .ok (.pointer (some ⟨g, k, none⟩)) w := by
    rw [run_indexAt_slice (h := he), if_pos (by omega), hE, run_sizeOf' hI]
    simp [Addr.add]
    intro h0; omega
  unfold execOp
  simp only [ho, hx, hy, Sem.run_bind, Sem.run_pure, hr, Result.andThen_ok]
theorem anyH_two {P : Program} {ops : Array Oper} {Q : Exit → Act → World → Prop} {md : Region.Mode} {S : World → Prop} {fuel : Nat} {listed : Array Bool} {a : Act} {w : World} {i l : Nat} {oi ol : Oper} (hr : Region.ready md ops listed = [i, l]) (hri : Region.ready md ops (listed.setIfInBounds i true) = [l]) (hrl : Region.ready md ops (listed.setIfInBounds l true) = [i])
    (hi : ops[i]? = some oi) (hl0 : ops[l]? = some ol) (v y : Value) (hl1 : (listed.setIfInBounds l true).setIfInBounds i true = (listed.setIfInBounds i true).setIfInBounds l true) (hc : (a.put ol.dst y).put oi.dst v = (a.put oi.dst v).put ol.dst y)
    (hwi : Region.wanted oi (yielded ops a.tmps) = true) (hwi2 : Region.wanted oi (yielded ops (a.put ol.dst y).tmps) = true) (hwl : Region.wanted ol (yielded ops a.tmps) = true) (hwl2 : Region.wanted ol (yielded ops (a.put oi.dst v).tmps) = true)
    (hrun : (execOp a.eval oi).run P w = .ok (.value v) w) (hrun2 : (execOp (a.put ol.dst y).eval oi).run P w = .ok (.value v) w) (hrunl : (execOp a.eval ol).run P w = .ok (.value y) w) (hrunl2 : (execOp (a.put oi.dst v).eval ol).run P w = .ok (.value y) w) (hS : S w)
    (h : wpAnyH P md ops Q S fuel ((listed.setIfInBounds i true).setIfInBounds l true) ((a.put oi.dst v).put ol.dst y) w) : wpAnyH P md ops Q S (fuel + 1 + 1) listed a w := by
  refine wpAnyH_all hr (by simp) fun x hx => ?_
  rcases (show x = i ∨ x = l by simpa using hx) with rfl | rfl
  · exact wpOp_op hi hwi v w hrun ⟨hS, anyH_op hri hl0 hwl2 y w hrunl2 hS h⟩
  · refine wpOp_op hl0 hwl y w hrunl ⟨hS, anyH_op hrl hi hwi2 v w hrun2 hS ?_⟩
    rw [hc, hl1]; exact h
theorem ent_spCountW : enters Tryd.prog 64 := enters_of Tryd.func64 (by kernel_rfl) (by kernel_rfl)
theorem rowSW : (Tryd.prog.underlying 22).map TypeDesc.isRow = some false := by kernel_rfl
attribute [local irreducible] p2 low memB risB cnt

end Go.Proofs.YtblglkgmnaklbaaDoor
