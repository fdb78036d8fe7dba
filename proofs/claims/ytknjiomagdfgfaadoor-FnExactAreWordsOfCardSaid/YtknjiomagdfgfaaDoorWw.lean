/- Contracts: the specification's counts of words. -/
import Derived.Test.YtknjiomagdfgfaaDoorWi2
import Derived.Test.YtknjiomagdfgfaaDoorHar
namespace Go.Proofs.YtknjiomagdfgfaaDoor
open Go.RowKit
set_option maxRecDepth 100000

/-- The counts of the sets of a list from number k on. -/
def wRow (l : List Int) (A : Nat → Nat) (k : Nat) : List Int := (List.range l.length).map fun j : Nat => if k ≤ j then (A (nth l j) : Int) else 0
theorem wRow_len (l : List Int) (A : Nat → Nat) (k : Nat) : (wRow l A k).length = l.length := by simp [wRow]
theorem wRow_get (l : List Int) (A : Nat → Nat) (k j : Nat) (h : j < l.length) : (wRow l A k)[j]?.getD 0 = if k ≤ j then (A (nth l j) : Int) else 0 := by simp [wRow, h]
theorem wRow_end (l : List Int) (A : Nat → Nat) : wRow l A l.length = List.replicate l.length 0 := by
  apply List.ext_getElem (by simp [wRow])
  intro j h1 h2
  rw [wRow_len] at h1
  simp [wRow]
  omega
theorem wRow_set (l : List Int) (A : Nat → Nat) (k : Nat) (h : k < l.length) : (wRow l A (k + 1)).set k (A (nth l k) : Int) = wRow l A k := by
  apply eq_of_getD (by simp [wRow])
  intro j hj
  rw [wRow_len] at hj
  rw [wRow_get l A k j hj]
  by_cases hjk : k = j
  · subst hjk
    rw [if_pos (Nat.le_refl _), List.getElem?_set_self (by rw [wRow_len]; exact h)]; rfl
  · rw [List.getElem?_set_ne hjk, wRow_get l A (k + 1) j hj]
    by_cases h2 : k ≤ j
    · rw [if_pos h2, if_pos (by omega)]
    · rw [if_neg h2, if_neg (by omega)]
theorem wRow_set0 (l : List Int) (A : Nat → Nat) (k : Nat) : (wRow l A (k + 1)).set k 0 = wRow l A (k + 1) := by
  apply eq_of_getD (by simp [wRow])
  intro j hj
  rw [wRow_len] at hj
  rw [wRow_get l A (k + 1) j hj]
  by_cases hjk : k = j
  · subst hjk
    rw [if_neg (by omega), List.getElem?_set_self (by rw [wRow_len]; exact hj)]; rfl
  · rw [List.getElem?_set_ne hjk, wRow_get l A (k + 1) j hj]
theorem okSp_nth_inc {n : Int} {l : List Int} (h : okSp n l = true) (i j : Nat) (hij : i < j) (hj : j < l.length) : nth l i < nth l j := by
  have h1 := okSp_inc h i j hij hj
  have h2 := okSp_pos h i (by omega)
  unfold nth; omega
theorem okSp_nth_lt {n : Int} {l : List Int} (h : okSp n l = true) (j : Nat) (hj : j < l.length) : nth l j < 128 := okSp_lt128 h _ ((okSp_has h _).2 ⟨j, hj, rfl⟩)
theorem nth_castW {n : Int} {l : List Int} (h : okSp n l = true) (k : Nat) (hk : k < l.length) : l[k]?.getD 0 = (nth l k : Int) := by
  have := okSp_pos h k hk
  unfold nth; omega
theorem okSp_ne {n : Int} {l : List Int} (h : okSp n l = true) : 0 < l.length := by
  obtain ⟨j, hj, _⟩ := (okSp_has h 0).1 (okSp_spc h).zero
  omega
/-- The last one of the sets is that of all items. -/
theorem okSp_last {n : Int} {l : List Int} (h : okSp n l = true) (j : Nat) (hj : j < l.length) : nth l j = low n.toNat ↔ j + 1 = l.length := by
  obtain ⟨i, hi, e⟩ := (okSp_has h (low n.toNat)).1 (okSp_spc h).full
  have hmax : ∀ k, k < l.length → nth l k ≤ low n.toNat := fun k hk => by
    have h1 := okSp_lt h _ ((okSp_has h (nth l k)).2 ⟨k, hk, rfl⟩)
    have h2 := low_succ n.toNat
    omega
  have hlast : i + 1 = l.length := by
    rcases Nat.lt_or_ge (i + 1) l.length with h1 | h1
    · have h2 := okSp_nth_inc h i (i + 1) (by omega) h1
      have h3 := hmax (i + 1) h1
      omega
    · omega
  constructor
  · intro e2
    rcases Nat.lt_or_ge j i with h1 | h1
    · have := okSp_nth_inc h j i h1 hi; omega
    · omega
  · intro e2
    have : j = i := by omega
    rw [this, e]
theorem ways_last {n : Int} {l : List Int} (h : okSp n l = true) (j : Nat) (hj : j + 1 = l.length) : cnt (marksTo l l.length) n.toNat (nth l j) = 1 := by
  rw [cnt_eq _ _ (by have := okSp_n h; omega) _ (okSp_nth_lt h j (by omega)), if_pos ((okSp_last h j (by omega)).2 hj)]
theorem ways_sum {n : Int} {l : List Int} (h : okSp n l = true) (j : Nat) (hj : j + 1 < l.length) : sumS l (cnt (marksTo l l.length) n.toNat) (nth l j) l.length = cnt (marksTo l l.length) n.toNat (nth l j) := by
  have h1 := okSp_nth_lt h j (by omega)
  rw [sum_same h _ _ h1, cnt_eq _ _ (by have := okSp_n h; omega) _ h1, if_neg (by rw [okSp_last h j (by omega)]; omega), if_pos ((okSp_has h _).2 ⟨j, by omega, rfl⟩)]
theorem ways_low {n : Int} {l : List Int} (h : okSp n l = true) (A : Nat → Nat) (k : Nat) (hk : k < l.length) : sumS l A (nth l k) (k + 1) = 0 := by
  refine sumS_low (fun j hj hle => stepS_gt _ (okSp_nth_lt h k hk) _ (okSp_nth_lt h j hj) hle) (k + 1) (by omega) fun j hj => ?_
  rcases Nat.lt_or_ge j k with h1 | h1
  · have := okSp_nth_inc h j k h1 hk; omega
  · have : j = k := by omega
    subst this; exact Nat.le_refl _
theorem ways_le {n : Int} {l : List Int} (h : okSp n l = true) (k j : Nat) (hk : k < l.length) (hj : j ≤ l.length) : sumS l (cnt (marksTo l l.length) n.toNat) (nth l k) j ≤ 5764801 := by
  have h1 := sumS_mono (l := l) (A := cnt (marksTo l l.length) n.toNat) (s := nth l k) j l.length hj
  have h2 := okSp_n h
  rw [sum_same h _ _ (okSp_nth_lt h k hk)] at h1
  have := cnt_sum_le (marksTo l l.length) n.toNat (by omega) (nth l k) n.toNat (by omega)
  omega
theorem yields_atW {P : Program} {ops : Array Oper} {S : World → Prop} {a : Act} {t I : TypeId} (ht : P.underlying t = some (.slice I)) (hI : (P.info? I).map (·.size) = some 1) {o : Oper} (hw : Region.wanted o (yielded ops a.tmps) = true) (x y : Operand) (ho : o.op = .indexAddr t x y)
    (g len c : Nat) (hx : a.eval x = .slice (some ⟨g, 0, none⟩) len c) (i : Int) (hy : a.eval y = .int .i64 i) (k : Nat) (hik : i = (k : Int)) (hk : k < len) : YieldsIf P ops S o (.pointer (some ⟨g, k, none⟩)) a := by
  refine .inl ⟨hw, fun w _ => ?_⟩
  subst hik
  have he : P.underlying t = some (.slice (P.elem t)) := by
    rw [ht]; simp [Program.elem, ht]
  have hE : P.elem t = I := by simp [Program.elem, ht]
  have hr : (Instr.indexAt t (.slice (some ⟨g, 0, none⟩) len c) (.int .i64 (k : Int))).run P w = .ok (.pointer (some ⟨g, k, none⟩)) w := by
    rw [run_indexAt_slice (h := he), if_pos (by omega), hE, run_sizeOf' hI]
    simp [Addr.add]
    intro h0; omega
  unfold execOp
  simp only [ho, hx, hy, Sem.run_bind, Sem.run_pure, hr, Result.andThen_ok]
theorem anyH_two {P : Program} {ops : Array Oper} {Q : Exit → Act → World → Prop} {md : Region.Mode} {S : World → Prop} {fuel : Nat} {listed : Array Bool} {a : Act} {w : World} {i l : Nat} {oi ol : Oper} (hr : Region.ready md ops listed = [i, l]) (hri : Region.ready md ops (listed.setIfInBounds i true) = [l]) (hrl : Region.ready md ops (listed.setIfInBounds l true) = [i])
    (hi : ops[i]? = some oi) (hl0 : ops[l]? = some ol) (v y : Value) (hl1 : (listed.setIfInBounds l true).setIfInBounds i true = (listed.setIfInBounds i true).setIfInBounds l true) (hc : (a.put ol.dst y).put oi.dst v = (a.put oi.dst v).put ol.dst y)
    (hwi : Region.wanted oi (yielded ops a.tmps) = true) (hwi2 : Region.wanted oi (yielded ops (a.put ol.dst y).tmps) = true) (hwl : Region.wanted ol (yielded ops a.tmps) = true) (hwl2 : Region.wanted ol (yielded ops (a.put oi.dst v).tmps) = true)
    (hrun : (execOp a.eval oi).run P w = .ok (.value v) w) (hrun2 : (execOp (a.put ol.dst y).eval oi).run P w = .ok (.value v) w) (hrunl : (execOp a.eval ol).run P w = .ok (.value y) w) (hrunl2 : (execOp (a.put oi.dst v).eval ol).run P w = .ok (.value y) w) (hS : S w)
    (h : wpAnyH P md ops Q S fuel ((listed.setIfInBounds i true).setIfInBounds l true) ((a.put oi.dst v).put ol.dst y) w) : wpAnyH P md ops Q S (fuel + 1 + 1) listed a w := by
  refine wpAnyH_all hr (by simp) fun x hx => ?_
  rcases (show x = i ∨ x = l by simpa using hx) with rfl | rfl
  · exact wpOp_op hi hwi v w hrun ⟨hS, anyH_op hri hl0 hwl2 y w hrunl2 hS h⟩
  · refine wpOp_op hl0 hwl y w hrunl ⟨hS, anyH_op hrl hi hwi2 v w hrun2 hS ?_⟩
    rw [hc, hl1]; exact h
theorem ent_spCountW : enters Tryd.prog 76 := enters_of Tryd.func76 (by kernel_rfl) (by kernel_rfl)
theorem rowSW : (Tryd.prog.underlying 22).map TypeDesc.isRow = some false := by kernel_rfl
attribute [local irreducible] p2 low memB risB cnt

set_option maxHeartbeats 4000000 in
theorem woWays_c (n : Int) (v : Value) (l : List Int) (w : World) (hl : ints w.heap.size w v l) (hlen : l.length < 1000000000) (hok : okSp n l = true) :
    Calls Tryd.prog 49 #[.agg #[.int .i64 n, v]] w fun e w' => ∃ v', e = .returned v' ∧ own 3 w' w.heap.size v' (wRow l (cnt (marksTo l l.length) n.toNat) 0) ∧ Below w.heap.size w w' := by
  obtain ⟨va, vc, hv⟩ := hl.shape
  subst hv
  have HOK := hide hok
  have hpos := okSp_ne hok
  have HWL := hide (fun j hj => ways_last hok j hj)
  have HWS := hide (fun j hj => ways_sum hok j hj)
  have HW0 := hide (fun k hk => ways_low hok (cnt (marksTo l l.length) n.toNat) k hk)
  have HWB := hide (fun k j hk hj => ways_le hok k j hk hj)
  have HCB := hide (fun s => cnt_le (marksTo l l.length) n.toNat (by have := okSp_n hok; omega) s)
  have HIN := hide (fun k hk => nth_castW hok k hk)
  have HLT := hide (fun k hk => okSp_nth_lt hok k hk)
  generalize cnt (marksTo l l.length) n.toNat = A at HWL HWS HW0 HWB HCB ⊢
  have H0 := hide ((Below.refl w.heap.size w).alloc (Nat.le_refl _) (.cells #[.int .i64 n, .slice va l.length vc] 28))
  have HL0 := hide (hl.alloc (.cells #[.int .i64 n, .slice va l.length vc] 28))
  have HS0 := hide (hp_last w (.cells #[.int .i64 n, .slice va l.length vc] 28))
  have hc1 := cells_at1 HS0.out
  have hz0 : (w.alloc (.cells #[.int .i64 n, .slice va l.length vc] 28)).heap.size = w.heap.size + 1 := by simp
  have HZ0 := hide hz0
  clear hl hok hz0
  go_enter Tryd.func49, Tryd.ntmps49
  go_wp2_with (first
    | (refine wpList_len sliceT rfl (.tmp 8) rfl _ rfl w.heap.size l HL0.out ?_)
    | (refine wpList_makeInts sliceT intI rfl (.tmp _) (.tmp _) rfl l.length rfl rfl hlen ?_; intro w1 hw1 hk1 hb1; simp only [World.size_alloc] at hw1 hk1 hb1; have HK1 := hide hk1; have HB1 := hide (H0.out.trans (hb1.mono (by omega))); have HS1 := hide ((hb1.block w.heap.size (by omega)).trans HS0.out); have HL1 := hide (HL0.out.below hb1 (by omega)); have hg1 := hk1.cell (l.length - 1) (by simp; omega); have hfr1 := hk1.free (l.length - 1); clear hb1 hk1)
    | (refine wpList_len sliceT rfl (.tmp _) rfl _ rfl w1.heap.size (List.replicate l.length 0) (by have := HK1.out.ints l.length; simpa using this) ?_))
  have hk1r : (List.replicate l.length (0 : Int)).set (l.length - 1) 1 = wRow l A (l.length - 1) := by
    have h1 := wRow_set l A (l.length - 1) (by omega)
    rw [HWL.out (l.length - 1) (by omega), show l.length - 1 + 1 = l.length by omega, wRow_end] at h1
    exact h1
  have HC0 := hide (show blk 3 (w1.setCell ⟨w.heap.size + 1, l.length - 1, none⟩ (.int .i64 1)) (w.heap.size + 1) (wRow l A (l.length - 1)) by rw [← hk1r]; exact HK1.out.set (l.length - 1) 1)
  have HS2 := hide ((hp_setO w1 ⟨w.heap.size + 1, l.length - 1, none⟩ w.heap.size (.int .i64 1) (by show w.heap.size ≠ w.heap.size + 1; omega)).trans HS1.out)
  have HB2 := hide (HB1.out.setCell (p := ⟨w.heap.size + 1, l.length - 1, none⟩) (by show w.heap.size ≤ w.heap.size + 1; omega) (.int .i64 1))
  have HL2 := hide (HL1.out.setCell ⟨w.heap.size + 1, l.length - 1, none⟩ (by show w.heap.size ≤ w.heap.size + 1; omega) (.int .i64 1))
  have HZ2 := hide (show w.heap.size + 2 ≤ (w1.setCell ⟨w.heap.size + 1, l.length - 1, none⟩ (.int .i64 1)).heap.size by simp [World.setCell]; omega)
  go_loopw [4] (fun kv wr => ∃ (k : Nat) (z : Int), k + 1 ≤ l.length ∧ z = (k : Int) - 1 ∧ kv = .int .i64 z ∧ Hid (blk 3 wr (w.heap.size + 1) (wRow l A k)) ∧ Hid (wr.heap[w.heap.size]? = some (.cells #[.int .i64 n, .slice va l.length vc] 28)) ∧ Hid (Below w.heap.size w wr) ∧ Hid (ints w.heap.size wr (.slice va l.length vc) l) ∧ w.heap.size + 2 ≤ wr.heap.size) (fun kv _ => ((intOf kv) + 1).toNat)
  case atStart => exact ⟨l.length - 1, _, by omega, rfl, by first | rfl | (congr 1; omega) | go_num, HC0, HS2, HB2, HL2, HZ2.out⟩
  case round =>
    obtain ⟨k, z, hk, hz, rfl, HC, HS, HB, HL, hsz⟩ := hrel
    clear HC0 HS2 HB2 HL2 HZ2 HS1 HB1 HL1 HK1 hg1 hfr1 hk1r
    rcases Nat.eq_zero_or_pos k with hk0 | hk0
    · subst hk0
      have hneg : ¬ (0 ≤ z) := by omega
      clear hz
      have HOW := hide (show own 3 wr w.heap.size (.slice (some ⟨w.heap.size + 1, 0, none⟩) l.length l.length) (wRow l A 0) by
        have h := HC.out.own (base := w.heap.size) (by omega) (by rw [wRow_len]; unfold maxLen; omega)
        rw [wRow_len] at h
        exact h)
      go_wp2
      go_ret
      exact ⟨_, rfl, HOW.out, HB.out⟩
    · obtain ⟨r, rfl⟩ : ∃ r, k = r + 1 := ⟨k - 1, by omega⟩
      have hzs : z = (r : Int) := by omega
      subst hzs
      clear hz hk0
      have HR1 := hide (HW0.out r (by omega))
      have HR2 := hide (HWS.out r hk)
      have HR3 := hide (HWB.out r)
      have hs128 := HLT.out r (by omega)
      have HXr := hide (HIN.out r (by omega))
      have HQ0 := hide (wRow_set0 l A r)
      have HQ1 := hide (wRow_set l A r (by omega))
      have HSU := hide (fun j => show sumS l A (nth l r) (j + 1) = sumS l A (nth l r) j + if stepS (nth l r) (nth l j) = true then A (nth l j) else 0 from rfl)
      have hrl : r < l.length := by omega
      generalize hs : nth l r = s at HR1 HR2 HR3 hs128 HXr HQ1 HSU
      have HSE := hide hs
      clear hs
      go_wp2_with fail
      go_loopw [5] (fun jv wr => ∃ j : Nat, r + 1 ≤ j ∧ j ≤ l.length ∧ jv = .int .i64 j ∧ Hid (blk 3 wr (w.heap.size + 1) ((wRow l A (r + 1)).set r (sumS l A s j : Int))) ∧ Hid (wr.heap[w.heap.size]? = some (.cells #[.int .i64 n, .slice va l.length vc] 28)) ∧ Hid (Below w.heap.size w wr) ∧ Hid (ints w.heap.size wr (.slice va l.length vc) l) ∧ w.heap.size + 2 ≤ wr.heap.size) (fun jv _ => l.length - (intOf jv).toNat)
      case atStart => exact ⟨r + 1, Nat.le_refl _, by omega, by go_num, by rw [HR1.out]; exact (show blk 3 wr (w.heap.size + 1) ((wRow l A (r + 1)).set r 0) by rw [HQ0.out]; exact HC.out), HS, HB, HL, hsz⟩
      case round =>
        clear HC HS HB HL hsz
        obtain ⟨j, hj1, hj2, rfl, HC, HS, HB, HL, hsz⟩ := hrel
        have HLT3 := hide (show ints wr.heap.size wr (.slice (some ⟨w.heap.size + 1, 0, none⟩) l.length l.length) ((wRow l A (r + 1)).set r (sumS l A s j : Int)) by
          have h := HC.out.ints l.length
          rw [List.length_set, wRow_len] at h
          exact h)
        have hwl := wRow_len l A (r + 1)
        by_cases hjl : j < l.length
        · have ht128 := HLT.out j hjl
          have HXj := hide (HIN.out j hjl)
          have hsu := HSU.out j
          have hb1 := HR3.out j hrl (by omega)
          have hb2 := HR3.out (j + 1) hrl (by omega)
          have hget := wRow_get l A (r + 1) j hjl
          rw [if_pos (by omega)] at hget
          have hcb := HCB.out (nth l j)
          generalize hst : stepS s (nth l j) = st at hsu
          have hst2 : st = (andNot s (nth l j) == 0 && pc (andNot (nth l j) s) == 1) := by rw [← hst]; rfl
          generalize nth l j = t at ht128 HXj hsu hget hst hst2 hcb
          have hand1 := i64_andNot t s (by omega)
          have hand2 := i64_andNot s t (by omega)
          have hm128 := andNot_lt128 t s ht128
          have D1 := hide (fun w' (h : Below wr.heap.size wr w') => (h.cell (p := ⟨w.heap.size, 1, none⟩) (by show w.heap.size < wr.heap.size; omega)).trans (cells_at1 HS.out))
          have DA := hide (fun (ad : Addr) (x : Int) (hb : ad.block < w.heap.size) (hx : wr.cell? ad = some (.int .i64 x)) w' (h : Below wr.heap.size wr w') => (h.cell (p := ad) (by omega)).trans hx)
          generalize andNot t s = mo at hand1 hm128 hst2
          have hc0 : ((((andNot s t : Nat) : Int)) == 0) = (andNot s t == 0) := by rw [Bool.eq_iff_iff]; simp
          generalize andNot s t = mq at hand2 hst2 hc0
          clear hst
          go_wp2_with (refine wpList_len sliceT rfl (.tmp _) rfl _ rfl wr.heap.size ((wRow l A (r + 1)).set r (sumS l A s j : Int)) HLT3.out ?_)
          refine wp_region_old (by kernel_rfl) (by kernel_rfl) ?_
          go_big_quiet_step ((first | exact fun _ => rfl | exact fun _ => ⟨rfl, rfl⟩))
          refine q_load_cell rowSW rfl (.tmp _) rfl _ rfl (.slice va l.length vc) D1.out ?_
          simp only [Act.put, List.setIfInBounds_toArray, List.set_cons_zero, List.set_cons_succ]
          go_big_quiet_step ((first | exact fun _ => rfl | exact fun _ => ⟨rfl, rfl⟩))
          refine q_at sliceT intS rfl (.tmp _) (.tmp _) rfl _ rfl (j : Int) rfl j rfl w.heap.size l wr HL.out (by omega) ?_
          intro ad1 had1 hab1
          rw [HXj.out] at had1
          simp only [Act.put, List.setIfInBounds_toArray, List.set_cons_zero, List.set_cons_succ]
          refine q_load_cell rowI rfl (.tmp _) rfl ad1 rfl (.int .i64 (t : Int)) (DA.out ad1 _ hab1 had1) ?_
          simp only [Act.put, List.setIfInBounds_toArray, List.set_cons_zero, List.set_cons_succ]
          go_big_quiet_step ((first | exact fun _ => rfl | exact fun _ => ⟨rfl, rfl⟩))
          refine q_load_cell rowSW rfl (.tmp _) rfl _ rfl (.slice va l.length vc) D1.out ?_
          simp only [Act.put, List.setIfInBounds_toArray, List.set_cons_zero, List.set_cons_succ]
          go_big_quiet_step ((first | exact fun _ => rfl | exact fun _ => ⟨rfl, rfl⟩))
          refine q_at sliceT intS rfl (.tmp _) (.tmp _) rfl _ rfl (r : Int) rfl r rfl w.heap.size l wr HL.out (by omega) ?_
          intro ad2 had2 hab2
          rw [HXr.out] at had2
          simp only [Act.put, List.setIfInBounds_toArray, List.set_cons_zero, List.set_cons_succ]
          refine q_load_cell rowI rfl (.tmp _) rfl ad2 rfl (.int .i64 (s : Int)) (DA.out ad2 _ hab2 had2) ?_
          simp only [Act.put, List.setIfInBounds_toArray, List.set_cons_zero, List.set_cons_succ]
          repeat (go_big_quiet_step ((first | exact fun _ => rfl | exact fun _ => ⟨rfl, rfl⟩)))
          refine wpQuiet_nil ?_
          intro w2 hb2w
          have hz2 := hb2w.size
          have HC2 := hide (HC.out.below hb2w HC.out.lt)
          have HSb := hide ((hb2w.block w.heap.size (by omega)).trans HS.out)
          have HBb := hide (HB.out.trans (hb2w.mono (by omega)))
          have HLb := hide (HL.out.below hb2w (by omega))
          have D1b := hide (fun w' (h : Below w2.heap.size w2 w') => (h.cell (p := ⟨w.heap.size, 1, none⟩) (by show w.heap.size < w2.heap.size; omega)).trans (cells_at1 HSb.out))
          have DAb := hide (fun (ad : Addr) (x : Int) (hb : ad.block < w.heap.size) (hx : w2.cell? ad = some (.int .i64 x)) w' (h : Below w2.heap.size w2 w') => (h.cell (p := ad) (by omega)).trans hx)
          clear HC HS HB HL D1 DA HLT3 hb2w
          cases hq : (mq == 0)
          · rw [hq] at hc0 hst2
            have HSF := hide (show sumS l A s (j + 1) = sumS l A s j by rw [hsu, hst2]; simp)
            clear hq hst2 hsu
            go_wp2
            refine wp_region_old (by kernel_rfl) (by kernel_rfl) ?_
            go_big_quiet_step ((first | exact fun _ => rfl | exact fun _ => ⟨rfl, rfl⟩))
            refine q_load_cell rowSW rfl (.tmp _) rfl _ rfl (.slice va l.length vc) D1b.out ?_
            simp only [Act.put, List.setIfInBounds_toArray, List.set_cons_zero, List.set_cons_succ]
            go_big_quiet_step ((first | exact fun _ => rfl | exact fun _ => ⟨rfl, rfl⟩))
            refine q_at sliceT intS rfl (.tmp _) (.tmp _) rfl _ rfl (r : Int) rfl r rfl w.heap.size l w2 HLb.out (by omega) ?_
            intro ad1 had1 hab1
            rw [HXr.out] at had1
            simp only [Act.put, List.setIfInBounds_toArray, List.set_cons_zero, List.set_cons_succ]
            refine q_load_cell rowI rfl (.tmp _) rfl ad1 rfl (.int .i64 (s : Int)) (DAb.out ad1 _ hab1 had1) ?_
            simp only [Act.put, List.setIfInBounds_toArray, List.set_cons_zero, List.set_cons_succ]
            go_big_quiet_step ((first | exact fun _ => rfl | exact fun _ => ⟨rfl, rfl⟩))
            refine q_load_cell rowSW rfl (.tmp _) rfl _ rfl (.slice va l.length vc) D1b.out ?_
            simp only [Act.put, List.setIfInBounds_toArray, List.set_cons_zero, List.set_cons_succ]
            go_big_quiet_step ((first | exact fun _ => rfl | exact fun _ => ⟨rfl, rfl⟩))
            refine q_at sliceT intS rfl (.tmp _) (.tmp _) rfl _ rfl (j : Int) rfl j rfl w.heap.size l w2 HLb.out (by omega) ?_
            intro ad2 had2 hab2
            rw [HXj.out] at had2
            simp only [Act.put, List.setIfInBounds_toArray, List.set_cons_zero, List.set_cons_succ]
            refine q_load_cell rowI rfl (.tmp _) rfl ad2 rfl (.int .i64 (t : Int)) (DAb.out ad2 _ hab2 had2) ?_
            simp only [Act.put, List.setIfInBounds_toArray, List.set_cons_zero, List.set_cons_succ]
            repeat (go_big_quiet_step ((first | exact fun _ => rfl | exact fun _ => ⟨rfl, rfl⟩)))
            refine wpQuiet_nil ?_
            intro w3 hb3w
            have hz3 := hb3w.size
            have HC3 := hide (HC2.out.below hb3w HC2.out.lt)
            have HSc := hide ((hb3w.block w.heap.size (by omega)).trans HSb.out)
            have HBc := hide (HBb.out.trans (hb3w.mono (by omega)))
            have HLc := hide (HLb.out.below hb3w (by omega))
            clear hb3w
            go_wp2
            go_roundw
            case rel => exact ⟨j + 1, by omega, by omega, by go_num, by rw [HSF.out]; exact HC3, HSc, HBc, HLc, by omega⟩
            case measure => simp [intOf]; omega
          · rw [hq] at hc0 hst2
            have hc2 : (((pc mo : Nat) : Int) == 1) = (pc mo == 1) := by rw [Bool.eq_iff_iff]; simp; omega
            have hpc7 := pc_le mo
            cases hp : (pc mo == 1)
            · rw [hp] at hc2 hst2
              have HSF := hide (show sumS l A s (j + 1) = sumS l A s j by rw [hsu, hst2]; simp)
              generalize hpm : pc mo = pm at hc2 hpc7
              have HPM := hide hpm
              clear hq hst2 hsu hp hpm
              go_wp2
              refine wp_region_old (by kernel_rfl) (by kernel_rfl) ?_
              go_big_quiet_step ((first | exact fun _ => rfl | exact fun _ => ⟨rfl, rfl⟩))
              refine q_load_cell rowSW rfl (.tmp _) rfl _ rfl (.slice va l.length vc) D1b.out ?_
              simp only [Act.put, List.setIfInBounds_toArray, List.set_cons_zero, List.set_cons_succ]
              go_big_quiet_step ((first | exact fun _ => rfl | exact fun _ => ⟨rfl, rfl⟩))
              refine q_at sliceT intS rfl (.tmp _) (.tmp _) rfl _ rfl (r : Int) rfl r rfl w.heap.size l w2 HLb.out (by omega) ?_
              intro ad1 had1 hab1
              rw [HXr.out] at had1
              simp only [Act.put, List.setIfInBounds_toArray, List.set_cons_zero, List.set_cons_succ]
              refine q_load_cell rowI rfl (.tmp _) rfl ad1 rfl (.int .i64 (s : Int)) (DAb.out ad1 _ hab1 had1) ?_
              simp only [Act.put, List.setIfInBounds_toArray, List.set_cons_zero, List.set_cons_succ]
              go_big_quiet_step ((first | exact fun _ => rfl | exact fun _ => ⟨rfl, rfl⟩))
              refine q_load_cell rowSW rfl (.tmp _) rfl _ rfl (.slice va l.length vc) D1b.out ?_
              simp only [Act.put, List.setIfInBounds_toArray, List.set_cons_zero, List.set_cons_succ]
              go_big_quiet_step ((first | exact fun _ => rfl | exact fun _ => ⟨rfl, rfl⟩))
              refine q_at sliceT intS rfl (.tmp _) (.tmp _) rfl _ rfl (j : Int) rfl j rfl w.heap.size l w2 HLb.out (by omega) ?_
              intro ad2 had2 hab2
              rw [HXj.out] at had2
              simp only [Act.put, List.setIfInBounds_toArray, List.set_cons_zero, List.set_cons_succ]
              refine q_load_cell rowI rfl (.tmp _) rfl ad2 rfl (.int .i64 (t : Int)) (DAb.out ad2 _ hab2 had2) ?_
              simp only [Act.put, List.setIfInBounds_toArray, List.set_cons_zero, List.set_cons_succ]
              go_big_quiet_step ((first | exact fun _ => rfl | exact fun _ => ⟨rfl, rfl⟩))
              go_big_quiet_step ((first | exact fun _ => rfl | exact fun _ => ⟨rfl, rfl⟩))
              go_big_quiet_step ((first | exact fun _ => rfl | exact fun _ => ⟨rfl, rfl⟩))
              go_big_quiet_step ((first | exact fun _ => rfl | exact fun _ => ⟨rfl, rfl⟩))
              refine q_pure rfl 76 ent_spCountW _ _ rfl #[.int .i64 (mo : Int)] rfl (.int .i64 (pm : Int)) (fun w' _ => by have := spCount_c (mo : Int) w' (by omega) (by omega); rw [Int.toNat_natCast, HPM.out] at this; exact this) ?_
              simp only [Act.put, List.setIfInBounds_toArray, List.set_cons_zero, List.set_cons_succ]
              repeat (go_big_quiet_step ((first | exact fun _ => rfl | exact fun _ => ⟨rfl, rfl⟩)))
              refine wpQuiet_nil ?_
              intro w3 hb3w
              have hz3 := hb3w.size
              have HC3 := hide (HC2.out.below hb3w HC2.out.lt)
              have HSc := hide ((hb3w.block w.heap.size (by omega)).trans HSb.out)
              have HBc := hide (HBb.out.trans (hb3w.mono (by omega)))
              have HLc := hide (HLb.out.below hb3w (by omega))
              clear hb3w
              go_wp2
              go_roundw
              case rel => exact ⟨j + 1, by omega, by omega, by go_num, by rw [HSF.out]; exact HC3, HSc, HBc, HLc, by omega⟩
              case measure => simp [intOf]; omega
            · rw [hp] at hc2 hst2
              have hsf : sumS l A s (j + 1) = sumS l A s j + A t := by rw [hsu, hst2]; simp
              rw [hsf] at hb2
              have HSF := hide hsf
              generalize hpm : pc mo = pm at hc2 hpc7
              have HPM := hide hpm
              clear hq hst2 hsu hp hpm hsf
              go_wp2
              refine wp_region_old (by kernel_rfl) (by kernel_rfl) ?_
              go_big_quiet_step ((first | exact fun _ => rfl | exact fun _ => ⟨rfl, rfl⟩))
              refine q_load_cell rowSW rfl (.tmp _) rfl _ rfl (.slice va l.length vc) D1b.out ?_
              simp only [Act.put, List.setIfInBounds_toArray, List.set_cons_zero, List.set_cons_succ]
              go_big_quiet_step ((first | exact fun _ => rfl | exact fun _ => ⟨rfl, rfl⟩))
              refine q_at sliceT intS rfl (.tmp _) (.tmp _) rfl _ rfl (r : Int) rfl r rfl w.heap.size l w2 HLb.out (by omega) ?_
              intro ad1 had1 hab1
              rw [HXr.out] at had1
              simp only [Act.put, List.setIfInBounds_toArray, List.set_cons_zero, List.set_cons_succ]
              refine q_load_cell rowI rfl (.tmp _) rfl ad1 rfl (.int .i64 (s : Int)) (DAb.out ad1 _ hab1 had1) ?_
              simp only [Act.put, List.setIfInBounds_toArray, List.set_cons_zero, List.set_cons_succ]
              go_big_quiet_step ((first | exact fun _ => rfl | exact fun _ => ⟨rfl, rfl⟩))
              refine q_load_cell rowSW rfl (.tmp _) rfl _ rfl (.slice va l.length vc) D1b.out ?_
              simp only [Act.put, List.setIfInBounds_toArray, List.set_cons_zero, List.set_cons_succ]
              go_big_quiet_step ((first | exact fun _ => rfl | exact fun _ => ⟨rfl, rfl⟩))
              refine q_at sliceT intS rfl (.tmp _) (.tmp _) rfl _ rfl (j : Int) rfl j rfl w.heap.size l w2 HLb.out (by omega) ?_
              intro ad2 had2 hab2
              rw [HXj.out] at had2
              simp only [Act.put, List.setIfInBounds_toArray, List.set_cons_zero, List.set_cons_succ]
              refine q_load_cell rowI rfl (.tmp _) rfl ad2 rfl (.int .i64 (t : Int)) (DAb.out ad2 _ hab2 had2) ?_
              simp only [Act.put, List.setIfInBounds_toArray, List.set_cons_zero, List.set_cons_succ]
              go_big_quiet_step ((first | exact fun _ => rfl | exact fun _ => ⟨rfl, rfl⟩))
              go_big_quiet_step ((first | exact fun _ => rfl | exact fun _ => ⟨rfl, rfl⟩))
              go_big_quiet_step ((first | exact fun _ => rfl | exact fun _ => ⟨rfl, rfl⟩))
              go_big_quiet_step ((first | exact fun _ => rfl | exact fun _ => ⟨rfl, rfl⟩))
              refine q_pure rfl 76 ent_spCountW _ _ rfl #[.int .i64 (mo : Int)] rfl (.int .i64 (pm : Int)) (fun w' _ => by have := spCount_c (mo : Int) w' (by omega) (by omega); rw [Int.toNat_natCast, HPM.out] at this; exact this) ?_
              simp only [Act.put, List.setIfInBounds_toArray, List.set_cons_zero, List.set_cons_succ]
              repeat (go_big_quiet_step ((first | exact fun _ => rfl | exact fun _ => ⟨rfl, rfl⟩)))
              refine wpQuiet_nil ?_
              intro w3 hb3w
              have hz3 := hb3w.size
              have HC3 := hide (HC2.out.below hb3w HC2.out.lt)
              have HSc := hide ((hb3w.block w.heap.size (by omega)).trans HSb.out)
              have HBc := hide (HBb.out.trans (hb3w.mono (by omega)))
              have HLc := hide (HLb.out.below hb3w (by omega))
              clear hb3w
              generalize sumS l A s j = pp at hb1 hb2 HSF HC3
              generalize A t = cc at hb2 HSF hget hcb
              have hadd : IntKind.i64.wrap ((pp : Int) + (cc : Int)) = ((pp + cc : Nat) : Int) := by rw [IntWalk.i64_in _ (by omega)]; omega
              have HC3d : Hid (blk 3 w3.drew (w.heap.size + 1) ((wRow l A (r + 1)).set r (pp : Int))) := HC3
              have hg1 := HC3d.out.cell r (by rw [List.length_set, hwl]; omega)
              have hg2 := HC3d.out.cell j (by rw [List.length_set, hwl]; omega)
              have hfr := HC3d.out.free r
              rw [List.getElem?_set_self (by rw [hwl]; omega)] at hg1
              rw [List.getElem?_set_ne (by omega), hget] at hg2
              have hput := HC3d.out.set r ((pp + cc : Nat) : Int)
              rw [List.set_set] at hput
              have HP := hide hput
              have HSd := hide ((hp_setO w3.drew ⟨w.heap.size + 1, r, none⟩ w.heap.size (.int .i64 ((pp + cc : Nat) : Int)) (by show w.heap.size ≠ w.heap.size + 1; omega)).trans (show w3.drew.heap[w.heap.size]? = _ from HSc.out))
              have HBd := hide (HBc.out.drew.setCell (p := ⟨w.heap.size + 1, r, none⟩) (by show w.heap.size ≤ w.heap.size + 1; omega) (.int .i64 ((pp + cc : Nat) : Int)))
              have HLd := hide ((show ints w.heap.size w3.drew (.slice va l.length vc) l from HLc.out).setCell ⟨w.heap.size + 1, r, none⟩ (by show w.heap.size ≤ w.heap.size + 1; omega) (.int .i64 ((pp + cc : Nat) : Int)))
              clear hput
              go_wp2
              refine wp_region_held (S := fun _ => True) (by kernel_rfl) ?_
              refine wpAnyH_take (i := 0) (v := .slice (some ⟨w.heap.size + 1, 0, none⟩) l.length l.length) rfl (by kernel_rfl) (by kernel_rfl) (by kernel_rfl) (fun _ _ _ h => h) (.inl ⟨rfl, fun w' _ => by go_simp⟩) trivial ?_
              refine wpAnyH_take (i := 1) (v := .int .i64 (r : Int)) rfl (by kernel_rfl) (by kernel_rfl) (by kernel_rfl) (fun _ _ _ h => h) (.inl ⟨rfl, fun w' _ => by go_simp⟩) trivial ?_
              refine wpAnyH_take (i := 4) (v := .slice (some ⟨w.heap.size + 1, 0, none⟩) l.length l.length) rfl (by kernel_rfl) (by kernel_rfl) (by kernel_rfl) (fun _ _ _ h => h) (.inl ⟨rfl, fun w' _ => by go_simp⟩) trivial ?_
              refine wpAnyH_take (i := 5) (v := .int .i64 (j : Int)) rfl (by kernel_rfl) (by kernel_rfl) (by kernel_rfl) (fun _ _ _ h => h) (.inl ⟨rfl, fun w' _ => by go_simp⟩) trivial ?_
              simp only [Act.put, List.getElem_toArray, List.getElem_cons_zero, List.getElem_cons_succ, List.setIfInBounds_toArray, List.set_cons_zero, List.set_cons_succ]
              refine wpAnyH_take (i := 2) (v := .pointer (some ⟨w.heap.size + 1, r, none⟩)) rfl (by kernel_rfl) (by kernel_rfl) (by kernel_rfl) (fun _ _ _ h => h) (yields_atW sliceT intS rfl (.tmp _) (.tmp _) rfl (w.heap.size + 1) l.length l.length rfl _ rfl r rfl hrl) trivial ?_
              refine wpAnyH_take (i := 6) (v := .pointer (some ⟨w.heap.size + 1, j, none⟩)) rfl (by kernel_rfl) (by kernel_rfl) (by kernel_rfl) (fun _ _ _ h => h) (yields_atW sliceT intS rfl (.tmp _) (.tmp _) rfl (w.heap.size + 1) l.length l.length rfl _ rfl j rfl hjl) trivial ?_
              simp only [Act.put, List.getElem_toArray, List.getElem_cons_zero, List.getElem_cons_succ, List.setIfInBounds_toArray, List.set_cons_zero, List.set_cons_succ]
              refine anyH_two (i := 3) (l := 7) (by kernel_rfl) (by kernel_rfl) (by kernel_rfl) rfl rfl (.int .i64 (pp : Int)) (.int .i64 (cc : Int)) rfl rfl rfl rfl rfl rfl ?hq1 ?hq2 ?hq3 ?hq4 trivial ?_
              case hq1 => simp [go_sem, hg1]
              case hq2 => simp [go_sem, Act.put, hg1]
              case hq3 => simp [go_sem, hg2]
              case hq4 => simp [go_sem, Act.put, hg2]
              simp only [Act.put, List.getElem_toArray, List.getElem_cons_zero, List.getElem_cons_succ, List.setIfInBounds_toArray, List.set_cons_zero, List.set_cons_succ]
              refine anyH_op (i := 8) (by kernel_rfl) rfl rfl (.int .i64 ((pp + cc : Nat) : Int)) w3.drew (by simp [go_sem, hadd]) trivial ?_
              simp only [Act.put, List.getElem_toArray, List.getElem_cons_zero, List.getElem_cons_succ, List.setIfInBounds_toArray, List.set_cons_zero, List.set_cons_succ]
              refine wpAnyH_take (i := 9) (v := .pointer (some ⟨w.heap.size + 1, r, none⟩)) rfl (by kernel_rfl) (by kernel_rfl) (by kernel_rfl) (fun _ _ _ h => h) (yields_atW sliceT intS rfl (.tmp _) (.tmp _) rfl (w.heap.size + 1) l.length l.length rfl _ rfl r rfl hrl) trivial ?_
              refine anyH_skip (i := 10) (by kernel_rfl) rfl rfl (w3.drew.setCell ⟨w.heap.size + 1, r, none⟩ (.int .i64 ((pp + cc : Nat) : Int))) (by simp [go_sem, Act.put, hg1, hfr]) trivial ?_
              refine wpAnyH_done (by kernel_rfl) ?_ _
              simp only [Act.put, List.getElem_toArray, List.getElem_cons_zero, List.getElem_cons_succ, List.setIfInBounds_toArray, List.set_cons_zero, List.set_cons_succ]
              go_wp2
              go_roundw
              case rel => exact ⟨j + 1, by omega, by omega, by go_num, by rw [HSF.out]; exact HP, HSd, HBd, HLd, by simp [World.setCell]; omega⟩
              case measure => simp [intOf]; omega
        · have HJ := hide (show j = l.length by omega)
          clear hj1 hj2
          have hjl2 : ¬ ((j : Int) < (l.length : Int)) := by have := HJ.out; omega
          have HFIN := hide (show (wRow l A (r + 1)).set r (sumS l A s j : Int) = wRow l A r by rw [HJ.out, HR2.out, HQ1.out])
          go_wp2_with (refine wpList_len sliceT rfl (.tmp _) rfl _ rfl wr.heap.size ((wRow l A (r + 1)).set r (sumS l A s j : Int)) HLT3.out ?_)
          go_roundw
          case rel => exact ⟨r, _, by omega, rfl, by go_num, by rw [← HFIN.out]; exact HC, HS, HB, HL, hsz⟩
          case measure => simp [intOf]
end Go.Proofs.YtknjiomagdfgfaaDoor
