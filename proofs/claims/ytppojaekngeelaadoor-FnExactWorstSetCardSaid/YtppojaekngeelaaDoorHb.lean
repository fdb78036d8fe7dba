/- Contracts: the sets that answers leave, the program's helpers. -/
import Derived.Test.YtppojaekngeelaaDoorHa
import Derived.Test.YtppojaekngeelaaDoorFam
namespace Go.Proofs.YtppojaekngeelaaDoor
open Go.RowKit
set_option maxRecDepth 100000
set_option linter.unusedSimpArgs false
section
variable {P : Program}
theorem q_callH {ops : Array Oper} {rest : List Oper} {o : Oper} {a : Act} {w : World} {Q : Act → Prop} (hw : Region.wanted o (yielded ops a.tmps) = true) (k : FuncId) (hk : enters P k) (xs : Array Operand) (ts : Array TypeId)
    (ho : o.op = .call { callee := .value (.func k), args := xs, argTypes := ts }) (args : Array Value) (hal : xs.toList.map a.eval = args.toList) (v : Value)
    (hc : ∀ w', Below w.heap.size w w' → Calls P k args w' fun e w'' => e = .returned v ∧ Below w'.heap.size w' w'')
    (h : wpQuiet P ops (fun w' => Below w.heap.size w w') Q rest (a.put o.dst v)) : wpQuiet P ops (fun w' => Below w.heap.size w w') Q (o :: rest) a :=
  q_call hw k hk xs ts ho args (Array.toList_inj.1 (by simpa using hal)) v hc h
end
section
variable {P : Program}
theorem q_valH {ops : Array Oper} {rest : List Oper} {o : Oper} {a : Act} {C : World → Prop} {Q : Act → Prop} (hw : Region.wanted o (yielded ops a.tmps) = true) (v : Value)
    (hrun : ∀ w', (execOp a.eval o).run P w' = .ok (.value v) w') (h : wpQuiet P ops C Q rest (a.put o.dst v)) : wpQuiet P ops C Q (o :: rest) a := by
  refine BigFrame.wpQuiet_want hw fun K hK => ⟨v, fun w' _ => ?_, hK _ h⟩
  unfold Oper.quietAt
  rw [hrun w']
  exact ⟨rfl, rfl⟩
end
attribute [local irreducible] p2 low memB risB
theorem zb {a : Nat} {b : Bool} (h : (a == 0) = b) : ((a : Int) == 0) = b := by
  rw [← h, Bool.eq_iff_iff]; simp
theorem ent_leftBy1 : enters Tryd.prog 85 := enters_of Tryd.func85 (by kernel_rfl) (by kernel_rfl)
set_option maxHeartbeats 1000000 in
theorem leftBy1_c (n : Int) (F : Nat → Bool) (y z s : Nat) (g g1 g2 : Nat) (w : World) (hs : s < 128) (hy : y < 128) (hz : z < 128) (hg : famAt 45 w g n F)
    (h1 : w.cell? ⟨g1, 0, none⟩ = some (.int .i64 (y : Int))) (h2 : w.cell? ⟨g2, 0, none⟩ = some (.int .i64 (z : Int))) :
    Calls Tryd.prog 85 #[.int .i64 (s : Int), .pointer (some ⟨g, 0, none⟩), .pointer (some ⟨g1, 0, none⟩), .pointer (some ⟨g2, 0, none⟩)] w fun e w' => e = .returned (.bool (leF F y z s)) ∧ Below w.heap.size w w' := by
  have hcell := hg.get s hs
  have HG := hide hg
  have hand := i64_and s z (by omega) (by omega)
  clear hg
  cases hv : F s
  · rw [hv] at hcell
    have HR := hide (show leF F y z s = false by unfold leF; rw [hv]; rfl)
    clear hv
    go_enter Tryd.func85, Tryd.ntmps85
    go_wp2
    go_ret
    exact ⟨ret_b HR.out.symm, Below.refl _ _⟩
  · rw [hv] at hcell
    cases ht : (andNot y s == 0)
    · have HR := hide (show leF F y z s = false by unfold leF leB; rw [hv, ht]; rfl)
      have HT := hide ht
      clear hv ht
      go_enter Tryd.func85, Tryd.ntmps85
      go_wp2_with (go_at_call 86; refine (within_c _ _ _ (by omega) (by omega) (by omega)).mono ?_; rw [Int.toNat_natCast, Int.toNat_natCast, HT.out]; rintro e w' ⟨rfl, rfl⟩)
      go_ret
      exact ⟨ret_b HR.out.symm, Below.refl _ _⟩
    · have HR := hide (show leF F y z s = (s &&& z == 0) by unfold leF leB; rw [hv, ht, Nat.and_comm]; rfl)
      have HT := hide ht
      clear hv ht
      generalize hd : (s &&& z) = d at *
      generalize hb : (d == 0) = b at HR
      have hb2 := zb hb
      clear hb hd
      go_enter Tryd.func85, Tryd.ntmps85
      go_wp2_with (go_at_call 86; refine (within_c _ _ _ (by omega) (by omega) (by omega)).mono ?_; rw [Int.toNat_natCast, Int.toNat_natCast, HT.out]; rintro e w' ⟨rfl, rfl⟩)
      go_ret
      exact ⟨ret_b HR.out.symm, Below.refl _ _⟩
set_option maxHeartbeats 2000000 in
theorem leftBy_c (m : Nat) (F : Nat → Bool) (y z : Nat) (w : World) (hm7 : m ≤ 7) (hF : ∀ x, F x = true → x ≤ low m) (hy : y < 128) (hz : z < 128) :
    Calls Tryd.prog 71 #[.agg (fam (m : Int) F), .int .i64 (y : Int), .int .i64 (z : Int)] w fun e w' => e = .returned (.agg (fam (m : Int) (leF F y z))) ∧ Below w.heap.size w w' := by
  have hbA := (((Below.refl w.heap.size w).alloc (Nat.le_refl _) (.cells (fam (m : Int) F) 45)).alloc (by simp) (.cells #[.int .i64 (y : Int)] 55)).alloc (by simp <;> omega) (.cells #[.int .i64 (z : Int)] 55)
  have HB := hide (hbA.alloc (by simp <;> omega) (.cells (fam 0 noSet) 45))
  have HF := hide ((((famAt.new 45 w (m : Int) F).alloc (.cells #[.int .i64 (y : Int)] 55)).alloc (.cells #[.int .i64 (z : Int)] 55)).alloc (.cells (fam 0 noSet) 45))
  have hzf := famAt.new 45 (((w.alloc (.cells (fam (m : Int) F) 45)).alloc (.cells #[.int .i64 (y : Int)] 55)).alloc (.cells #[.int .i64 (z : Int)] 55)) 0 noSet
  have HZF := hide (show famAt 45 ((((w.alloc (.cells (fam (m : Int) F) 45)).alloc (.cells #[.int .i64 (y : Int)] 55)).alloc (.cells #[.int .i64 (z : Int)] 55)).alloc (.cells (fam 0 noSet) 45)) (w.heap.size + 3) 0 noSet by simpa using hzf)
  have hy1 : ((((w.alloc (.cells (fam (m : Int) F) 45)).alloc (.cells #[.int .i64 (y : Int)] 55)).alloc (.cells #[.int .i64 (z : Int)] 55)).alloc (.cells (fam 0 noSet) 45)).heap[w.heap.size + 1]? = some (.cells #[.int .i64 (y : Int)] 55) := (hp_old _ _ _ (by simp <;> omega)).trans ((hp_old _ _ _ (by simp)).trans (by have h := hp_last (w.alloc (.cells (fam (m : Int) F) 45)) (.cells #[.int .i64 (y : Int)] 55); simpa using h))
  have hz1 : ((((w.alloc (.cells (fam (m : Int) F) 45)).alloc (.cells #[.int .i64 (y : Int)] 55)).alloc (.cells #[.int .i64 (z : Int)] 55)).alloc (.cells (fam 0 noSet) 45)).heap[w.heap.size + 2]? = some (.cells #[.int .i64 (z : Int)] 55) := (hp_old _ _ _ (by simp)).trans (by have h := hp_last ((w.alloc (.cells (fam (m : Int) F) 45)).alloc (.cells #[.int .i64 (y : Int)] 55)) (.cells #[.int .i64 (z : Int)] 55); simpa using h)
  have HY := hide hy1
  have HZ := hide hz1
  have HSZ := hide (show ((((w.alloc (.cells (fam (m : Int) F) 45)).alloc (.cells #[.int .i64 (y : Int)] 55)).alloc (.cells #[.int .i64 (z : Int)] 55)).alloc (.cells (fam 0 noSet) 45)).heap.size = w.heap.size + 4 by simp)
  have hc0 := HF.out.get0
  have HCUT := hide (leF_cut (y := y) (z := z) hF)
  clear hbA hzf hy1 hz1 hF
  go_enter Tryd.func71, Tryd.ntmps71
  go_wp2_with (first
    | (refine wpList_alloc_fam zeroT rfl rfl _ (by first | (simp only [World.size_alloc]; rfl) | rfl) ?_)
    | (go_at_call 84; refine (familyWhere_c m 85 #[] #[.pointer (some ⟨w.heap.size, 0, none⟩), .pointer (some ⟨w.heap.size + 1, 0, none⟩), .pointer (some ⟨w.heap.size + 2, 0, none⟩)] (leF F y z) _ hm7 ent_leftBy1 (fun s w5 hs5 hb5 => leftBy1_c (m : Int) F y z s w.heap.size (w.heap.size + 1) (w.heap.size + 2) w5 (Nat.lt_of_lt_of_le hs5 (p2_le m 7 hm7)) hy hz (HF.out.below hb5 (by rw [HSZ.out]; omega)) (by rw [hp_cell ((hb5.block (w.heap.size + 1) (by rw [HSZ.out]; omega)).trans HY.out)]; rfl) (by rw [hp_cell ((hb5.block (w.heap.size + 2) (by rw [HSZ.out]; omega)).trans HZ.out)]; rfl))).mono ?_; rintro e w2 ⟨rfl, hb2⟩; rw [HCUT.out]; rw [HSZ.out] at hb2; have HF2 := hide (HZF.out.below hb2 (by omega)); have HB2 := hide (HB.out.trans (hb2.mono (by omega))); clear hb2 hc0)
    | (refine wpList_store_fam sizeT rfl (.tmp _) (.tmp _) rfl (w.heap.size + 3) (m : Int) _ rfl rfl _ _ HF2.out ?_))
  exact bodyPost_ret (v := .agg (fam (m : Int) (leF F y z))) (results_fam rowT sizeT rfl _ _ (w.heap.size + 3) rfl _ _ (HF2.out.row _ _)) rfl ⟨rfl, bl_row HB2.out (by omega) _⟩
theorem count_c (n : Int) (F : Nat → Bool) (w : World) :
    Calls Tryd.prog 69 #[.agg (fam n F)] w fun e w' => e = .returned (.int .i64 (cntS F : Int)) ∧ Below w.heap.size w w' := by
  have HF := hide (famAt.new 45 w n F)
  have H0 := hide ((Below.refl w.heap.size w).alloc (Nat.le_refl _) (.cells (fam n F) 45))
  have HC := hide (show cntS F = (setsTo F 128).length from rfl)
  go_enter Tryd.func69, Tryd.ntmps69
  go_wp2_with (first
    | (refine wpList_load_fam rowT sizeT rfl (.tmp _) rfl _ rfl n F HF.out ?_)
    | (go_at_call 26; refine (sets_c n F _).mono ?_; rintro e w1 ⟨v1, rfl, ho1, hb1⟩; have HO1 := hide ho1.ints; have HB1 := hide (H0.out.trans (hb1.mono (by simp))); clear ho1 hb1)
    | (refine wpList_len sliceT rfl (.tmp _) rfl _ rfl w1.heap.size (setsTo F 128) HO1.out ?_))
  go_ret
  exact ⟨by rw [HC.out]; rfl, HB1.out⟩
theorem ent_fullH : enters Tryd.prog 55 := enters_of Tryd.func55 (by kernel_rfl) (by kernel_rfl)
set_option maxHeartbeats 2000000 in
theorem known_c (m : Nat) (F : Nat → Bool) (w : World) (hm7 : m ≤ 7) :
    Calls Tryd.prog 70 #[.agg (fam (m : Int) F)] w fun e w' => e = .returned (.tuple #[.int .i64 (kaL (setsTo F 128) (low m) : Int), .int .i64 (knL (setsTo F 128) (low m) : Int)]) ∧ Below w.heap.size w w' := by
  have HF := hide (famAt.new 45 w (m : Int) F)
  have H0 := hide ((Below.refl w.heap.size w).alloc (Nat.le_refl _) (.cells (fam (m : Int) F) 45))
  have HFU := hide (fun w1 => by have := full_c (m : Int) F w1 (by omega) (by omega); rw [Int.toNat_natCast] at this; exact this)
  have hlo := low_lt m hm7
  have HRG := hide (setsTo_range F 128)
  have hL := setsTo_len F 128
  have HSE := hide (fun w1 => sets_c (m : Int) F w1)
  have HKA := hide (kaTo_lt (setsTo F 128) (low m) hlo)
  have HKN := hide (knTo_lt (setsTo F 128) (low m) hlo)
  have HK1 := hide (fun k => show kaTo (setsTo F 128) (low m) (k + 1) = kaTo (setsTo F 128) (low m) k &&& nth (setsTo F 128) k from rfl)
  have HK2 := hide (fun k => show knTo (setsTo F 128) (low m) (k + 1) = andNot (knTo (setsTo F 128) (low m) k) (nth (setsTo F 128) k) from rfl)
  have HK3 := hide (show kaTo (setsTo F 128) (low m) 0 = low m ∧ knTo (setsTo F 128) (low m) 0 = low m from ⟨rfl, rfl⟩)
  have HK4 := hide (show kaL (setsTo F 128) (low m) = kaTo (setsTo F 128) (low m) (setsTo F 128).length ∧ knL (setsTo F 128) (low m) = knTo (setsTo F 128) (low m) (setsTo F 128).length from ⟨rfl, rfl⟩)
  rw [HK4.out.1, HK4.out.2]
  clear HK4
  generalize setsTo F 128 = L at *
  go_enter Tryd.func70, Tryd.ntmps70
  go_wp2_with fail
  refine wp_region_old (by kernel_rfl) (by kernel_rfl) ?_
  refine q_load_fam rowT sizeT rfl (.tmp _) rfl w.heap.size rfl (m : Int) F (fun w' h => HF.out.below h HF.out.lt) ?_
  simp only [Act.put, List.setIfInBounds_toArray, List.set_cons_zero, List.set_cons_succ]
  refine q_callH rfl 55 ent_fullH _ _ rfl #[.agg (fam (m : Int) F)] rfl (.int .i64 (low m : Int)) (fun w' _ => HFU.out w') ?_
  simp only [Act.put, List.setIfInBounds_toArray, List.set_cons_zero, List.set_cons_succ]
  refine q_load_fam rowT sizeT rfl (.tmp _) rfl w.heap.size rfl (m : Int) F (fun w' h => HF.out.below h HF.out.lt) ?_
  simp only [Act.put, List.setIfInBounds_toArray, List.set_cons_zero, List.set_cons_succ]
  refine q_callH rfl 55 ent_fullH _ _ rfl #[.agg (fam (m : Int) F)] rfl (.int .i64 (low m : Int)) (fun w' _ => HFU.out w') ?_
  simp only [Act.put, List.setIfInBounds_toArray, List.set_cons_zero, List.set_cons_succ]
  repeat (first | go_big_quiet_skip | go_big_quiet_step ((first | exact fun _ => rfl | exact fun _ => ⟨rfl, rfl⟩)))
  refine wpQuiet_nil ?_
  intro w1 hb1
  have HF1 := hide (HF.out.below hb1 HF.out.lt)
  have HB1 := hide (H0.out.trans (hb1.mono (by simp)))
  clear hb1 H0 HF
  go_wp2_with (first
    | (refine wpList_load_fam rowT sizeT rfl (.tmp _) rfl _ rfl (m : Int) F HF1.out ?_)
    | (go_at_call 26; refine (HSE.out _).mono ?_; rintro e w2 ⟨v2, rfl, ho2, hb2⟩; have HO2 := hide ho2.ints; have HB2 := hide (HB1.out.trans (hb2.mono HB1.out.size)); clear ho2 hb2)
    | (refine wpList_len sliceT rfl (.tmp _) rfl _ rfl w2.heap.size L HO2.out ?_))
  go_loopw [4, 5, 15] (fun x y i wr => ∃ k : Nat, k ≤ L.length ∧ i = .int .i64 (k : Int) ∧ x = .int .i64 (kaTo L (low m) k : Int) ∧ y = .int .i64 (knTo L (low m) k : Int) ∧ wr = w2) (fun _ _ i _ => L.length - (intOf i).toNat)
  case atStart => exact ⟨0, Nat.zero_le _, rfl, by rw [HK3.out.1], by rw [HK3.out.2], rfl⟩
  case round =>
    obtain ⟨k, hk, rfl, rfl, rfl, rfl⟩ := hrel
    by_cases hlt : k < L.length
    · have hr := HRG.out k hlt
      have hnx : L[k]?.getD 0 = (nth L k : Int) := by unfold nth; rw [Int.toNat_of_nonneg hr.1]
      have HNX := hide hnx
      have hn8 : nth L k < 128 := by rw [hnx] at hr; omega
      have ha8 := HKA.out k
      have hb8 := HKN.out k
      have e1 := HK1.out k
      have e2 := HK2.out k
      have hand := i64_and (kaTo L (low m) k) (nth L k) (by omega) (by omega)
      have hann := i64_andNot (knTo L (low m) k) (nth L k) (by omega)
      rw [← e1] at hand
      rw [← e2] at hann
      have E1 := hide e1
      clear e1 e2 hnx hr
      generalize kaTo L (low m) k = A at *
      generalize knTo L (low m) k = B at *
      generalize hA1 : kaTo L (low m) (k + 1) = A1 at hand
      generalize hB1 : knTo L (low m) (k + 1) = B1 at hann
      have HA1 := hide hA1
      have HBB1 := hide hB1
      clear hA1 hB1 E1
      generalize hN : nth L k = N at *
      clear hN
      go_wp2_with (first
        | (refine wpList_at sliceT intS rfl (.tmp _) (.tmp _) rfl _ rfl k rfl wr.heap.size L HO2.out hlt ?_; intro ad hcell hblk; rw [HNX.out] at hcell))
      go_roundw
      case rel => exact ⟨k + 1, by omega, by go_num, by rw [HA1.out], by rw [HBB1.out], trivial⟩
      case measure => (simp [intOf] <;> omega)
    · have HJ := hide (show k = L.length by omega)
      have hlt' : ¬ ((k : Int) < (L.length : Int)) := by omega
      go_wp2
      go_ret2
      exact ⟨by rw [HJ.out]; rfl, HB2.out⟩
end Go.Proofs.YtppojaekngeelaaDoor
