/- Contracts: paths, the program's. -/
import Derived.Test.YtagahoaogfogkaaDoorPm
import Derived.Test.YtagahoaogfogkaaDoorSize
import Derived.Test.YtagahoaogfogkaaDoorOu
namespace Go.Proofs.YtagahoaogfogkaaDoor
open Go.RowKit
set_option maxRecDepth 100000
attribute [local irreducible] p2 low memB risB
theorem inner_lt (F : Nat → Bool) (n s : Nat) (hn : n ≤ 7) : innerOf F n s < 128 := by
  have h1 : innerOf F n s < 2 ^ n := itemsOf_lt _ n
  have h2 := p2_le n 7 hn
  omega
theorem isPath_c (n : Int) (F : Nat → Bool) (s : Nat) (w : World) (h0 : 0 ≤ n) (h7 : n ≤ 7) (hs : s < 128) :
    Calls Tryd.prog 58 #[.agg (fam n F), .int .i64 (s : Int)] w fun e w' => e = .returned (.bool (pathF F n.toNat s)) ∧ Below w.heap.size w w' := by
  have HB := hide ((Below.refl w.heap.size w).alloc (Nat.le_refl _) (.cells (fam n F) 55))
  have HF := hide (famAt.new 55 w n F)
  have hc := HF.out.get s hs
  have hi := inner_lt F n.toNat s (by omega)
  cases hF : F s
  · rw [hF] at hc
    have HV := hide hF
    clear hF
    go_enter Tryd.func58, Tryd.ntmps58
    go_wp2
    go_ret
    exact ⟨ret_b (by simp [pathF, HV.out]), HB.out⟩
  · rw [hF] at hc
    have HQ := hide (show pathF F n.toNat s = (pc (innerOf F n.toNat s) == 1) by simp [pathF, hF])
    clear hF
    have HI : Hid (∀ (w1 : World), Calls Tryd.prog 87 #[.agg (fam n F), .int .i64 (s : Int)] w1 fun e w' => e = .returned (.int .i64 (innerOf F n.toNat s : Int)) ∧ Below w1.heap.size w1 w') := hide fun w1 => by
      have := innerFringe_c n F (s : Int) w1 h0 h7 (by omega) (by omega)
      rw [Int.toNat_natCast] at this
      exact this
    generalize innerOf F n.toNat s = I at hi HQ HI
    have HZ : Hid (∀ (w1 : World), Calls Tryd.prog 88 #[.int .i64 (I : Int)] w1 fun e w' => e = .returned (.int .i64 (pc I : Int)) ∧ w1 = w') := hide fun w1 => by
      have := size_c (I : Int) w1 (by omega) (by omega)
      rw [Int.toNat_natCast] at this
      exact this
    generalize pc I = C at HQ HZ
    go_enter Tryd.func58, Tryd.ntmps58
    go_wp2_with (first
      | (refine wpList_load_fam rowT sizeT rfl (.tmp _) rfl _ rfl n F HF.out ?_)
      | (go_at_call 87; refine (HI.out _).mono ?_; rintro e w1 ⟨rfl, hb1⟩; have HB1 := hide (HB.out.trans (hb1.mono (by simp))); clear hb1)
      | (go_at_call 88; refine (HZ.out _).mono ?_; rintro e w2 ⟨rfl, rfl⟩))
    go_ret
    exact ⟨ret_b (by rw [HQ.out, Bool.eq_iff_iff]; simp; try omega), HB1.out⟩

set_option maxHeartbeats 1000000 in
theorem pathsWhere_c (n : Int) (F : Nat → Bool) (k : Nat) (caps : Array Value) (w : World) (K : Nat → Bool) (hk : enters Tryd.prog k) (h0 : 0 ≤ n) (h7 : n ≤ 7)
    (hcl : ∀ (s : Nat) (w1 : World), s < 128 → pathF F n.toNat s = true → Below w.heap.size w w1 → Calls Tryd.prog k (#[.int .i64 (s : Int)] ++ caps) w1 fun e w2 => e = .returned (.bool (K s)) ∧ Below w1.heap.size w1 w2) :
    Calls Tryd.prog 90 #[.agg (fam n F), .func (.func k) #[] caps] w fun e w' => ∃ v, e = .returned v ∧ own 3 w' w.heap.size v (setsTo (fun x => pathF F n.toNat x && K x) (2 ^ n.toNat)) ∧ Below w.heap.size w w' := by
  have hk1 : ∀ (args : Array Value) (w : World), Sem.run Tryd.prog (callFunc k args) w = .ok (.enter k args) w := hk
  have hlo := low_lt n.toNat (by omega)
  have HSU := hide (low_succ n.toNat)
  have H0 := hide ((Below.refl w.heap.size w).alloc (Nat.le_refl _) (.cells (fam n F) 55))
  have HF := hide (famAt.new 55 w n F)
  have HZ := hide (show (w.alloc (.cells (fam n F) 55)).heap.size = w.heap.size + 1 by simp)
  have HCL := hide hcl
  have HIP : Hid (∀ (s : Nat) (w1 : World), s < 128 → Calls Tryd.prog 58 #[.agg (fam n F), .int .i64 (s : Int)] w1 fun e w' => e = .returned (.bool (pathF F n.toNat s)) ∧ Below w1.heap.size w1 w') := hide fun s w1 hs => isPath_c n F s w1 h0 h7 hs
  have HFU : Hid (∀ (w1 : World), Calls Tryd.prog 84 #[.agg (fam n F)] w1 fun e w' => e = .returned (.int .i64 (low n.toNat : Int)) ∧ Below w1.heap.size w1 w') := hide fun w1 => full_c n F w1 h0 h7
  generalize low n.toNat = L at hlo HSU HFU
  rw [← HSU.out]
  clear hcl
  go_enter Tryd.func90, Tryd.ntmps90
  go_wp2_with (first
    | (refine wpList_load_fam rowT sizeT rfl (.tmp _) rfl _ rfl n F HF.out ?_)
    | (go_at_call 84; refine (HFU.out _).mono ?_; rintro e w1 ⟨rfl, hb1⟩; have H1 := hide (show Below (w.heap.size + 1) (w.alloc (.cells (fam n F) 55)) w1 from hb1.mono (by rw [HZ.out]; omega)); clear hb1))
  go_loopw [5, 10] (fun v i wr => ∃ k : Nat, k ≤ L + 1 ∧ i = .int .i64 (k : Int) ∧ Hid (own 3 wr (w.heap.size + 1) v (setsTo (fun x => pathF F n.toNat x && K x) k)) ∧ Hid (Below (w.heap.size + 1) (w.alloc (.cells (fam n F) 55)) wr)) (fun _ i _ => L + 1 - (intOf i).toNat)
  case atStart => exact ⟨0, by omega, rfl, own_nil _ _ _, H1.out⟩
  case round =>
    obtain ⟨j, hj, rfl, HO, HB⟩ := hrel
    have HFW := hide (HF.out.below HB.out (by omega))
    have hsz := HB.out.size
    rw [HZ.out] at hsz
    have hlen := setsTo_len (fun x => pathF F n.toNat x && K x) j
    by_cases hlt : j < L + 1
    · have hj2 : (j : Int) < (L : Int) + 1 := by omega
      have HN := hide (show setsTo (fun x => pathF F n.toNat x && K x) (j + 1) = if (pathF F n.toNat j && K j) = true then setsTo (fun x => pathF F n.toNat x && K x) j ++ [(j : Int)] else setsTo (fun x => pathF F n.toNat x && K x) j from rfl)
      generalize setsTo (fun x => pathF F n.toNat x && K x) j = A at HO HN hlen
      cases hp : pathF F n.toNat j
      · have HP := hide hp
        clear hp
        go_wp2_with (first
          | (refine wpList_load_fam rowT sizeT rfl (.tmp _) rfl _ rfl n F HFW.out ?_)
          | (go_at_call 58; refine (HIP.out j _ (by omega)).mono ?_; rw [HP.out]; rintro e w2 ⟨rfl, hb2⟩; have HB2 := hide (HB.out.trans (hb2.mono hsz)); have HO2 := hide (HO.out.kept hb2); clear hb2))
        go_roundw
        case rel => exact ⟨j + 1, by omega, by go_num, by rw [HN.out, HP.out]; exact HO2.out, HB2.out⟩
        case measure => simp [intOf]; omega
      · have HP := hide hp
        have HC := hide (fun w1 => HCL.out j w1 (by omega) hp)
        clear hp
        cases hK : K j
        · have HK := hide hK
          clear hK
          go_wp2_with (first
            | (refine wpList_load_fam rowT sizeT rfl (.tmp _) rfl _ rfl n F HFW.out ?_)
            | (go_at_call 58; refine (HIP.out j _ (by omega)).mono ?_; rw [HP.out]; rintro e w2 ⟨rfl, hb2⟩; have HB2 := hide (HB.out.trans (hb2.mono hsz)); have HO2 := hide (HO.out.kept hb2); have hs2 := hb2.size; clear hb2))
          refine (HC.out _ (H0.out.trans (HB2.out.mono (by omega)))).mono ?_
          rw [HK.out]
          rintro e w3 ⟨rfl, hb3⟩
          have HB3 := hide (HB2.out.trans (hb3.mono (by omega)))
          have HO3 := hide (HO2.out.kept hb3)
          clear hb3
          go_wp2
          go_roundw
          case rel => exact ⟨j + 1, by omega, by go_num, by rw [HN.out, HP.out, HK.out]; exact HO3.out, HB3.out⟩
          case measure => simp [intOf]; omega
        · have HK := hide hK
          clear hK
          go_wp2_with (first
            | (refine wpList_load_fam rowT sizeT rfl (.tmp _) rfl _ rfl n F HFW.out ?_)
            | (go_at_call 58; refine (HIP.out j _ (by omega)).mono ?_; rw [HP.out]; rintro e w2 ⟨rfl, hb2⟩; have HB2 := hide (HB.out.trans (hb2.mono hsz)); have HO2 := hide (HO.out.kept hb2); have hs2 := hb2.size; clear hb2))
          refine (HC.out _ (H0.out.trans (HB2.out.mono (by omega)))).mono ?_
          rw [HK.out]
          rintro e w3 ⟨rfl, hb3⟩
          have HB3 := hide (HB2.out.trans (hb3.mono (by omega)))
          have HO3 := hide (HO2.out.kept hb3)
          have hs3 := hb3.size
          clear hb3
          go_wp2_with (at_builtin; refine wpList_append1 sliceT intI rfl _ _ rfl (w.heap.size + 1) _ _ rfl (HO3.out.alloc _) _ (j : Int) rfl (by simp [go_sem]) (by simp; omega) (by omega) ?_; intro v4 w4 ho4 hb4; have HO4 := hide ho4; have HB4 := hide ((HB3.out.alloc (by omega) _).trans hb4); clear ho4 hb4)
          go_roundw
          case rel => exact ⟨j + 1, by omega, by go_num, by rw [HN.out, HP.out, HK.out]; exact HO4.out, HB4.out⟩
          case measure => simp [intOf]; omega
    · have HJ := hide (show j = L + 1 by omega)
      have hj2 : ¬ ((j : Int) < (L : Int) + 1) := by omega
      clear hlen
      go_wp2
      go_ret
      exact ⟨_, rfl, by rw [← HJ.out]; exact HO.out.mono (by omega), H0.out.trans (HB.out.mono (by omega))⟩
end Go.Proofs.YtagahoaogfogkaaDoor
