/- Contracts: ClausesOf: the specification's and the program's. -/
import Derived.Test.YtagahoaogfogkaaDoorCl
namespace Go.Proofs.YtagahoaogfogkaaDoor
open Go.RowKit
set_option maxRecDepth 100000
theorem paTo_take2 (P : Nat → Bool) (l : List Int) (j : Nat) (hj : j < (paTo P l l.length).length) (hl : ∀ i, i < l.length → 0 ≤ l[i]?.getD 0 ∧ l[i]?.getD 0 < 128) :
    (paTo P l l.length)[j]?.getD 0 = (nth (paTo P l l.length) j : Int) ∧ nth (paTo P l l.length) j < 128 := ⟨(paTo_nth P l hl j hj).1, (paTo_nth P l hl j hj).2.1⟩
theorem clV_form (i s : Nat) : ∃ T x, clV i s = .iface T x := by
  unfold clV
  split
  · exact ⟨_, _, rfl⟩
  · exact ⟨_, _, rfl⟩
attribute [local irreducible] p2 low memB risB
theorem without_cC (a i : Nat) (w : World) (ha : a < 128) (hi : i ≤ 7) : Calls Tryd.prog 93 #[.int .i64 (a : Int), .int .i64 (i : Int)] w fun e w' => e = .returned (.int .i64 (andNot a (p2 i) : Int)) ∧ w = w' := by
  have := without_c (a : Int) (i : Int) w (by omega) (by omega) (by omega) (by omega)
  rw [Int.toNat_natCast, Int.toNat_natCast] at this
  exact this
set_option maxHeartbeats 4000000 in
theorem clauses_c (n : Int) (l : List Int) (w : World) (hok : okSp n l = true) (hT : tab w) :
    Calls Tryd.prog 64 #[.agg (fam n (marksTo l l.length))] w fun e w' => ∃ v, e = .returned v ∧ ownC w' w.heap.size v (clTo l n.toNat) ∧ Below w.heap.size w w' := by
  have hn := okSp_n hok
  have HR := hide (okSp_r128 hok)
  have hl128 := okSp_len hok
  have HWE := hide (fun i => where_end hok i)
  obtain ⟨N, rfl⟩ := Int.eq_ofNat_of_zero_le (show 0 ≤ n by omega)
  rw [Int.toNat_natCast] at *
  clear hok
  generalize hF : marksTo l l.length = F at HWE
  clear hF
  have HT := hide (hT.alloc (.cells (fam (N : Int) F) 55))
  have H0 := hide ((Below.refl w.heap.size w).alloc (Nat.le_refl _) (.cells (fam (N : Int) F) 55))
  have HF := hide (famAt.new 55 w (N : Int) F)
  have hg0 := HF.out.get0
  have HZ := hide (show (w.alloc (.cells (fam (N : Int) F) 55)).heap.size = w.heap.size + 1 by simp)
  have HPT := hide (fun (i : Nat) (w1 : World) (h1 : tab w1) => by
    have := pathsTo_c (N : Int) F i w1 (by omega) (by omega) h1
    rw [Int.toNat_natCast, HWE.out i] at this
    exact this)
  clear hT
  go_enter Tryd.func64, Tryd.ntmps64
  go_wp2
  generalize (w.alloc (.cells (fam (N : Int) F) 55)) = W at HT H0 HF hg0 HZ ⊢
  clear hg0
  go_loopw [3, 9] (fun o i wr => ∃ k : Nat, k ≤ N ∧ i = .int .i64 (k : Int) ∧ Hid (ownC wr (w.heap.size + 1) o (clTo l k)) ∧ Hid (Below (w.heap.size + 1) W wr)) (fun _ i _ => N - (intOf i).toNat)
  case atStart => exact ⟨0, by omega, rfl, ownC_nil _ _, Below.refl _ _⟩
  case round =>
    obtain ⟨i, hi, rfl, HO, HB⟩ := hrel
    have hsz := HB.out.size
    rw [HZ.out] at hsz
    have HFW := hide (HF.out.below HB.out (by omega))
    have hcl := clTo_len l i
    by_cases hlt : i < N
    · have hlt2 : (i : Int) < (N : Int) := by omega
      have HN := hide (clTo_next l i)
      have hcl2 : i * l.length ≤ 7 * 128 := Nat.mul_le_mul (by omega) hl128
      have HAT := hide (fun j hj => paTo_take2 (fun s => pathSp l s && (endSp l s == i)) l j hj HR.out)
      have hpl := paTo_len (fun s => pathSp l s && (endSp l s == i)) l l.length
      have HPI := hide (HPT.out i)
      generalize paTo (fun s => pathSp l s && (endSp l s == i)) l l.length = it at HN HAT hpl HPI
      generalize hA : clTo l i = A at HO HN hcl
      have hAl : A.length ≤ 7 * 128 := by omega
      clear hcl hcl2 hA
      go_wp2_with (first
        | (refine wpList_load_fam rowT sizeT rfl (.tmp _) rfl _ rfl (N : Int) _ HFW.out ?_)
        | (go_at_call 63; refine (HPI.out _ (HT.out.belowB HT.out HB.out (by rw [HZ.out]; omega))).mono ?_; rintro e w4 ⟨v4, rfl, ho4, hb4⟩; have HI4 := hide ho4.ints; have HW4 := hide (show own 3 w4 wr.heap.size v4 it from ho4); have hz4 := hb4.size; have HB4 := hide (HB.out.trans (hb4.mono hsz)); have HO4 := hide (HO.out.kept hb4); have HLT := hide (fun g hg => (HO.out.lt g hg).2); clear ho4 hb4)
        | (refine wpList_len sliceT rfl (.tmp _) rfl _ rfl w4.heap.size it HI4.out ?_))
      have hwr := hsz
      go_loopw [16, 3] (fun t o wq => ∃ k : Nat, k ≤ it.length ∧ t = .int .i64 (k : Int) ∧ Hid (ownC wq (w.heap.size + 1) o (A ++ (it.take k).map (clF i))) ∧ Hid (Below (w.heap.size + 1) W wq ∧ own 3 wq (w.heap.size + 1) v4 it ∧ w4.heap.size ≤ wq.heap.size ∧ ∀ g, v4.ownBlock = some g → o.ownBlock ≠ some g)) (fun t _ _ => it.length - (intOf t).toNat)
      case atStart => exact ⟨0, by omega, rfl, hide (by simpa using HO4.out), hide ⟨HB4.out, HW4.out.mono hwr, Nat.le_refl _, fun g hg e => by have h1 := HLT.out g e; have h2 := HW4.out.base g hg; omega⟩⟩
      case round =>
        obtain ⟨j, hj, rfl, HOQ, HBQ⟩ := hrel
        have hszq := HBQ.out.1.size
        rw [HZ.out] at hszq
        have HIQ := hide HBQ.out.2.1.ints
        have HWQ := hide HBQ.out.2.1
        have hszq4 := HBQ.out.2.2.1
        have HNE := hide HBQ.out.2.2.2
        by_cases hlj : j < it.length
        · have hx := HAT.out j hlj
          have HN2 := hide (take_map_next (clF i) it j hlj)
          have hmapl : ((it.take j).map (clF i)).length ≤ j := by rw [List.length_map, List.length_take]; omega
          generalize ((it.take j).map (clF i)) = B at HOQ HN2 hmapl
          have HCF := hide (show clF i (it[j]?.getD 0) = [(i : Int), ((andNot (nth it j) (p2 i) : Nat) : Int)] by rw [hx.1]; simp [clF])
          generalize nth it j = a at hx HCF
          have HXX := hide hx.1
          have ha128 := hx.2
          have HWO := hide (fun w1 => without_cC a i w1 ha128 (by omega))
          clear hx
          generalize andNot a (p2 i) = s at HWO HCF
          rw [HCF.out] at HN2
          obtain ⟨T, x, hcv⟩ := clV_form i s
          have HCV := hide hcv
          clear hcv
          go_wp2_with (first
            | (refine wpList_at sliceT intS rfl (.tmp _) (.tmp _) rfl _ rfl j rfl wr.heap.size it HIQ.out hlj ?_; intro ad hcell hblk; rw [HXX.out] at hcell)
            | (go_at_call 93; refine (HWO.out _).mono ?_; rintro e w5 ⟨rfl, rfl⟩)
            | (go_at_call 92; refine (newClause_c i s _).mono ?_; rw [HCV.out]; rintro e w6 ⟨rfl, hb6⟩; have hz6 := hb6.size; have HB6 := hide (HBQ.out.1.trans (hb6.mono (by omega))); have HO6 := hide (HOQ.out.kept hb6); have HW6 := hide (HWQ.out.kept hb6); have HO7 := hide (HO6.out.kept ((Below.refl w6.heap.size w6).alloc (Nat.le_refl _) (.cells #[.iface T x] 80))); have HW7 := hide (HW6.out.alloc (.cells #[.iface T x] 80)); clear hb6)
            | (at_builtin; refine wpList_appendC rfl (.tmp 20) (.tmp 26) rfl (w.heap.size + 1) _ (A ++ B) rfl HO7.out _ [(i : Int), (s : Int)] rfl (by rw [clR_pair, HCV.out]; simp [go_sem]) (by simp; omega) (by simp; omega) ?_; intro v8 w8 ho8 hoth8 hlie8; have HO8 := hide ho8; have HB8 := hide ((HB6.out.alloc (by omega) _).trans (hoth8.below (w.heap.size + 1) (fun g hg => (HOQ.out.lt g hg).1) (by simp; omega))); have HW8 := hide (HW7.out.other hoth8 fun g hg e => HNE.out g hg e); have hz8 := hoth8.size; have HL8 := hide hlie8; clear ho8 hoth8 hlie8))
          go_roundw
          case rel =>
            refine ⟨j + 1, by omega, by go_num, hide (by rw [HN2.out, ← List.append_assoc]; exact HO8.out), hide ⟨HB8.out, HW8.out, by simp at hz8; omega, fun g hg e => ?_⟩⟩
            have h1 := HWQ.out.blockLt g hg
            rcases HL8.out with h2 | h2
            · exact HNE.out g hg (h2.symm.trans e)
            · rw [h2] at e
              simp at e
              omega
          case measure => simp [intOf]; omega
        · have HJ := hide (show j = it.length by omega)
          have hlj' : ¬ ((j : Int) < (it.length : Int)) := by omega
          go_wp2
          go_roundw
          case rel => exact ⟨i + 1, by omega, by go_num, hide (by rw [HN.out]; have := HOQ.out; rw [HJ.out, List.take_length] at this; exact this), hide HBQ.out.1⟩
          case measure => simp [intOf]; omega
    · have HJ := hide (show i = N by omega)
      have hlt' : ¬ ((i : Int) < (N : Int)) := by omega
      clear hcl
      go_wp2
      go_ret
      refine ⟨_, rfl, ?_, H0.out.trans (HB.out.mono (by omega))⟩
      have h := HO.out
      rw [HJ.out] at h
      obtain ⟨h1, h2⟩ := h
      refine ⟨h1, ?_⟩
      rcases h2 with h2 | ⟨g, cap, cur, e, hg, r⟩
      · exact .inl h2
      · exact .inr ⟨g, cap, cur, e, by omega, r⟩
end Go.Proofs.YtagahoaogfogkaaDoor
