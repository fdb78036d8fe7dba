/- Contracts: irreducible sets and their chains, the specification's. -/
import Derived.Test.YtblglkgmnaklbaaWdf
import Derived.Test.YtblglkgmnaklbaaPp
import Derived.Test.YtblglkgmnaklbaaOs
namespace Go.Proofs.Ytblglkgmnaklbaa
open Go.RowKit
set_option maxRecDepth 100000
set_option linter.unusedSimpArgs false
def irS (l : List Int) (s : Nat) : Bool := pc (itemsOf (innerSp l s) 7) == 1
attribute [local irreducible] p2 low memB risB own
set_option maxHeartbeats 1000000 in
theorem cnIrreducible_c (n : Int) (v : Value) (l : List Int) (w : World) (hl : ints w.heap.size w v l) (hinc : inc l) (hlen : l.length < 1000000) (hr : ∀ j, j < l.length → 0 ≤ l[j]?.getD 0 ∧ l[j]?.getD 0 < 128) :
    Calls Try.prog 28 #[.agg #[.int .i64 n, v]] w fun e w' => ∃ v', e = .returned v' ∧ own 3 w' w.heap.size v' (paTo (irS l) l l.length) ∧ Below w.heap.size w w' := by
  have HL := hide (hl.alloc (.cells #[.int .i64 n, v] 28))
  have HI := hide hinc
  have HR := hide hr
  have H0 := hide ((Below.refl w.heap.size w).alloc (Nat.le_refl _) (.cells #[.int .i64 n, v] 28))
  have HS0 := hide (hp_last w (.cells #[.int .i64 n, v] 28))
  have HZ := hide (show (w.alloc (.cells #[.int .i64 n, v] 28)).heap.size = w.heap.size + 1 by simp)
  have hc0 := cells_at0 HS0.out
  have hc1 := cells_at1 HS0.out
  clear hl hinc hr
  go_enter Try.func28, Try.ntmps28
  go_wp2_with (refine wpList_len sliceT rfl (.tmp _) rfl v rfl w.heap.size l HL.out ?_)
  go_loopw [3, 9] (fun o i wr => ∃ k : Nat, k ≤ l.length ∧ i = .int .i64 (k : Int) ∧ Hid (own 3 wr (w.heap.size + 1) o (paTo (irS l) l k)) ∧ Hid (Below (w.heap.size + 1) (w.alloc (.cells #[.int .i64 n, v] 28)) wr)) (fun _ i _ => l.length - (intOf i).toNat)
  case atStart => exact ⟨0, by omega, rfl, own_nil _ _ _, (Below.refl _ _)⟩
  case round =>
    obtain ⟨j, hj, rfl, HO, HB⟩ := hrel
    have hsz := HB.out.size
    rw [HZ.out] at hsz
    have HLW := hide (HL.out.below HB.out (by omega))
    have HSW := hide ((HB.out.block w.heap.size (by omega)).trans HS0.out)
    have d0 := cells_at0 HSW.out
    have d1 := cells_at1 HSW.out
    have hlen2 := paTo_len (irS l) l j
    clear hc0 hc1
    by_cases hlt : j < l.length
    · have hx := HR.out j hlt
      have HN := hide (show paTo (irS l) l (j + 1) = if irS l (nth l j) = true then paTo (irS l) l j ++ [l[j]?.getD 0] else paTo (irS l) l j from rfl)
      have hnx : (nth l j : Int) = l[j]?.getD 0 := by unfold nth; omega
      have hnl : nth l j < 128 := by unfold nth; omega
      have hi7 : itemsOf (innerSp l (nth l j)) 7 < 128 := itemsOf_lt _ 7
      have HQ := hide (show irS l (nth l j) = (pc (itemsOf (innerSp l (nth l j)) 7) == 1) from rfl)
      have HSI : Hid (∀ (w1 : World), ints w1.heap.size w1 v l → Calls Try.prog 39 #[v, .int .i64 (nth l j : Int)] w1 fun e w' => e = .returned (.int .i64 (itemsOf (innerSp l (nth l j)) 7 : Int)) ∧ w1 = w') := hide fun w1 h1 => by
        have := spInner_c v l (nth l j : Int) w1 h1 HI.out (by omega) (by omega) (by omega)
        rw [Int.toNat_natCast] at this
        exact this
      generalize itemsOf (innerSp l (nth l j)) 7 = I at hi7 HQ HSI
      have HSC : Hid (∀ (w1 : World), Calls Try.prog 41 #[.int .i64 (I : Int)] w1 fun e w' => e = .returned (.int .i64 (pc I : Int)) ∧ w1 = w') := hide fun w1 => by
        have := spCount_c (I : Int) w1 (by omega) (by omega)
        rw [Int.toNat_natCast] at this
        exact this
      generalize pc I = C at HQ HSC
      generalize paTo (irS l) l j = A at HO HN hlen2
      generalize hX : nth l j = x at HN HQ HSI hnx
      have HXX := hide hnx
      clear hX hx hnx hnl
      by_cases hp : C = 1
      · have HPP := hide (show irS l x = true by rw [HQ.out, hp]; rfl)
        subst hp
        go_wp2_with (first
          | (refine wpList_at sliceT intS rfl (.tmp 7) (.tmp 9) rfl v rfl j rfl w.heap.size l HLW.out hlt ?_; intro ad hcell hblk; rw [← HXX.out] at hcell)
          | (go_at_call 39; refine (HSI.out _ (HLW.out.mono (by omega))).mono ?_; rintro e w' ⟨rfl, rfl⟩)
          | (go_at_call 41; refine (HSC.out _).mono ?_; rintro e w' ⟨rfl, rfl⟩)
          | (at_builtin; refine wpList_append1 sliceT intI rfl _ _ rfl (w.heap.size + 1) _ _ rfl (HO.out.alloc _) _ (x : Int) rfl (by simp [go_sem]) (by simp; omega) (by omega) ?_; intro v4 w4 ho4 hb4; have HO4 := hide ho4; have HB4 := hide ((HB.out.alloc (by omega) _).trans hb4); clear ho4 hb4))
        go_roundw
        case rel => exact ⟨j + 1, by omega, by go_num, by rw [HN.out, HPP.out, ← HXX.out]; exact HO4.out, HB4.out⟩
        case measure => simp [intOf]; omega
      · have HPP := hide (show irS l x = false by rw [HQ.out]; simpa using hp)
        have hp2 : ((C : Int) == 1) = false := by simp; omega
        go_wp2_with (first
          | (refine wpList_at sliceT intS rfl (.tmp 7) (.tmp 9) rfl v rfl j rfl w.heap.size l HLW.out hlt ?_; intro ad hcell hblk; rw [← HXX.out] at hcell)
          | (go_at_call 39; refine (HSI.out _ (HLW.out.mono (by omega))).mono ?_; rintro e w' ⟨rfl, rfl⟩)
          | (go_at_call 41; refine (HSC.out _).mono ?_; rintro e w' ⟨rfl, rfl⟩))
        go_roundw
        case rel => exact ⟨j + 1, by omega, by go_num, by rw [HN.out, HPP.out]; exact HO.out, HB.out⟩
        case measure => simp [intOf]; omega
    · have HJ := hide (show j = l.length by omega)
      have hlt' : ¬ ((j : Int) < (l.length : Int)) := by omega
      clear hlen2
      go_wp2
      go_ret
      exact ⟨_, rfl, by rw [← HJ.out]; exact HO.out.mono (by omega), H0.out.trans (HB.out.mono (by omega))⟩
/-- The irreducible sets are the paths. -/
theorem irS_sets {m : Nat} {l : List Int} (h : okSp (m : Int) l = true) : paTo (irS l) l l.length = setsTo (phF m (marksTo l l.length)) 128 := by
  have hn := okSp_n h
  have hp := p2_le m 7 (by omega)
  unfold phF
  rw [sets_cut _ _ (by omega)]
  have e := paTo_sp h (irS l) (pathF (marksTo l l.length) m) (fun x hx hm => by
    have h1 := path_same h x hx
    rw [Int.toNat_natCast] at h1
    rw [h1]
    unfold pathSp irS
    have : memB l (x : Int) = true := by rw [← okSp_marks h x]; exact hm
    rw [this, Bool.true_and]) (fun x hx => by unfold pathF at hx; rw [Bool.and_eq_true] at hx; exact hx.1)
  rw [Int.toNat_natCast] at e
  exact e
end Go.Proofs.Ytblglkgmnaklbaa
