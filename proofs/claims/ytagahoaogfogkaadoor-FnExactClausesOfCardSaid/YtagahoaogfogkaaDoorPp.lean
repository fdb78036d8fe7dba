/- Contracts: paths, the specification's. -/
import Derived.Test.YtagahoaogfogkaaDoorPm
import Derived.Test.YtagahoaogfogkaaDoorSize
import Derived.Test.YtagahoaogfogkaaDoorOu
import Derived.Test.YtagahoaogfogkaaDoorHar
namespace Go.Proofs.YtagahoaogfogkaaDoor
open Go.RowKit
set_option maxRecDepth 100000
theorem paTo_paTo (P Q : Nat → Bool) (l : List Int) : paTo Q (paTo P l l.length) (paTo P l l.length).length = paTo (fun x => P x && Q x) l l.length := by
  rw [paTo_all, paTo_all, paTo_all, List.filter_filter]
  congr 1
  funext a
  exact Bool.and_comm _ _
theorem paTo_in (P : Nat → Bool) (l : List Int) (k : Nat) (hk : k ≤ l.length) : ∀ a ∈ paTo P l k, a ∈ l ∧ P a.toNat = true := by
  intro a ha
  rw [paTo_take P l k hk, List.mem_filter] at ha
  exact ⟨List.mem_of_mem_take ha.1, ha.2⟩
theorem paTo_nth (P : Nat → Bool) (l : List Int) (hl : ∀ j, j < l.length → 0 ≤ l[j]?.getD 0 ∧ l[j]?.getD 0 < 128) (j : Nat) (hj : j < (paTo P l l.length).length) :
    (paTo P l l.length)[j]?.getD 0 = (nth (paTo P l l.length) j : Int) ∧ nth (paTo P l l.length) j < 128 ∧ P (nth (paTo P l l.length) j) = true := by
  obtain ⟨h1, h2⟩ := paTo_in P l _ (Nat.le_refl _) ((paTo P l l.length)[j]) (List.getElem_mem hj)
  obtain ⟨i, hi, e⟩ := List.mem_iff_getElem.1 h1
  have h3 := hl i hi
  rw [List.getElem?_eq_getElem hi, Option.getD_some, e] at h3
  unfold nth
  rw [List.getElem?_eq_getElem hj, Option.getD_some]
  exact ⟨by omega, by omega, h2⟩
attribute [local irreducible] p2 low memB risB
theorem paPath_c (n : Int) (v : Value) (l : List Int) (s : Nat) (w : World) (hl : ints w.heap.size w v l) (hinc : inc l) (hlen : l.length < 1000000000) (hs : s < 128) :
    Calls Tryd.prog 55 #[.agg #[.int .i64 n, v], .int .i64 (s : Int)] w fun e w' => e = .returned (.bool (pathSp l s)) ∧ Below w.heap.size w w' := by
  have HL := hide ((hl.alloc (.cells #[.int .i64 n, v] 29)).mono (show w.heap.size ≤ (w.alloc (.cells #[.int .i64 n, v] 29)).heap.size by simp))
  have HI := hide hinc
  have H0 := hide ((Below.refl w.heap.size w).alloc (Nat.le_refl _) (.cells #[.int .i64 n, v] 29))
  have hc1 := cells_at1 (hp_last w (.cells #[.int .i64 n, v] 29))
  have hi7 : itemsOf (innerSp l s) 7 < 128 := itemsOf_lt _ 7
  clear hl hinc
  cases hm : memB l (s : Int)
  · have HM := hide hm
    have HQ := hide (show pathSp l s = false by simp [pathSp, hm])
    clear hm
    go_enter Tryd.func55, Tryd.ntmps55
    go_wp2_with (go_at_call 75; refine (spHas_c v l (s : Int) _ HL.out HI.out hlen).mono ?_; rw [HM.out]; rintro e w' ⟨rfl, rfl⟩)
    go_ret
    exact ⟨ret_b HQ.out.symm, H0.out⟩
  · have HM := hide hm
    have HQ := hide (show pathSp l s = (pc (itemsOf (innerSp l s) 7) == 1) by simp [pathSp, hm])
    clear hm
    have HN : Hid (∀ (w1 : World), ints w1.heap.size w1 v l → Calls Tryd.prog 79 #[v, .int .i64 (s : Int)] w1 fun e w' => e = .returned (.int .i64 (itemsOf (innerSp l s) 7 : Int)) ∧ w1 = w') := hide fun w1 h1 => by
      have := spInner_c v l (s : Int) w1 h1 HI.out hlen (by omega) (by omega)
      rw [Int.toNat_natCast] at this
      exact this
    generalize itemsOf (innerSp l s) 7 = I at hi7 HQ HN
    have HC : Hid (∀ (w1 : World), Calls Tryd.prog 68 #[.int .i64 (I : Int)] w1 fun e w' => e = .returned (.int .i64 (pc I : Int)) ∧ w1 = w') := hide fun w1 => by
      have := spCount_c (I : Int) w1 (by omega) (by omega)
      rw [Int.toNat_natCast] at this
      exact this
    generalize pc I = C at HQ HC
    go_enter Tryd.func55, Tryd.ntmps55
    go_wp2_with (first
      | (go_at_call 75; refine (spHas_c v l (s : Int) _ HL.out HI.out hlen).mono ?_; rw [HM.out]; rintro e w' ⟨rfl, rfl⟩)
      | (go_at_call 79; refine (HN.out _ HL.out).mono ?_; rintro e w' ⟨rfl, rfl⟩)
      | (go_at_call 68; refine (HC.out _).mono ?_; rintro e w' ⟨rfl, rfl⟩))
    go_ret
    exact ⟨ret_b (by rw [HQ.out, Bool.eq_iff_iff]; simp; try omega), H0.out⟩

set_option maxHeartbeats 1000000 in
theorem paAll_c (n : Int) (v : Value) (l : List Int) (w : World) (hl : ints w.heap.size w v l) (hinc : inc l) (hlen : l.length < 1000000) (hr : ∀ j, j < l.length → 0 ≤ l[j]?.getD 0 ∧ l[j]?.getD 0 < 128) :
    Calls Tryd.prog 61 #[.agg #[.int .i64 n, v]] w fun e w' => ∃ v', e = .returned v' ∧ own 3 w' w.heap.size v' (paTo (pathSp l) l l.length) ∧ Below w.heap.size w w' := by
  have HL := hide (hl.alloc (.cells #[.int .i64 n, v] 29))
  have HI := hide hinc
  have HR := hide hr
  have H0 := hide ((Below.refl w.heap.size w).alloc (Nat.le_refl _) (.cells #[.int .i64 n, v] 29))
  have HS0 := hide (hp_last w (.cells #[.int .i64 n, v] 29))
  have HZ := hide (show (w.alloc (.cells #[.int .i64 n, v] 29)).heap.size = w.heap.size + 1 by simp)
  have hc0 := cells_at0 HS0.out
  have hc1 := cells_at1 HS0.out
  clear hl hinc hr
  go_enter Tryd.func61, Tryd.ntmps61
  go_wp2_with (refine wpList_len sliceT rfl (.tmp _) rfl v rfl w.heap.size l HL.out ?_)
  go_loopw [3, 9] (fun o i wr => ∃ k : Nat, k ≤ l.length ∧ i = .int .i64 (k : Int) ∧ Hid (own 3 wr (w.heap.size + 1) o (paTo (pathSp l) l k)) ∧ Hid (Below (w.heap.size + 1) (w.alloc (.cells #[.int .i64 n, v] 29)) wr)) (fun _ i _ => l.length - (intOf i).toNat)
  case atStart => exact ⟨0, by omega, rfl, own_nil _ _ _, (Below.refl _ _)⟩
  case round =>
    obtain ⟨j, hj, rfl, HO, HB⟩ := hrel
    have hsz := HB.out.size
    rw [HZ.out] at hsz
    have HLW := hide (HL.out.below HB.out (by omega))
    have HSW := hide ((HB.out.block w.heap.size (by omega)).trans HS0.out)
    have d0 := cells_at0 HSW.out
    have d1 := cells_at1 HSW.out
    have hlen2 := paTo_len (pathSp l) l j
    clear hc0 hc1
    by_cases hlt : j < l.length
    · have hx := HR.out j hlt
      have HN := hide (show paTo (pathSp l) l (j + 1) = if pathSp l (nth l j) = true then paTo (pathSp l) l j ++ [l[j]?.getD 0] else paTo (pathSp l) l j from rfl)
      have HP := hide (fun (w1 : World) (h1 : ints w1.heap.size w1 v l) => paPath_c n v l (nth l j) w1 h1 HI.out (by omega) (by unfold nth; omega))
      have hnx : (nth l j : Int) = l[j]?.getD 0 := by unfold nth; omega
      generalize paTo (pathSp l) l j = A at HO HN hlen2
      generalize hX : nth l j = x at HN HP hnx
      have HXX := hide hnx
      clear hX hx hnx
      cases hp : pathSp l x
      · have HPP := hide hp
        clear hp
        go_wp2_with (first
          | (refine wpList_at sliceT intS rfl (.tmp _) (.tmp _) rfl v rfl j rfl w.heap.size l HLW.out hlt ?_; intro ad hcell hblk; rw [← HXX.out] at hcell)
          | (go_at_call 55; refine (HP.out _ (HLW.out.mono (by omega))).mono ?_; rw [HPP.out]; rintro e w2 ⟨rfl, hb2⟩; have HB2 := hide (HB.out.trans (hb2.mono hsz)); have HO2 := hide (HO.out.kept hb2); clear hb2))
        go_roundw
        case rel => exact ⟨j + 1, by omega, by go_num, by rw [HN.out, HPP.out]; exact HO2.out, HB2.out⟩
        case measure => simp [intOf]; omega
      · have HPP := hide hp
        clear hp
        go_wp2_with (first
          | (refine wpList_at sliceT intS rfl (.tmp _) (.tmp _) rfl v rfl j rfl w.heap.size l HLW.out hlt ?_; intro ad hcell hblk; rw [← HXX.out] at hcell)
          | (go_at_call 55; refine (HP.out _ (HLW.out.mono (by omega))).mono ?_; rw [HPP.out]; rintro e w2 ⟨rfl, hb2⟩; have HB2 := hide (HB.out.trans (hb2.mono hsz)); have HO2 := hide (HO.out.kept hb2); have hs2 := hb2.size; clear hb2)
          | (at_builtin; refine wpList_append1 sliceT intI rfl _ _ rfl (w.heap.size + 1) _ _ rfl (HO2.out.alloc _) _ (x : Int) rfl (by simp [go_sem]) (by simp; omega) (by omega) ?_; intro v4 w4 ho4 hb4; have HO4 := hide ho4; have HB4 := hide ((HB2.out.alloc (by omega) _).trans hb4); clear ho4 hb4))
        go_roundw
        case rel => exact ⟨j + 1, by omega, by go_num, by rw [HN.out, HPP.out, ← HXX.out]; exact HO4.out, HB4.out⟩
        case measure => simp [intOf]; omega
    · have HJ := hide (show j = l.length by omega)
      have hlt' : ¬ ((j : Int) < (l.length : Int)) := by omega
      clear hlen2
      go_wp2
      go_ret
      exact ⟨_, rfl, by rw [← HJ.out]; exact HO.out.mono (by omega), H0.out.trans (HB.out.mono (by omega))⟩
end Go.Proofs.YtagahoaogfogkaaDoor
