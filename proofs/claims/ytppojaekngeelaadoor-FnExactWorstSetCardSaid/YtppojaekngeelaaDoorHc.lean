/- Contracts: the sets that answers leave, the specification's helpers. -/
import Derived.Test.YtppojaekngeelaaDoorHa
import Derived.Test.YtppojaekngeelaaDoorOu
import Derived.Test.YtppojaekngeelaaDoorHar
namespace Go.Proofs.YtppojaekngeelaaDoor
open Go.RowKit
set_option maxRecDepth 100000
set_option linter.unusedSimpArgs false
attribute [local irreducible] p2 low memB risB
theorem zbS {a : Nat} {b : Bool} (h : (a == 0) = b) : ((a : Int) == 0) = b := by
  rw [← h, Bool.eq_iff_iff]; simp
theorem lfTo_yes {y z : Nat} {l : List Int} {j : Nat} (h : leB y z (nth l j) = true) : paTo (leB y z) l (j + 1) = paTo (leB y z) l j ++ [l[j]?.getD 0] := by rw [paTo, if_pos h]
theorem lfTo_no {y z : Nat} {l : List Int} {j : Nat} (h : leB y z (nth l j) = false) : paTo (leB y z) l (j + 1) = paTo (leB y z) l j := by rw [paTo, if_neg (by rw [h]; simp)]
set_option maxHeartbeats 2000000 in
theorem asLeft_c (n : Int) (v : Value) (l : List Int) (y z : Nat) (w : World) (hl : ints w.heap.size w v l) (hlen : l.length < 1000000000) (hr : ∀ j, j < l.length → 0 ≤ l[j]?.getD 0 ∧ l[j]?.getD 0 < 128) (hy : y < 128) (hz : z < 128) :
    Calls Tryd.prog 44 #[.agg #[.int .i64 n, v], .int .i64 (y : Int), .int .i64 (z : Int)] w fun e w' => ∃ v', e = .returned v' ∧ own 3 w' w.heap.size v' (lfL l y z) ∧ Below w.heap.size w w' := by
  have HL := hide (hl.alloc (.cells #[.int .i64 n, v] 28))
  have H0 := hide ((Below.refl w.heap.size w).alloc (Nat.le_refl _) (.cells #[.int .i64 n, v] 28))
  have HR := hide hr
  have HFI := hide (show lfL l y z = paTo (leB y z) l l.length from rfl)
  rw [HFI.out]
  clear hl hr HFI
  go_enter Tryd.func44, Tryd.ntmps44
  go_wp2_with (refine wpList_len sliceT rfl (.tmp _) rfl _ rfl w.heap.size l HL.out ?_)
  generalize hX : (w.alloc (.cells #[.int .i64 n, v] 28)) = W0 at HL H0 ⊢
  go_loopw [7, 13] (fun o i wr => ∃ k : Nat, k ≤ l.length ∧ i = .int .i64 (k : Int) ∧ Hid (own 3 wr w.heap.size o (paTo (leB y z) l k)) ∧ Hid (Below w.heap.size w wr)) (fun _ i _ => l.length - (intOf i).toNat)
  case atStart => exact ⟨0, Nat.zero_le _, rfl, own_nil _ _ _, H0⟩
  case round =>
    obtain ⟨k, hk, rfl, HO, HB⟩ := hrel
    have HLW := hide ((show ints w.heap.size wr v l from by
      have h1 := HB.out
      rw [← hX] at HL
      rcases HL.out with ⟨h, a, c, e⟩ | ⟨b, o, c, e, h1, h2, h3⟩
      · exact .inl ⟨h, a, c, e⟩
      · refine .inr ⟨b, o, c, e, h1, by have := HB.out.size; omega, fun j hj => ?_⟩
        rw [HB.out.cell (p := ⟨b, o + j, none⟩) h1]
        rw [← h3 j hj]
        exact (((Below.refl w.heap.size w).alloc (Nat.le_refl _) (.cells #[.int .i64 n, v] 28)).cell (p := ⟨b, o + j, none⟩) h1).symm))
    have hsz := HB.out.size
    have hlen2 := paTo_len (leB y z) l k
    by_cases hlt : k < l.length
    · have hx := HR.out k hlt
      have hnx : l[k]?.getD 0 = (nth l k : Int) := by unfold nth; rw [Int.toNat_of_nonneg hx.1]
      have HN1 := hide (fun h => lfTo_yes (y := y) (z := z) (l := l) (j := k) h)
      have HN0 := hide (fun h => lfTo_no (y := y) (z := z) (l := l) (j := k) h)
      have HDF := hide (show leB y z (nth l k) = ((andNot y (nth l k) == 0) && (z &&& nth l k == 0)) from rfl)
      have hN8 : nth l k < 128 := by omega
      rw [hnx] at HN1
      have HXX := hide hnx
      clear hnx hx
      generalize paTo (leB y z) l k = A at HO HN1 HN0 hlen2
      generalize nth l k = N at *
      have hand := i64_and z N (by omega) (by omega)
      have hann := i64_andNot y N (by omega)
      generalize hd1 : andNot y N = d1 at *
      generalize hd2 : (z &&& N) = d2 at *
      clear hd1 hd2
      cases hb1 : (d1 == 0)
      · have hc1 := zbS hb1
        have HNN := hide (HN0.out (by rw [HDF.out, hb1]; rfl))
        clear hb1 HN1 HN0
        go_wp2_with (refine wpList_at sliceT intS rfl (.tmp _) (.tmp _) rfl _ rfl k rfl w.heap.size l HLW.out hlt ?_; intro ad hcell hblk; rw [HXX.out] at hcell)
        go_roundw
        case rel => exact ⟨k + 1, by omega, by go_num, by rw [HNN.out]; exact HO.out, HB.out⟩
        case measure => (simp [intOf] <;> omega)
      · have hc1 := zbS hb1
        cases hb2 : (d2 == 0)
        · have hc2 := zbS hb2
          have HNN := hide (HN0.out (by rw [HDF.out, hb1, hb2]; rfl))
          clear hb1 hb2 HN1 HN0
          go_wp2_with (refine wpList_at sliceT intS rfl (.tmp _) (.tmp _) rfl _ rfl k rfl w.heap.size l HLW.out hlt ?_; intro ad hcell hblk; rw [HXX.out] at hcell)
          go_roundw
          case rel => exact ⟨k + 1, by omega, by go_num, by rw [HNN.out]; exact HO.out, HB.out⟩
          case measure => (simp [intOf] <;> omega)
        · have hc2 := zbS hb2
          have HNN := hide (HN1.out (by rw [HDF.out, hb1, hb2]; rfl))
          clear hb1 hb2 HN1 HN0
          go_wp2_with (first
            | (refine wpList_at sliceT intS rfl (.tmp _) (.tmp _) rfl _ rfl k rfl w.heap.size l HLW.out hlt ?_; intro ad hcell hblk; rw [HXX.out] at hcell)
            | (at_builtin; refine wpList_append1 sliceT intI rfl _ _ rfl w.heap.size _ _ rfl (HO.out.alloc _) _ (N : Int) rfl (by simp [go_sem]) (by simp; omega) (by omega) ?_; intro v4 w4 ho4 hb4; have HO4 := hide ho4; have HB4 := hide ((HB.out.alloc (by omega) _).trans hb4); clear ho4 hb4))
          go_roundw
          case rel => exact ⟨k + 1, by omega, by go_num, by rw [HNN.out]; exact HO4.out, HB4.out⟩
          case measure => (simp [intOf] <;> omega)
    · have HJ := hide (show k = l.length by omega)
      have hlt' : ¬ ((k : Int) < (l.length : Int)) := by omega
      clear hlen2
      go_wp2
      go_ret
      exact ⟨_, rfl, by rw [← HJ.out]; exact HO.out, HB.out⟩
set_option maxHeartbeats 2000000 in
theorem asKnown_c (m : Nat) (v u : Value) (L : List Int) (w : World) (hu : ints w.heap.size w u L) (hL : L.length < 1000000000) (hm7 : m ≤ 7) (hr : ∀ j, j < L.length → 0 ≤ L[j]?.getD 0 ∧ L[j]?.getD 0 < 128) :
    Calls Tryd.prog 62 #[.agg #[.int .i64 (m : Int), v], u] w fun e w' => e = .returned (.tuple #[.int .i64 (kaL L (low m) : Int), .int .i64 (knL L (low m) : Int)]) ∧ Below w.heap.size w w' := by
  have HU := hide (hu.alloc (.cells #[.int .i64 (m : Int), v] 28))
  have H0 := hide ((Below.refl w.heap.size w).alloc (Nat.le_refl _) (.cells #[.int .i64 (m : Int), v] 28))
  have c0 := cells_at0 (hp_last w (.cells #[.int .i64 (m : Int), v] 28))
  have hp1 := wrap_p2 m (by omega)
  have hp2 : IntKind.i64.wrap (2 ^ m) = (p2 m : Int) := by rw [IntWalk.i64_left]; exact hp1
  have hp3 := wrap_low m (by omega)
  have hp4 : (p2 m : Int) - 1 = (low m : Int) := by have := p2_pos m; unfold p2 low; omega
  have hlo := low_lt m (by omega)
  have HRG := hide hr
  have HKA := hide (kaTo_lt L (low m) hlo)
  have HKN := hide (knTo_lt L (low m) hlo)
  have HK1 := hide (fun k => show kaTo L (low m) (k + 1) = kaTo L (low m) k &&& nth L k from rfl)
  have HK2 := hide (fun k => show knTo L (low m) (k + 1) = andNot (knTo L (low m) k) (nth L k) from rfl)
  have HK3 := hide (show kaTo L (low m) 0 = low m ∧ knTo L (low m) 0 = low m from ⟨rfl, rfl⟩)
  have HK4 := hide (show kaL L (low m) = kaTo L (low m) L.length ∧ knL L (low m) = knTo L (low m) L.length from ⟨rfl, rfl⟩)
  rw [HK4.out.1, HK4.out.2]
  clear HK4 hu hr
  go_enter Tryd.func62, Tryd.ntmps62
  go_wp2_with (refine wpList_len sliceT rfl (.tmp _) rfl _ rfl w.heap.size L HU.out ?_)
  generalize (w.alloc (.cells #[.int .i64 (m : Int), v] 28)) = W0 at HU H0 ⊢
  clear c0 hp1 hp2 hp3 hp4
  go_loopw [7, 8, 19] (fun x y i wr => ∃ k : Nat, k ≤ L.length ∧ i = .int .i64 (k : Int) ∧ x = .int .i64 (kaTo L (low m) k : Int) ∧ y = .int .i64 (knTo L (low m) k : Int) ∧ wr = W0) (fun _ _ i _ => L.length - (intOf i).toNat)
  case atStart => exact ⟨0, Nat.zero_le _, rfl, by rw [HK3.out.1], by rw [HK3.out.2], rfl⟩
  case round =>
    obtain ⟨k, hk, rfl, rfl, rfl, rfl⟩ := hrel
    by_cases hlt : k < L.length
    · have hr := HRG.out k hlt
      have hnx : L[k]?.getD 0 = (nth L k : Int) := by unfold nth; rw [Int.toNat_of_nonneg hr.1]
      have HNX := hide hnx
      have hn8 : nth L k < 128 := by rw [hnx] at hr; omega
      have ha8 := HKA.out k
      have hb8 := HKN.out k
      have e1 := HK1.out k
      have e2 := HK2.out k
      have hand := i64_and (kaTo L (low m) k) (nth L k) (by omega) (by omega)
      have hann := i64_andNot (knTo L (low m) k) (nth L k) (by omega)
      rw [← e1] at hand
      rw [← e2] at hann
      clear e1 e2 hnx hr
      generalize kaTo L (low m) k = A at *
      generalize knTo L (low m) k = B at *
      generalize hA1 : kaTo L (low m) (k + 1) = A1 at hand
      generalize hB1 : knTo L (low m) (k + 1) = B1 at hann
      have HA1 := hide hA1
      have HBB1 := hide hB1
      clear hA1 hB1
      generalize hN : nth L k = N at *
      clear hN
      go_wp2_with (first
        | (refine wpList_at sliceT intS rfl (.tmp _) (.tmp _) rfl _ rfl k rfl w.heap.size L HU.out hlt ?_; intro ad hcell hblk; rw [HNX.out] at hcell))
      go_roundw
      case rel => exact ⟨k + 1, by omega, by go_num, by rw [HA1.out], by rw [HBB1.out], trivial⟩
      case measure => (simp [intOf] <;> omega)
    · have HJ := hide (show k = L.length by omega)
      have hlt' : ¬ ((k : Int) < (L.length : Int)) := by omega
      go_wp2
      go_ret2
      exact ⟨by rw [HJ.out]; rfl, H0.out⟩
end Go.Proofs.YtppojaekngeelaaDoor
