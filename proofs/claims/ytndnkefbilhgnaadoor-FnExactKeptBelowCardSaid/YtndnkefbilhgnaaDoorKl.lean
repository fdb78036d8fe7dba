/- Contracts: the cost of a word; CostOfWord, both. -/
import Derived.Test.YtndnkefbilhgnaaDoorKi
import Derived.Test.YtndnkefbilhgnaaDoorKb
import Derived.Test.YtndnkefbilhgnaaDoorFu
import Derived.Test.YtndnkefbilhgnaaDoorCh
namespace Go.Proofs.YtndnkefbilhgnaaDoor
open Go.RowKit
set_option maxRecDepth 100000
set_option linter.unusedSimpArgs false
attribute [local irreducible] p2 low memB risB
/-- Words whose items are items, and the sets of their beginnings. -/
def wOk (n : Nat) (w : List Int) : Prop := ∀ k, k < w.length → 0 ≤ w[k]?.getD 0 ∧ w[k]?.getD 0 < (n : Int)
theorem setTo_ltK {n : Nat} {w : List Int} (h7 : n ≤ 7) (h : wOk n w) : ∀ k, k ≤ w.length → setTo w k < 128
  | 0, _ => by show 0 < 128; omega
  | k + 1, hk => by
    have h1 := setTo_ltK h7 h k (by omega)
    have h2 := h k (by omega)
    rw [setTo]
    exact or_lt128 _ _ h1 (p2_lt128 _ (by omega))
theorem setTo_next (w : List Int) (k : Nat) : setTo w (k + 1) = setTo w k ||| p2 (w[k]?.getD 0).toNat := rfl
@[go_sem] theorem run_mxi {P : Program} (w : World) (ts : Array TypeId) (t : TypeId) (x y : Int) : (Builtin.max_ ts t #[.int .i64 x, .int .i64 y]).run P w = .ok (.int .i64 (mxi x y)) w := by
  have h : (if y > x then y else x) = mxi x y := rfl
  rw [← h]
  simp [Builtin.max_, Builtin.max2]
set_option maxHeartbeats 1000000 in
theorem ofWord_c (kf : Nat) (caps : Array Value) (c : Nat → Nat → Int) (n : Nat) (v : Value) (l : List Int) (w : World) (h7 : n ≤ 7) (hk : enters Tryd.prog kf) (hc : isCost w kf caps n c) (hl : ints w.heap.size w v l) (hlen : l.length < 1000000000) (hw : wOk n l) :
    Calls Tryd.prog 71 #[.func (.func kf) #[] caps, v] w fun e w' => e = .returned (.int .i64 (mxW c (-9223372036854775808) l l.length)) ∧ Below w.heap.size w w' := by
  have hk1 : ∀ (args : Array Value) (w : World), Sem.run Tryd.prog (callFunc kf args) w = .ok (.enter kf args) w := hk
  obtain ⟨va, vc, hv⟩ := hl.shape
  subst hv
  have HL := hide hl
  have HC := hide hc
  have HST := hide (setTo_ltK h7 hw)
  have HW := hide hw
  clear hl hc hw
  go_enter Tryd.func71, Tryd.ntmps71
  go_wp2_with fail
  go_loopw [5, 6, 11] (fun gv sv iv wr => ∃ k : Nat, k ≤ l.length ∧ iv = .int .i64 (k : Int) ∧ sv = .int .i64 (setTo l k : Int) ∧ gv = .int .i64 (mxW c (-9223372036854775808) l k) ∧ Hid (Below w.heap.size w wr)) (fun _ _ iv _ => l.length - (intOf iv).toNat)
  case atStart => exact ⟨0, Nat.zero_le _, rfl, rfl, rfl, Below.refl _ _⟩
  case round =>
    obtain ⟨k, hk2, rfl, rfl, rfl, HB⟩ := hrel
    have HNX := hide (mxW_next c (-9223372036854775808) l k)
    have HSN := hide (setTo_next l k)
    have HLW := hide (HL.out.below HB.out (Nat.le_refl _))
    by_cases hlt : k < l.length
    · have hlt' : (k : Int) < (l.length : Int) := by omega
      have hs128 := HST.out k hk2
      have hx := HW.out k hlt
      obtain ⟨i, hi⟩ := Int.eq_ofNat_of_zero_le hx.1
      rw [hi, Int.toNat_natCast] at HNX HSN
      have HX := hide hi
      have hin : i < n := by omega
      clear hx hi
      generalize hs : setTo l k = s at *
      generalize hm : mxW c (-9223372036854775808) l k = m at *
      clear hs hm
      have HCC := hide (HC.out wr HB.out s i hs128 hin)
      generalize c s i = co at HNX HCC
      go_wp2_with (refine wpList_at sliceT intS rfl (.tmp 9) (.tmp _) rfl _ rfl k rfl w.heap.size l HLW.out hlt ?_; intro ad hcell hblk; rw [HX.out] at hcell)
      refine HCC.out.mono ?_
      rintro e w2 ⟨rfl, hb2⟩
      have HB2 := hide (HB.out.trans (hb2.mono HB.out.size))
      clear hb2
      go_wp2_with (go_at_call 103; refine (with_c _ _ _ (by omega) (by omega) (by omega) (by omega)).mono ?_; rw [Int.toNat_natCast, Int.toNat_natCast]; rintro e w8 ⟨rfl, rfl⟩)
      go_roundw
      case rel => exact ⟨k + 1, by omega, by go_num, by rw [HSN.out], (by rw [HNX.out]; try rfl), HB2⟩
      case measure => (simp [intOf] <;> omega)
    · have HK := hide (show k = l.length by omega)
      have hlt' : ¬ ((k : Int) < (l.length : Int)) := by omega
      go_wp2
      go_ret
      exact ⟨ret_i (by rw [HK.out]), HB.out⟩
theorem l1Most_c (a b : Int) (w : World) : Calls Tryd.prog 109 #[.int .i64 a, .int .i64 b] w fun e w' => e = .returned (.int .i64 (mxi a b)) ∧ w = w' := by
  have HM := hide (show mxi a b = if a < b then b else a from rfl)
  by_cases h : b < a
  all_goals
    go_enter Tryd.func109, Tryd.ntmps109
    go_wp2
    go_ret
    exact ⟨ret_i (by rw [HM.out]; split <;> omega), rfl⟩
set_option maxHeartbeats 1000000 in
theorem grOf_c (u : Value) (T : List Tsk) (n : Int) (v : Value) (l : List Int) (w : World) (hta : taB T n = true) (ht : tks w.heap.size w u T) (hl : ints w.heap.size w v l) (hlen : l.length < 1000000000) (hw : wOk T.length l) :
    Calls Tryd.prog 68 #[u, v] w fun e w' => e = .returned (.int .i64 (mxW (coT T) (-10000) l l.length)) ∧ Below w.heap.size w w' := by
  have h7 : T.length ≤ 7 := by have := taB_is hta; omega
  obtain ⟨va, vc, hv⟩ := hl.shape
  subst hv
  have HL := hide hl
  have HC := hide (fun w1 (h : Below w.heap.size w w1) s i hs hi => grCost_c u T n s i w1 hta (ht.to h) hs hi)
  have HST := hide (setTo_ltK h7 hw)
  have HW := hide hw
  clear hl hta ht hw
  go_enter Tryd.func68, Tryd.ntmps68
  go_wp2_with fail
  go_loopw [5, 6, 11] (fun sv gv iv wr => ∃ k : Nat, k ≤ l.length ∧ iv = .int .i64 (k : Int) ∧ sv = .int .i64 (setTo l k : Int) ∧ gv = .int .i64 (mxW (coT T) (-10000) l k) ∧ Hid (Below w.heap.size w wr)) (fun _ _ iv _ => l.length - (intOf iv).toNat)
  case atStart => exact ⟨0, Nat.zero_le _, rfl, rfl, rfl, Below.refl _ _⟩
  case round =>
    obtain ⟨k, hk2, rfl, rfl, rfl, HB⟩ := hrel
    have HNX := hide (mxW_next (coT T) (-10000) l k)
    have HSN := hide (setTo_next l k)
    have HLW := hide (HL.out.below HB.out (Nat.le_refl _))
    by_cases hlt : k < l.length
    · have hlt' : (k : Int) < (l.length : Int) := by omega
      have hs128 := HST.out k hk2
      have hx := HW.out k hlt
      obtain ⟨i, hi⟩ := Int.eq_ofNat_of_zero_le hx.1
      rw [hi, Int.toNat_natCast] at HNX HSN
      have HX := hide hi
      have hin : i < T.length := by omega
      clear hx hi
      generalize hs : setTo l k = s at *
      generalize hm : mxW (coT T) (-10000) l k = m at *
      clear hs hm
      have HCC := hide (HC.out wr HB.out s i hs128 hin)
      generalize coT T s i = co at HNX HCC
      have hp1 := wrap_p2 i (by omega)
      have hp2 : IntKind.i64.wrap (2 ^ i) = (p2 i : Int) := by rw [IntWalk.i64_left]; exact hp1
      have hpk := p2_lt128 i (by omega)
      have hor := i64_or s (p2 i) (Nat.lt_trans hs128 (by decide)) (Nat.lt_trans hpk (by decide))
      go_wp2_with (first
        | (refine wpList_at sliceT intS rfl (.tmp 9) (.tmp _) rfl _ rfl k rfl w.heap.size l HLW.out hlt ?_; intro ad hcell hblk; rw [HX.out] at hcell)
        | (go_at_call 58; refine HCC.out.mono ?_; rintro e w2 ⟨rfl, hb2⟩; have HB2 := hide (HB.out.trans (hb2.mono HB.out.size)); clear hb2)
        | (go_at_call 109; refine (l1Most_c m co _).mono ?_; rintro e w3 ⟨rfl, rfl⟩))
      go_roundw
      case rel => exact ⟨k + 1, by omega, by go_num, by rw [HSN.out], (by rw [HNX.out]; try rfl), HB2⟩
      case measure => (simp [intOf] <;> omega)
    · have HK := hide (show k = l.length by omega)
      have hlt' : ¬ ((k : Int) < (l.length : Int)) := by omega
      go_wp2
      go_ret
      exact ⟨ret_i (by rw [HK.out]), HB.out⟩
end Go.Proofs.YtndnkefbilhgnaaDoor
