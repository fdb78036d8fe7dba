/- Contracts: CriticalItem, both. -/
import Derived.Test.YtndnkefbilhgnaaDoorKp
import Derived.OwnWalk
namespace Go.Proofs.YtndnkefbilhgnaaDoor
open Go.RowKit
set_option maxRecDepth 100000
set_option linter.unusedSimpArgs false
theorem first_ex {p : Nat → Prop} : ∀ n, (∃ j, j < n ∧ p j) → ∃ j, j < n ∧ p j ∧ ∀ i, i < j → ¬ p i
  | 0, ⟨j, h, _⟩ => by omega
  | n + 1, ⟨j, hj, hp⟩ => by
    by_cases h : ∃ i, i < n ∧ p i
    · obtain ⟨i, h1, h2, h3⟩ := first_ex n h
      exact ⟨i, by omega, h2, h3⟩
    · refine ⟨j, hj, hp, fun i hi hpi => h ⟨i, by omega, hpi⟩⟩
def ciJ (n : Int) (l : List Int) (T : List Tsk) : Nat := (crK (coT T) (bcR n l T) (gwL n l T) (gwL n l T).length).getD 0
def ciI (n : Int) (l : List Int) (T : List Tsk) : Int := if gvB n l T then (gwL n l T)[ciJ n l T]?.getD 0 else 0
def ciS (n : Int) (l : List Int) (T : List Tsk) : Int := if gvB n l T then (setTo (gwL n l T) (ciJ n l T) : Int) else 0
theorem ci_no {n : Int} {l : List Int} {T : List Tsk} (h : gvB n l T = false) : ciI n l T = 0 ∧ ciS n l T = 0 := by unfold ciI ciS; rw [h]; exact ⟨rfl, rfl⟩
theorem ci_yes {n : Int} {l : List Int} {T : List Tsk} (h : gvB n l T = true) : ∃ j, j < (gwL n l T).length ∧ coT T (setTo (gwL n l T) j) ((gwL n l T)[j]?.getD 0).toNat = bcR n l T ∧ (∀ i, i < j → ¬ coT T (setTo (gwL n l T) i) ((gwL n l T)[i]?.getD 0).toNat = bcR n l T) ∧
    ciI n l T = (gwL n l T)[j]?.getD 0 ∧ ciS n l T = (setTo (gwL n l T) j : Int) := by
  have hta := (gv_in h).2
  obtain ⟨h1, h2⟩ := gw_wOk h
  have hn := okSp_n (gv_in h).1
  have h3 := (gw_yes h).2
  have hge : ∀ j, j < (gwL n l T).length → -10000 ≤ coT T (setTo (gwL n l T) j) ((gwL n l T)[j]?.getD 0).toNat := fun j hj => by
    have := h2 j hj
    exact (co_all hta _ _ (by omega)).1
  obtain ⟨j0, hj0, e0⟩ := mxW_is hge (gwL n l T).length (by omega) (Nat.le_refl _)
  rw [← h3] at e0
  obtain ⟨j, hj, hp, hf⟩ := first_ex (p := fun j => coT T (setTo (gwL n l T) j) ((gwL n l T)[j]?.getD 0).toNat = bcR n l T) _ ⟨j0, hj0, e0⟩
  have hk := crK_stay (crK_some (c := coT T) (g := bcR n l T) (w := gwL n l T) (k := j) (fun i hi => hf i hi) hp) (gwL n l T).length hj
  refine ⟨j, hj, hp, hf, ?_, ?_⟩
  · unfold ciI ciJ; rw [h, hk]; rfl
  · unfold ciS ciJ; rw [h, hk]; rfl
attribute [local irreducible] p2 low memB risB grW outerOf
set_option maxHeartbeats 2000000 in
theorem firstWith_c (kf : Nat) (caps : Array Value) (c : Nat → Nat → Int) (n j : Nat) (g : Int) (v : Value) (l : List Int) (w : World) (h7 : n ≤ 7) (hk : enters Tryd.prog kf) (hc : isCost w kf caps n c) (hl : ints w.heap.size w v l) (hlen : l.length < 1000000000) (hw : wOk n l)
    (hj : j < l.length) (hat : c (setTo l j) (l[j]?.getD 0).toNat = g) (hno : ∀ i, i < j → ¬ c (setTo l i) (l[i]?.getD 0).toNat = g) :
    Calls Tryd.prog 79 #[.func (.func kf) #[] caps, .int .i64 g, v] w fun e w' => e = .returned (.tuple #[.int .i64 (l[j]?.getD 0), .int .i64 (setTo l j : Int)]) ∧ Below w.heap.size w w' := by
  have hk1 : ∀ (args : Array Value) (w : World), Sem.run Tryd.prog (callFunc kf args) w = .ok (.enter kf args) w := hk
  obtain ⟨va, vc, hv⟩ := hl.shape
  subst hv
  have HL := hide hl
  have HC := hide hc
  have HST := hide (setTo_ltK h7 hw)
  have HW := hide hw
  have HAT := hide hat
  have HNO := hide hno
  clear hl hc hw hat hno
  go_enter Tryd.func79, Tryd.ntmps79
  go_wp2_with fail
  go_loopw [8, 13] (fun sv iv wr => ∃ k : Nat, k ≤ j ∧ iv = .int .i64 (k : Int) ∧ sv = .int .i64 (setTo l k : Int) ∧ Hid (Below w.heap.size w wr)) (fun _ iv _ => l.length - (intOf iv).toNat)
  case atStart => exact ⟨0, Nat.zero_le _, rfl, rfl, Below.refl _ _⟩
  case round =>
    obtain ⟨k, hk2, rfl, rfl, HB⟩ := hrel
    have HSN := hide (setTo_next l k)
    have HLW := hide (HL.out.below HB.out (Nat.le_refl _))
    have hlt : k < l.length := by omega
    have hlt' : (k : Int) < (l.length : Int) := by omega
    have hs128 := HST.out k (by omega)
    have hx := HW.out k hlt
    obtain ⟨i, hi⟩ := Int.eq_ofNat_of_zero_le hx.1
    have HX := hide hi
    have hin : i < n := by omega
    clear hx
    by_cases hkj : k = j
    · subst hkj
      have HA2 := hide (show c (setTo l k) i = g by have := HAT.out; rw [hi, Int.toNat_natCast] at this; exact this)
      have HCC := hide (HC.out wr HB.out (setTo l k) i hs128 hin)
      rw [HA2.out] at HCC
      clear hi
      generalize hs : setTo l k = s at *
      have HSS := hide hs
      clear hs
      have hgg : (g == g) = true := by simp
      go_wp2_with (refine wpList_at sliceT intS rfl (.tmp 11) (.tmp _) rfl _ rfl k rfl w.heap.size l HLW.out hlt ?_; intro ad hcell hblk; rw [HX.out] at hcell)
      refine HCC.out.mono ?_
      rintro e w2 ⟨rfl, hb2⟩
      have HB2 := hide (HB.out.trans (hb2.mono HB.out.size))
      clear hb2
      go_wp2
      go_ret2
      exact ⟨by rw [HX.out, HSS.out]; rfl, HB2.out⟩
    · have HN2 := hide (show ¬ c (setTo l k) i = g by have := HNO.out k (by omega); rw [hi, Int.toNat_natCast] at this; exact this)
      rw [hi, Int.toNat_natCast] at HSN
      have HCC := hide (HC.out wr HB.out (setTo l k) i hs128 hin)
      clear hi
      generalize hs : setTo l k = s at *
      clear hs
      generalize c s i = co at HCC HN2
      have hgg : (co == g) = false := by have := HN2.out; simp; exact this
      go_wp2_with (refine wpList_at sliceT intS rfl (.tmp 11) (.tmp _) rfl _ rfl k rfl w.heap.size l HLW.out hlt ?_; intro ad hcell hblk; rw [HX.out] at hcell)
      refine HCC.out.mono ?_
      rintro e w2 ⟨rfl, hb2⟩
      have HB2 := hide (HB.out.trans (hb2.mono HB.out.size))
      clear hb2
      go_wp2_with (go_at_call 103; refine (with_c _ _ _ (by omega) (by omega) (by omega) (by omega)).mono ?_; rw [Int.toNat_natCast, Int.toNat_natCast]; rintro e w8 ⟨rfl, rfl⟩)
      go_roundw
      case rel => exact ⟨k + 1, by omega, by go_num, by rw [HSN.out], HB2⟩
      case measure => (simp [intOf] <;> omega)
end Go.Proofs.YtndnkefbilhgnaaDoor
