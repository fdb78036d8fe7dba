/- What strconv and strings want of the package-level variables; the program's plain numbers. -/
import Derived.Test.YtdhhcgamhihpjaaDoorTa
import Derived.Test.YtdhhcgamhihpjaaDoorSh2
import Derived.Lib.AppendIntMem
import Derived.Lib.AtoiErrMem
namespace Go.Proofs.YtdhhcgamhihpjaaDoor
open Go.RowKit
set_option maxRecDepth 100000
set_option linter.unusedSimpArgs false
theorem pow10_g : Tryd.prog.globalNamed "internal/strconv.uint64pow10" = some 3 := by kernel_rfl
/-- The variables hold what is asked: the table of powers, an int, two errors. -/
def tab (w : World) : Prop := 3 < w.heap.size ∧ Lib.TabIs Tryd.prog w "internal/strconv.uint64pow10" .u64 Lib.pow10Tab ∧
  (∃ m, w.cell? ⟨0, 0, none⟩ = some (.int .i64 m)) ∧ (∃ tp p, w.cell? ⟨1, 0, none⟩ = some (.iface tp p)) ∧ ∃ tp p, w.cell? ⟨2, 0, none⟩ = some (.iface tp p)
theorem tab_same {w w' : World} (h : tab w) (hs : w.heap.size ≤ w'.heap.size) (hb : ∀ g, g ≤ 3 → w'.heap[g]? = w.heap[g]?) : tab w' := by
  obtain ⟨h1, h2, ⟨m, h3⟩, ⟨t4, p4, h4⟩, t5, p5, h5⟩ := h
  refine ⟨Nat.lt_of_lt_of_le h1 hs, ?_, ⟨m, ?_⟩, ⟨t4, p4, ?_⟩, t5, p5, ?_⟩
  · unfold Lib.TabIs World.var? at h2 ⊢
    rw [pow10_g] at h2 ⊢
    simp only [Option.bind_some] at h2 ⊢
    rw [hb _ (Nat.le_refl _)]
    exact h2
  · rw [← h3]; simp only [World.cell?]; rw [hb _ (by decide)]
  · rw [← h4]; simp only [World.cell?]; rw [hb _ (by decide)]
  · rw [← h5]; simp only [World.cell?]; rw [hb _ (by decide)]
theorem tab.below {w w' : World} (h : tab w) (hb : Below w.heap.size w w') : tab w' := tab_same h hb.size fun g hg => hb.block g (by have := h.1; omega)
theorem tab.belowB {B : Nat} {w0 w w' : World} (h : tab w) (h0 : tab w0) (hb : Below B w w') (hB : w0.heap.size ≤ B) : tab w' := tab_same h hb.size fun g hg => hb.block g (by have := h0.1; omega)
theorem tab.alloc {w : World} (h : tab w) (o : Obj) : tab (w.alloc o) := h.below ((Below.refl _ _).alloc (Nat.le_refl _) o)
theorem str_ne {a b : List UInt8} (h : a ≠ b) : ((a == b) : Bool) = false := by simpa using h
theorem str_eq {a : List UInt8} : ((a == a) : Bool) = true := by simp
def opN (o : Option Nat) : Int := ((o.getD 0 : Nat) : Int)
set_option maxHeartbeats 1000000 in
theorem plainNumber_c (t : List UInt8) (w : World) (ht : t.length ≤ 2000000) (hT : tab w) :
    Calls Tryd.prog 19 #[.string ⟨t.toArray⟩] w fun e w' => e = .returned (.tuple #[.int .i64 (opN (pln t)), .bool (pln t).isSome]) ∧ Below w.heap.size w w' := by
  have hsz := size_mk t
  have hT2 := hT.2.1
  obtain ⟨tp4, p4, hc4⟩ := hT.2.2.2.1
  obtain ⟨tp5, p5, hc5⟩ := hT.2.2.2.2
  cases h : Lib.atoiAll t with
  | «syntax» =>
    have hp : pln t = none := by unfold pln; rw [h]
    have HA := hide (strconv_Atoi_syntax ⟨t.toArray⟩ (by omega) (by simpa using h) _ w hc4 (.inr ⟨_, _, rfl⟩))
    rw [hp]
    clear h hp hT hT2
    generalize (⟨t.toArray⟩ : ByteArray) = S at HA ⊢
    go_enter Tryd.func19, Tryd.ntmps19
    go_wp2_with (go_at_call 39; refine HA.out.mono ?_; rintro e w1 ⟨N1, rfl, _, _, hb1⟩; have HB1 := hide hb1; clear hb1)
    go_ret2
    exact ⟨rfl, HB1.out⟩
  | range =>
    have hp : pln t = none := by unfold pln; rw [h]
    have HA := hide (strconv_Atoi_range ⟨t.toArray⟩ (by omega) (by simpa using h) _ w hc5 (.inr ⟨_, _, rfl⟩))
    rw [hp]
    clear h hp hT hT2
    generalize Lib.atoiSat (⟨t.toArray⟩ : ByteArray).data.toList = sat at HA
    generalize (⟨t.toArray⟩ : ByteArray) = S at HA ⊢
    go_enter Tryd.func19, Tryd.ntmps19
    go_wp2_with (go_at_call 39; refine HA.out.mono ?_; rintro e w1 ⟨N1, rfl, _, _, hb1⟩; have HB1 := hide hb1; clear hb1)
    go_ret2
    exact ⟨rfl, HB1.out⟩
  | ok v =>
    have hvb := Lib.atoiAll_bounds h
    have HA := hide ((strconv_Atoi_ok ⟨t.toArray⟩ (by omega) v (by simpa using h) w).mono (R' := fun e w' => e = .returned (.tuple #[.int .i64 v, .nilIface]) ∧ Below w.heap.size w w') (by
      rintro e w' ⟨rfl, h1⟩
      refine ⟨rfl, ?_⟩
      rcases h1 with rfl | ⟨s, rfl⟩
      · exact Below.refl _ _
      · exact Lib.bytesWorld_below _ _ _))
    by_cases h0 : v < 0
    · have hp : pln t = none := by unfold pln; rw [h]; simp only; rw [if_neg (by omega)]
      rw [hp]
      clear h hp hT hT2
      generalize (⟨t.toArray⟩ : ByteArray) = S at HA ⊢
      go_enter Tryd.func19, Tryd.ntmps19
      go_wp2_with (go_at_call 39; refine HA.out.mono ?_; rintro e w1 ⟨rfl, hb1⟩; have HB1 := hide hb1; clear hb1)
      go_ret2
      exact ⟨rfl, HB1.out⟩
    · have HI := hide (fun (w' : World) (hT' : tab w') => (strconv_Itoa v hvb.1 hvb.2 w' hT'.2.1).mono (R' := fun e w'' => e = .returned (.string ⟨(Lib.itoa v).toArray⟩) ∧ Below w'.heap.size w' w'') (by
        rintro e w' ⟨rfl, k, os, rfl⟩
        exact ⟨rfl, Lib.below_grow _ _ (Nat.le_refl _) k os⟩))
      have HTT := hide hT
      by_cases hi : Lib.itoa v = t
      · have hp : pln t = some v.toNat := by unfold pln; rw [h]; simp only; rw [if_pos ⟨by omega, hi⟩]
        have hov : opN (some v.toNat) = v := by show ((v.toNat : Nat) : Int) = v; omega
        rw [hp, hov]
        rw [hi] at HI
        clear h hp hT hT2 hi
        have hnn : ((t != t) : Bool) = false := by simp
        have hnn2 : ((t == t) : Bool) = true := by simp
        go_enter Tryd.func19, Tryd.ntmps19
        go_wp2_with (first
          | (go_at_call 39; refine HA.out.mono ?_; rintro e w1 ⟨rfl, hb1⟩; have HB1 := hide hb1; clear hb1)
          | (go_at_call 40; refine (HI.out _ (HTT.out.below HB1.out)).mono ?_; rintro e w2 ⟨rfl, hb2⟩; have HB2 := hide (HB1.out.trans (hb2.mono HB1.out.size)); clear hb2))
        go_ret2
        exact ⟨rfl, HB2.out⟩
      · have hp : pln t = none := by unfold pln; rw [h]; simp only; rw [if_neg (fun h => hi h.2)]
        rw [hp]
        generalize Lib.itoa v = I at HI hi
        have hnn : ((I != t) : Bool) = true := by simpa using hi
        have hnn2 : ((I == t) : Bool) = false := by simpa using hi
        clear h hp hT hT2 hi
        go_enter Tryd.func19, Tryd.ntmps19
        go_wp2_with (first
          | (go_at_call 39; refine HA.out.mono ?_; rintro e w1 ⟨rfl, hb1⟩; have HB1 := hide hb1; clear hb1)
          | (go_at_call 40; refine (HI.out _ (HTT.out.below HB1.out)).mono ?_; rintro e w2 ⟨rfl, hb2⟩; have HB2 := hide (HB1.out.trans (hb2.mono HB1.out.size)); clear hb2))
        go_ret2
        exact ⟨rfl, HB2.out⟩
end Go.Proofs.YtdhhcgamhihpjaaDoor
