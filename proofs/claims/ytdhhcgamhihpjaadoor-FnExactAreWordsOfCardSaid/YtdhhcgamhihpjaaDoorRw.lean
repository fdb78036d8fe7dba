/- Contracts: RankWord. -/
import Derived.Test.YtdhhcgamhihpjaaDoorRm
import Derived.Test.YtdhhcgamhihpjaaDoorFw
namespace Go.Proofs.YtdhhcgamhihpjaaDoor
open Go.RowKit
set_option maxRecDepth 100000
set_option linter.unusedSimpArgs false
attribute [local irreducible] p2 low memB risB
def rkR (n : Int) (l m : List Int) : Int := if okFu n l m then (rkTo (marksTo l l.length) n.toNat m m.length : Int) else 0
theorem rkR_no {n : Int} {l m : List Int} (h : okFu n l m = false) : rkR n l m = 0 := by simp [rkR, h]
theorem rkR_yes {n : Int} {l m : List Int} (h : okFu n l m = true) : rkR n l m = (rkTo (marksTo l l.length) n.toNat m m.length : Int) := by simp [rkR, h]
theorem okFu_no1 {n : Int} {l m : List Int} (h : okSp n l = false) : okFu n l m = false := by simp [okFu, okWd_no h]
theorem okFu_no2 {n : Int} {l m : List Int} (h : ¬ (m.length : Int) = n) : okFu n l m = false := by simp [okFu, h]
theorem okFu_eq {n : Int} {l m : List Int} (h : (m.length : Int) = n) : okFu n l m = okWd n l m := by simp [okFu, h]

set_option maxHeartbeats 1000000 in
theorem woFull_c (n : Int) (v : Value) (l : List Int) (u : Value) (m : List Int) (w : World) (hl : ints w.heap.size w v l) (hlen : l.length < 1000000000) (hm : ints w.heap.size w u m) (hml : m.length < 1000000000) :
    Calls Tryd.prog 27 #[.agg #[.int .i64 n, v], u] w fun e w' => e = .returned (.bool (okFu n l m)) ∧ Below w.heap.size w w' := by
  have HL := hide ((hl.alloc (.cells #[.int .i64 n, v] 24)).mono (show w.heap.size ≤ (w.alloc (.cells #[.int .i64 n, v] 24)).heap.size by simp))
  have HM := hide ((hm.alloc (.cells #[.int .i64 n, v] 24)).mono (show w.heap.size ≤ (w.alloc (.cells #[.int .i64 n, v] 24)).heap.size by simp))
  have H0 := hide ((Below.refl w.heap.size w).alloc (Nat.le_refl _) (.cells #[.int .i64 n, v] 24))
  have HS0 := hide (hp_last w (.cells #[.int .i64 n, v] 24))
  have hz0 : (w.alloc (.cells #[.int .i64 n, v] 24)).heap.size = w.heap.size + 1 := by simp
  have HZ := hide hz0
  clear hl hm hz0
  cases hok : okSp n l
  · have HG := hide (show goodB n l = false by rw [← ok_good]; exact hok)
    have HO := hide (okFu_no1 (m := m) hok)
    clear hok
    go_enter Tryd.func27, Tryd.ntmps27
    go_wp2_with (go_at_call 26; refine (spGood_c n v l _ HL.out hlen).mono ?_; rw [HG.out]; rintro e w' ⟨rfl, hb⟩; have HB := hide (H0.out.trans (hb.mono (by rw [HZ.out]; omega))); clear hb)
    go_ret
    exact ⟨ret_b (by rw [HO.out]), HB.out⟩
  · have HG := hide (show goodB n l = true by rw [← ok_good]; exact hok)
    have hn := okSp_n hok
    have hn1 := hn.1
    have hn2 := hn.2
    have HI := hide (okSp_inc hok)
    have HE1 := hide (wd_spec hok m)
    have HO := hide (okWd_yes (m := m) hok)
    clear hok hn
    by_cases he : (m.length : Int) = n
    · have hb : ((m.length : Int) == n) = true := by simpa using he
      have hb2 : ((m.length : Int) != n) = false := by simpa using he
      have HF := hide (okFu_eq (l := l) he)
      clear he
      go_enter Tryd.func27, Tryd.ntmps27
      go_wp2_with (first
        | (go_at_call 26; refine (spGood_c n v l _ HL.out hlen).mono ?_; rw [HG.out]; rintro e w1 ⟨rfl, hb'⟩; have hs1 := (hb'.block w.heap.size (by rw [HZ.out]; omega)).trans HS0.out; have c0 := cells_at0 hs1; have c1 := cells_at1 hs1; have HB := hide hb'; have HM1 := hide ((HM.out.below hb' (Nat.le_refl _)).mono hb'.size); have HL1 := hide ((HL.out.below hb' (Nat.le_refl _)).mono hb'.size); clear hb' hs1)
        | (refine wpList_len sliceT rfl (.tmp _) rfl u rfl _ m HM1.out ?_)
        | (go_at_call 46; refine (woSet_c n v u m l _ HL1.out HI.out hlen HM1.out hml (by omega) (by omega)).mono ?_; rw [HE1.out, ← HO.out, ← HF.out]; rintro e w2 ⟨rfl, hb2'⟩; have HB2 := hide (H0.out.trans ((HB.out.trans (hb2'.mono HB.out.size)).mono (by have := HZ.out; omega))); clear hb2'))
      go_ret
      exact ⟨rfl, HB2.out⟩
    · have hb : ((m.length : Int) == n) = false := by simpa using he
      have hb2 : ((m.length : Int) != n) = true := by simpa using he
      have HF := hide (okFu_no2 (l := l) he)
      clear he
      go_enter Tryd.func27, Tryd.ntmps27
      go_wp2_with (first
        | (go_at_call 26; refine (spGood_c n v l _ HL.out hlen).mono ?_; rw [HG.out]; rintro e w1 ⟨rfl, hb'⟩; have hs1 := (hb'.block w.heap.size (by rw [HZ.out]; omega)).trans HS0.out; have c0 := cells_at0 hs1; have c1 := cells_at1 hs1; have HB := hide (H0.out.trans (hb'.mono (by rw [HZ.out]; omega))); have HM1 := hide ((HM.out.below hb' (Nat.le_refl _)).mono hb'.size); clear hb' hs1)
        | (refine wpList_len sliceT rfl (.tmp _) rfl u rfl _ m HM1.out ?_))
      go_ret
      exact ⟨ret_b (by rw [HF.out]), HB.out⟩

end Go.Proofs.YtdhhcgamhihpjaaDoor
