/- Contracts: full words. -/
import Derived.Test.YtagahoaogfogkaaWs
import Derived.Test.YtagahoaogfogkaaHar
namespace Go.Proofs.Ytagahoaogfogkaa
open Go.RowKit
set_option maxRecDepth 100000
attribute [local irreducible] p2 low memB risB
def okFu (n : Int) (l m : List Int) : Bool := okWd n l m && decide ((m.length : Int) = n)
theorem okFu_wd {n : Int} {l m : List Int} (h : okFu n l m = true) : okWd n l m = true ∧ (m.length : Int) = n := by
  simp only [okFu, Bool.and_eq_true, decide_eq_true_eq] at h; exact h

theorem okFu_no1 {n : Int} {l m : List Int} (h : okSp n l = false) : okFu n l m = false := by simp [okFu, okWd_no h]
theorem okFu_no2 {n : Int} {l m : List Int} (h : ¬ (m.length : Int) = n) : okFu n l m = false := by simp [okFu, h]
theorem okFu_eq {n : Int} {l m : List Int} (h : (m.length : Int) = n) : okFu n l m = okWd n l m := by simp [okFu, h]

set_option maxHeartbeats 1000000 in
theorem isFullWord_c (n : Nat) (F : Nat → Bool) (u : Value) (m : List Int) (w : World) (hm : ints w.heap.size w u m) (hml : m.length < 1000000000) (h7 : n ≤ 7) :
    Calls Try.prog 61 #[.agg (fam (n : Int) F), u] w fun e w' => e = .returned (.bool (decide (m.length = n) && wordB F n m)) ∧ Below w.heap.size w w' := by
  have H0 := hide ((Below.refl w.heap.size w).alloc (Nat.le_refl _) (.cells (fam (n : Int) F) 64))
  have HM := hide ((hm.alloc (.cells (fam (n : Int) F) 64)).mono (show w.heap.size ≤ (w.alloc (.cells (fam (n : Int) F) 64)).heap.size by simp))
  have hf0 := famAt.new 64 w (n : Int) F
  have c0 := hf0.get0
  have HF := hide hf0
  clear hm hf0
  by_cases he : m.length = n
  · have hb : ((m.length : Int) == (n : Int)) = true := by simp; omega
    have HE := hide he
    clear he
    go_enter Try.func61, Try.ntmps61
    go_wp2_with (first
      | (refine wpList_len sliceT rfl (.tmp _) rfl u rfl _ m HM.out ?_)
      | (refine wpList_load_fam rowT sizeT rfl (.tmp _) rfl _ rfl (n : Int) F HF.out ?_)
      | (go_at_call 97; refine (isWord_c (n : Int) F u m _ HM.out hml (by omega) (by omega)).mono ?_; rw [Int.toNat_natCast]; rintro e w1 ⟨rfl, hb1⟩; have HB := hide (H0.out.trans (hb1.mono (by simp))); clear hb1))
    go_ret
    exact ⟨ret_b (by rw [decide_eq_true HE.out, Bool.true_and]), HB.out⟩
  · have hb : ((m.length : Int) == (n : Int)) = false := by simp; omega
    have HE := hide he
    clear he
    go_enter Try.func61, Try.ntmps61
    go_wp2_with (refine wpList_len sliceT rfl (.tmp _) rfl u rfl _ m HM.out ?_)
    go_ret
    exact ⟨ret_b (by rw [decide_eq_false HE.out, Bool.false_and]), H0.out⟩

set_option maxHeartbeats 1000000 in
theorem woFull_c (n : Int) (v : Value) (l : List Int) (u : Value) (m : List Int) (w : World) (hl : ints w.heap.size w v l) (hlen : l.length < 1000000000) (hm : ints w.heap.size w u m) (hml : m.length < 1000000000) :
    Calls Try.prog 57 #[.agg #[.int .i64 n, v], u] w fun e w' => e = .returned (.bool (okFu n l m)) ∧ Below w.heap.size w w' := by
  have HL := hide ((hl.alloc (.cells #[.int .i64 n, v] 26)).mono (show w.heap.size ≤ (w.alloc (.cells #[.int .i64 n, v] 26)).heap.size by simp))
  have HM := hide ((hm.alloc (.cells #[.int .i64 n, v] 26)).mono (show w.heap.size ≤ (w.alloc (.cells #[.int .i64 n, v] 26)).heap.size by simp))
  have H0 := hide ((Below.refl w.heap.size w).alloc (Nat.le_refl _) (.cells #[.int .i64 n, v] 26))
  have HS0 := hide (hp_last w (.cells #[.int .i64 n, v] 26))
  have hz0 : (w.alloc (.cells #[.int .i64 n, v] 26)).heap.size = w.heap.size + 1 := by simp
  have HZ := hide hz0
  clear hl hm hz0
  cases hok : okSp n l
  · have HG := hide (show goodB n l = false by rw [← ok_good]; exact hok)
    have HO := hide (okFu_no1 (m := m) hok)
    clear hok
    go_enter Try.func57, Try.ntmps57
    go_wp2_with (go_at_call 74; refine (spGood_c n v l _ HL.out hlen).mono ?_; rw [HG.out]; rintro e w' ⟨rfl, hb⟩; have HB := hide (H0.out.trans (hb.mono (by rw [HZ.out]; omega))); clear hb)
    go_ret
    exact ⟨ret_b (by rw [HO.out]), HB.out⟩
  · have HG := hide (show goodB n l = true by rw [← ok_good]; exact hok)
    have hn := okSp_n hok
    have hn1 := hn.1
    have hn2 := hn.2
    have HI := hide (okSp_inc hok)
    have HE1 := hide (wd_spec hok m)
    have HO := hide (okWd_yes (m := m) hok)
    clear hok hn
    by_cases he : (m.length : Int) = n
    · have hb : ((m.length : Int) == n) = true := by simpa using he
      have hb2 : ((m.length : Int) != n) = false := by simpa using he
      have HF := hide (okFu_eq (l := l) he)
      clear he
      go_enter Try.func57, Try.ntmps57
      go_wp2_with (first
        | (go_at_call 74; refine (spGood_c n v l _ HL.out hlen).mono ?_; rw [HG.out]; rintro e w1 ⟨rfl, hb'⟩; have hs1 := (hb'.block w.heap.size (by rw [HZ.out]; omega)).trans HS0.out; have c0 := cells_at0 hs1; have c1 := cells_at1 hs1; have HB := hide hb'; have HM1 := hide ((HM.out.below hb' (Nat.le_refl _)).mono hb'.size); have HL1 := hide ((HL.out.below hb' (Nat.le_refl _)).mono hb'.size); clear hb' hs1)
        | (refine wpList_len sliceT rfl (.tmp _) rfl u rfl _ m HM1.out ?_)
        | (go_at_call 95; refine (woSet_c n v u m l _ HL1.out HI.out hlen HM1.out hml (by omega) (by omega)).mono ?_; rw [HE1.out, ← HO.out, ← HF.out]; rintro e w2 ⟨rfl, hb2'⟩; have HB2 := hide (H0.out.trans ((HB.out.trans (hb2'.mono HB.out.size)).mono (by have := HZ.out; omega))); clear hb2'))
      go_ret
      exact ⟨rfl, HB2.out⟩
    · have hb : ((m.length : Int) == n) = false := by simpa using he
      have hb2 : ((m.length : Int) != n) = true := by simpa using he
      have HF := hide (okFu_no2 (l := l) he)
      clear he
      go_enter Try.func57, Try.ntmps57
      go_wp2_with (first
        | (go_at_call 74; refine (spGood_c n v l _ HL.out hlen).mono ?_; rw [HG.out]; rintro e w1 ⟨rfl, hb'⟩; have hs1 := (hb'.block w.heap.size (by rw [HZ.out]; omega)).trans HS0.out; have c0 := cells_at0 hs1; have c1 := cells_at1 hs1; have HB := hide (H0.out.trans (hb'.mono (by rw [HZ.out]; omega))); have HM1 := hide ((HM.out.below hb' (Nat.le_refl _)).mono hb'.size); clear hb' hs1)
        | (refine wpList_len sliceT rfl (.tmp _) rfl u rfl _ m HM1.out ?_))
      go_ret
      exact ⟨ret_b (by rw [HF.out]), HB.out⟩

end Go.Proofs.Ytagahoaogfogkaa
