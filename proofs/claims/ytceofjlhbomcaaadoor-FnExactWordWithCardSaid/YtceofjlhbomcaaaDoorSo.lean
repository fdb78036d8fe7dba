/- Contracts: SortWord, FinishWord. -/
import Derived.Test.YtceofjlhbomcaaaDoorFn
import Derived.Test.YtceofjlhbomcaaaDoorRs
namespace Go.Proofs.YtceofjlhbomcaaaDoor
open Go.RowKit
set_option maxRecDepth 100000
attribute [local irreducible] p2 low memB risB
def soR (n : Int) (l : List Int) (x : Int) : List Int := if okOne n l x then finL (marksTo l l.length) n.toNat x.toNat 0 else []
theorem soR_no {n : Int} {l : List Int} {x : Int} (h : okOne n l x = false) : soR n l x = [] := by simp [soR, h]
theorem soR_yes {n : Int} {l : List Int} {x : Int} (h : okOne n l x = true) : soR n l x = finL (marksTo l l.length) n.toNat x.toNat 0 := by simp [soR, h]
theorem soR_len (n : Int) (l : List Int) (x : Int) : (soR n l x).length < 1000000000 := by
  unfold soR
  split
  · have := finL_len (marksTo l l.length) n.toNat x.toNat 0; omega
  · simp
theorem an0_zero (b : Nat) : andNot 0 b = 0 := (an0 0 b).2 fun i hi => by simp at hi
theorem ints_nil0 (B : Nat) (w : World) : ints B w (.slice none 0 0) [] := .inl ⟨rfl, none, 0, rfl⟩

set_option maxHeartbeats 2000000 in
theorem specSortWord_c (n : Int) (v : Value) (l : List Int) (x : Int) (w : World) (hl : ints w.heap.size w v l) (hlen : l.length < 1000000000) (_ : tab w) :
    Calls Tryd.prog 41 #[.agg #[.int .i64 n, v], .int .i64 x] w fun e w' => ∃ v', e = .returned (.tuple #[v', .bool (okOne n l x)]) ∧ own 3 w' w.heap.size v' (soR n l x) ∧ Below w.heap.size w w' := by
  have H0 := hide ((Below.refl w.heap.size w).alloc (Nat.le_refl _) (.cells #[.int .i64 n, v] 28))
  have HL0 := hide ((hl.alloc (.cells #[.int .i64 n, v] 28)).mono (show w.heap.size ≤ (w.alloc (.cells #[.int .i64 n, v] 28)).heap.size by simp))
  have HS0 := hide (hp_last w (.cells #[.int .i64 n, v] 28))
  have HZ0 := hide (show (w.alloc (.cells #[.int .i64 n, v] 28)).heap.size = w.heap.size + 1 by simp)
  clear hl
  cases hok : okOne n l x
  · have HK := hide hok
    rw [soR_no hok]
    clear hok
    go_enter Tryd.func41, Tryd.ntmps41
    go_wp2_with (go_at_call 60; refine (spOne_c n v l x _ HL0.out hlen).mono ?_; rw [HK.out]; rintro e w1 ⟨rfl, hb1⟩; have HB1 := hide (H0.out.trans (hb1.mono (by rw [HZ0.out]; omega))); clear hb1)
    go_ret2
    exact ⟨_, rfl, own_nil _ _ _, HB1.out⟩
  · have HK := hide hok
    have hx := okOne_ltC hok
    have hmk := okOne_mark hok
    obtain ⟨s, rfl⟩ := Int.eq_ofNat_of_zero_le hx.1
    have HSP := hide (okOne_sp hok)
    rw [soR_yes hok, Int.toNat_natCast]
    rw [Int.toNat_natCast] at hmk
    have HMK := hide hmk
    have HZR := hide (okSp_spc (okOne_sp hok)).zero
    clear hok hx hmk
    go_enter Tryd.func41, Tryd.ntmps41
    go_wp2_with (first
      | (go_at_call 60; refine (spOne_c n v l (s : Int) _ HL0.out hlen).mono ?_; rw [HK.out]; rintro e w1 ⟨rfl, hb1⟩; have hs1 := (hb1.block w.heap.size (by rw [HZ0.out]; omega)).trans HS0.out; have d0 := cells_at0 hs1; have d1 := cells_at1 hs1; have HL1 := hide ((HL0.out.below hb1 (Nat.le_refl _)).mono hb1.size); have HB1 := hide (H0.out.trans (hb1.mono (by rw [HZ0.out]; omega))); have HZ1 := hide (show w.heap.size + 1 ≤ w1.heap.size by rw [← HZ0.out]; exact hb1.size); clear hb1 hs1)
      | (go_at_call 72; refine (woFinish_c n v l (.slice none 0 0) [] 0 s _ HL1.out hlen HSP.out (ints_nil0 _ _) (by simp) HZR.out HMK.out (an0_zero s)).mono ?_; rintro e w2 ⟨v2, rfl, ho2, hb2⟩; have HO2 := hide (ho2.mono (show w.heap.size ≤ w1.heap.size by have := HZ1.out; omega)); have HB2 := hide (HB1.out.trans (hb2.mono (by have := HZ1.out; omega))); clear ho2 hb2))
    go_ret2
    exact ⟨_, rfl, by simpa using HO2.out, HB2.out⟩

set_option maxHeartbeats 2000000 in
theorem implSortWord_c (n : Int) (v : Value) (l : List Int) (x : Int) (w : World) (hl : ints w.heap.size w v l) (hlen : l.length < 1000000000) (hT : tab w) :
    Calls Tryd.prog 42 #[.agg #[.int .i64 n, v], .int .i64 x] w fun e w' => ∃ v', e = .returned (.tuple #[v', .bool (okOne n l x)]) ∧ own 3 w' w.heap.size v' (soR n l x) ∧ Below w.heap.size w w' := by
  have HT := hide hT
  have H0 := hide ((Below.refl w.heap.size w).alloc (Nat.le_refl _) (.cells #[.int .i64 n, v] 28))
  have HL0 := hide ((hl.alloc (.cells #[.int .i64 n, v] 28)).mono (show w.heap.size ≤ (w.alloc (.cells #[.int .i64 n, v] 28)).heap.size by simp))
  have HZ0 := hide (show (w.alloc (.cells #[.int .i64 n, v] 28)).heap.size = w.heap.size + 1 by simp)
  clear hl hT
  cases hok : okOne n l x
  · have HK := hide hok
    rw [soR_no hok]
    clear hok
    go_enter Tryd.func42, Tryd.ntmps42
    go_wp2_with (first
      | (go_at_call 62; refine (familyAndOwnSet_c n v l x _ HL0.out hlen).mono ?_; rw [famVal3_no n l x HK.out]; rintro e w1 ⟨rfl, hb1⟩; have hz1 := hb1.size; rw [HZ0.out] at hz1; have HB1 := hide (bl_row ((H0.out.trans (hb1.mono (by rw [HZ0.out]; omega))).alloc (by omega) (.cells (fam 0 noSet) 61)) (show w.heap.size ≤ w1.heap.size by omega) (fam 0 noSet)); clear hb1)
      | (refine wpList_alloc_fam zeroT rfl rfl _ (by first | (simp only [World.size_alloc]; rfl) | rfl) ?_)
      | (refine wpList_store_fam sizeT rfl (.tmp _) (.tmp _) rfl _ _ _ rfl rfl _ _ (famAt.new _ _ _ _) ?_))
    go_ret2
    exact ⟨_, rfl, own_nil _ _ _, HB1.out⟩
  · have HK := hide hok
    have hx := okOne_ltC hok
    have hmk := okOne_mark hok
    obtain ⟨s, rfl⟩ := Int.eq_ofNat_of_zero_le hx.1
    have HSC := hide (okSp_spc (okOne_sp hok))
    rw [soR_yes hok, Int.toNat_natCast]
    rw [Int.toNat_natCast] at hmk
    have HMK := hide hmk
    have hn := okSp_n (okOne_sp hok)
    have hn0 : 0 ≤ n := by omega
    have hn7 : n ≤ 7 := hn.2
    clear hok hx hmk hn
    go_enter Tryd.func42, Tryd.ntmps42
    go_wp2_with (first
      | (go_at_call 62; refine (familyAndOwnSet_c n v l (s : Int) _ HL0.out hlen).mono ?_; rw [famVal3_yes n l (s : Int) HK.out]; rintro e w1 ⟨rfl, hb1⟩; have hz1 := hb1.size; rw [HZ0.out] at hz1; have HH := hide ((famAt.new 61 w1 0 noSet).row n (marksTo l l.length)); have HT1 := hide (((HT.out.belowB HT.out (H0.out.trans (hb1.mono (by rw [HZ0.out]; omega))) (Nat.le_refl _)).alloc (.cells (fam 0 noSet) 61)).setRow w1.heap.size (by have := HT.out.1; omega) (fam n (marksTo l l.length))); have HB1 := hide (bl_row ((H0.out.trans (hb1.mono (by rw [HZ0.out]; omega))).alloc (by omega) (.cells (fam 0 noSet) 61)) (show w.heap.size ≤ w1.heap.size by omega) (fam n (marksTo l l.length))); clear hb1)
      | (refine wpList_alloc_fam zeroT rfl rfl _ (by first | (simp only [World.size_alloc]; rfl) | rfl) ?_)
      | (refine wpList_store_fam sizeT rfl (.tmp _) (.tmp _) rfl _ _ _ rfl rfl _ _ (famAt.new _ _ _ _) ?_)
      | (refine wpList_load_fam rowT sizeT rfl (.tmp _) rfl _ rfl n _ HH.out ?_)
      | (go_at_call 74; refine (leadOn_c n (marksTo l l.length) (.slice none 0 0) [] 0 s _ (ints_nil0 _ _) (by simp) hn0 hn7 HSC.out HSC.out.zero HMK.out (an0_zero s) HT1.out).mono ?_; rintro e w2 ⟨v2, rfl, ho2, hb2⟩; have HO2 := hide (ho2.mono (HB1.out.size)); have HB2 := hide (HB1.out.trans (hb2.mono (HB1.out.size))); clear ho2 hb2))
    go_ret2
    exact ⟨_, rfl, by simpa using HO2.out, HB2.out⟩
end Go.Proofs.YtceofjlhbomcaaaDoor
