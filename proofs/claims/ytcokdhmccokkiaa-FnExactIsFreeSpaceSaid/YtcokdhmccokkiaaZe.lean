/- Contracts: FreeSets, both. -/
import Derived.Test.YtcokdhmccokkiaaZb
import Derived.Test.YtcokdhmccokkiaaRm
namespace Go.Proofs.Ytcokdhmccokkiaa
open Go.RowKit
set_option maxRecDepth 100000
set_option linter.unusedSimpArgs false
attribute [local irreducible] p2 low memB risB
set_option maxHeartbeats 1000000 in
theorem implFreeSets_c (n : Int) (v : Value) (l : List Int) (w : World) (hl : ints w.heap.size w v l) (hlen : l.length < 1000000000) :
    Calls Try.prog 35 #[.agg #[.int .i64 n, v]] w fun e w' => ∃ v', e = .returned (.tuple #[v', .bool (okSp n l)]) ∧ own 3 w' w.heap.size v' (fsL n l) ∧ Below w.heap.size w w' := by
  have HL := hide ((hl.alloc (.cells #[.int .i64 n, v] 32)).mono (show w.heap.size ≤ (w.alloc (.cells #[.int .i64 n, v] 32)).heap.size by simp))
  have H0 := hide ((Below.refl w.heap.size w).alloc (Nat.le_refl _) (.cells #[.int .i64 n, v] 32))
  have HZ := hide (show (w.alloc (.cells #[.int .i64 n, v] 32)).heap.size = w.heap.size + 1 by simp)
  clear hl
  cases hok : okSp n l
  · have HK := hide hok
    rw [fsL_no hok]
    clear hok
    go_enter Try.func35, Try.ntmps35
    go_wp2_with (first
      | (go_at_call 58; refine (familyOf_c n v l _ HL.out hlen).mono ?_; rw [famVal_no n l HK.out]; rintro e w1 ⟨rfl, hb⟩; have hz1 := hb.size; rw [HZ.out] at hz1; have HB := hide (bl_row ((H0.out.trans (hb.mono (by rw [HZ.out]; omega))).alloc (by omega) (.cells (fam 0 noSet) 58)) (show w.heap.size ≤ w1.heap.size by omega) (fam 0 noSet)); clear hb)
      | (refine wpList_alloc_fam zeroT rfl rfl _ (by first | (simp only [World.size_alloc]; rfl) | rfl) ?_)
      | (refine wpList_store_fam sizeT rfl (.tmp _) (.tmp _) rfl w1.heap.size _ _ rfl rfl _ _ (famAt.new _ _ _ _) ?_)
      )
    go_ret2
    exact ⟨_, rfl, own_nil _ _ _, HB.out⟩
  · have HK := hide hok
    have hn := okSp_n hok
    obtain ⟨m, rfl⟩ := Int.eq_ofNat_of_zero_le (show 0 ≤ n by omega)
    have hm7 : m ≤ 7 := by omega
    have HFL := hide (fsL_impl hok)
    rw [Int.toNat_natCast] at HFL
    have HSE := hide (fun w1 => sets_c (m : Int) (cutAt (frB (marksTo l l.length) m) (low m + 1)) w1)
    rw [HFL.out] at HSE
    clear hok hn
    go_enter Try.func35, Try.ntmps35
    go_wp2_with (first
      | (go_at_call 58; refine (familyOf_c (m : Int) v l _ HL.out hlen).mono ?_; rw [famVal_yes (m : Int) l HK.out]; rintro e w1 ⟨rfl, hb⟩; have hz1 := hb.size; rw [HZ.out] at hz1; have HH := hide ((famAt.new 58 w1 0 noSet).row (m : Int) (marksTo l l.length)); have HZ2 := hide (show ((w1.alloc (.cells (fam 0 noSet) 58)).setRow w1.heap.size (fam (m : Int) (marksTo l l.length))).heap.size = w1.heap.size + 1 by simp [World.setRow]); have HB := hide (bl_row ((H0.out.trans (hb.mono (by rw [HZ.out]; omega))).alloc (by omega) (.cells (fam 0 noSet) 58)) (show w.heap.size ≤ w1.heap.size by omega) (fam (m : Int) (marksTo l l.length))); clear hb)
      | (refine wpList_alloc_fam zeroT rfl rfl _ (by first | (simp only [World.size_alloc]; rfl) | rfl) ?_)
      | (refine wpList_store_fam sizeT rfl (.tmp _) (.tmp _) rfl w1.heap.size _ _ rfl rfl _ _ (famAt.new _ _ _ _) ?_)
      | (refine wpList_load_fam rowT sizeT rfl (.tmp _) rfl w1.heap.size rfl (m : Int) _ HH.out ?_)
      | (go_at_call 61; refine (freeSets_c m (marksTo l l.length) _ hm7).mono ?_; rintro e w2 ⟨rfl, hb2⟩; have hz2 := hb2.size; rw [HZ2.out] at hz2; have HB2 := hide (HB.out.trans (hb2.mono (by rw [HZ2.out]; omega))); clear hb2)
      | (go_at_call 62; refine (HSE.out _).mono ?_; rintro e w3 ⟨v3, rfl, ho3, hb3⟩; have HO3 := hide (show own 3 w3 w.heap.size v3 _ from ho3.mono (by omega)); have HB3 := hide (HB2.out.trans (hb3.mono (by omega))); clear hb3 ho3))
    go_ret2
    exact ⟨_, rfl, HO3.out, HB3.out⟩
set_option maxHeartbeats 1000000 in
theorem specFreeSets_c (n : Int) (v : Value) (l : List Int) (w : World) (hl : ints w.heap.size w v l) (hlen : l.length < 1000000000) :
    Calls Try.prog 34 #[.agg #[.int .i64 n, v]] w fun e w' => ∃ v', e = .returned (.tuple #[v', .bool (okSp n l)]) ∧ own 3 w' w.heap.size v' (fsL n l) ∧ Below w.heap.size w w' := by
  have HL := hide ((hl.alloc (.cells #[.int .i64 n, v] 32)).mono (show w.heap.size ≤ (w.alloc (.cells #[.int .i64 n, v] 32)).heap.size by simp))
  have H0 := hide ((Below.refl w.heap.size w).alloc (Nat.le_refl _) (.cells #[.int .i64 n, v] 32))
  have HS0 := hide (hp_last w (.cells #[.int .i64 n, v] 32))
  have HZ := hide (show (w.alloc (.cells #[.int .i64 n, v] 32)).heap.size = w.heap.size + 1 by simp)
  have hc0 := cells_at0 HS0.out
  have hc1 := cells_at1 HS0.out
  have HG := hide (spGood_c n v l (w.alloc (.cells #[.int .i64 n, v] 32)) HL.out hlen)
  rw [← ok_good] at HG
  clear hl
  cases hok : okSp n l
  · rw [hok] at HG
    rw [fsL_no hok]
    clear hok
    go_enter Try.func34, Try.ntmps34
    go_wp2_with (first
      | (go_at_call 53; refine HG.out.mono ?_; rintro e w1 ⟨rfl, hb1⟩; have HB1 := hide (H0.out.trans (hb1.mono (by rw [HZ.out]; omega))); clear hb1 hc0 hc1))
    go_ret2
    exact ⟨_, rfl, own_nil _ _ _, HB1.out⟩
  · rw [hok] at HG
    have hn := okSp_n hok
    have HI := hide (okSp_inc hok)
    have HFL := hide (fsL_yes hok)
    obtain ⟨m, rfl⟩ := Int.eq_ofNat_of_zero_le (show 0 ≤ n by omega)
    have hm7 : m ≤ 7 := by omega
    rw [Int.toNat_natCast] at HFL
    have HAF := hide (fun w1 h => alFree_c m v l w1 h HI.out hlen hm7)
    rw [← HFL.out] at HAF
    clear hok hn
    go_enter Try.func34, Try.ntmps34
    go_wp2_with (first
      | (go_at_call 53; refine HG.out.mono ?_; rintro e w1 ⟨rfl, hb1⟩; have hz1 := hb1.size; rw [HZ.out] at hz1; have HS1 := hide ((hb1.block w.heap.size (by rw [HZ.out]; omega)).trans HS0.out); have HL1 := hide ((HL.out.below hb1 (by rw [HZ.out]; omega)).mono hb1.size); have HB1 := hide (H0.out.trans (hb1.mono (by rw [HZ.out]; omega))); have d0 := cells_at0 HS1.out; have d1 := cells_at1 HS1.out; clear hb1 hc0 hc1)
      | (go_at_call 60; refine (HAF.out _ HL1.out).mono ?_; rintro e w3 ⟨v3, rfl, ho3, hb3⟩; have HO3 := hide (show own 3 w3 w.heap.size v3 _ from ho3.mono (by omega)); have HB3 := hide (HB1.out.trans (hb3.mono (by omega))); clear hb3 ho3))
    go_ret2
    exact ⟨_, rfl, HO3.out, HB3.out⟩
end Go.Proofs.Ytcokdhmccokkiaa
