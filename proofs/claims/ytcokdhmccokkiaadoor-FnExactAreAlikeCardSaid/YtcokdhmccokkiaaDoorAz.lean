/- Contracts: AllWords: the specification's and the program's. -/
import Derived.Test.YtcokdhmccokkiaaDoorAy
namespace Go.Proofs.YtcokdhmccokkiaaDoor
open Go.RowKit
set_option maxRecDepth 100000
set_option linter.unusedSimpArgs false
theorem okAw_200 {n : Int} {l : List Int} (h : okSp n l = true) (h2 : 200 < cnt (marksTo l l.length) n.toNat 0) : okAw n l = false := by rw [okAw_eq h, decide_eq_false (by omega)]
theorem okAw_in {n : Int} {l : List Int} (h : okSp n l = true) (h2 : cnt (marksTo l l.length) n.toNat 0 ≤ 200) : okAw n l = true := by rw [okAw_eq h, decide_eq_true h2]
def awk (F : Nat → Bool) (n r : Nat) : List (List Int) := (List.range r).map fun r => wwL F n n 0 r
theorem awk_next (F : Nat → Bool) (n r : Nat) : awk F n (r + 1) = awk F n r ++ [wwL F n n 0 r] := by unfold awk; rw [List.range_succ, List.map_append]; rfl
theorem awk_len (F : Nat → Bool) (n r : Nat) : (awk F n r).length = r := by simp [awk]
theorem awR_rank {n : Nat} {l : List Int} (h : okAw (n : Int) l = true) : awR (n : Int) l = awk (marksTo l l.length) n (cnt (marksTo l l.length) n 0) := by
  rw [awR_yes h]
  simp only [okAw, Bool.and_eq_true] at h
  have hn := okSp_n h.1
  have hsp := okSp_spc h.1
  rw [Int.toNat_natCast] at *
  exact aw_rank (by omega) hsp.lt n 0 hsp.zero (by rw [show pc 0 = 0 by decide]; omega)
theorem map_nil_app (A : List (List Int)) : A.map (([] : List Int) ++ ·) = A := by
  conv => rhs; rw [← List.map_id A]
  exact List.map_congr_left fun r _ => rfl
attribute [local irreducible] p2 low memB risB
set_option maxHeartbeats 4000000 in
theorem implAllWords_c (n : Int) (v : Value) (l : List Int) (w : World) (hl : ints w.heap.size w v l) (hlen : l.length < 1000000000) (hT : tab w) :
    Calls Tryd.prog 59 #[.agg #[.int .i64 n, v]] w fun e w' => ∃ v', e = .returned (.tuple #[v', .bool (okAw n l)]) ∧ own2 25 3 w' w.heap.size v' (awR n l) ∧ Below w.heap.size w w' := by
  have HL := hide ((hl.alloc (.cells #[.int .i64 n, v] 29)).mono (show w.heap.size ≤ (w.alloc (.cells #[.int .i64 n, v] 29)).heap.size by simp))
  have H0 := hide ((Below.refl w.heap.size w).alloc (Nat.le_refl _) (.cells #[.int .i64 n, v] 29))
  have HZ0 := hide (show (w.alloc (.cells #[.int .i64 n, v] 29)).heap.size = w.heap.size + 1 by simp)
  have HT := hide hT
  clear hl hT
  cases hok : okSp n l
  · have HK := hide hok
    have HF := hide (okAw_no hok)
    rw [awR_no HF.out, HF.out]
    clear hok
    go_enter Tryd.func59, Tryd.ntmps59
    go_wp2_with (first
      | (go_at_call 46; refine (familyOf_c n v l _ HL.out hlen).mono ?_; rw [famVal_no n l HK.out]; rintro e w1 ⟨rfl, hb1⟩; have hz1 := hb1.size; rw [HZ0.out] at hz1; have HB1 := hide (bl_row ((H0.out.trans (hb1.mono (by rw [HZ0.out]; omega))).alloc (by omega) (.cells (fam 0 noSet) 53)) (show w.heap.size ≤ w1.heap.size by omega) (fam 0 noSet)); clear hb1)
      | (refine wpList_alloc_fam zeroT rfl rfl _ (by first | (simp only [World.size_alloc]; rfl) | rfl) ?_)
      | (refine wpList_store_fam sizeT rfl (.tmp _) (.tmp _) rfl _ _ _ rfl rfl _ _ (famAt.new _ _ _ _) ?_))
    go_ret2
    exact ⟨_, rfl, own2_nil _ _ _ _, HB1.out⟩
  · have HK := hide hok
    have hn := okSp_n hok
    obtain ⟨N, rfl⟩ := Int.eq_ofNat_of_zero_le (show 0 ≤ n by omega)
    have hN1 : 1 ≤ N := by omega
    have hN7 : N ≤ 7 := by omega
    have HSC := hide (okSp_spc hok)
    rw [Int.toNat_natCast] at HSC
    have HNO := hide (fun h => okAw_200 (n := (N : Int)) (l := l) hok h)
    have HYES := hide (fun h => okAw_in (n := (N : Int)) (l := l) hok h)
    rw [Int.toNat_natCast] at HNO HYES
    have HC0 := hide (cRow_get (cnt (marksTo l l.length) N) 0 (by omega))
    clear hok hn
    by_cases hc : 200 < cnt (marksTo l l.length) N 0
    · have HF := hide (HNO.out hc)
      rw [awR_no HF.out, HF.out]
      have hci : (200 : Int) < (cnt (marksTo l l.length) N 0 : Int) := by omega
      generalize hcc : cnt (marksTo l l.length) N 0 = c at hci hc HC0
      clear HNO HYES hcc
      go_enter Tryd.func59, Tryd.ntmps59
      go_wp2_with (first
        | (go_at_call 46; refine (familyOf_c (N : Int) v l _ HL.out hlen).mono ?_; rw [famVal_yes (N : Int) l HK.out]; rintro e w1 ⟨rfl, hb1⟩; have hz1 := hb1.size; rw [HZ0.out] at hz1; have HH := hide ((famAt.new 53 w1 0 noSet).row (N : Int) (marksTo l l.length)); have HT1 := hide (((HT.out.belowB HT.out (H0.out.trans (hb1.mono (by rw [HZ0.out]; omega))) (Nat.le_refl _)).alloc (.cells (fam 0 noSet) 53)).setRow w1.heap.size (by have := HT.out.1; omega) (fam (N : Int) (marksTo l l.length))); have HB1 := hide (bl_row ((H0.out.trans (hb1.mono (by rw [HZ0.out]; omega))).alloc (by omega) (.cells (fam 0 noSet) 53)) (show w.heap.size ≤ w1.heap.size by omega) (fam (N : Int) (marksTo l l.length))); clear hb1)
        | (refine wpList_alloc_fam zeroT rfl rfl _ (by first | (simp only [World.size_alloc]; rfl) | rfl) ?_)
        | (refine wpList_store_fam sizeT rfl (.tmp _) (.tmp _) rfl _ _ _ rfl rfl _ _ (famAt.new _ _ _ _) ?_)
        | (refine wpList_load_fam rowT sizeT rfl (.tmp 4) rfl _ rfl (N : Int) (marksTo l l.length) HH.out ?_)
        | (go_at_call 80; refine (wordCounts_c N (marksTo l l.length) _ hN1 hN7 HSC.out.lt HT1.out).mono ?_; rintro e w2 ⟨rfl, hb2⟩; have hz2 := hb2.size; have HH2 := hide (((HH.out.below hb2 HH.out.lt).alloc (.cells (rowV zRow) 91)).rowO w2.heap.size (by have := HH.out.lt; omega) (rowV (cRow (cnt (marksTo l l.length) N)))); have hcc2 := (blk.new 91 w2 zRow).row (cRow (cnt (marksTo l l.length) N)); have HCB := hide hcc2; have hg0 := hcc2.cell 0 (by rw [cRow_len]; omega); (try rw [HC0.out] at hg0); have HT2 := hide (((HT1.out.belowB HT1.out hb2 (Nat.le_refl _)).alloc (.cells (rowV zRow) 91)).setRow w2.heap.size (by have := HT.out.1; have := HB1.out.size; omega) (rowV (cRow (cnt (marksTo l l.length) N)))); have HB2 := hide (bl_row ((HB1.out.trans (hb2.mono HB1.out.size)).alloc (by have := HB1.out.size; omega) (.cells (rowV zRow) 91)) (show w.heap.size ≤ w2.heap.size by have := HB1.out.size; omega) (rowV (cRow (cnt (marksTo l l.length) N)))); clear hb2 hcc2)
        | (refine wpList_alloc_arr zeroC rfl rfl _ (by first | (simp only [World.size_alloc]; rfl) | rfl) ?_)
        | (refine wpList_store_arr sizeC rfl (.tmp _) (.tmp _) rfl _ (cRow (cnt (marksTo l l.length) N)) (cRow_len _) rfl rfl zRow zRow_len (blk.new _ _ _) ?_))
      go_ret2
      exact ⟨_, rfl, own2_nil _ _ _ _, HB2.out⟩
    · have HF := hide (HYES.out (by omega))
      rw [awR_rank HF.out, HF.out]
      have hci : ¬ ((200 : Int) < (cnt (marksTo l l.length) N 0 : Int)) := by omega
      generalize hcc : cnt (marksTo l l.length) N 0 = c at hci hc HC0
      have HCC := hide hcc
      clear HNO HYES hcc
      go_enter Tryd.func59, Tryd.ntmps59
      go_wp2_with (first
        | (go_at_call 46; refine (familyOf_c (N : Int) v l _ HL.out hlen).mono ?_; rw [famVal_yes (N : Int) l HK.out]; rintro e w1 ⟨rfl, hb1⟩; have hz1 := hb1.size; rw [HZ0.out] at hz1; have HH := hide ((famAt.new 53 w1 0 noSet).row (N : Int) (marksTo l l.length)); have HT1 := hide (((HT.out.belowB HT.out (H0.out.trans (hb1.mono (by rw [HZ0.out]; omega))) (Nat.le_refl _)).alloc (.cells (fam 0 noSet) 53)).setRow w1.heap.size (by have := HT.out.1; omega) (fam (N : Int) (marksTo l l.length))); have HB1 := hide (bl_row ((H0.out.trans (hb1.mono (by rw [HZ0.out]; omega))).alloc (by omega) (.cells (fam 0 noSet) 53)) (show w.heap.size ≤ w1.heap.size by omega) (fam (N : Int) (marksTo l l.length))); clear hb1)
        | (refine wpList_alloc_fam zeroT rfl rfl _ (by first | (simp only [World.size_alloc]; rfl) | rfl) ?_)
        | (refine wpList_store_fam sizeT rfl (.tmp _) (.tmp _) rfl _ _ _ rfl rfl _ _ (famAt.new _ _ _ _) ?_)
        | (refine wpList_load_fam rowT sizeT rfl (.tmp 4) rfl _ rfl (N : Int) (marksTo l l.length) HH.out ?_)
        | (go_at_call 80; refine (wordCounts_c N (marksTo l l.length) _ hN1 hN7 HSC.out.lt HT1.out).mono ?_; rintro e w2 ⟨rfl, hb2⟩; have hz2 := hb2.size; have HH2 := hide (((HH.out.below hb2 HH.out.lt).alloc (.cells (rowV zRow) 91)).rowO w2.heap.size (by have := HH.out.lt; omega) (rowV (cRow (cnt (marksTo l l.length) N)))); have hcc2 := (blk.new 91 w2 zRow).row (cRow (cnt (marksTo l l.length) N)); have HCB := hide hcc2; have hg0 := hcc2.cell 0 (by rw [cRow_len]; omega); (try rw [HC0.out] at hg0); have HT2 := hide (((HT1.out.belowB HT1.out hb2 (Nat.le_refl _)).alloc (.cells (rowV zRow) 91)).setRow w2.heap.size (by have := HT.out.1; have := HB1.out.size; omega) (rowV (cRow (cnt (marksTo l l.length) N)))); have HB2 := hide (bl_row ((HB1.out.trans (hb2.mono HB1.out.size)).alloc (by have := HB1.out.size; omega) (.cells (rowV zRow) 91)) (show w.heap.size ≤ w2.heap.size by have := HB1.out.size; omega) (rowV (cRow (cnt (marksTo l l.length) N)))); clear hb2 hcc2)
        | (refine wpList_alloc_arr zeroC rfl rfl _ (by first | (simp only [World.size_alloc]; rfl) | rfl) ?_)
        | (refine wpList_store_arr sizeC rfl (.tmp _) (.tmp _) rfl _ (cRow (cnt (marksTo l l.length) N)) (cRow_len _) rfl rfl zRow zRow_len (blk.new _ _ _) ?_))
      have hzw := HB1.out.size
      have hzW : ((w2.alloc (.cells (rowV zRow) 91)).setRow w2.heap.size (rowV (cRow (cnt (marksTo l l.length) N)))).heap.size = w2.heap.size + 1 := by simp [World.setRow]
      have hlt1 := HH.out.lt
      generalize ((w2.alloc (.cells (rowV zRow) 91)).setRow w2.heap.size (rowV (cRow (cnt (marksTo l l.length) N)))) = W at HH2 HCB HT2 HB2 hzW hg0 ⊢
      clear hg0
      have hc40 : c ≤ 200 := by omega
      go_loopw [7, 23] (fun o i wr => ∃ r : Nat, r ≤ c ∧ i = .int .i64 (r : Int) ∧ Hid (own2 25 3 wr (w2.heap.size + 1) o (awk (marksTo l l.length) N r)) ∧ Hid (Below (w2.heap.size + 1) W wr)) (fun _ i _ => c - (intOf i).toNat)
      case atStart => exact ⟨0, Nat.zero_le _, rfl, own2_nil _ _ _ _, Below.refl _ _⟩
      case round =>
        obtain ⟨r, hr, rfl, HO, HB⟩ := hrel
        have hsz := HB.out.size
        have HFW := hide (HH2.out.below HB.out (by omega))
        have HCW := hide (HCB.out.below HB.out (by omega))
        have HTW := hide (HT2.out.belowB HT.out HB.out (by omega))
        by_cases hrc : r < c
        · have HN := hide (awk_next (marksTo l l.length) N r)
          have hAl := awk_len (marksTo l l.length) N r
          have HWC := hide (fun w' (ht : tab w') => wordWith_c N (marksTo l l.length) r w' hN1 hN7 HSC.out (by rw [HCC.out]; omega) ht)
          generalize wwL (marksTo l l.length) N N 0 r = m at HN HWC
          generalize awk (marksTo l l.length) N r = A at HO HN hAl
          go_wp2_with (first
            | (refine wpList_load_fam rowT sizeT rfl (.tmp 4) rfl _ rfl (N : Int) (marksTo l l.length) HFW.out ?_)
            | (refine wpList_load_arr rowC sizeC rfl (.tmp 6) rfl _ rfl _ (cRow_len _) HCW.out ?_)
            | (go_at_call 81; refine (HWC.out _ HTW.out).mono ?_; rintro e w3 ⟨v3, rfl, ho3, hb3⟩; obtain ⟨a3, c3, hv3⟩ := ho3.shape; subst hv3; have hz3 := hb3.size; have HO3 := hide ho3; have HB3 := hide hb3; clear ho3 hb3)
            | (at_builtin; refine wpList_append2 sliceT2 rowI2 (by decide) rfl (.tmp 26) (.tmp 31) rfl (w2.heap.size + 1) _ A rfl wr HO.out (HB3.out.alloc (by omega) _) _ (.slice a3 m.length c3) m rfl (by simp [go_sem]) (HO3.out.alloc _) (by omega) (by omega) ?_; intro v6 w6 ho6 hb6 _ _; have HO6 := hide ho6; have HB6 := hide ((HB.out.trans ((HB3.out.alloc (by omega) _).mono (by omega))).trans hb6); clear ho6 hb6))
          go_roundw
          case rel => exact ⟨r + 1, by omega, by go_num, hide (by rw [HN.out]; exact HO6.out), HB6⟩
          case measure => (simp [intOf] <;> omega)
        · have hre : r = c := by omega
          have hr2 : ¬ ((r : Int) < (c : Int)) := by omega
          subst hre
          go_wp2
          go_ret2
          exact ⟨_, rfl, HO.out.mono (by omega), HB2.out.trans (HB.out.mono (by omega))⟩
end Go.Proofs.YtcokdhmccokkiaaDoor
