/- Contracts: CostAt, the specification's. -/
import Derived.Test.YtndnkefbilhgnaaDoorKj
namespace Go.Proofs.YtndnkefbilhgnaaDoor
open Go.RowKit
set_option maxRecDepth 100000
set_option linter.unusedSimpArgs false
attribute [local irreducible] p2 low memB risB
set_option maxHeartbeats 2000000 in
theorem specCostAt_c (n : Int) (v : Value) (l : List Int) (u : Value) (T : List Tsk) (x i : Int) (w : World) (hl : ints w.heap.size w v l) (hlen : l.length < 1000000000) (ht : tks w.heap.size w u T) (hs : T.length < 1000000000) (_hT : tab w) :
    Calls Tryd.prog 16 #[.agg #[.int .i64 n, v], u, .int .i64 x, .int .i64 i] w fun e w' => e = .returned (.tuple #[.int .i64 (caR n l T x i), .bool (caB n l T x i)]) ∧ Below w.heap.size w w' := by
  have HL := hide (hl.alloc (.cells #[.int .i64 n, v] 30))
  have HTK := hide (ht.alloc (.cells #[.int .i64 n, v] 30))
  have H0 := hide ((Below.refl w.heap.size w).alloc (Nat.le_refl _) (.cells #[.int .i64 n, v] 30))
  have HX := hide (hp_last w (.cells #[.int .i64 n, v] 30))
  have HZ := hide (show (w.alloc (.cells #[.int .i64 n, v] 30)).heap.size = w.heap.size + 1 by simp)
  have HV := hide (show caB n l T x i = (okOne n l x && (taB T n && (decide (0 ≤ i ∧ i < n) && (outerOf (marksTo l l.length) n.toNat x.toNat).testBit i.toNat))) from rfl)
  have HNO := hide (fun h => caR_no (n := n) (l := l) (T := T) (x := x) (i := i) h)
  have HYES := hide (fun h => caR_yes (n := n) (l := l) (T := T) (x := x) (i := i) h)
  have HG := hide (grGiven_c n v l u T (w.alloc (.cells #[.int .i64 n, v] 30)) (HL.out.mono (by rw [HZ.out]; omega)) hlen (HTK.out.mono (by rw [HZ.out]; omega)) hs)
  have hb0 := cells_at0 HX.out
  have hb1 := cells_at1 HX.out
  clear hl ht
  generalize caB n l T x i = ok at *
  generalize caR n l T x i = r at *
  cases hg : gvB n l T
  · rw [hg] at HG
    have HOKF := hide (show ok = false by
      rw [HV.out]
      cases h1 : okOne n l x
      · rfl
      · have h2 : gvB n l T = (okSp n l && taB T n) := rfl
        rw [okOne_sp h1, Bool.true_and, hg] at h2
        rw [← h2]; rfl)
    clear hg
    go_enter Tryd.func16, Tryd.ntmps16
    go_wp2_with (go_at_call 53; refine HG.out.mono ?_; rintro e w1 ⟨rfl, hb⟩; have HB := hide (H0.out.trans (hb.mono (by rw [HZ.out]; omega))); clear hb)
    go_ret2
    exact ⟨by rw [HOKF.out, HNO.out HOKF.out]; rfl, HB.out⟩
  · rw [hg] at HG
    obtain ⟨hsp, hta⟩ := gv_in hg
    have HTAB := hide hta
    have htl := (taB_is hta).2.1
    obtain ⟨hn1, hn7⟩ := okSp_n hsp
    have HI := hide (okSp_inc hsp)
    have HSP := hide hsp
    have HW := hide (fun (w1 : World) (h : Below (w.alloc (.cells #[.int .i64 n, v] 30)).heap.size (w.alloc (.cells #[.int .i64 n, v] 30)) w1) => show Below w.heap.size w w1 ∧ ints w1.heap.size w1 v l ∧ tks w1.heap.size w1 u T ∧ w1.cell? ⟨w.heap.size, 0, none⟩ = some (.int .i64 n) ∧ w1.cell? ⟨w.heap.size, 1, none⟩ = some v from by
      have hz := HZ.out
      have hsz := h.size
      have hbk := (h.block w.heap.size (by omega)).trans HX.out
      exact ⟨H0.out.trans (h.mono (by omega)), (HL.out.below h (by omega)).mono (by omega), (HTK.out.below h (by omega)).mono (by omega), cells_at0 hbk, cells_at1 hbk⟩)
    rw [hta, Bool.true_and] at HV
    clear hg hta hsp
    have HON := hide (fun w1 h => spOne_c n v l x w1 (HW.out w1 h).2.1 hlen)
    cases hok : okOne n l x
    · rw [hok] at HON HV
      rw [Bool.false_and] at HV
      clear hok
      go_enter Tryd.func16, Tryd.ntmps16
      go_wp2_with (first
        | (go_at_call 53; refine HG.out.mono ?_; rintro e w1 ⟨rfl, hb⟩; have HB1 := hide hb; have c0 := (HW.out _ hb).2.2.2.1; have c1 := (HW.out _ hb).2.2.2.2; clear hb)
        | (go_at_call 54; refine (HON.out _ HB1.out).mono ?_; rintro e w2 ⟨rfl, hb⟩; have HB2 := hide (HB1.out.trans (hb.mono HB1.out.size)); have c20 := (HW.out _ HB2.out).2.2.2.1; have c21 := (HW.out _ HB2.out).2.2.2.2; clear hb)
      )
      go_ret2
      exact ⟨by rw [HV.out, HNO.out HV.out]; rfl, (HW.out _ HB2.out).1⟩
    · rw [hok, Bool.true_and] at HV
      rw [hok] at HON
      obtain ⟨hx0, hx1⟩ := okOne_lt hok
      have hlt2 := okSp_lt HSP.out x.toNat (by
        have h1 := hok
        unfold okOne at h1
        rw [HSP.out, Bool.true_and] at h1
        rw [okSp_marks HSP.out, Int.toNat_of_nonneg hx0]; exact h1)
      obtain ⟨s, rfl⟩ := Int.eq_ofNat_of_zero_le hx0
      obtain ⟨N, rfl⟩ := Int.eq_ofNat_of_zero_le (show 0 ≤ n by omega)
      have hs128 : s < 128 := by omega
      rw [Int.toNat_natCast, Int.toNat_natCast] at HV
      rw [Int.toNat_natCast] at HYES
      rw [Int.toNat_natCast, Int.toNat_natCast] at hlt2
      have HOS := hide (outer_same (marksTo l l.length) l N s (by omega) hlt2 (fun y _ => okSp_marks HSP.out y))
      have HOU := hide (fun w1 h => by have := spOuter_c (N : Int) v l (s : Int) w1 (HW.out w1 h).2.1 HI.out hlen (by omega) (by omega) (by omega) (by omega); rw [Int.toNat_natCast, Int.toNat_natCast, ← HOS.out] at this; exact this)
      have ho128 := outer_lt (marksTo l l.length) N s (by omega)
      clear HOS hlt2 hok hx0 hx1
      generalize outerOf (marksTo l l.length) N s = O at HV HOU ho128
      have hdd : (0 ≤ i ∧ i < (N : Int)) ↔ (0 ≤ i ∧ i ≤ (N : Int) - 1) := by omega
      have hwn : IntKind.i64.wrap ((N : Int) - 1) = (N : Int) - 1 := IntWalk.i64_in _ (by omega)
      have hde : decide (0 ≤ i ∧ i ≤ (N : Int) - 1) = decide (0 ≤ i ∧ i < (N : Int)) := decide_eq_decide.2 hdd.symm
      have HIT := hide (fun w1 => by have := l1In_c i 0 ((N : Int) - 1) w1; rw [hde] at this; exact this)
      clear hde hdd
      cases hit : decide (0 ≤ i ∧ i < (N : Int))
      · rw [hit, Bool.false_and] at HV
        rw [hit] at HIT
        clear hit
        go_enter Tryd.func16, Tryd.ntmps16
        go_wp2_with (first
          | (go_at_call 53; refine HG.out.mono ?_; rintro e w1 ⟨rfl, hb⟩; have HB1 := hide hb; have c0 := (HW.out _ hb).2.2.2.1; have c1 := (HW.out _ hb).2.2.2.2; clear hb)
          | (go_at_call 54; refine (HON.out _ HB1.out).mono ?_; rintro e w2 ⟨rfl, hb⟩; have HB2 := hide (HB1.out.trans (hb.mono HB1.out.size)); have c20 := (HW.out _ HB2.out).2.2.2.1; have c21 := (HW.out _ HB2.out).2.2.2.2; clear hb)
          | (go_at_call 55; refine (HIT.out _).mono ?_; rintro e w4 ⟨rfl, rfl⟩)
        )
        go_ret2
        exact ⟨by rw [HV.out, HNO.out HV.out]; rfl, (HW.out _ HB2.out).1⟩
      · have hir := of_decide_eq_true hit
        obtain ⟨j, rfl⟩ := Int.eq_ofNat_of_zero_le hir.1
        rw [hit, Bool.true_and, Int.toNat_natCast] at HV
        rw [Int.toNat_natCast] at HYES
        rw [hit] at HIT
        clear hit
        have HSI := hide (fun w1 => by have := spIn_c (O : Int) (j : Int) w1 (by omega) (by omega) (by omega) (by omega); rw [Int.toNat_natCast, Int.toNat_natCast] at this; exact this)
        cases hbit : O.testBit j
        · rw [hbit] at HV HSI
          clear hbit
          go_enter Tryd.func16, Tryd.ntmps16
          go_wp2_with (first
            | (go_at_call 53; refine HG.out.mono ?_; rintro e w1 ⟨rfl, hb⟩; have HB1 := hide hb; have c0 := (HW.out _ hb).2.2.2.1; have c1 := (HW.out _ hb).2.2.2.2; clear hb)
            | (go_at_call 54; refine (HON.out _ HB1.out).mono ?_; rintro e w2 ⟨rfl, hb⟩; have HB2 := hide (HB1.out.trans (hb.mono HB1.out.size)); have c20 := (HW.out _ HB2.out).2.2.2.1; have c21 := (HW.out _ HB2.out).2.2.2.2; clear hb)
            | (go_at_call 55; refine (HIT.out _).mono ?_; rintro e w4 ⟨rfl, rfl⟩)
            | (go_at_call 57; refine (HOU.out _ HB2.out).mono ?_; rintro e w5 ⟨rfl, hb⟩; have HB3 := hide (HB2.out.trans (hb.mono HB2.out.size)); clear hb)
            | (go_at_call 56; refine (HSI.out _).mono ?_; rintro e w6 ⟨rfl, rfl⟩)
          )
          go_ret2
          exact ⟨by rw [HV.out, HNO.out HV.out]; rfl, (HW.out _ HB3.out).1⟩
        · rw [hbit] at HV HSI
          clear hbit
          go_enter Tryd.func16, Tryd.ntmps16
          go_wp2_with (first
            | (go_at_call 53; refine HG.out.mono ?_; rintro e w1 ⟨rfl, hb⟩; have HB1 := hide hb; have c0 := (HW.out _ hb).2.2.2.1; have c1 := (HW.out _ hb).2.2.2.2; clear hb)
            | (go_at_call 54; refine (HON.out _ HB1.out).mono ?_; rintro e w2 ⟨rfl, hb⟩; have HB2 := hide (HB1.out.trans (hb.mono HB1.out.size)); have c20 := (HW.out _ HB2.out).2.2.2.1; have c21 := (HW.out _ HB2.out).2.2.2.2; clear hb)
            | (go_at_call 55; refine (HIT.out _).mono ?_; rintro e w4 ⟨rfl, rfl⟩)
            | (go_at_call 57; refine (HOU.out _ HB2.out).mono ?_; rintro e w5 ⟨rfl, hb⟩; have HB3 := hide (HB2.out.trans (hb.mono HB2.out.size)); clear hb)
            | (go_at_call 56; refine (HSI.out _).mono ?_; rintro e w6 ⟨rfl, rfl⟩)
            | (go_at_call 58; refine (grCost_c u T (N : Int) s j _ HTAB.out (HW.out _ HB3.out).2.2.1 hs128 (by omega)).mono ?_; rintro e w8 ⟨rfl, hb8⟩; have HB8 := hide ((HW.out _ HB3.out).1.trans (hb8.mono (HW.out _ HB3.out).1.size)); clear hb8))
          go_ret2
          exact ⟨by rw [HV.out, HYES.out HV.out]; rfl, HB8.out⟩
end Go.Proofs.YtndnkefbilhgnaaDoor
