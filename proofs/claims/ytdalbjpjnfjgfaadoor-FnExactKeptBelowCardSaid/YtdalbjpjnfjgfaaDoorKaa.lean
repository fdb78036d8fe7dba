/- Contracts: RunBelow, the specification's. -/
import Derived.Test.YtdalbjpjnfjgfaaDoorKz
namespace Go.Proofs.YtdalbjpjnfjgfaaDoor
open Go.RowKit
set_option maxRecDepth 100000
set_option linter.unusedSimpArgs false
attribute [local irreducible] p2 low memB risB grW outerOf
theorem grCosts_c (lim : Int) (w : World) : Calls Tryd.prog 68 #[.int .i64 lim] w fun e w' => e = .returned (.bool (limB lim)) ∧ w = w' := by
  go_enter Tryd.func68, Tryd.ntmps68
  go_wp2_with (go_at_call 84; refine (l1In_c lim (-10000) 10000 _).mono ?_; rintro e w1 ⟨rfl, rfl⟩)
  go_ret
  exact ⟨ret_b (by unfold limB; rw [Bool.decide_and]), rfl⟩
set_option maxHeartbeats 4000000 in
theorem specRunBelow_c (n : Int) (v : Value) (l : List Int) (u : Value) (T : List Tsk) (lim : Int) (z : Value) (ch : List Int) (w : World) (hl : ints w.heap.size w v l) (hlen : l.length < 1000000000) (ht : tks w.heap.size w u T) (hs : T.length < 1000000000) (hch : ints w.heap.size w z ch) (hcl : ch.length < 1000000000) (_hT : tab w) :
    Calls Tryd.prog 34 #[.agg #[.int .i64 n, v], u, .int .i64 lim, z] w fun e w' => e = .returned (.tuple #[.int .i64 (rbR n l T lim ch), .bool (rbB n l T lim ch)]) ∧ Below w.heap.size w w' := by
  have HCH := hide hch
  obtain ⟨za, zc, hz⟩ := hch.shape
  subst hz
  clear hch
  have HL := hide (hl.alloc (.cells #[.int .i64 n, v] 34))
  have HTK := hide (ht.alloc (.cells #[.int .i64 n, v] 34))
  have H0 := hide ((Below.refl w.heap.size w).alloc (Nat.le_refl _) (.cells #[.int .i64 n, v] 34))
  have HX := hide (hp_last w (.cells #[.int .i64 n, v] 34))
  have HZ := hide (show (w.alloc (.cells #[.int .i64 n, v] 34)).heap.size = w.heap.size + 1 by simp)
  have HG := hide (grGiven_c n v l u T (w.alloc (.cells #[.int .i64 n, v] 34)) (HL.out.mono (by rw [HZ.out]; omega)) hlen (HTK.out.mono (by rw [HZ.out]; omega)) hs)
  have hb0 := cells_at0 HX.out
  have hb1 := cells_at1 HX.out
  have HW := hide (fun (w1 : World) (h : Below (w.alloc (.cells #[.int .i64 n, v] 34)).heap.size (w.alloc (.cells #[.int .i64 n, v] 34)) w1) => show Below w.heap.size w w1 ∧ ints w1.heap.size w1 v l ∧ tks w1.heap.size w1 u T ∧ w1.cell? ⟨w.heap.size, 0, none⟩ = some (.int .i64 n) ∧ w1.cell? ⟨w.heap.size, 1, none⟩ = some v from by
    have hz := HZ.out
    have hsz := h.size
    have hbk := (h.block w.heap.size (by omega)).trans HX.out
    exact ⟨H0.out.trans (h.mono (by omega)), (HL.out.below h (by omega)).mono (by omega), (HTK.out.below h (by omega)).mono (by omega), cells_at0 hbk, cells_at1 hbk⟩)
  clear hl ht
  cases hg : gvB n l T
  case false =>
    have HBN := hide (show rbB n l T lim ch = false by unfold rbB; rw [hg]; rfl)
    have HR := hide (rb_no HBN.out)
    rw [HBN.out]
    rw [hg] at HG
    clear hg
    go_enter Tryd.func34, Tryd.ntmps34
    go_wp2_with (first
      | (go_at_call 67; refine HG.out.mono ?_; rintro e w1 ⟨rfl, hb⟩; have HB1 := hide hb; have c0 := (HW.out _ hb).2.2.2.1; have c1 := (HW.out _ hb).2.2.2.2; have hz1 := hb.size; rw [HZ.out] at hz1; clear hb)
    )
    go_ret2
    exact ⟨by rw [HR.out]; rfl, (HW.out _ HB1.out).1⟩
  case true =>
    obtain ⟨hsp, hta⟩ := gv_in hg
    obtain ⟨hn1, hn7⟩ := okSp_n hsp
    have HRB := hide (show rbB n l T lim ch = (limB lim && chB 20 ch) by unfold rbB; rw [hg, Bool.true_and])
    obtain ⟨N, rfl⟩ := Int.eq_ofNat_of_zero_le (show 0 ≤ n by omega)
    have HRN := hide (fun h => rb_no (n := (N : Int)) (l := l) (T := T) (lim := lim) (ch := ch) h)
    have HRY := hide (fun h => rb_yes (n := (N : Int)) (l := l) (T := T) (lim := lim) (ch := ch) h)
    rw [Int.toNat_natCast] at HRY
    rw [hg] at HG
    have HGR := hide (fun w1 h hpos => grRun_c N v l u T lim (.slice za ch.length zc) ch w1 (HW.out w1 h).2.1 hlen (HW.out w1 h).2.2.1 hsp hta ((HCH.out.below (HW.out w1 h).1 (Nat.le_refl _)).mono (HW.out w1 h).1.size) hpos)
    generalize marksTo l l.length = F at HGR HRY
    clear hg hsp hta
    cases hlb : limB lim
    · have HLB := hide (show rbB (N : Int) l T lim ch = false by rw [HRB.out, hlb, Bool.false_and])
      have HR := hide (HRN.out HLB.out)
      have HL0 := hide hlb
      rw [HLB.out]
      clear hlb
      go_enter Tryd.func34, Tryd.ntmps34
      go_wp2_with (first
        | (go_at_call 67; refine HG.out.mono ?_; rintro e w1 ⟨rfl, hb⟩; have HB1 := hide hb; have c0 := (HW.out _ hb).2.2.2.1; have c1 := (HW.out _ hb).2.2.2.2; have hz1 := hb.size; rw [HZ.out] at hz1; clear hb)
        | (go_at_call 68; refine (grCosts_c lim _).mono ?_; rw [HL0.out]; rintro e w2 ⟨rfl, rfl⟩)
      )
      go_ret2
      exact ⟨by rw [HR.out]; rfl, (HW.out _ HB1.out).1⟩
    · have HLB := hide (show rbB (N : Int) l T lim ch = chB 20 ch by rw [HRB.out, hlb, Bool.true_and])
      have HL0 := hide hlb
      clear hlb
      by_cases h20 : (20 : Int) < (ch.length : Int)
      · have HR0 := hide (show chB 20 ch = false by unfold chB; rw [decide_eq_false (by omega), Bool.false_and])
        rw [HR0.out] at HLB
        have HR := hide (HRN.out HLB.out)
        rw [HLB.out]
        go_enter Tryd.func34, Tryd.ntmps34
        go_wp2_with (first
          | (go_at_call 67; refine HG.out.mono ?_; rintro e w1 ⟨rfl, hb⟩; have HB1 := hide hb; have c0 := (HW.out _ hb).2.2.2.1; have c1 := (HW.out _ hb).2.2.2.2; have hz1 := hb.size; rw [HZ.out] at hz1; clear hb)
          | (go_at_call 68; refine (grCosts_c lim _).mono ?_; rw [HL0.out]; rintro e w2 ⟨rfl, rfl⟩)
        )
        go_ret2
        exact ⟨by rw [HR.out]; rfl, (HW.out _ HB1.out).1⟩
      · have HCB := hide (show chB 20 ch = !ngTo ch ch.length by unfold chB; rw [decide_eq_true (by omega), Bool.true_and])
        go_enter Tryd.func34, Tryd.ntmps34
        go_wp2_with (first
          | (go_at_call 67; refine HG.out.mono ?_; rintro e w1 ⟨rfl, hb⟩; have HB1 := hide hb; have c0 := (HW.out _ hb).2.2.2.1; have c1 := (HW.out _ hb).2.2.2.2; have hz1 := hb.size; rw [HZ.out] at hz1; clear hb)
          | (go_at_call 68; refine (grCosts_c lim _).mono ?_; rw [HL0.out]; rintro e w2 ⟨rfl, rfl⟩)
        )
        have HB := hide (HW.out _ HB1.out).1
        have HCH1 := hide ((HCH.out.below HB.out (Nat.le_refl _)))
        go_loopw [28] (fun iv wr => ∃ k : Nat, k ≤ ch.length ∧ iv = .int .i64 (k : Int) ∧ Hid (ngTo ch k = false) ∧ Hid (Below w1.heap.size w1 wr)) (fun iv _ => ch.length - (intOf iv).toNat)
        case atStart => exact ⟨0, by omega, rfl, rfl, Below.refl _ _⟩
        case round =>
          obtain ⟨k, hk, rfl, HN, HB2⟩ := hrel
          have HBW := hide (HB.out.trans (HB2.out.mono HB.out.size))
          have HCW := hide (HCH.out.below HBW.out (Nat.le_refl _))
          have HBG := hide (HB1.out.trans (HB2.out.mono (by rw [HZ.out]; exact hz1)))
          have cc0 := (HW.out _ HBG.out).2.2.2.1
          have cc1 := (HW.out _ HBG.out).2.2.2.2
          by_cases hlt : k < ch.length
          · have hlt' : (k : Int) < (ch.length : Int) := by omega
            have HNX := hide (show ngTo ch (k + 1) = decide (ch[k]?.getD 0 < 0) by rw [ngTo_next, HN.out, Bool.false_or])
            generalize hx : ch[k]?.getD 0 = x at HNX
            have HX := hide hx
            clear hx
            by_cases hneg : x < 0
            · have HNT := hide (show ngTo ch ch.length = true from ngTo_stay (by rw [HNX.out, decide_eq_true hneg]) ch.length (show k + 1 ≤ ch.length by omega))
              have HF0 := hide (show rbB (N : Int) l T lim ch = false by rw [HLB.out, HCB.out, HNT.out]; rfl)
              have HR := hide (HRN.out HF0.out)
              go_wp2_with (refine wpList_at sliceT intS rfl (.tmp _) (.tmp _) rfl _ rfl k rfl w.heap.size ch HCW.out hlt ?_; intro ad hcell hblk; rw [HX.out] at hcell)
              go_ret2
              exact ⟨by rw [HR.out, HF0.out]; rfl, HBW.out⟩
            · go_wp2_with (refine wpList_at sliceT intS rfl (.tmp _) (.tmp _) rfl _ rfl k rfl w.heap.size ch HCW.out hlt ?_; intro ad hcell hblk; rw [HX.out] at hcell)
              go_roundw
              case rel => exact ⟨k + 1, by omega, by go_num, by rw [HNX.out]; exact decide_eq_false hneg, HB2⟩
              case measure => (simp [intOf] <;> omega)
          · have hlt' : ¬ ((k : Int) < (ch.length : Int)) := by omega
            have HE := hide (show ngTo ch ch.length = false by rw [show ch.length = k by omega]; exact HN.out)
            have HT0 := hide (show rbB (N : Int) l T lim ch = true by rw [HLB.out, HCB.out, HE.out]; rfl)
            have HR := hide (HRY.out HT0.out)
            go_wp2_with (go_at_call 69; refine (HGR.out _ HBG.out (ngTo_no ch.length HE.out)).mono ?_; rintro e w4 ⟨rfl, hb4⟩; have HB4 := hide (HBW.out.trans (hb4.mono HBW.out.size)); clear hb4)
            go_ret2
            exact ⟨by rw [HR.out, HT0.out]; rfl, HB4.out⟩
end Go.Proofs.YtdalbjpjnfjgfaaDoor
