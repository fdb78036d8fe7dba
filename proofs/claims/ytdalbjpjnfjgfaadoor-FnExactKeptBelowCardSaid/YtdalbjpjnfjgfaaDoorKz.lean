/- Contracts: RunBelow. -/
import Derived.Test.YtdalbjpjnfjgfaaDoorKy
import Derived.Test.YtdalbjpjnfjgfaaDoorKx
import Derived.Test.YtdalbjpjnfjgfaaDoorKp
namespace Go.Proofs.YtdalbjpjnfjgfaaDoor
open Go.RowKit
set_option maxRecDepth 100000
set_option linter.unusedSimpArgs false
def limB (lim : Int) : Bool := decide (-10000 ≤ lim ∧ lim ≤ 10000)
def rbB (n : Int) (l : List Int) (T : List Tsk) (lim : Int) (ch : List Int) : Bool := gvB n l T && (limB lim && chB 20 ch)
def rbR (n : Int) (l : List Int) (T : List Tsk) (lim : Int) (ch : List Int) : Int := if rbB n l T lim ch then (kbF (marksTo l l.length) (alC (coT T) lim) n.toNat ch 8 0 0 : Nat) else 0
theorem rb_no {n : Int} {l : List Int} {T : List Tsk} {lim : Int} {ch : List Int} (h : rbB n l T lim ch = false) : rbR n l T lim ch = 0 := by unfold rbR; rw [h]; rfl
theorem rb_yes {n : Int} {l : List Int} {T : List Tsk} {lim : Int} {ch : List Int} (h : rbB n l T lim ch = true) : rbR n l T lim ch = (kbF (marksTo l l.length) (alC (coT T) lim) n.toNat ch 8 0 0 : Nat) := by unfold rbR; rw [h]; rfl
attribute [local irreducible] p2 low memB risB grW outerOf
set_option maxHeartbeats 2000000 in
theorem implRunBelow_c (n : Int) (v : Value) (l : List Int) (u : Value) (T : List Tsk) (lim : Int) (z : Value) (ch : List Int) (w : World) (hl : ints w.heap.size w v l) (hlen : l.length < 1000000000) (ht : tks w.heap.size w u T) (hs : T.length < 1000000000) (hch : ints w.heap.size w z ch) (hcl : ch.length < 1000000000) (hT : tab w) :
    Calls Tryd.prog 35 #[.agg #[.int .i64 n, v], u, .int .i64 lim, z] w fun e w' => e = .returned (.tuple #[.int .i64 (rbR n l T lim ch), .bool (rbB n l T lim ch)]) ∧ Below w.heap.size w w' := by
  have HCH := hide hch
  clear hch
  have HL := hide ((hl.alloc (.cells #[.int .i64 n, v] 34)).mono (show w.heap.size ≤ (w.alloc (.cells #[.int .i64 n, v] 34)).heap.size by simp))
  have HTK := hide ((ht.alloc (.cells #[.int .i64 n, v] 34)).mono (show w.heap.size ≤ (w.alloc (.cells #[.int .i64 n, v] 34)).heap.size by simp))
  have HT := hide hT
  have HTA := hide (hT.alloc (.cells #[.int .i64 n, v] 34))
  have H0 := hide ((Below.refl w.heap.size w).alloc (Nat.le_refl _) (.cells #[.int .i64 n, v] 34))
  have HZ := hide (show (w.alloc (.cells #[.int .i64 n, v] 34)).heap.size = w.heap.size + 1 by simp)
  clear hl ht hT
  cases hg : gvB n l T
  case false =>
    have HBN := hide (show rbB n l T lim ch = false by unfold rbB; rw [hg]; rfl)
    have HR := hide (rb_no HBN.out)
    have HFC := hide (familyAndCosts_no n v l u T _ HL.out hlen HTK.out hs hg)
    rw [HBN.out]
    clear hg
    go_enter Tryd.func35, Tryd.ntmps35
    go_wp2_with (first
      | (go_at_call 72; refine HFC.out.mono ?_; rintro e w1 ⟨rfl, hb⟩; have hz := hb.size; rw [HZ.out] at hz; have HB := hide (bl_row ((H0.out.trans (hb.mono (by rw [HZ.out]; omega))).alloc (by omega) (.cells (fam 0 noSet) 97)) (show w.heap.size ≤ w1.heap.size by omega) (fam 0 noSet)); clear hb)
      | (refine wpList_alloc_fam zeroT rfl rfl _ (by first | (simp only [World.size_alloc]; rfl) | rfl) ?_)
      | (refine wpList_store_fam sizeT rfl (.tmp _) (.tmp _) rfl _ _ _ rfl rfl _ _ (famAt.new _ _ _ _) ?_)
    )
    go_ret2
    exact ⟨by rw [HR.out]; rfl, HB.out⟩
  case true =>
    obtain ⟨hsp, hta⟩ := gv_in hg
    obtain ⟨hn1, hn7⟩ := okSp_n hsp
    have HRB := hide (show rbB n l T lim ch = (limB lim && chB 20 ch) by unfold rbB; rw [hg, Bool.true_and])
    obtain ⟨N, rfl⟩ := Int.eq_ofNat_of_zero_le (show 0 ≤ n by omega)
    have HFC := hide (familyAndCosts_yes (N : Int) v l u T _ HL.out hlen HTK.out hs HTA.out hg)
    rw [Int.toNat_natCast] at HFC
    have HRN := hide (fun h => rb_no (n := (N : Int)) (l := l) (T := T) (lim := lim) (ch := ch) h)
    have HRY := hide (fun h => rb_yes (n := (N : Int)) (l := l) (T := T) (lim := lim) (ch := ch) h)
    rw [Int.toNat_natCast] at HRY
    clear hg hsp hta
    generalize marksTo l l.length = F at HFC HRY
    have HAC := hide (fun w1 (h : Below w.heap.size w w1) => areChoices_c z ch 20 w1 ((HCH.out.below h (Nat.le_refl _)).mono h.size) hcl)
    by_cases h1 : lim < -10000
    · have HLB := hide (show rbB (N : Int) l T lim ch = false by rw [HRB.out, limB, decide_eq_false (by omega), Bool.false_and])
      have HR := hide (HRN.out HLB.out)
      rw [HLB.out]
      go_enter Tryd.func35, Tryd.ntmps35
      go_wp2_with (first
        | (go_at_call 72; refine HFC.out.mono ?_; rintro e w1 ⟨caps, rfl, hic, hb⟩; have hz := hb.size; rw [HZ.out] at hz; have hb2 := (Below.refl w1.heap.size w1).alloc (Nat.le_refl _) (.cells (fam 0 noSet) 97); have hb3 := bl_row hb2 (Nat.le_refl _) (fam (N : Int) F); have HIC := hide (hic.below hb3); have HH1 := hide ((famAt.new 97 w1 0 noSet).row (N : Int) F); have HB := hide (bl_row ((H0.out.trans (hb.mono (by rw [HZ.out]; omega))).alloc (by omega) (.cells (fam 0 noSet) 97)) (show w.heap.size ≤ w1.heap.size by omega) (fam (N : Int) F)); clear hb hb2 hb3 hic)
        | (refine wpList_alloc_fam zeroT rfl rfl _ (by first | (simp only [World.size_alloc]; rfl) | rfl) ?_)
        | (refine wpList_store_fam sizeT rfl (.tmp _) (.tmp _) rfl _ _ _ rfl rfl _ _ (famAt.new _ _ _ _) ?_)
        | (refine wpList_load_fam rowT sizeT rfl (.tmp _) rfl _ rfl _ _ HH1.out ?_)
      )
      go_ret2
      exact ⟨by rw [HR.out]; rfl, HB.out⟩
    · by_cases h2 : 10000 < lim
      · have HLB := hide (show rbB (N : Int) l T lim ch = false by rw [HRB.out, limB, decide_eq_false (by omega), Bool.false_and])
        have HR := hide (HRN.out HLB.out)
        rw [HLB.out]
        go_enter Tryd.func35, Tryd.ntmps35
        go_wp2_with (first
          | (go_at_call 72; refine HFC.out.mono ?_; rintro e w1 ⟨caps, rfl, hic, hb⟩; have hz := hb.size; rw [HZ.out] at hz; have hb2 := (Below.refl w1.heap.size w1).alloc (Nat.le_refl _) (.cells (fam 0 noSet) 97); have hb3 := bl_row hb2 (Nat.le_refl _) (fam (N : Int) F); have HIC := hide (hic.below hb3); have HH1 := hide ((famAt.new 97 w1 0 noSet).row (N : Int) F); have HB := hide (bl_row ((H0.out.trans (hb.mono (by rw [HZ.out]; omega))).alloc (by omega) (.cells (fam 0 noSet) 97)) (show w.heap.size ≤ w1.heap.size by omega) (fam (N : Int) F)); clear hb hb2 hb3 hic)
          | (refine wpList_alloc_fam zeroT rfl rfl _ (by first | (simp only [World.size_alloc]; rfl) | rfl) ?_)
          | (refine wpList_store_fam sizeT rfl (.tmp _) (.tmp _) rfl _ _ _ rfl rfl _ _ (famAt.new _ _ _ _) ?_)
          | (refine wpList_load_fam rowT sizeT rfl (.tmp _) rfl _ rfl _ _ HH1.out ?_)
        )
        go_ret2
        exact ⟨by rw [HR.out]; rfl, HB.out⟩
      · have HLB := hide (show rbB (N : Int) l T lim ch = chB 20 ch by rw [HRB.out, limB, decide_eq_true (by omega), Bool.true_and])
        cases hc : chB 20 ch
        · rw [hc] at HAC HLB
          have HR := hide (HRN.out HLB.out)
          rw [HLB.out]
          clear hc
          go_enter Tryd.func35, Tryd.ntmps35
          go_wp2_with (first
            | (go_at_call 72; refine HFC.out.mono ?_; rintro e w1 ⟨caps, rfl, hic, hb⟩; have hz := hb.size; rw [HZ.out] at hz; have hb2 := (Below.refl w1.heap.size w1).alloc (Nat.le_refl _) (.cells (fam 0 noSet) 97); have hb3 := bl_row hb2 (Nat.le_refl _) (fam (N : Int) F); have HIC := hide (hic.below hb3); have HH1 := hide ((famAt.new 97 w1 0 noSet).row (N : Int) F); have HB := hide (bl_row ((H0.out.trans (hb.mono (by rw [HZ.out]; omega))).alloc (by omega) (.cells (fam 0 noSet) 97)) (show w.heap.size ≤ w1.heap.size by omega) (fam (N : Int) F)); clear hb hb2 hb3 hic)
            | (refine wpList_alloc_fam zeroT rfl rfl _ (by first | (simp only [World.size_alloc]; rfl) | rfl) ?_)
            | (refine wpList_store_fam sizeT rfl (.tmp _) (.tmp _) rfl _ _ _ rfl rfl _ _ (famAt.new _ _ _ _) ?_)
            | (refine wpList_load_fam rowT sizeT rfl (.tmp _) rfl _ rfl _ _ HH1.out ?_)
            | (go_at_call 73; refine (HAC.out _ HB.out).mono ?_; rintro e w3 ⟨rfl, hb3⟩; have HB3 := hide (HB.out.trans (hb3.mono HB.out.size)); clear hb3)
          )
          go_ret2
          exact ⟨by rw [HR.out]; rfl, HB3.out⟩
        · have HPOS := hide (ngTo_no (ch := ch) ch.length (by unfold chB at hc; rw [Bool.and_eq_true, Bool.not_eq_true'] at hc; exact hc.2))
          rw [hc] at HAC HLB
          have HR := hide (HRY.out HLB.out)
          rw [HLB.out]
          clear hc
          go_enter Tryd.func35, Tryd.ntmps35
          go_wp2_with (first
            | (go_at_call 72; refine HFC.out.mono ?_; rintro e w1 ⟨caps, rfl, hic, hb⟩; have hz := hb.size; rw [HZ.out] at hz; have hb2 := (Below.refl w1.heap.size w1).alloc (Nat.le_refl _) (.cells (fam 0 noSet) 97); have hb3 := bl_row hb2 (Nat.le_refl _) (fam (N : Int) F); have HIC := hide (hic.below hb3); have HH1 := hide ((famAt.new 97 w1 0 noSet).row (N : Int) F); have HB := hide (bl_row ((H0.out.trans (hb.mono (by rw [HZ.out]; omega))).alloc (by omega) (.cells (fam 0 noSet) 97)) (show w.heap.size ≤ w1.heap.size by omega) (fam (N : Int) F)); clear hb hb2 hb3 hic)
            | (refine wpList_alloc_fam zeroT rfl rfl _ (by first | (simp only [World.size_alloc]; rfl) | rfl) ?_)
            | (refine wpList_store_fam sizeT rfl (.tmp _) (.tmp _) rfl _ _ _ rfl rfl _ _ (famAt.new _ _ _ _) ?_)
            | (refine wpList_load_fam rowT sizeT rfl (.tmp _) rfl _ rfl _ _ HH1.out ?_)
            | (go_at_call 73; refine (HAC.out _ HB.out).mono ?_; rintro e w3 ⟨rfl, hb3⟩; have HB3 := hide (HB.out.trans (hb3.mono HB.out.size)); have HH3 := hide (HH1.out.below hb3 HH1.out.lt); have HIC3 := hide (HIC.out.below hb3); clear hb3)
            | (refine wpList_load_fam rowT sizeT rfl (.tmp _) rfl _ rfl _ _ HH3.out ?_)
            | (go_at_call 74; refine (keptBelow_c 144 caps (coT T) N F lim z ch _ (by omega) ent_costs1 HIC3.out ((HCH.out.below HB3.out (Nat.le_refl _)).mono HB3.out.size) hcl HPOS.out (HT.out.below HB3.out)).mono ?_; rintro e w4 ⟨rfl, hb4⟩; have HB4 := hide (HB3.out.trans (hb4.mono HB3.out.size)); clear hb4)
          )
          go_ret2
          exact ⟨by rw [HR.out]; rfl, HB4.out⟩
end Go.Proofs.YtdalbjpjnfjgfaaDoor
