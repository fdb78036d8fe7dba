/- Contracts: KeptBelow. -/
import Derived.Test.YtdalbjpjnfjgfaaDoorKaa
namespace Go.Proofs.YtdalbjpjnfjgfaaDoor
open Go.RowKit
set_option maxRecDepth 100000
set_option linter.unusedSimpArgs false
attribute [local irreducible] p2 low memB risB grW outerOf
def keB (n : Int) (l : List Int) (T : List Tsk) (lim : Int) : Bool := rbB n l T lim []
def keR (n : Int) (l : List Int) (T : List Tsk) (lim : Int) : Int := rbR n l T lim []
theorem keB_eq (n : Int) (l : List Int) (T : List Tsk) (lim : Int) : keB n l T lim = (gvB n l T && limB lim) := by
  unfold keB rbB
  rw [show chB 20 [] = true from rfl, Bool.and_true]
set_option maxHeartbeats 1000000 in
theorem implKeptBelow_c (n : Int) (v : Value) (l : List Int) (u : Value) (T : List Tsk) (lim : Int) (w : World) (hl : ints w.heap.size w v l) (hlen : l.length < 1000000000) (ht : tks w.heap.size w u T) (hs : T.length < 1000000000) (hT : tab w) :
    Calls Tryd.prog 32 #[.agg #[.int .i64 n, v], u, .int .i64 lim] w fun e w' => e = .returned (.tuple #[.int .i64 (keR n l T lim), .bool (keB n l T lim)]) ∧ Below w.heap.size w w' := by
  have H0 := hide ((Below.refl w.heap.size w).alloc (Nat.le_refl _) (.cells #[.int .i64 n, v] 34))
  have HZ := hide (show (w.alloc (.cells #[.int .i64 n, v] 34)).heap.size = w.heap.size + 1 by simp)
  have HRB := hide (implRunBelow_c n v l u T lim (.slice none 0 0) [] (w.alloc (.cells #[.int .i64 n, v] 34)) ((hl.alloc (.cells #[.int .i64 n, v] 34)).mono (by rw [HZ.out]; omega)) hlen ((ht.alloc (.cells #[.int .i64 n, v] 34)).mono (by rw [HZ.out]; omega)) hs (.inl ⟨rfl, _, _, rfl⟩) (by simp) (hT.alloc (.cells #[.int .i64 n, v] 34)))
  unfold keR keB
  generalize rbR n l T lim [] = R at *
  generalize rbB n l T lim [] = B at *
  clear hl ht hT
  go_enter Tryd.func32, Tryd.ntmps32
  go_wp2_with (go_at_call 35; refine HRB.out.mono ?_; rintro e w1 ⟨rfl, hb⟩; have HB := hide (H0.out.trans (hb.mono (by rw [HZ.out]; omega))); clear hb)
  go_ret2
  exact ⟨rfl, HB.out⟩
end Go.Proofs.YtdalbjpjnfjgfaaDoor
/- Contracts: KeptBelow, the specification's. -/
namespace Go.Proofs.YtdalbjpjnfjgfaaDoor
open Go.RowKit
set_option maxRecDepth 100000
set_option linter.unusedSimpArgs false
attribute [local irreducible] p2 low memB risB grW outerOf
set_option maxHeartbeats 2000000 in
theorem specKeptBelow_c (n : Int) (v : Value) (l : List Int) (u : Value) (T : List Tsk) (lim : Int) (w : World) (hl : ints w.heap.size w v l) (hlen : l.length < 1000000000) (ht : tks w.heap.size w u T) (hs : T.length < 1000000000) (_hT : tab w) :
    Calls Tryd.prog 29 #[.agg #[.int .i64 n, v], u, .int .i64 lim] w fun e w' => e = .returned (.tuple #[.int .i64 (keR n l T lim), .bool (keB n l T lim)]) ∧ Below w.heap.size w w' := by
  have HL := hide (hl.alloc (.cells #[.int .i64 n, v] 34))
  have HTK := hide (ht.alloc (.cells #[.int .i64 n, v] 34))
  have H0 := hide ((Below.refl w.heap.size w).alloc (Nat.le_refl _) (.cells #[.int .i64 n, v] 34))
  have HX := hide (hp_last w (.cells #[.int .i64 n, v] 34))
  have HZ := hide (show (w.alloc (.cells #[.int .i64 n, v] 34)).heap.size = w.heap.size + 1 by simp)
  have HG := hide (grGiven_c n v l u T (w.alloc (.cells #[.int .i64 n, v] 34)) (HL.out.mono (by rw [HZ.out]; omega)) hlen (HTK.out.mono (by rw [HZ.out]; omega)) hs)
  have hb0 := cells_at0 HX.out
  have hb1 := cells_at1 HX.out
  have HW := hide (fun (w1 : World) (h : Below (w.alloc (.cells #[.int .i64 n, v] 34)).heap.size (w.alloc (.cells #[.int .i64 n, v] 34)) w1) => show Below w.heap.size w w1 ∧ ints w1.heap.size w1 v l ∧ tks w1.heap.size w1 u T ∧ w1.cell? ⟨w.heap.size, 0, none⟩ = some (.int .i64 n) ∧ w1.cell? ⟨w.heap.size, 1, none⟩ = some v from by
    have hz := HZ.out
    have hsz := h.size
    have hbk := (h.block w.heap.size (by omega)).trans HX.out
    exact ⟨H0.out.trans (h.mono (by omega)), (HL.out.below h (by omega)).mono (by omega), (HTK.out.below h (by omega)).mono (by omega), cells_at0 hbk, cells_at1 hbk⟩)
  clear hl ht
  have HKE := hide (keB_eq n l T lim)
  have HRN := hide (fun (h : keB n l T lim = false) => show keR n l T lim = 0 from rb_no h)
  have HRY := hide (fun (h : keB n l T lim = true) => show keR n l T lim = (kbF (marksTo l l.length) (alC (coT T) lim) n.toNat [] 8 0 0 : Nat) from rb_yes h)
  cases hg : gvB n l T
  case false =>
    have HBN := hide (show keB n l T lim = false by rw [HKE.out, hg, Bool.false_and])
    have HR := hide (HRN.out HBN.out)
    rw [HBN.out]
    rw [hg] at HG
    clear hg
    go_enter Tryd.func29, Tryd.ntmps29
    go_wp2_with (first
      | (go_at_call 67; refine HG.out.mono ?_; rintro e w1 ⟨rfl, hb⟩; have HB1 := hide hb; have c0 := (HW.out _ hb).2.2.2.1; have c1 := (HW.out _ hb).2.2.2.2; have hz1 := hb.size; rw [HZ.out] at hz1; clear hb)
    )
    go_ret2
    exact ⟨by rw [HR.out]; rfl, (HW.out _ HB1.out).1⟩
  case true =>
    obtain ⟨hsp, hta⟩ := gv_in hg
    obtain ⟨hn1, hn7⟩ := okSp_n hsp
    have HRB := hide (show keB n l T lim = limB lim by rw [HKE.out, hg, Bool.true_and])
    obtain ⟨N, rfl⟩ := Int.eq_ofNat_of_zero_le (show 0 ≤ n by omega)
    rw [Int.toNat_natCast] at HRY
    rw [hg] at HG
    have HGR := hide (fun w1 h => grRun_c N v l u T lim (.slice none 0 0) [] w1 (HW.out w1 h).2.1 hlen (HW.out w1 h).2.2.1 hsp hta (.inl ⟨rfl, _, _, rfl⟩) (fun k hk => absurd hk (Nat.not_lt_zero k)))
    generalize marksTo l l.length = F at HGR HRY
    clear hg hsp hta
    cases hlb : limB lim
    · have HLB := hide (HRB.out.trans hlb)
      have HR := hide (HRN.out HLB.out)
      have HL0 := hide hlb
      rw [HLB.out]
      clear hlb
      go_enter Tryd.func29, Tryd.ntmps29
      go_wp2_with (first
        | (go_at_call 67; refine HG.out.mono ?_; rintro e w1 ⟨rfl, hb⟩; have HB1 := hide hb; have c0 := (HW.out _ hb).2.2.2.1; have c1 := (HW.out _ hb).2.2.2.2; have hz1 := hb.size; rw [HZ.out] at hz1; clear hb)
        | (go_at_call 68; refine (grCosts_c lim _).mono ?_; rw [HL0.out]; rintro e w2 ⟨rfl, rfl⟩)
      )
      go_ret2
      exact ⟨by rw [HR.out]; rfl, (HW.out _ HB1.out).1⟩
    · have HLB := hide (HRB.out.trans hlb)
      have HR := hide (HRY.out HLB.out)
      have HL0 := hide hlb
      rw [HLB.out]
      clear hlb
      go_enter Tryd.func29, Tryd.ntmps29
      go_wp2_with (first
        | (go_at_call 67; refine HG.out.mono ?_; rintro e w1 ⟨rfl, hb⟩; have HB1 := hide hb; have c0 := (HW.out _ hb).2.2.2.1; have c1 := (HW.out _ hb).2.2.2.2; have hz1 := hb.size; rw [HZ.out] at hz1; clear hb)
        | (go_at_call 68; refine (grCosts_c lim _).mono ?_; rw [HL0.out]; rintro e w2 ⟨rfl, rfl⟩)
        | (go_at_call 69; refine (HGR.out _ HB1.out).mono ?_; rintro e w4 ⟨rfl, hb4⟩; have HB4 := hide ((HW.out _ HB1.out).1.trans (hb4.mono (HW.out _ HB1.out).1.size)); clear hb4)
      )
      go_ret2
      exact ⟨by rw [HR.out]; rfl, HB4.out⟩
end Go.Proofs.YtdalbjpjnfjgfaaDoor
