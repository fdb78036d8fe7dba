/- Contracts: the family of the paths, and the width, the program's. -/
import Derived.Test.YtblglkgmnaklbaaWda
import Derived.Test.YtblglkgmnaklbaaFwh
namespace Go.Proofs.Ytblglkgmnaklbaa
open Go.RowKit
set_option maxRecDepth 100000
set_option linter.unusedSimpArgs false
/-- The paths of a family. -/
def phF (m : Nat) (F : Nat → Bool) : Nat → Bool := cutAt (pathF F m) (low m + 1)
theorem phF_lt {m : Nat} (hm : m ≤ 7) {F : Nat → Bool} {x : Nat} (h : phF m F x = true) : x < 128 := by
  unfold phF cutAt at h
  rw [Bool.and_eq_true, decide_eq_true_eq] at h
  have := low_lt m hm
  omega
theorem phF_zero {m : Nat} {F : Nat → Bool} : phF m F 0 = false := by
  cases h : phF m F 0
  · rfl
  · unfold phF cutAt pathF at h
    rw [Bool.and_eq_true, Bool.and_eq_true] at h
    have h1 : innerOf F m 0 ≠ 0 := by
      intro e
      have := h.2.2
      rw [e] at this
      revert this; decide
    obtain ⟨i, _, h2, _⟩ := inner_some.1 h1
    rw [Nat.zero_testBit] at h2; cases h2
theorem ent_isPath : enters Try.prog 46 := enters_of Try.func46 (by kernel_rfl) (by kernel_rfl)
attribute [local irreducible] p2 low memB risB famAt own
set_option maxHeartbeats 1000000 in
theorem paths_c (m : Nat) (F : Nat → Bool) (w : World) (hm7 : m ≤ 7) :
    Calls Try.prog 31 #[.agg (fam (m : Int) F)] w fun e w' => e = .returned (.agg (fam (m : Int) (phF m F))) ∧ Below w.heap.size w w' := by
  have hlo := low_lt m hm7
  have hls := low_succ m
  have hp2 : 2 ^ m ≤ 128 := by omega
  have HF := hide (show famAt 48 ((w.alloc (.cells (fam (m : Int) F) 48)).alloc (.cells (fam 0 noSet) 48)) w.heap.size (m : Int) F from (famAt.new 48 w (m : Int) F).alloc _)
  have hg0 := HF.out.get0
  have HR := hide (show famAt 48 ((w.alloc (.cells (fam (m : Int) F) 48)).alloc (.cells (fam 0 noSet) 48)) (w.heap.size + 1) 0 noSet by have h := famAt.new 48 (w.alloc (.cells (fam (m : Int) F) 48)) 0 noSet; simpa using h)
  have HB0 := hide (((Below.refl w.heap.size w).alloc (Nat.le_refl _) (.cells (fam (m : Int) F) 48)).alloc (by simp) (.cells (fam 0 noSet) 48))
  have HZ := hide (show ((w.alloc (.cells (fam (m : Int) F) 48)).alloc (.cells (fam 0 noSet) 48)).heap.size = w.heap.size + 2 by simp)
  have HFW := hide (fun w1 => familyWhere_c m 46 #[.agg (fam (m : Int) F)] #[] (pathF F m) w1 hm7 ent_isPath (fun s w2 hs _ => by
    have h := isPath_c (m : Int) F s w2 (by omega) (by omega) (by omega)
    rw [Int.toNat_natCast] at h
    exact h))
  rw [show cutAt (pathF F m) (low m + 1) = phF m F from rfl] at HFW
  generalize phF m F = G at *
  go_enter Try.func31, Try.ntmps31
  go_wp2_with (first
    | (refine wpList_alloc_fam zeroT rfl rfl _ (by first | (simp only [World.size_alloc]; rfl) | rfl) ?_)
    | (refine wpList_load_fam rowT sizeT rfl (.tmp 1) rfl w.heap.size rfl (m : Int) F HF.out ?_)
    | (go_at_call 45; refine (HFW.out _).mono ?_; rintro e w1 ⟨rfl, hb1⟩; have hz1 := hb1.size; rw [HZ.out] at hz1 hb1; have HR1 := hide (HR.out.below hb1 (by omega)); have HB1 := hide (HB0.out.trans (hb1.mono (by omega))); clear hb1)
    | (refine wpList_store_fam sizeT rfl (.tmp 2) (.tmp _) rfl (w.heap.size + 1) (m : Int) G rfl rfl 0 noSet HR1.out ?_))
  exact bodyPost_ret (v := .agg (fam (m : Int) G)) (results_fam rowT sizeT rfl _ _ (w.heap.size + 1) rfl _ _ (HR1.out.row _ _)) rfl ⟨rfl, bl_row HB1.out (by omega) _⟩
/-- The width of a space. -/
def wiN (n : Int) (l : List Int) : Int := if okSp n l then (wdN n.toNat (phF n.toNat (marksTo l l.length)) : Int) else 0
theorem wd_none : wdN 0 (phF 0 noSet) = 0 := by
  have h : ∀ x, phF 0 noSet x = false := fun x => by unfold phF cutAt pathF noSet; simp
  unfold wdN
  have h2 : setsTo (wdF 0 (phF 0 noSet)) 128 = [] := by
    have : wdF 0 (phF 0 noSet) = noSet := by
      funext x
      cases e : wdF 0 (phF 0 noSet) x
      · rfl
      · have := ((rmTo_iff _ _ x 128).1 e).1
        rw [h x] at this; cases this
    rw [this]
    exact (by decide +kernel : ([] : List Int) = setsTo noSet 128).symm
  rw [h2]; rfl
set_option maxHeartbeats 4000000 in
theorem implWidthOf_c (n : Int) (v : Value) (l : List Int) (w : World) (hl : ints w.heap.size w v l) (hlen : l.length < 1000000000) :
    Calls Try.prog 10 #[.agg #[.int .i64 n, v]] w fun e w' => e = .returned (.tuple #[.int .i64 (wiN n l), .bool (okSp n l)]) ∧ Below w.heap.size w w' := by
  have HL := hide ((hl.alloc (.cells #[.int .i64 n, v] 28)).mono (show w.heap.size ≤ (w.alloc (.cells #[.int .i64 n, v] 28)).heap.size by simp))
  have H0 := hide ((Below.refl w.heap.size w).alloc (Nat.le_refl _) (.cells #[.int .i64 n, v] 28))
  have HZ := hide (show (w.alloc (.cells #[.int .i64 n, v] 28)).heap.size = w.heap.size + 1 by simp)
  clear hl
  obtain ⟨N, F, b, hv, hN, hb, hr⟩ : ∃ (N : Nat) (F : Nat → Bool) (b : Bool), famVal n l = .tuple #[.agg (fam (N : Int) F), .bool b] ∧ N ≤ 7 ∧ okSp n l = b ∧ wiN n l = (wdN N (phF N F) : Int) := by
    cases hok : okSp n l
    · exact ⟨0, noSet, false, famVal_no n l hok, by omega, rfl, by unfold wiN; rw [hok, wd_none]; rfl⟩
    · have hn := okSp_n hok
      obtain ⟨N, rfl⟩ := Int.eq_ofNat_of_zero_le (show 0 ≤ n by omega)
      exact ⟨N, marksTo l l.length, true, famVal_yes _ l hok, by omega, rfl, by unfold wiN; rw [hok, Int.toNat_natCast]; rfl⟩
  have HV := hide hv
  have HPA := hide (fun w1 => paths_c N F w1 hN)
  have HWD := hide (fun w1 => width_c N (phF N F) w1 hN phF_zero (fun x h => phF_lt hN h))
  rw [hb, hr]
  clear hv hb hr
  generalize phF N F = G at *
  generalize wdN N G = r at *
  go_enter Try.func10, Try.ntmps10
  go_wp2_with (first
    | (go_at_call 30; refine (familyOf_c n v l _ HL.out hlen).mono ?_; rw [HV.out]; rintro e w1 ⟨rfl, hb⟩; have hz1 := hb.size; rw [HZ.out] at hz1; have HH := hide ((famAt.new 48 w1 0 noSet).row (N : Int) F); have HB := hide (bl_row ((H0.out.trans (hb.mono (by rw [HZ.out]; omega))).alloc (by omega) (.cells (fam 0 noSet) 48)) (show w.heap.size ≤ w1.heap.size by omega) (fam (N : Int) F)); clear hb)
    | (refine wpList_alloc_fam zeroT rfl rfl _ (by first | (simp only [World.size_alloc]; rfl) | rfl) ?_)
    | (refine wpList_store_fam sizeT rfl (.tmp _) (.tmp _) rfl w1.heap.size _ _ rfl rfl _ _ (famAt.new _ _ _ _) ?_)
    | (refine wpList_load_fam rowT sizeT rfl (.tmp 4) rfl w1.heap.size rfl (N : Int) F HH.out ?_)
    | (go_at_call 31; refine (HPA.out _).mono ?_; rintro e w2 ⟨rfl, hb2⟩; have HB2 := hide (HB.out.trans (hb2.mono HB.out.size)); clear hb2)
    | (go_at_call 32; refine (HWD.out _).mono ?_; rintro e w3 ⟨rfl, hb3⟩; have HB3 := hide (HB2.out.trans (hb3.mono HB2.out.size)); clear hb3))
  go_ret2
  exact ⟨rfl, HB3.out⟩
end Go.Proofs.Ytblglkgmnaklbaa
