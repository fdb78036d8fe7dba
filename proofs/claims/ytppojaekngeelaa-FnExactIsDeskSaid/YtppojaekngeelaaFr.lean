/- Contracts: the inner fringe and the greatest set within, the program's and the specification's. -/
import Derived.Test.YtppojaekngeelaaFam
namespace Go.Proofs.Ytppojaekngeelaa
open Go.RowKit
set_option maxRecDepth 100000
attribute [local irreducible] p2 low memB risB

def famN3 (n : Int) (l : List Int) (x : Int) : Int := if okOne n l x then n else 0
def famM3 (n : Int) (l : List Int) (x : Int) : Nat → Bool := if okOne n l x then marksTo l l.length else noSet
def famS3 (n : Int) (l : List Int) (x : Int) : Int := if okOne n l x then x else 0
def famVal3 (n : Int) (l : List Int) (x : Int) : Value := .tuple #[.agg (fam (famN3 n l x) (famM3 n l x)), .int .i64 (famS3 n l x), .bool (okOne n l x)]
theorem famVal3_no (n : Int) (l : List Int) (x : Int) (h : okOne n l x = false) : famVal3 n l x = .tuple #[.agg (fam 0 noSet), .int .i64 0, .bool false] := by
  simp [famVal3, famN3, famM3, famS3, h]
theorem famVal3_yes (n : Int) (l : List Int) (x : Int) (h : okOne n l x = true) : famVal3 n l x = .tuple #[.agg (fam n (marksTo l l.length)), .int .i64 x, .bool true] := by
  simp [famVal3, famN3, famM3, famS3, h]

set_option maxHeartbeats 800000 in
theorem familyAndOwnSet_c (n : Int) (v : Value) (l : List Int) (x : Int) (w : World) (hl : ints w.heap.size w v l) (hlen : l.length < 1000000000) :
    Calls Try.prog 20 #[.agg #[.int .i64 n, v], .int .i64 x] w fun e w' => e = .returned (famVal3 n l x) ∧ Below w.heap.size w w' := by
  have hf1 : famAt 44 ((w.alloc (.cells #[.int .i64 n, v] 24)).alloc (.cells (fam 0 noSet) 44)) (w.heap.size + 1) 0 noSet := by
    have := famAt.new 44 (w.alloc (.cells #[.int .i64 n, v] 24)) 0 noSet
    simpa using this
  have HB0 := hide (((Below.refl w.heap.size w).alloc (Nat.le_refl _) (.cells #[.int .i64 n, v] 24)).alloc (by simp) (.cells (fam 0 noSet) 44))
  have HL := hide (((hl.alloc (.cells #[.int .i64 n, v] 24)).alloc (.cells (fam 0 noSet) 44)).mono (show w.heap.size ≤ ((w.alloc (.cells #[.int .i64 n, v] 24)).alloc (.cells (fam 0 noSet) 44)).heap.size by simp; omega))
  clear hl
  cases hok : okSet n l x
  · have hno : okOne n l x = false := by
      cases h : okOne n l x
      · rfl
      · rw [okOne_set h] at hok; cases hok
    have HNO := hide hno
    have HK := hide hok
    clear hno hok
    go_enter Try.func20, Try.ntmps20
    go_wp2_with (first
      | (refine wpList_alloc_fam zeroT rfl rfl _ (by first | (simp only [World.size_alloc]; rfl) | rfl) ?_)
      | (go_at_call 27; refine (familyAndSet_c n v l x _ HL.out hlen).mono ?_; rw [famVal2_no n l x HK.out]; rintro e w1 ⟨rfl, hb1⟩; have hz1 := hb1.size; simp at hz1; have hf2 := (hf1.below hb1 (by simp)).alloc (.cells (fam 0 noSet) 44); have hg2 := hf2.rowO w1.heap.size (by omega) (fam 0 noSet); have HB1 := hide (bl_row ((HB0.out.trans (hb1.mono (by simp; omega))).alloc (by omega) (.cells (fam 0 noSet) 44)) (show w.heap.size ≤ w1.heap.size by omega) (fam 0 noSet)); clear hb1)
      | (refine wpList_store_fam sizeT rfl (.tmp 7) (.tmp _) rfl _ _ _ rfl rfl _ _ (famAt.new _ _ _ _) ?_)
      | (refine wpList_build_fam0 built0 rfl rfl ?_)
      | (refine wpList_store_fam sizeT rfl (.tmp 4) (.tmp _) rfl _ 0 noSet rfl rfl _ _ hg2 ?_))
    refine bodyPost_ret (v := .tuple #[.agg (fam 0 noSet), .int .i64 0, .bool false]) (results_fam3 (p := 4) (q := 5) (r := 6) rowT sizeT rfl _ _ (w.heap.size + 1) rfl _ _ (hg2.row _ _)) rfl ⟨by rw [famVal3_no n l x HNO.out], bl_row HB1.out (by omega) _⟩
  · obtain ⟨hi0, hi1⟩ := okSet_in hok
    have hlo := low_lt n.toNat (by have := okSp_n (okSet_sp hok); omega)
    obtain ⟨s, rfl⟩ := Int.eq_ofNat_of_zero_le hi0
    have hs : s < 128 := by omega
    have HV := hide (show okOne n l (s : Int) = marksTo l l.length s by rw [okSp_marks (okSet_sp hok)]; simp [okOne, okSet_sp hok])
    have HK := hide hok
    clear hok hi0 hi1 hlo
    cases hm : marksTo l l.length s
    · have HM := hide hm
      clear hm
      go_enter Try.func20, Try.ntmps20
      go_wp2_with (first
        | (refine wpList_alloc_fam zeroT rfl rfl _ (by first | (simp only [World.size_alloc]; rfl) | rfl) ?_)
        | (go_at_call 27; refine (familyAndSet_c n v l s _ HL.out hlen).mono ?_; rw [famVal2_yes n l s HK.out]; rintro e w1 ⟨rfl, hb1⟩; have hz1 := hb1.size; simp at hz1; have hf2 := (hf1.below hb1 (by simp)).alloc (.cells (fam 0 noSet) 44); have hg2 := hf2.rowO w1.heap.size (by omega) (fam n (marksTo l l.length)); have hh2 := (famAt.new 44 w1 0 noSet).row n (marksTo l l.length); have hc := hh2.get s hs; rw [HM.out] at hc; have HB1 := hide (bl_row ((HB0.out.trans (hb1.mono (by simp; omega))).alloc (by omega) (.cells (fam 0 noSet) 44)) (show w.heap.size ≤ w1.heap.size by omega) (fam n (marksTo l l.length))); clear hb1)
        | (refine wpList_store_fam sizeT rfl (.tmp 7) (.tmp _) rfl _ _ _ rfl rfl _ _ (famAt.new _ _ _ _) ?_)
        | (refine wpList_build_fam0 built0 rfl rfl ?_)
        | (refine wpList_store_fam sizeT rfl (.tmp 4) (.tmp _) rfl _ 0 noSet rfl rfl _ _ hg2 ?_))
      refine bodyPost_ret (v := .tuple #[.agg (fam 0 noSet), .int .i64 0, .bool false]) (results_fam3 (p := 4) (q := 5) (r := 6) rowT sizeT rfl _ _ (w.heap.size + 1) rfl _ _ (hg2.row _ _)) rfl ⟨by rw [famVal3_no n l s (HV.out.trans HM.out)], bl_row HB1.out (by omega) _⟩
    · have HM := hide hm
      clear hm
      go_enter Try.func20, Try.ntmps20
      go_wp2_with (first
        | (refine wpList_alloc_fam zeroT rfl rfl _ (by first | (simp only [World.size_alloc]; rfl) | rfl) ?_)
        | (go_at_call 27; refine (familyAndSet_c n v l s _ HL.out hlen).mono ?_; rw [famVal2_yes n l s HK.out]; rintro e w1 ⟨rfl, hb1⟩; have hz1 := hb1.size; simp at hz1; have hf2 := (hf1.below hb1 (by simp)).alloc (.cells (fam 0 noSet) 44); have hg2 := hf2.rowO w1.heap.size (by omega) (fam n (marksTo l l.length)); have hh2 := (famAt.new 44 w1 0 noSet).row n (marksTo l l.length); have hc := hh2.get s hs; rw [HM.out] at hc; have HB1 := hide (bl_row ((HB0.out.trans (hb1.mono (by simp; omega))).alloc (by omega) (.cells (fam 0 noSet) 44)) (show w.heap.size ≤ w1.heap.size by omega) (fam n (marksTo l l.length))); clear hb1)
        | (refine wpList_store_fam sizeT rfl (.tmp 7) (.tmp _) rfl _ _ _ rfl rfl _ _ (famAt.new _ _ _ _) ?_)
        | (refine wpList_load_fam rowT sizeT rfl (.tmp _) rfl _ rfl n _ hh2 ?_)
        | (refine wpList_store_fam sizeT rfl (.tmp 4) (.tmp _) rfl _ n (marksTo l l.length) rfl rfl _ _ hg2 ?_))
      refine bodyPost_ret (v := .tuple #[.agg (fam n (marksTo l l.length)), .int .i64 (s : Int), .bool true]) (results_fam3 (p := 4) (q := 5) (r := 6) rowT sizeT rfl _ _ (w.heap.size + 1) rfl _ _ (hg2.row _ _)) rfl ⟨by rw [famVal3_yes n l s (HV.out.trans HM.out)], bl_row HB1.out (by omega) _⟩

/-! ### The inner fringe -/
def innerR (n : Int) (l : List Int) (x : Int) : Int := if okOne n l x then (itemsOf (innerSp l x.toNat) 7 : Int) else 0
theorem innerR_no {n : Int} {l : List Int} {x : Int} (h : okOne n l x = false) : innerR n l x = 0 := by simp [innerR, h]
theorem innerR_yes {n : Int} {l : List Int} {x : Int} (h : okOne n l x = true) : innerR n l x = (itemsOf (innerSp l x.toNat) 7 : Int) := by simp [innerR, h]
theorem okOne_sp {n : Int} {l : List Int} {x : Int} (h : okOne n l x = true) : okSp n l = true := by
  simp only [okOne, Bool.and_eq_true] at h; exact h.1

end Go.Proofs.Ytppojaekngeelaa
