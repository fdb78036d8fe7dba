/- Contracts: a space's family with a set of its items, or with one of its Sets; the specification's tests for both. -/
import Derived.Test.YtppojaekngeelaaDoorIs
import Derived.Test.YtppojaekngeelaaDoorSame
namespace Go.Proofs.YtppojaekngeelaaDoor
open Go.RowKit
set_option maxRecDepth 100000
attribute [local irreducible] p2 low memB risB

def okSet (n : Int) (l : List Int) (x : Int) : Bool := okSp n l && decide (0 ≤ x ∧ x ≤ (low n.toNat : Int))
def famN2 (n : Int) (l : List Int) (x : Int) : Int := if okSet n l x then n else 0
def famM2 (n : Int) (l : List Int) (x : Int) : Nat → Bool := if okSet n l x then marksTo l l.length else noSet
def famS2 (n : Int) (l : List Int) (x : Int) : Int := if okSet n l x then x else 0
def famVal2 (n : Int) (l : List Int) (x : Int) : Value := .tuple #[.agg (fam (famN2 n l x) (famM2 n l x)), .int .i64 (famS2 n l x), .bool (okSet n l x)]
theorem famVal2_no (n : Int) (l : List Int) (x : Int) (h : okSet n l x = false) : famVal2 n l x = .tuple #[.agg (fam 0 noSet), .int .i64 0, .bool false] := by
  simp [famVal2, famN2, famM2, famS2, h]
theorem famVal2_yes (n : Int) (l : List Int) (x : Int) (h : okSet n l x = true) : famVal2 n l x = .tuple #[.agg (fam n (marksTo l l.length)), .int .i64 x, .bool true] := by
  simp [famVal2, famN2, famM2, famS2, h]
theorem okSp_n {n : Int} {l : List Int} (h : okSp n l = true) : 1 ≤ n ∧ n ≤ 7 := by
  simp only [okSp, Bool.and_eq_true, decide_eq_true_eq] at h
  exact h.1.1

set_option maxHeartbeats 800000 in
theorem familyAndSet_c (n : Int) (v : Value) (l : List Int) (x : Int) (w : World) (hl : ints w.heap.size w v l) (hlen : l.length < 1000000000) :
    Calls Tryd.prog 48 #[.agg #[.int .i64 n, v], .int .i64 x] w fun e w' => e = .returned (famVal2 n l x) ∧ Below w.heap.size w w' := by
  have hf1 : famAt 45 ((w.alloc (.cells #[.int .i64 n, v] 28)).alloc (.cells (fam 0 noSet) 45)) (w.heap.size + 1) 0 noSet := by
    have := famAt.new 45 (w.alloc (.cells #[.int .i64 n, v] 28)) 0 noSet
    simpa using this
  have HB0 := hide (((Below.refl w.heap.size w).alloc (Nat.le_refl _) (.cells #[.int .i64 n, v] 28)).alloc (by simp) (.cells (fam 0 noSet) 45))
  have HL := hide (((hl.alloc (.cells #[.int .i64 n, v] 28)).alloc (.cells (fam 0 noSet) 45)).mono (show w.heap.size ≤ ((w.alloc (.cells #[.int .i64 n, v] 28)).alloc (.cells (fam 0 noSet) 45)).heap.size by simp; omega))
  clear hl
  cases hok : okSp n l
  · have hno : okSet n l x = false := by simp [okSet, hok]
    have HNO := hide hno
    have HK := hide hok
    clear hno hok
    go_enter Tryd.func48, Tryd.ntmps48
    go_wp2_with (first
      | (refine wpList_alloc_fam zeroT rfl rfl _ (by first | (simp only [World.size_alloc]; rfl) | rfl) ?_)
      | (go_at_call 23; refine (familyOf_c n v l _ HL.out hlen).mono ?_; rw [famVal_no n l HK.out]; rintro e w1 ⟨rfl, hb1⟩; have hz1 := hb1.size; simp at hz1; have hf2 := (hf1.below hb1 (by simp)).alloc (.cells (fam 0 noSet) 45); have hg2 := hf2.rowO w1.heap.size (by omega) (fam 0 noSet); have HB1 := hide (bl_row ((HB0.out.trans (hb1.mono (by simp; omega))).alloc (by omega) (.cells (fam 0 noSet) 45)) (show w.heap.size ≤ w1.heap.size by omega) (fam 0 noSet)); clear hb1)
      | (refine wpList_store_fam sizeT rfl (.tmp 7) (.tmp _) rfl _ _ _ rfl rfl _ _ (famAt.new _ _ _ _) ?_)
      | (refine wpList_build_fam0 built0 rfl rfl ?_)
      | (refine wpList_store_fam sizeT rfl (.tmp 4) (.tmp _) rfl _ 0 noSet rfl rfl _ _ hg2 ?_))
    refine bodyPost_ret (v := .tuple #[.agg (fam 0 noSet), .int .i64 0, .bool false]) (results_fam3 (p := 4) (q := 5) (r := 6) rowT sizeT rfl _ _ (w.heap.size + 1) rfl _ _ (hg2.row _ _)) rfl ⟨by rw [famVal2_no n l x HNO.out], bl_row HB1.out (by omega) _⟩
  · obtain ⟨hn1, hn2⟩ := okSp_n hok
    by_cases hin : 0 ≤ x ∧ x ≤ (low n.toNat : Int)
    · have hyes : okSet n l x = true := by simp [okSet, hok, hin]
      have HYES := hide hyes
      have HK := hide hok
      have HI := hide hin
      clear hyes hok hin
      go_enter Tryd.func48, Tryd.ntmps48
      go_wp2_with (first
        | (refine wpList_alloc_fam zeroT rfl rfl _ (by first | (simp only [World.size_alloc]; rfl) | rfl) ?_)
        | (go_at_call 23; refine (familyOf_c n v l _ HL.out hlen).mono ?_; rw [famVal_yes n l HK.out]; rintro e w1 ⟨rfl, hb1⟩; have hz1 := hb1.size; simp at hz1; have hf2 := (hf1.below hb1 (by simp)).alloc (.cells (fam 0 noSet) 45); have hg2 := hf2.rowO w1.heap.size (by omega) (fam n (marksTo l l.length)); have hh2 := (famAt.new 45 w1 0 noSet).row n (marksTo l l.length); have HB1 := hide (bl_row ((HB0.out.trans (hb1.mono (by simp; omega))).alloc (by omega) (.cells (fam 0 noSet) 45)) (show w.heap.size ≤ w1.heap.size by omega) (fam n (marksTo l l.length))); clear hb1)
        | (refine wpList_store_fam sizeT rfl (.tmp 7) (.tmp _) rfl _ _ _ rfl rfl _ _ (famAt.new _ _ _ _) ?_)
        | (refine wpList_load_fam rowT sizeT rfl (.tmp _) rfl _ rfl n _ (by assumption) ?_)
        | (go_at_call 40; refine (isSet_c _ _ _ _ (by omega) (by omega)).mono ?_; rw [decide_eq_true HI.out]; rintro e w3 ⟨rfl, hb3⟩; have hz3 := hb3.size; simp [World.setRow] at hz3; have hg3 := hg2.below hb3 hg2.lt; have hh3 := hh2.below hb3 hh2.lt; have HB3 := hide (HB1.out.trans (hb3.mono (by simp [World.setRow]; omega))); clear hb3)
        | (refine wpList_store_fam sizeT rfl (.tmp 4) (.tmp _) rfl _ n (marksTo l l.length) rfl rfl _ _ hg3 ?_))
      refine bodyPost_ret (v := .tuple #[.agg (fam n (marksTo l l.length)), .int .i64 x, .bool true]) (results_fam3 (p := 4) (q := 5) (r := 6) rowT sizeT rfl _ _ (w.heap.size + 1) rfl _ _ (hg3.row _ _)) rfl ⟨by rw [famVal2_yes n l x HYES.out], bl_row HB3.out (by omega) _⟩
    · have hno : okSet n l x = false := by simp only [okSet, decide_eq_false hin, Bool.and_false]
      have HNO := hide hno
      have HK := hide hok
      have HI := hide hin
      clear hno hok hin
      go_enter Tryd.func48, Tryd.ntmps48
      go_wp2_with (first
        | (refine wpList_alloc_fam zeroT rfl rfl _ (by first | (simp only [World.size_alloc]; rfl) | rfl) ?_)
        | (go_at_call 23; refine (familyOf_c n v l _ HL.out hlen).mono ?_; rw [famVal_yes n l HK.out]; rintro e w1 ⟨rfl, hb1⟩; have hz1 := hb1.size; simp at hz1; have hf2 := (hf1.below hb1 (by simp)).alloc (.cells (fam 0 noSet) 45); have hg2 := hf2.rowO w1.heap.size (by omega) (fam n (marksTo l l.length)); have hh2 := (famAt.new 45 w1 0 noSet).row n (marksTo l l.length); have HB1 := hide (bl_row ((HB0.out.trans (hb1.mono (by simp; omega))).alloc (by omega) (.cells (fam 0 noSet) 45)) (show w.heap.size ≤ w1.heap.size by omega) (fam n (marksTo l l.length))); clear hb1)
        | (refine wpList_store_fam sizeT rfl (.tmp 7) (.tmp _) rfl _ _ _ rfl rfl _ _ (famAt.new _ _ _ _) ?_)
        | (refine wpList_load_fam rowT sizeT rfl (.tmp _) rfl _ rfl n _ (by assumption) ?_)
        | (go_at_call 40; refine (isSet_c _ _ _ _ (by omega) (by omega)).mono ?_; rw [decide_eq_false HI.out]; rintro e w3 ⟨rfl, hb3⟩; have hg3 := hg2.below hb3 hg2.lt; have HB3 := hide (HB1.out.trans (hb3.mono (by simp [World.setRow]; omega))); clear hb3)
        | (refine wpList_build_fam0 built0 rfl rfl ?_)
        | (refine wpList_store_fam sizeT rfl (.tmp 4) (.tmp _) rfl _ 0 noSet rfl rfl _ _ hg3 ?_))
      refine bodyPost_ret (v := .tuple #[.agg (fam 0 noSet), .int .i64 0, .bool false]) (results_fam3 (p := 4) (q := 5) (r := 6) rowT sizeT rfl _ _ (w.heap.size + 1) rfl _ _ (hg3.row _ _)) rfl ⟨by rw [famVal2_no n l x HNO.out], bl_row HB3.out (by omega) _⟩

def okOne (n : Int) (l : List Int) (x : Int) : Bool := okSp n l && memB l x
theorem okSp_range {n : Int} {l : List Int} (h : okSp n l = true) : risB 0 (low n.toNat) l l.length = true := by
  simp only [okSp, Bool.and_eq_true] at h
  rw [← rising_ris]; exact h.1.2
theorem okSp_inc {n : Int} {l : List Int} (h : okSp n l = true) : inc l := risB_inc _ _ _ (okSp_range h)
theorem okSp_pos {n : Int} {l : List Int} (h : okSp n l = true) : ∀ j, j < l.length → 0 ≤ l[j]?.getD 0 ∧ l[j]?.getD 0 ≤ (low n.toNat : Int) := fun j hj => (risB_at _ _ l _ (okSp_range h) j hj).1
theorem okSp_marks {n : Int} {l : List Int} (h : okSp n l = true) (x : Nat) : marksTo l l.length x = memB l (x : Int) := marks_mem l (fun j hj => (okSp_pos h j hj).1) x
theorem okOne_set {n : Int} {l : List Int} {x : Int} (h : okOne n l x = true) : okSet n l x = true := by
  simp only [okOne, Bool.and_eq_true] at h
  obtain ⟨h1, h2⟩ := h
  obtain ⟨j, hj, e⟩ := (mem_iff l x).1 h2
  have := okSp_pos h1 j hj
  simp only [okSet, h1, Bool.true_and, decide_eq_true_eq]
  omega
theorem okSet_sp {n : Int} {l : List Int} {x : Int} (h : okSet n l x = true) : okSp n l = true := by
  simp only [okSet, Bool.and_eq_true] at h; exact h.1
theorem okSet_in {n : Int} {l : List Int} {x : Int} (h : okSet n l x = true) : 0 ≤ x ∧ x ≤ (low n.toNat : Int) := by
  simp only [okSet, Bool.and_eq_true, decide_eq_true_eq] at h; exact h.2

theorem spOne_c (n : Int) (v : Value) (l : List Int) (x : Int) (w : World) (hl : ints w.heap.size w v l) (hlen : l.length < 1000000000) :
    Calls Tryd.prog 27 #[.agg #[.int .i64 n, v], .int .i64 x] w fun e w' => e = .returned (.bool (okOne n l x)) ∧ Below w.heap.size w w' := by
  have HL := hide ((hl.alloc (.cells #[.int .i64 n, v] 28)).mono (show w.heap.size ≤ (w.alloc (.cells #[.int .i64 n, v] 28)).heap.size by simp))
  clear hl
  cases hok : okSp n l
  · have hg : goodB n l = false := by rw [← ok_good]; exact hok
    have HG := hide hg
    have HNO := hide (show okOne n l x = false by simp [okOne, hok])
    clear hg hok
    go_enter Tryd.func27, Tryd.ntmps27
    go_wp2_with (go_at_call 20; refine (spGood_c n v l _ HL.out hlen).mono ?_; rw [HG.out]; rintro e w' ⟨rfl, hb⟩)
    go_ret
    exact ⟨ret_b HNO.out.symm, ((Below.refl _ _).alloc (Nat.le_refl _) _).trans (hb.mono (by simp))⟩
  · have hg : goodB n l = true := by rw [← ok_good]; exact hok
    have HG := hide hg
    have HV := hide (show okOne n l x = memB l x by simp [okOne, hok])
    have HI := hide (okSp_inc hok)
    clear hg hok
    go_enter Tryd.func27, Tryd.ntmps27
    go_wp2_with (first
      | (go_at_call 20; refine (spGood_c _ v l _ HL.out hlen).mono ?_; rw [HG.out]; rintro e w1 ⟨rfl, hb⟩; have c1 : w1.cell? ⟨w.heap.size, 1, none⟩ = some v := by (rw [hb.cell (p := ⟨w.heap.size, 1, none⟩) (by simp)]; simp))
      | (go_at_call 36; refine (spHas_c v l x _ ((HL.out.below hb (Nat.le_refl _)).mono hb.size) HI.out hlen).mono ?_; rw [← HV.out]; rintro e w' ⟨rfl, rfl⟩))
    go_ret
    exact ⟨rfl, ((Below.refl _ _).alloc (Nat.le_refl _) _).trans (hb.mono (by simp))⟩

end Go.Proofs.YtppojaekngeelaaDoor
