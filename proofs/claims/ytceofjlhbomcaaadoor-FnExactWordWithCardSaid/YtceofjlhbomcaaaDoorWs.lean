/- Contracts: IsWord and SetOfWord, the program's and the specification's. -/
import Derived.Test.YtceofjlhbomcaaaDoorWo
namespace Go.Proofs.YtceofjlhbomcaaaDoor
open Go.RowKit
set_option maxRecDepth 100000
attribute [local irreducible] p2 low memB risB

/-- Whether n and l are a space and m a word of it. -/
def okWd (n : Int) (l m : List Int) : Bool := okSp n l && wordB (marksTo l l.length) n.toNat m
def wdS (n : Int) (l m : List Int) : Int := if okWd n l m then (setTo m m.length : Int) else 0
theorem wd_spec {n : Int} {l : List Int} (h : okSp n l = true) (m : List Int) : wordB (fun x => memB l (x : Int)) n.toNat m = wordB (marksTo l l.length) n.toNat m := by
  obtain ⟨h1, h2⟩ := okSp_n h
  exact wordTo_congr (by omega) (fun x _ => (okSp_marks h x).symm) m.length
theorem wd_specS {n : Int} {l : List Int} (h : okSp n l = true) (m : List Int) : (wordS (fun x => memB l (x : Int)) n.toNat m : Int) = wdS n l m := by
  unfold wordS wdS okWd
  rw [wd_spec h, h, Bool.true_and]
  split <;> rfl
theorem wd_implS {n : Int} {l : List Int} (h : okSp n l = true) (m : List Int) : (wordS (marksTo l l.length) n.toNat m : Int) = wdS n l m := by
  unfold wordS wdS okWd
  rw [h, Bool.true_and]
  split <;> rfl
theorem okWd_sp {n : Int} {l m : List Int} (h : okWd n l m = true) : okSp n l = true := by
  simp only [okWd, Bool.and_eq_true] at h; exact h.1
theorem okWd_no {n : Int} {l m : List Int} (h : okSp n l = false) : okWd n l m = false := by simp [okWd, h]
theorem okWd_yes {n : Int} {l m : List Int} (h : okSp n l = true) : okWd n l m = wordB (marksTo l l.length) n.toNat m := by simp [okWd, h]
theorem wdS_no {n : Int} {l m : List Int} (h : okWd n l m = false) : wdS n l m = 0 := by simp [wdS, h]
theorem wdS_yes {n : Int} {l m : List Int} (h : okWd n l m = true) : wdS n l m = (setTo m m.length : Int) := by simp [wdS, h]

/-- The family of a space with a word of it, or the empty one. -/
def famN4 (n : Int) (l m : List Int) : Int := if okWd n l m then n else 0
def famM4 (n : Int) (l m : List Int) : Nat → Bool := if okWd n l m then marksTo l l.length else noSet
def famVal4 (n : Int) (l m : List Int) : Value := .tuple #[.agg (fam (famN4 n l m) (famM4 n l m)), .int .i64 (wdS n l m), .bool (okWd n l m)]
theorem famVal4_no (n : Int) (l m : List Int) (h : okWd n l m = false) : famVal4 n l m = .tuple #[.agg (fam 0 noSet), .int .i64 0, .bool false] := by
  simp [famVal4, famN4, famM4, h, wdS_no h]
theorem famVal4_yes (n : Int) (l m : List Int) (h : okWd n l m = true) : famVal4 n l m = .tuple #[.agg (fam n (marksTo l l.length)), .int .i64 (setTo m m.length : Int), .bool true] := by
  simp [famVal4, famN4, famM4, h, wdS_yes h]

set_option maxHeartbeats 1000000 in
theorem familyAndWord_c (n : Int) (v : Value) (l : List Int) (u : Value) (m : List Int) (w : World) (hl : ints w.heap.size w v l) (hlen : l.length < 1000000000) (hm : ints w.heap.size w u m) (hml : m.length < 1000000000) :
    Calls Tryd.prog 73 #[.agg #[.int .i64 n, v], u] w fun e w' => e = .returned (famVal4 n l m) ∧ Below w.heap.size w w' := by
  have hf1 : famAt 61 ((w.alloc (.cells #[.int .i64 n, v] 28)).alloc (.cells (fam 0 noSet) 61)) (w.heap.size + 1) 0 noSet := by
    have := famAt.new 61 (w.alloc (.cells #[.int .i64 n, v] 28)) 0 noSet
    simpa using this
  have HB0 := hide (((Below.refl w.heap.size w).alloc (Nat.le_refl _) (.cells #[.int .i64 n, v] 28)).alloc (by simp) (.cells (fam 0 noSet) 61))
  have HL := hide (((hl.alloc (.cells #[.int .i64 n, v] 28)).alloc (.cells (fam 0 noSet) 61)).mono (show w.heap.size ≤ ((w.alloc (.cells #[.int .i64 n, v] 28)).alloc (.cells (fam 0 noSet) 61)).heap.size by simp; omega))
  have HM := hide ((hm.alloc (.cells #[.int .i64 n, v] 28)).alloc (.cells (fam 0 noSet) 61))
  clear hl hm
  cases hok : okSp n l
  · have hno : okWd n l m = false := okWd_no hok
    have HNO := hide hno
    have HK := hide hok
    clear hno hok
    go_enter Tryd.func73, Tryd.ntmps73
    go_wp2_with (first
      | (refine wpList_alloc_fam zeroT rfl rfl _ (by first | (simp only [World.size_alloc]; rfl) | rfl) ?_)
      | (go_at_call 50; refine (familyOf_c n v l _ HL.out hlen).mono ?_; rw [famVal_no n l HK.out]; rintro e w1 ⟨rfl, hb1⟩; have hz1 := hb1.size; simp at hz1; have hf2 := (hf1.below hb1 (by simp)).alloc (.cells (fam 0 noSet) 61); have hg2 := hf2.rowO w1.heap.size (by omega) (fam 0 noSet); have HB1 := hide (bl_row ((HB0.out.trans (hb1.mono (by simp; omega))).alloc (by omega) (.cells (fam 0 noSet) 61)) (show w.heap.size ≤ w1.heap.size by omega) (fam 0 noSet)); clear hb1)
      | (refine wpList_store_fam sizeT rfl (.tmp 7) (.tmp _) rfl _ _ _ rfl rfl _ _ (famAt.new _ _ _ _) ?_)
      | (refine wpList_build_fam0 built0 rfl rfl ?_)
      | (refine wpList_store_fam sizeT rfl (.tmp 4) (.tmp _) rfl _ 0 noSet rfl rfl _ _ hg2 ?_))
    refine bodyPost_ret (v := .tuple #[.agg (fam 0 noSet), .int .i64 0, .bool false]) (results_fam3 (p := 4) (q := 5) (r := 6) rowT sizeT rfl _ _ (w.heap.size + 1) rfl _ _ (hg2.row _ _)) rfl ⟨by rw [famVal4_no n l m HNO.out], bl_row HB1.out (by omega) _⟩
  · obtain ⟨hn1, hn2⟩ := okSp_n hok
    have HE := hide (okWd_yes (m := m) hok)
    have HE2 := hide (wd_implS hok m)
    have HK := hide hok
    clear hok
    cases hwd : okWd n l m
    all_goals
      have HW := hide hwd
      clear hwd
      go_enter Tryd.func73, Tryd.ntmps73
      go_wp2_with (first
        | (refine wpList_alloc_fam zeroT rfl rfl _ (by first | (simp only [World.size_alloc]; rfl) | rfl) ?_)
        | (go_at_call 50; refine (familyOf_c n v l _ HL.out hlen).mono ?_; rw [famVal_yes n l HK.out]; rintro e w1 ⟨rfl, hb1⟩; have hz1 := hb1.size; simp at hz1; have hf2 := (hf1.below hb1 (by simp)).alloc (.cells (fam 0 noSet) 61); have hg2 := hf2.rowO w1.heap.size (by omega) (fam n (marksTo l l.length)); have hh2 := (famAt.new 61 w1 0 noSet).row n (marksTo l l.length); have HM2 := hide (((HM.out.below hb1 (by simp; omega)).alloc (.cells (fam 0 noSet) 61)).below (bl_row (Below.refl w.heap.size _) (show w.heap.size ≤ w1.heap.size by omega) (fam n (marksTo l l.length))) (Nat.le_refl _)); have HB1 := hide (bl_row ((HB0.out.trans (hb1.mono (by simp; omega))).alloc (by omega) (.cells (fam 0 noSet) 61)) (show w.heap.size ≤ w1.heap.size by omega) (fam n (marksTo l l.length))); clear hb1)
        | (refine wpList_store_fam sizeT rfl (.tmp 7) (.tmp _) rfl _ _ _ rfl rfl _ _ (famAt.new _ _ _ _) ?_)
        | (refine wpList_load_fam rowT sizeT rfl (.tmp _) rfl _ rfl n _ (by assumption) ?_)
        | (go_at_call 105; refine (setOfWord_c n (marksTo l l.length) u m _ (HM2.out.mono (by simp [World.setRow]; omega)) hml (by omega) (by omega)).mono ?_; rw [HE2.out, ← HE.out, HW.out]; rintro e w3 ⟨rfl, hb3⟩; have hz3 := hb3.size; simp [World.setRow] at hz3; have hg3 := hg2.below hb3 hg2.lt; have hh3 := hh2.below hb3 hh2.lt; have HB3 := hide (HB1.out.trans (hb3.mono (by simp [World.setRow]; omega))); clear hb3)
        | (refine wpList_build_fam0 built0 rfl rfl ?_)
        | (refine wpList_store_fam sizeT rfl (.tmp 4) (.tmp _) rfl _ 0 noSet rfl rfl _ _ hg3 ?_)
        | (refine wpList_store_fam sizeT rfl (.tmp 4) (.tmp _) rfl _ n (marksTo l l.length) rfl rfl _ _ hg3 ?_))
    · refine bodyPost_ret (v := .tuple #[.agg (fam 0 noSet), .int .i64 0, .bool false]) (results_fam3 (p := 4) (q := 5) (r := 6) rowT sizeT rfl _ _ (w.heap.size + 1) rfl _ _ (hg3.row _ _)) rfl ⟨by rw [famVal4_no n l m HW.out], bl_row HB3.out (by omega) _⟩
    · refine bodyPost_ret (v := .tuple #[.agg (fam n (marksTo l l.length)), .int .i64 (wdS n l m), .bool true]) (results_fam3 (p := 4) (q := 5) (r := 6) rowT sizeT rfl _ _ (w.heap.size + 1) rfl _ _ (hg3.row _ _)) rfl ⟨by rw [famVal4_yes n l m HW.out, wdS_yes HW.out], bl_row HB3.out (by omega) _⟩

/-- Whether a list may be asked about, and whether it is a word then. -/
def okW7 (n : Int) (l m : List Int) : Bool := okSp n l && decide (m.length ≤ 7)
def isW7 (n : Int) (l m : List Int) : Bool := okW7 n l m && wordB (marksTo l l.length) n.toNat m
theorem okW7_no {n : Int} {l m : List Int} (h : okSp n l = false) : okW7 n l m = false := by simp [okW7, h]
theorem okW7_long {n : Int} {l m : List Int} (h : ¬ m.length ≤ 7) : okW7 n l m = false := by simp [okW7, h]
theorem okW7_yes {n : Int} {l m : List Int} (h : okSp n l = true) (h2 : m.length ≤ 7) : okW7 n l m = true := by simp [okW7, h, h2]
theorem isW7_no {n : Int} {l m : List Int} (h : okW7 n l m = false) : isW7 n l m = false := by simp [isW7, h]
theorem isW7_yes {n : Int} {l m : List Int} (h : okW7 n l m = true) : isW7 n l m = wordB (marksTo l l.length) n.toNat m := by simp [isW7, h]

end Go.Proofs.YtceofjlhbomcaaaDoor
