/- Contracts: IsPath, PathsOf, PathsWithin, LongestPath, CanLearn: the specification's and the program's. -/
import Derived.Test.YtagahoaogfogkaaPt
import Derived.Test.YtagahoaogfogkaaPp
namespace Go.Proofs.Ytagahoaogfogkaa
open Go.RowKit
set_option maxRecDepth 100000
def ipR (n : Int) (l : List Int) (x : Int) : Bool := okSet n l x && pathSp l x.toNat
theorem okSp_len {n : Int} {l : List Int} (h : okSp n l = true) : l.length ≤ 128 := by
  have h1 := ris_len n.toNat l (okSp_range h)
  have h2 := okSp_n h
  have := p2_le n.toNat 7 (by omega)
  unfold p2 at h1
  omega
theorem okSp_r128 {n : Int} {l : List Int} (h : okSp n l = true) : ∀ j, j < l.length → 0 ≤ l[j]?.getD 0 ∧ l[j]?.getD 0 < 128 := fun j hj => by
  have h1 := okSp_pos h j hj
  have h2 := okSp_n h
  have := low_lt n.toNat (by omega)
  omega
def poL (n : Int) (l : List Int) : List Int := if okSp n l then paTo (pathSp l) l l.length else []
def pwL (n : Int) (l : List Int) (x : Int) : List Int := if okOne n l x then paTo (fun s => pathSp l s && (andNot s x.toNat == 0)) l l.length else []
theorem poL_no {n : Int} {l : List Int} (h : okSp n l = false) : poL n l = [] := by simp [poL, h]
theorem poL_yes {n : Int} {l : List Int} (h : okSp n l = true) : poL n l = paTo (pathSp l) l l.length := by simp [poL, h]
theorem pwL_no {n : Int} {l : List Int} {x : Int} (h : okOne n l x = false) : pwL n l x = [] := by simp [pwL, h]
theorem pwL_yes {n : Int} {l : List Int} {x : Int} (h : okOne n l x = true) : pwL n l x = paTo (fun s => pathSp l s && (andNot s x.toNat == 0)) l l.length := by simp [pwL, h]
theorem poL_len (n : Int) (l : List Int) : (poL n l).length < 1000000000 := by
  unfold poL
  split
  · rename_i h
    have h1 := paTo_len (pathSp l) l l.length
    have h2 := okSp_len h
    omega
  · simp
theorem pwL_len (n : Int) (l : List Int) (x : Int) : (pwL n l x).length < 1000000000 := by
  unfold pwL
  split
  · rename_i h
    have h1 := paTo_len (fun s => pathSp l s && (andNot s x.toNat == 0)) l l.length
    have h2 := okSp_len (okOne_sp h)
    omega
  · simp
theorem path_none (s : Nat) : pathF noSet 0 s = false := by simp [pathF, noSet]
theorem an0_lowP {n s : Nat} (h : s < 2 ^ n) : andNot s (low n) = 0 := by
  apply Nat.eq_of_testBit_eq
  intro i
  rw [andNot_bit, low_bit, Nat.zero_testBit]
  by_cases hin : i < n
  · simp [hin]
  · have := Nat.lt_of_lt_of_le h (Nat.pow_le_pow_right (by omega) (show n ≤ i by omega))
    rw [Nat.testBit_lt_two_pow this]; rfl
/-- What the program finds among the sets of a space. -/
theorem where_same {n : Int} {l : List Int} (h : okSp n l = true) (K : Nat → Bool) : setsTo (fun x => pathF (marksTo l l.length) n.toNat x && K x) (2 ^ n.toNat) = paTo (fun s => pathSp l s && K s) l l.length := by
  refine (paTo_sp h _ _ (fun x hx _ => ?_) (fun x hx => ?_)).symm
  · rw [path_same h x hx]
  · simp only [pathF, Bool.and_eq_true] at hx
    exact hx.1.1
theorem where_all {n : Int} {l : List Int} (h : okSp n l = true) : setsTo (fun x => pathF (marksTo l l.length) n.toNat x && (andNot x (low n.toNat) == 0)) (2 ^ n.toNat) = paTo (pathSp l) l l.length := by
  have h1 : setsTo (fun x => pathF (marksTo l l.length) n.toNat x && (andNot x (low n.toNat) == 0)) (2 ^ n.toNat) = setsTo (fun x => pathF (marksTo l l.length) n.toNat x && true) (2 ^ n.toNat) := by
    refine setsTo_congr _ fun x hx => ?_
    have : andNot x (low n.toNat) = 0 := an0_lowP hx
    rw [this]; rfl
  rw [h1, where_same h (fun _ => true)]
  congr 1
  funext s
  simp
attribute [local irreducible] p2 low memB risB

/-! ### The closure of pathsWithin -/
theorem ent_pw1 : enters Try.prog 106 := enters_of Try.func106 (by kernel_rfl) (by kernel_rfl)
theorem pw1_c (s lim : Nat) (g : Nat) (w : World) (hs : s < 128) (hg : w.cell? ⟨g, 0, none⟩ = some (.int .i64 (lim : Int))) :
    Calls Try.prog 106 #[.int .i64 (s : Int), .pointer (some ⟨g, 0, none⟩)] w fun e w' => e = .returned (.bool (andNot s lim == 0)) ∧ Below w.heap.size w w' := by
  go_enter Try.func106, Try.ntmps106
  go_wp2_with (go_at_call 107; refine (within_c _ _ _ (by omega) (by omega) (by omega)).mono ?_; rw [Int.toNat_natCast, Int.toNat_natCast]; rintro e w' ⟨rfl, rfl⟩)
  go_ret
  exact ⟨rfl, Below.refl _ _⟩
theorem pathsWithin_c (n : Int) (F : Nat → Bool) (lim : Nat) (w : World) (h0 : 0 ≤ n) (h7 : n ≤ 7) :
    Calls Try.prog 76 #[.agg (fam n F), .int .i64 (lim : Int)] w fun e w' => ∃ v, e = .returned v ∧ own 3 w' w.heap.size v (setsTo (fun x => pathF F n.toNat x && (andNot x lim == 0)) (2 ^ n.toNat)) ∧ Below w.heap.size w w' := by
  have HB := hide (((Below.refl w.heap.size w).alloc (Nat.le_refl _) (.cells (fam n F) 64)).alloc (by simp) (.cells #[.int .i64 (lim : Int)] 65))
  have HF := hide ((famAt.new 64 w n F).alloc (.cells #[.int .i64 (lim : Int)] 65))
  have hcl : ((w.alloc (.cells (fam n F) 64)).alloc (.cells #[.int .i64 (lim : Int)] 65)).cell? ⟨w.heap.size + 1, 0, none⟩ = some (.int .i64 (lim : Int)) := by simp [go_sem]
  have hz : ((w.alloc (.cells (fam n F) 64)).alloc (.cells #[.int .i64 (lim : Int)] 65)).heap.size = w.heap.size + 2 := by simp
  have HC := hide hcl
  have HZ := hide hz
  clear hcl hz
  go_enter Try.func76, Try.ntmps76
  go_wp2_with (refine wpList_load_fam rowT sizeT rfl (.tmp _) rfl _ rfl n F HF.out ?_)
  refine (pathsWhere_c n F 106 #[.pointer (some ⟨w.heap.size + 1, 0, none⟩)] _ (fun x => andNot x lim == 0) ent_pw1 h0 h7 ?h1).mono ?_
  case h1 =>
    intro s w1 hs _ hb
    exact pw1_c s lim (w.heap.size + 1) w1 hs ((hb.cell (p := ⟨w.heap.size + 1, 0, none⟩) (by show w.heap.size + 1 < _; rw [HZ.out]; omega)).trans HC.out)
  rintro e w' ⟨v, rfl, ho, hb⟩
  go_wp2
  go_ret
  exact ⟨v, rfl, ho.mono (by rw [HZ.out]; omega), HB.out.trans (hb.mono (by rw [HZ.out]; omega))⟩

/-! ### IsPath -/
theorem specIsPath_c (n : Int) (v : Value) (l : List Int) (x : Int) (w : World) (hl : ints w.heap.size w v l) (hlen : l.length < 1000000000) :
    Calls Try.prog 32 #[.agg #[.int .i64 n, v], .int .i64 x] w fun e w' => e = .returned (.tuple #[.bool (ipR n l x), .bool (okSet n l x)]) ∧ Below w.heap.size w w' := by
  have HL := hide ((hl.alloc (.cells #[.int .i64 n, v] 26)).mono (show w.heap.size ≤ (w.alloc (.cells #[.int .i64 n, v] 26)).heap.size by simp))
  have H0 := hide ((Below.refl w.heap.size w).alloc (Nat.le_refl _) (.cells #[.int .i64 n, v] 26))
  have HS0 := hide (hp_last w (.cells #[.int .i64 n, v] 26))
  have HZ := hide (show (w.alloc (.cells #[.int .i64 n, v] 26)).heap.size = w.heap.size + 1 by simp)
  clear hl
  cases hok : okSet n l x
  · have HK := hide hok
    have HO := hide (show ipR n l x = false by simp [ipR, hok])
    rw [HO.out]
    clear hok
    go_enter Try.func32, Try.ntmps32
    go_wp2_with (go_at_call 70; refine (spSet_c n v l x _ HL.out hlen).mono ?_; rw [HK.out]; rintro e w1 ⟨rfl, hb1⟩; have HB1 := hide (H0.out.trans (hb1.mono (by rw [HZ.out]; omega))); clear hb1)
    go_ret2
    exact ⟨rfl, HB1.out⟩
  · obtain ⟨hi0, hi1⟩ := okSet_in hok
    have hlo := low_lt n.toNat (by have := okSp_n (okSet_sp hok); omega)
    obtain ⟨s, rfl⟩ := Int.eq_ofNat_of_zero_le hi0
    have hs : s < 128 := by omega
    have HI := hide (okSp_inc (okSet_sp hok))
    have HO := hide (show ipR n l (s : Int) = pathSp l s by simp [ipR, hok])
    have HK := hide hok
    rw [HO.out]
    clear hok hi0 hi1 hlo
    generalize hP : pathSp l s = p
    have HP := hide hP
    clear hP
    go_enter Try.func32, Try.ntmps32
    go_wp2_with (first
      | (go_at_call 70; refine (spSet_c n v l (s : Int) _ HL.out hlen).mono ?_; rw [HK.out]; rintro e w1 ⟨rfl, hb1⟩; have HS1 := hide ((hb1.block w.heap.size (by rw [HZ.out]; omega)).trans HS0.out); have c0 := cells_at0 HS1.out; have c1 := cells_at1 HS1.out; have HL1 := hide ((HL.out.below hb1 (Nat.le_refl _)).mono hb1.size); have hz1 := hb1.size; rw [HZ.out] at hz1; have HB1 := hide (H0.out.trans (hb1.mono (by rw [HZ.out]; omega))); clear hb1)
      | (go_at_call 71; refine (paPath_c n v l s _ HL1.out HI.out hlen hs).mono ?_; rw [HP.out]; rintro e w2 ⟨rfl, hb2⟩; have HB2 := hide (HB1.out.trans (hb2.mono (by omega))); clear hb2))
    go_ret2
    exact ⟨rfl, HB2.out⟩
theorem implIsPath_c (n : Int) (v : Value) (l : List Int) (x : Int) (w : World) (hl : ints w.heap.size w v l) (hlen : l.length < 1000000000) :
    Calls Try.prog 33 #[.agg #[.int .i64 n, v], .int .i64 x] w fun e w' => e = .returned (.tuple #[.bool (ipR n l x), .bool (okSet n l x)]) ∧ Below w.heap.size w w' := by
  have HL := hide ((hl.alloc (.cells #[.int .i64 n, v] 26)).mono (show w.heap.size ≤ (w.alloc (.cells #[.int .i64 n, v] 26)).heap.size by simp))
  have H0 := hide ((Below.refl w.heap.size w).alloc (Nat.le_refl _) (.cells #[.int .i64 n, v] 26))
  have HZ := hide (show (w.alloc (.cells #[.int .i64 n, v] 26)).heap.size = w.heap.size + 1 by simp)
  clear hl
  cases hok : okSet n l x
  · have HK := hide hok
    have HO := hide (show ipR n l x = false by simp [ipR, hok])
    rw [HO.out]
    clear hok
    go_enter Try.func33, Try.ntmps33
    go_wp2_with (first
      | (go_at_call 72; refine (familyAndSet_c n v l x _ HL.out hlen).mono ?_; rw [famVal2_no n l x HK.out]; rintro e w1 ⟨rfl, hb1⟩; have hz1 := hb1.size; rw [HZ.out] at hz1; have HB1 := hide (bl_row ((H0.out.trans (hb1.mono (by rw [HZ.out]; omega))).alloc (by omega) (.cells (fam 0 noSet) 64)) (show w.heap.size ≤ w1.heap.size by omega) (fam 0 noSet)); clear hb1)
      | (refine wpList_alloc_fam zeroT rfl rfl _ (by first | (simp only [World.size_alloc]; rfl) | rfl) ?_)
      | (refine wpList_store_fam sizeT rfl (.tmp _) (.tmp _) rfl _ _ _ rfl rfl _ _ (famAt.new _ _ _ _) ?_))
    go_ret2
    exact ⟨rfl, HB1.out⟩
  · obtain ⟨hi0, hi1⟩ := okSet_in hok
    have hn := okSp_n (okSet_sp hok)
    have hlo := low_lt n.toNat (by omega)
    have hpl := low_succ n.toNat
    obtain ⟨s, rfl⟩ := Int.eq_ofNat_of_zero_le hi0
    have hs : s < 128 := by omega
    have HO := hide (show ipR n l (s : Int) = pathF (marksTo l l.length) n.toNat s by rw [path_same (okSet_sp hok) s (by omega)]; simp [ipR, hok])
    have HK := hide hok
    rw [HO.out]
    clear hok hi0 hi1 hlo hpl
    generalize hP : pathF (marksTo l l.length) n.toNat s = p
    have HP := hide hP
    clear hP
    go_enter Try.func33, Try.ntmps33
    go_wp2_with (first
      | (go_at_call 72; refine (familyAndSet_c n v l (s : Int) _ HL.out hlen).mono ?_; rw [famVal2_yes n l s HK.out]; rintro e w1 ⟨rfl, hb1⟩; have hz1 := hb1.size; rw [HZ.out] at hz1; have HH := hide ((famAt.new 64 w1 0 noSet).row n (marksTo l l.length)); have HB1 := hide (bl_row ((H0.out.trans (hb1.mono (by rw [HZ.out]; omega))).alloc (by omega) (.cells (fam 0 noSet) 64)) (show w.heap.size ≤ w1.heap.size by omega) (fam n (marksTo l l.length))); clear hb1)
      | (refine wpList_alloc_fam zeroT rfl rfl _ (by first | (simp only [World.size_alloc]; rfl) | rfl) ?_)
      | (refine wpList_store_fam sizeT rfl (.tmp _) (.tmp _) rfl _ _ _ rfl rfl _ _ (famAt.new _ _ _ _) ?_)
      | (refine wpList_load_fam rowT sizeT rfl (.tmp _) rfl _ rfl n _ HH.out ?_)
      | (go_at_call 73; refine (isPath_c n _ s _ (by omega) (by omega) hs).mono ?_; rw [HP.out]; rintro e w2 ⟨rfl, hb2⟩; have HB2 := hide (HB1.out.trans (hb2.mono (by simp [World.setRow]; omega))); clear hb2))
    go_ret2
    exact ⟨rfl, HB2.out⟩
end Go.Proofs.Ytagahoaogfogkaa
