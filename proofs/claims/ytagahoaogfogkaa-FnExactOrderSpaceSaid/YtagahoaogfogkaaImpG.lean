/- Contracts of the program's functions, VII: whether a family is a space; the family of a space that comes in. -/
import Derived.Test.YtagahoaogfogkaaImpF
namespace Go.Proofs.Ytagahoaogfogkaa
open Go.RowKit
set_option maxRecDepth 100000

def spaceB (F : Nat → Bool) (n : Nat) : Bool := F 0 && F (low n) && gradedTo F n 128 && closedB F

set_option maxHeartbeats 1000000 in
theorem isSpace_c (n : Int) (F : Nat → Bool) (w : World) (h0 : 0 ≤ n) (h2 : n ≤ 7) :
    Calls Try.prog 55 #[.agg (fam n F)] w fun e w' => e = .returned (.bool (spaceB F n.toNat)) ∧ Below w.heap.size w w' := by
  have hb0 : Below w.heap.size w (w.alloc (.cells (fam n F) 64)) := (Below.refl _ _).alloc (Nat.le_refl _) _
  have hf0 := famAt.new 64 w n F
  have hlo := low_lt n.toNat (by omega)
  have g0 : (fam n F)[1]? = some (.bool (F 0)) := fam_get n F 0 (by omega)
  have HB := hide hb0
  clear hb0
  cases h3 : F 0
  · rw [h3] at g0
    have H3 := hide h3
    clear h3
    go_enter Try.func55, Try.ntmps55
    go_wp2
    go_ret
    exact ⟨ret_b (by simp [spaceB, H3.out]), HB.out⟩
  · rw [h3] at g0
    have H3 := hide h3
    clear h3
    cases h4 : F (low n.toNat)
    all_goals
      have H4 := hide h4
      clear h4
      cases h5 : gradedTo F n.toNat 128
      all_goals
        have H5 := hide h5
        clear h5
        go_enter Try.func55, Try.ntmps55
        go_wp2_with (first
          | (refine wpList_load_fam rowT sizeT rfl (.tmp _) rfl _ rfl n F (by assumption) ?_)
          | (go_at_call 53; refine (full_c _ _ _ (by omega) (by omega)).mono ?_; rintro e w1 ⟨rfl, hb1⟩; have hf1 := hf0.below hb1 (by simp); have hc1 := hf1.get (low n.toNat) hlo; rw [H4.out] at hc1; have HB1 := hide (HB.out.trans (hb1.mono (by simp))); clear hb1)
          | (go_at_call 92; refine (isGraded_c _ _ _ (by omega) (by omega)).mono ?_; rw [H5.out]; rintro e w2 ⟨rfl, hb2⟩; have hf2 := hf1.below hb2 hf1.lt; have HB2 := hide (HB1.out.trans (hb2.mono (by have := HB1.out.size; omega))); clear hb2)
          | (go_at_call 93; refine (isClosed_c _ _ _).mono ?_; rintro e w3 ⟨rfl, hb3⟩; have HB3 := hide (HB2.out.trans (hb3.mono (by have := HB2.out.size; omega))); clear hb3))
        go_ret
        first
          | exact ⟨ret_b (by simp [spaceB, H3.out, H4.out, H5.out]), HB3.out⟩
          | exact ⟨ret_b (by simp [spaceB, H3.out, H4.out, H5.out]), HB2.out⟩
          | exact ⟨ret_b (by simp [spaceB, H3.out, H4.out, H5.out]), HB1.out⟩

def lastOf (l : List Int) : Nat → Int
  | 0 => -1
  | k + 1 => l[k]?.getD 0
def risingTo (n : Nat) (l : List Int) : Nat → Bool
  | 0 => true
  | k + 1 => risingTo n l k && (decide (lastOf l k < l[k]?.getD 0) && decide (0 ≤ l[k]?.getD 0 ∧ l[k]?.getD 0 ≤ (low n : Int)))
def marksTo (l : List Int) : Nat → (Nat → Bool)
  | 0 => noSet
  | k + 1 => upd (marksTo l k) (l[k]?.getD 0).toNat true
/-- Whether n and l are a space; its family, or the empty one. -/
def okSp (n : Int) (l : List Int) : Bool := decide (1 ≤ n ∧ n ≤ 7) && risingTo n.toNat l l.length && spaceB (marksTo l l.length) n.toNat
def famN (n : Int) (l : List Int) : Int := if okSp n l then n else 0
def famM (n : Int) (l : List Int) : Nat → Bool := if okSp n l then marksTo l l.length else noSet
def famVal (n : Int) (l : List Int) : Value := .tuple #[.agg (fam (famN n l) (famM n l)), .bool (okSp n l)]
theorem famVal_no (n : Int) (l : List Int) (h : okSp n l = false) : famVal n l = .tuple #[.agg (fam 0 noSet), .bool false] := by
  simp [famVal, famN, famM, h]
theorem famVal_yes (n : Int) (l : List Int) (h : okSp n l = true) : famVal n l = .tuple #[.agg (fam n (marksTo l l.length)), .bool true] := by
  simp [famVal, famN, famM, h]
theorem risingTo_false (n : Nat) (l : List Int) (k : Nat) (h : risingTo n l k = false) : ∀ m, k ≤ m → risingTo n l m = false := by
  intro m hm
  induction m with
  | zero => have : k = 0 := by omega
            subst this; exact h
  | succ m ih =>
    rcases Nat.lt_or_ge k (m + 1) with h1 | h1
    · rw [risingTo, ih (by omega)]; rfl
    · have : k = m + 1 := by omega
      subst this; exact h

set_option maxHeartbeats 1000000 in
theorem familyOf_c (n : Int) (v : Value) (l : List Int) (w : World) (hl : ints w.heap.size w v l) (hlen : l.length < 1000000000) :
    Calls Try.prog 60 #[.agg #[.int .i64 n, v]] w fun e w' => e = .returned (famVal n l) ∧ Below w.heap.size w w' := by
  have hb0 : Below w.heap.size w ((w.alloc (.cells #[.int .i64 n, v] 26)).alloc (.cells (fam 0 noSet) 64)) := ((Below.refl _ _).alloc (Nat.le_refl _) _).alloc (by simp) _
  have hf2 : famAt 64 ((w.alloc (.cells #[.int .i64 n, v] 26)).alloc (.cells (fam 0 noSet) 64)) (w.heap.size + 1) 0 noSet := by
    have := famAt.new 64 (w.alloc (.cells #[.int .i64 n, v] 26)) 0 noSet
    simpa using this
  have HB0 := hide hb0
  have HL := hide hl
  clear hb0 hl
  by_cases hn : 1 ≤ n ∧ n ≤ 7
  · have HN := hide hn
    have hn1 := hn.1
    have hn2 := hn.2
    clear hn
    have hf4 : famAt 64 (((w.alloc (.cells #[.int .i64 n, v] 26)).alloc (.cells (fam 0 noSet) 64)).alloc (.cells (fam 0 noSet) 64)) (w.heap.size + 1 + 1) 0 noSet := by
      have := famAt.new 64 ((w.alloc (.cells #[.int .i64 n, v] 26)).alloc (.cells (fam 0 noSet) 64)) 0 noSet
      simpa using this
    have hcv : ((((w.alloc (.cells #[.int .i64 n, v] 26)).alloc (.cells (fam 0 noSet) 64)).alloc (.cells (fam 0 noSet) 64)).setRow (w.heap.size + 1 + 1) (fam n noSet)).cell? ⟨w.heap.size, 1, none⟩ = some v := by
      rw [World.cell?_of_block (hp_rowO _ _ _ _ (by show w.heap.size ≠ _; omega))]
      simp [go_sem]
    have HF2 := hide hf2
    have HF4 := hide hf4
    clear hf2 hf4
    go_enter Try.func60, Try.ntmps60
    go_wp2_with (first
      | (refine wpList_alloc_fam zeroT rfl rfl _ (by first | (simp only [World.size_alloc]; rfl) | rfl) ?_)
      | (refine wpList_build_fam builtT rfl _ rfl _ rfl ?_)
      | (refine wpList_store_fam sizeT rfl (.tmp _) (.tmp _) rfl _ n noSet rfl rfl _ _ HF4.out ?_)
      | (refine wpList_len sliceT rfl (.tmp _) rfl v rfl w.heap.size l ((((HL.out.alloc _).alloc _).alloc _).below (bl_row (Below.refl _ _) (by omega) _) (Nat.le_refl _)) ?_)
      | (go_at_call 51; refine (isItemCount_c _ _).mono ?_; rw [decide_eq_true HN.out]; rintro e w1 ⟨rfl, rfl⟩))
    go_loopw [5, 19] (fun t i wr => ∃ k : Nat, k ≤ l.length ∧ i = .int .i64 k ∧ t = .int .i64 (lastOf l k) ∧ risingTo n.toNat l k = true ∧ famAt 64 wr (w.heap.size + 1 + 1) n (marksTo l k) ∧ famAt 64 wr (w.heap.size + 1) 0 noSet ∧ Below w.heap.size w wr) (fun _ i _ => l.length - (intOf i).toNat)
    case atStart => exact ⟨0, Nat.zero_le _, rfl, rfl, rfl, HF4.out.row _ _, (HF2.out.alloc _).rowO (w.heap.size + 1 + 1) (by omega) _, bl_row (HB0.out.alloc (by simp; omega) _) (by omega) _⟩
    case round =>
      obtain ⟨k, hk, rfl, rfl, hris, hf4, hf2, hb⟩ := hrel
      have hlo := low_lt n.toNat (by omega)
      have HLW := hide (HL.out.below hb (Nat.le_refl _))
      have HR := hide hris
      have HB := hide hb
      have hsz := hf4.lt
      clear hris hb hcv HF2 HF4 HB0
      by_cases hlt : k < l.length
      · generalize hx : l[k]?.getD 0 = x
        have HX := hide hx
        clear hx
        by_cases hle : x ≤ lastOf l k
        · have hno : okSp n l = false := by
            have : risingTo n.toNat l (k + 1) = false := by rw [risingTo, HX.out]; simp; intro _ h; omega
            rw [okSp, risingTo_false _ _ _ this l.length (by omega)]; simp
          have HK := hide hno
          clear hno
          go_wp2_with (first
            | (refine wpList_at sliceT intS rfl (.tmp _) (.tmp _) rfl v rfl k rfl w.heap.size l HLW.out hlt ?_; intro ad hcell hblk; rw [HX.out] at hcell)
            | (refine wpList_build_fam0 built0 rfl rfl ?_)
            | (refine wpList_store_fam sizeT rfl (.tmp _) (.tmp _) rfl _ 0 noSet rfl rfl _ _ hf2 ?_))
          refine bodyPost_ret (v := .tuple #[.agg (fam 0 noSet), .bool false]) (results_fam2 (p := 2) (q := 3) rowT sizeT rfl _ _ (w.heap.size + 1) rfl _ _ (hf2.row _ _)) rfl ⟨by rw [famVal_no n l HK.out], bl_row HB.out (by omega) _⟩
        · by_cases hin : 0 ≤ x ∧ x ≤ (low n.toNat : Int)
          · have hx0 := hin.1
            obtain ⟨s, hs⟩ := Int.eq_ofNat_of_zero_le hx0
            subst hs
            have hs128 : s < 128 := by omega
            have hmk : upd (marksTo l k) s true = marksTo l (k + 1) := by rw [marksTo, HX.out, Int.toNat_natCast]
            have HM := hide hmk
            have HI := hide hin
            have hr1 : risingTo n.toNat l (k + 1) = true := by rw [risingTo, HR.out, HX.out, decide_eq_true hin]; simp; omega
            have HR1 := hide hr1
            clear hmk hin hr1
            go_wp2_with (first
              | (refine wpList_at sliceT intS rfl (.tmp _) (.tmp _) rfl v rfl k rfl w.heap.size l HLW.out hlt ?_; intro ad hcell hblk; rw [HX.out] at hcell)
              | (refine wpList_load_fam rowT sizeT rfl (.tmp _) rfl _ rfl n _ (by assumption) ?_)
              | (go_at_call 96; refine (isSet_c _ _ _ _ (by omega) (by omega)).mono ?_; rw [decide_eq_true HI.out]; rintro e w1 ⟨rfl, hb1⟩; have hg4 := hf4.below hb1 hsz; have hg2 := hf2.below hb1 (by omega); have hc4 := hg4.get s hs128; have hr4 := hg4.free (1 + s); have HB1 := hide (HB.out.trans (hb1.mono (by have := HB.out.size; omega))); clear hb1))
            go_roundw
            case rel => exact ⟨k + 1, by omega, by go_num, by rw [lastOf, HX.out], HR1.out, by rw [← HM.out]; exact hg4.set s hs128 true, hg2.setO _ (by show w.heap.size + 1 ≠ w.heap.size + 1 + 1; omega) _, HB1.out.setCell (by simp; omega) _⟩
            case measure => simp [intOf]; omega
          · have hno : okSp n l = false := by
              have : risingTo n.toNat l (k + 1) = false := by rw [risingTo, HX.out, decide_eq_false hin]; simp
              rw [okSp, risingTo_false _ _ _ this l.length (by omega)]; simp
            have HK := hide hno
            have HI := hide hin
            clear hno hin
            go_wp2_with (first
              | (refine wpList_at sliceT intS rfl (.tmp _) (.tmp _) rfl v rfl k rfl w.heap.size l HLW.out hlt ?_; intro ad hcell hblk; rw [HX.out] at hcell)
              | (refine wpList_load_fam rowT sizeT rfl (.tmp _) rfl _ rfl n _ (by assumption) ?_)
              | (go_at_call 96; refine (isSet_c _ _ _ _ (by omega) (by omega)).mono ?_; rw [decide_eq_false HI.out]; rintro e w1 ⟨rfl, hb1⟩; have hg2 := hf2.below hb1 (by omega); have HB1 := hide (HB.out.trans (hb1.mono (by have := HB.out.size; omega))); clear hb1)
              | (refine wpList_build_fam0 built0 rfl rfl ?_)
              | (refine wpList_store_fam sizeT rfl (.tmp _) (.tmp _) rfl _ 0 noSet rfl rfl _ _ hg2 ?_))
            refine bodyPost_ret (v := .tuple #[.agg (fam 0 noSet), .bool false]) (results_fam2 (p := 2) (q := 3) rowT sizeT rfl _ _ (w.heap.size + 1) rfl _ _ (hg2.row _ _)) rfl ⟨by rw [famVal_no n l HK.out], bl_row HB1.out (by omega) _⟩
      · have hk' : k = l.length := by omega
        subst hk'
        cases hsp : spaceB (marksTo l l.length) n.toNat
        · have hno : okSp n l = false := by simp [okSp, hsp]
          have HK := hide hno
          have HS := hide hsp
          clear hno hsp
          go_wp2_with (first
            | (refine wpList_load_fam rowT sizeT rfl (.tmp _) rfl _ rfl n _ (by assumption) ?_)
            | (go_at_call 55; refine (isSpace_c _ _ _ (by omega) (by omega)).mono ?_; rw [HS.out]; rintro e w1 ⟨rfl, hb1⟩; have hg2 := hf2.below hb1 (by omega); have HB1 := hide (HB.out.trans (hb1.mono (by have := HB.out.size; omega))); clear hb1)
            | (refine wpList_build_fam0 built0 rfl rfl ?_)
            | (refine wpList_store_fam sizeT rfl (.tmp _) (.tmp _) rfl _ 0 noSet rfl rfl _ _ hg2 ?_))
          refine bodyPost_ret (v := .tuple #[.agg (fam 0 noSet), .bool false]) (results_fam2 (p := 2) (q := 3) rowT sizeT rfl _ _ (w.heap.size + 1) rfl _ _ (hg2.row _ _)) rfl ⟨by rw [famVal_no n l HK.out], bl_row HB1.out (by omega) _⟩
        · have hyes : okSp n l = true := by simp [okSp, hsp, HR.out, hn1, hn2]
          have HK := hide hyes
          have HS := hide hsp
          clear hyes hsp
          go_wp2_with (first
            | (refine wpList_load_fam rowT sizeT rfl (.tmp _) rfl _ rfl n _ (by assumption) ?_)
            | (go_at_call 55; refine (isSpace_c _ _ _ (by omega) (by omega)).mono ?_; rw [HS.out]; rintro e w1 ⟨rfl, hb1⟩; have hg2 := hf2.below hb1 (by omega); have hg4 := hf4.below hb1 hsz; have HB1 := hide (HB.out.trans (hb1.mono (by have := HB.out.size; omega))); clear hb1)
            | (refine wpList_store_fam sizeT rfl (.tmp _) (.tmp _) rfl _ n (marksTo l l.length) rfl rfl _ _ hg2 ?_))
          refine bodyPost_ret (v := .tuple #[.agg (fam n (marksTo l l.length)), .bool true]) (results_fam2 (p := 2) (q := 3) rowT sizeT rfl _ _ (w.heap.size + 1) rfl _ _ (hg2.row _ _)) rfl ⟨by rw [famVal_yes n l HK.out], bl_row HB1.out (by omega) _⟩
  · have hok : okSp n l = false := by simp [okSp, hn]
    have HN := hide hn
    clear hn
    have HK := hide hok
    clear hok
    go_enter Try.func60, Try.ntmps60
    go_wp2_with (first
      | (refine wpList_alloc_fam zeroT rfl rfl _ (by first | (simp only [World.size_alloc]; rfl) | rfl) ?_)
      | (refine wpList_build_fam0 built0 rfl rfl ?_)
      | (refine wpList_store_fam sizeT rfl (.tmp _) (.tmp _) rfl _ 0 noSet rfl rfl _ _ (by assumption) ?_)
      | (go_at_call 51; refine (isItemCount_c _ _).mono ?_; rw [decide_eq_false HN.out]; rintro e w1 ⟨rfl, rfl⟩))
    refine bodyPost_ret (v := .tuple #[.agg (fam 0 noSet), .bool false]) (results_fam2 (p := 2) (q := 3) rowT sizeT rfl _ _ (w.heap.size + 1) rfl _ _ (hf2.row _ _)) rfl ⟨by rw [famVal_no n l HK.out], bl_row HB0.out (by omega) _⟩
end Go.Proofs.Ytagahoaogfogkaa
