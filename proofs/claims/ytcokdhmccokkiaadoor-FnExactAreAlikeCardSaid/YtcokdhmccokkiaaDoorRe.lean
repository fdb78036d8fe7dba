/- Contracts: renamed items, the specification's and the program's. -/
import Derived.Test.YtcokdhmccokkiaaDoorRs
import Derived.Test.YtcokdhmccokkiaaDoorCh
namespace Go.Proofs.YtcokdhmccokkiaaDoor
open Go.RowKit
set_option maxRecDepth 100000

def rnmG (nm : List Int) (a i : Nat) : Nat := if a.testBit i = true then p2 (nm[i]?.getD 0).toNat else 0
def rnm (nm : List Int) (n a : Nat) : Nat := orTo (rnmG nm a) n
def rmB (n : Int) (l nm : List Int) : Bool := okSp n l && (decide ((nm.length : Int) = n) && wordTo anySet n.toNat nm nm.length)
def rmF (n : Int) (l nm : List Int) : Nat → Bool := lmTo l (fun _ => true) (rnm nm n.toNat) l.length
def rmN (n : Int) (l nm : List Int) : Int := if rmB n l nm then n else 0
def rmL (n : Int) (l nm : List Int) : List Int := if rmB n l nm then setsTo (rmF n l nm) 128 else []
theorem rmB_no1 {n : Int} {l nm : List Int} (h : okSp n l = false) : rmB n l nm = false := by simp [rmB, h]
theorem rmB_no2 {n : Int} {l nm : List Int} (h : ¬ (nm.length : Int) = n) : rmB n l nm = false := by simp [rmB, h]
theorem rmB_no3 {n : Int} {l nm : List Int} (h : wordTo anySet n.toNat nm nm.length = false) : rmB n l nm = false := by simp [rmB, h]
theorem rmB_yes {n : Int} {l nm : List Int} (h : okSp n l = true) (h2 : (nm.length : Int) = n) (h3 : wordTo anySet n.toNat nm nm.length = true) : rmB n l nm = true := by simp [rmB, h, h2, h3]
theorem rmN_no {n : Int} {l nm : List Int} (h : rmB n l nm = false) : rmN n l nm = 0 := by simp [rmN, h]
theorem rmN_yes {n : Int} {l nm : List Int} (h : rmB n l nm = true) : rmN n l nm = n := by simp [rmN, h]
theorem rmL_no {n : Int} {l nm : List Int} (h : rmB n l nm = false) : rmL n l nm = [] := by simp [rmL, h]
theorem rmL_yes {n : Int} {l nm : List Int} (h : rmB n l nm = true) : rmL n l nm = setsTo (rmF n l nm) 128 := by simp [rmL, h]
theorem rmL_len (n : Int) (l nm : List Int) : (rmL n l nm).length < 1000000000 := by
  unfold rmL
  split
  · have := setsTo_len (rmF n l nm) 128; omega
  · simp
theorem rnm_in {n : Nat} {nm : List Int} (h : wordTo anySet n nm nm.length = true) (i : Nat) (hi : i < nm.length) : 0 ≤ nm[i]?.getD 0 ∧ nm[i]?.getD 0 < (n : Int) := by
  have := (wordTo_iff anySet n nm nm.length).1 h i hi
  simp only [stepB, Bool.and_eq_true, decide_eq_true_eq] at this
  exact this.1
theorem rnmG_lt {n : Nat} {nm : List Int} (h7 : n ≤ 7) (hl : nm.length = n) (h : wordTo anySet n nm nm.length = true) (a i : Nat) (hi : i < n) : rnmG nm a i < 128 := by
  unfold rnmG
  split
  · have := rnm_in h i (by omega)
    exact p2_lt128 _ (by omega)
  · omega
theorem rnm_lt {n : Nat} {nm : List Int} (h7 : n ≤ 7) (hl : nm.length = n) (h : wordTo anySet n nm nm.length = true) (a k : Nat) (hk : k ≤ n) : orTo (rnmG nm a) k < 128 :=
  orTo_lt (rnmG nm a) 7 k fun i hi => rnmG_lt h7 hl h a i (by omega)
attribute [local irreducible] p2 low memB risB

theorem ent_ren1 : enters Tryd.prog 83 := enters_of Tryd.func83 (by kernel_rfl) (by kernel_rfl)
theorem ent_ren11 : enters Tryd.prog 85 := enters_of Tryd.func85 (by kernel_rfl) (by kernel_rfl)

set_option maxHeartbeats 600000 in
theorem ren11_c (i a gs gn : Nat) (u : Value) (nm : List Int) (B : Nat) (w : World) (hi : i < 7) (hin : i < nm.length) (ha : a < 128) (hca : w.cell? ⟨gs, 0, none⟩ = some (.int .i64 (a : Int))) (hcn : w.cell? ⟨gn, 0, none⟩ = some u) (hu : ints B w u nm) (hr : 0 ≤ nm[i]?.getD 0 ∧ nm[i]?.getD 0 < 7) :
    Calls Tryd.prog 85 #[.int .i64 (i : Int), .pointer (some ⟨gs, 0, none⟩), .pointer (some ⟨gn, 0, none⟩)] w fun e w' => e = .returned (.int .i64 (rnmG nm a i : Int)) ∧ Below w.heap.size w w' := by
  have HU := hide hu
  obtain ⟨b0, c0, hus⟩ := hu.shape
  clear hu
  subst hus
  cases hb : a.testBit i
  · have HB := hide hb
    have HG := hide (show rnmG nm a i = 0 by unfold rnmG; rw [hb]; rfl)
    rw [HG.out]
    clear hb
    go_enter Tryd.func85, Tryd.ntmps85
    go_wp2_with (go_at_call 86; refine (has_c _ _ _ (by omega) (by omega) (by omega) (by omega)).mono ?_; rw [Int.toNat_natCast, Int.toNat_natCast, HB.out]; rintro e w' ⟨rfl, rfl⟩)
    go_ret
    exact ⟨rfl, Below.refl _ _⟩
  · have HB := hide hb
    have HG := hide (show rnmG nm a i = p2 (nm[i]?.getD 0).toNat by unfold rnmG; rw [hb]; rfl)
    rw [HG.out]
    clear hb
    generalize hx : nm[i]?.getD 0 = x at hr
    have HX := hide hx
    clear hx
    obtain ⟨y, rfl⟩ := Int.eq_ofNat_of_zero_le hr.1
    go_enter Tryd.func85, Tryd.ntmps85
    go_wp2_with (first
      | (go_at_call 86; refine (has_c _ _ _ (by omega) (by omega) (by omega) (by omega)).mono ?_; rw [Int.toNat_natCast, Int.toNat_natCast, HB.out]; rintro e w' ⟨rfl, rfl⟩)
      | (refine wpList_at sliceT intS rfl (.tmp _) (.tmp _) rfl _ rfl i rfl B nm HU.out hin ?_; intro ad hcell hblk; rw [HX.out] at hcell)
      | (go_at_call 87; refine (single_c _ _ (by omega) (by omega)).mono ?_; rw [Int.toNat_natCast]; rintro e w' ⟨rfl, rfl⟩))
    go_ret
    exact ⟨rfl, Below.refl _ _⟩

set_option maxHeartbeats 600000 in
theorem ren1_c (m a gf gn : Nat) (F : Nat → Bool) (u : Value) (nm : List Int) (B : Nat) (w : World) (h7 : m ≤ 7) (hl : nm.length = m) (hw : wordTo anySet m nm nm.length = true) (ha : a < 128) (hf : famAt 53 w gf (m : Int) F) (hcn : w.cell? ⟨gn, 0, none⟩ = some u) (hgn : gn < w.heap.size) (hu : ints B w u nm) (hB : B ≤ w.heap.size) :
    Calls Tryd.prog 83 #[.int .i64 (a : Int), .pointer (some ⟨gf, 0, none⟩), .pointer (some ⟨gn, 0, none⟩)] w fun e w' => e = .returned (.int .i64 (rnm nm m a : Int)) ∧ Below w.heap.size w w' := by
  have hb0 := (Below.refl w.heap.size w).alloc (Nat.le_refl _) (.cells #[.int .i64 (a : Int)] 72)
  have hc0 := (hf.alloc (.cells #[.int .i64 (a : Int)] 72)).get0
  have hs0 : (w.alloc (.cells #[.int .i64 (a : Int)] 72)).cell? ⟨w.heap.size, 0, none⟩ = some (.int .i64 (a : Int)) := by simp
  have hz0 : (w.alloc (.cells #[.int .i64 (a : Int)] 72)).heap.size = w.heap.size + 1 := by simp
  have hn0 := (hb0.cell (p := ⟨gn, 0, none⟩) hgn).trans hcn
  have HU := hide (hu.alloc (.cells #[.int .i64 (a : Int)] 72))
  have HW := hide hw
  have HF := hide hf
  clear hu hw hf
  go_enter Tryd.func83, Tryd.ntmps83
  go_wp2_with fail
  generalize w.alloc (.cells #[.int .i64 (a : Int)] 72) = W at hb0 hs0 hz0 hn0 HU ⊢
  refine (sumOf_c (m : Int) 85 #[.pointer (some ⟨w.heap.size, 0, none⟩), .pointer (some ⟨gn, 0, none⟩)] W (rnmG nm a) (by omega) (by omega) ent_ren11 ?h1 ?h2).mono ?_
  case h1 =>
    intro i hi
    exact rnmG_lt h7 hl HW.out a i (by omega)
  case h2 =>
    intro i w1 hi0 hi hb
    obtain ⟨i, rfl⟩ := Int.eq_ofNat_of_zero_le hi0
    have hr := rnm_in HW.out i (by omega)
    refine ren11_c i a w.heap.size gn u nm B w1 (by omega) (by omega) ha ?_ ?_ (HU.out.below hb (by omega)) (by omega)
    · rw [hb.cell (p := ⟨w.heap.size, 0, none⟩) (by show w.heap.size < W.heap.size; omega)]; exact hs0
    · rw [hb.cell (p := ⟨gn, 0, none⟩) (by show gn < W.heap.size; omega)]; exact hn0
  rw [Int.toNat_natCast, show orTo (rnmG nm a) m = rnm nm m a from rfl]
  rintro e w' ⟨rfl, hb⟩
  have HB := hide (hb0.trans (hb.mono (by omega)))
  clear hb
  go_wp2
  go_ret
  exact ⟨rfl, HB.out⟩

set_option maxHeartbeats 2000000 in
theorem renamed_c (m : Nat) (F : Nat → Bool) (b : Option Addr) (c : Nat) (nm : List Int) (w : World) (hm : ints w.heap.size w (.slice b nm.length c) nm) (h7 : m ≤ 7) (hl : nm.length = m) (hw : wordTo anySet m nm nm.length = true) :
    Calls Tryd.prog 60 #[.agg (fam (m : Int) F), .slice b nm.length c] w fun e w' => e = .returned (.agg (fam (m : Int) (imgTo F (rnm nm m) 128))) ∧ Below w.heap.size w w' := by
  have HLM := hide hl
  have HW := hide hw
  have hb0 := (((Below.refl w.heap.size w).alloc (Nat.le_refl _) (.cells (fam (m : Int) F) 53)).alloc (by simp) (.cells #[.slice b nm.length c] 25)).alloc (by simp; omega) (.cells (fam 0 noSet) 53)
  have HF0 := hide (((famAt.new 53 w (m : Int) F).alloc (.cells #[.slice b nm.length c] 25)).alloc (.cells (fam 0 noSet) 53))
  have HM0 := hide (((hm.alloc (.cells (fam (m : Int) F) 53)).alloc (.cells #[.slice b nm.length c] 25)).alloc (.cells (fam 0 noSet) 53))
  have HN0 := hide (show (((w.alloc (.cells (fam (m : Int) F) 53)).alloc (.cells #[.slice b nm.length c] 25)).alloc (.cells (fam 0 noSet) 53)).cell? ⟨w.heap.size + 1, 0, none⟩ = some (.slice b nm.length c) by simp [go_sem])
  have HR0 := hide (show famAt 53 (((w.alloc (.cells (fam (m : Int) F) 53)).alloc (.cells #[.slice b nm.length c] 25)).alloc (.cells (fam 0 noSet) 53)) (w.heap.size + 2) 0 noSet by have h := famAt.new 53 ((w.alloc (.cells (fam (m : Int) F) 53)).alloc (.cells #[.slice b nm.length c] 25)) 0 noSet; simpa using h)
  have HZ0 := hide (show (((w.alloc (.cells (fam (m : Int) F) 53)).alloc (.cells #[.slice b nm.length c] 25)).alloc (.cells (fam 0 noSet) 53)).heap.size = w.heap.size + 3 by simp)
  have HB0 := hide hb0
  have h00 := HF0.out.get0
  have HIM := hide (fun W (hb : Below w.heap.size w W) (hz : W.heap.size = w.heap.size + 3) (hf : famAt 53 W w.heap.size (m : Int) F) (hn : W.cell? ⟨w.heap.size + 1, 0, none⟩ = some (.slice b nm.length c)) (hu : ints w.heap.size W (.slice b nm.length c) nm) =>
    image_c (m : Int) (m : Int) F 83 #[.pointer (some ⟨w.heap.size, 0, none⟩), .pointer (some ⟨w.heap.size + 1, 0, none⟩)] W (rnm nm m) ent_ren1 (fun s _ _ => rnm_lt h7 HLM.out HW.out s m (Nat.le_refl _)) (fun s w2 hs _ hb2 => ren1_c m s w.heap.size (w.heap.size + 1) F (.slice b nm.length c) nm w.heap.size w2 h7 HLM.out HW.out hs (hf.below hb2 hf.lt) ((hb2.cell (p := ⟨w.heap.size + 1, 0, none⟩) (by show w.heap.size + 1 < W.heap.size; omega)).trans hn) (by have := hb2.size; omega) (hu.below hb2 (by omega)) (by have := hb2.size; omega)))
  clear hb0 hm hl hw
  go_enter Tryd.func60, Tryd.ntmps60
  go_wp2_with (first
    | (refine wpList_alloc_fam zeroT rfl rfl _ (by first | (simp only [World.size_alloc]; rfl) | rfl) ?_)
    | (refine wpList_load_fam rowT sizeT rfl (.tmp _) rfl _ rfl (m : Int) F HF0.out ?_)
    | (go_at_call 82; refine (HIM.out _ HB0.out HZ0.out HF0.out HN0.out HM0.out).mono ?_; rintro e w2 ⟨rfl, hb2⟩; have HR2 := hide (HR0.out.below hb2 (by rw [HZ0.out]; omega)); have HB2 := hide (HB0.out.trans (hb2.mono (by rw [HZ0.out]; omega))); clear hb2)
    | (refine wpList_store_fam sizeT rfl (.tmp _) (.tmp _) rfl (w.heap.size + 2) _ _ rfl rfl _ _ HR2.out ?_))
  exact bodyPost_ret (v := .agg (fam (m : Int) (imgTo F (rnm nm m) 128))) (results_fam rowT sizeT rfl _ _ (w.heap.size + 2) rfl _ _ (HR2.out.row _ _)) rfl ⟨rfl, bl_row HB2.out (by omega) _⟩
theorem ord_len {n : Int} {l nm : List Int} (h : okSp n l = true) (h2 : (nm.length : Int) = n) : okOrd nm = wordTo anySet n.toNat nm nm.length := by
  have hn := okSp_n h
  have e : n.toNat = nm.length := by omega
  rw [okOrd, decide_eq_true (by omega), Bool.true_and, e]

end Go.Proofs.YtcokdhmccokkiaaDoor
