/- Contracts: renamed items, the specification's and the program's. -/
import Derived.Test.YtcokdhmccokkiaaRs
import Derived.Test.YtcokdhmccokkiaaCh
namespace Go.Proofs.Ytcokdhmccokkiaa
open Go.RowKit
set_option maxRecDepth 100000

def rnmG (nm : List Int) (a i : Nat) : Nat := if a.testBit i = true then p2 (nm[i]?.getD 0).toNat else 0
def rnm (nm : List Int) (n a : Nat) : Nat := orTo (rnmG nm a) n
def rmB (n : Int) (l nm : List Int) : Bool := okSp n l && (decide ((nm.length : Int) = n) && wordTo anySet n.toNat nm nm.length)
def rmF (n : Int) (l nm : List Int) : Nat → Bool := lmTo l (fun _ => true) (rnm nm n.toNat) l.length
def rmN (n : Int) (l nm : List Int) : Int := if rmB n l nm then n else 0
def rmL (n : Int) (l nm : List Int) : List Int := if rmB n l nm then setsTo (rmF n l nm) 128 else []
theorem rmB_no1 {n : Int} {l nm : List Int} (h : okSp n l = false) : rmB n l nm = false := by simp [rmB, h]
theorem rmB_no2 {n : Int} {l nm : List Int} (h : ¬ (nm.length : Int) = n) : rmB n l nm = false := by simp [rmB, h]
theorem rmB_no3 {n : Int} {l nm : List Int} (h : wordTo anySet n.toNat nm nm.length = false) : rmB n l nm = false := by simp [rmB, h]
theorem rmB_yes {n : Int} {l nm : List Int} (h : okSp n l = true) (h2 : (nm.length : Int) = n) (h3 : wordTo anySet n.toNat nm nm.length = true) : rmB n l nm = true := by simp [rmB, h, h2, h3]
theorem rmN_no {n : Int} {l nm : List Int} (h : rmB n l nm = false) : rmN n l nm = 0 := by simp [rmN, h]
theorem rmN_yes {n : Int} {l nm : List Int} (h : rmB n l nm = true) : rmN n l nm = n := by simp [rmN, h]
theorem rmL_no {n : Int} {l nm : List Int} (h : rmB n l nm = false) : rmL n l nm = [] := by simp [rmL, h]
theorem rmL_yes {n : Int} {l nm : List Int} (h : rmB n l nm = true) : rmL n l nm = setsTo (rmF n l nm) 128 := by simp [rmL, h]
theorem rmL_len (n : Int) (l nm : List Int) : (rmL n l nm).length < 1000000000 := by
  unfold rmL
  split
  · have := setsTo_len (rmF n l nm) 128; omega
  · simp
theorem rnm_in {n : Nat} {nm : List Int} (h : wordTo anySet n nm nm.length = true) (i : Nat) (hi : i < nm.length) : 0 ≤ nm[i]?.getD 0 ∧ nm[i]?.getD 0 < (n : Int) := by
  have := (wordTo_iff anySet n nm nm.length).1 h i hi
  simp only [stepB, Bool.and_eq_true, decide_eq_true_eq] at this
  exact this.1
theorem rnmG_lt {n : Nat} {nm : List Int} (h7 : n ≤ 7) (hl : nm.length = n) (h : wordTo anySet n nm nm.length = true) (a i : Nat) (hi : i < n) : rnmG nm a i < 128 := by
  unfold rnmG
  split
  · have := rnm_in h i (by omega)
    exact p2_lt128 _ (by omega)
  · omega
theorem rnm_lt {n : Nat} {nm : List Int} (h7 : n ≤ 7) (hl : nm.length = n) (h : wordTo anySet n nm nm.length = true) (a k : Nat) (hk : k ≤ n) : orTo (rnmG nm a) k < 128 :=
  orTo_lt (rnmG nm a) 7 k fun i hi => rnmG_lt h7 hl h a i (by omega)
attribute [local irreducible] p2 low memB risB

theorem ent_ren1 : enters Try.prog 97 := enters_of Try.func97 (by kernel_rfl) (by kernel_rfl)
theorem ent_ren11 : enters Try.prog 99 := enters_of Try.func99 (by kernel_rfl) (by kernel_rfl)

set_option maxHeartbeats 600000 in
theorem ren11_c (i a gs gn : Nat) (u : Value) (nm : List Int) (B : Nat) (w : World) (hi : i < 7) (hin : i < nm.length) (ha : a < 128) (hca : w.cell? ⟨gs, 0, none⟩ = some (.int .i64 (a : Int))) (hcn : w.cell? ⟨gn, 0, none⟩ = some u) (hu : ints B w u nm) (hr : 0 ≤ nm[i]?.getD 0 ∧ nm[i]?.getD 0 < 7) :
    Calls Try.prog 99 #[.int .i64 (i : Int), .pointer (some ⟨gs, 0, none⟩), .pointer (some ⟨gn, 0, none⟩)] w fun e w' => e = .returned (.int .i64 (rnmG nm a i : Int)) ∧ Below w.heap.size w w' := by
  have HU := hide hu
  obtain ⟨b0, c0, hus⟩ := hu.shape
  clear hu
  subst hus
  cases hb : a.testBit i
  · have HB := hide hb
    have HG := hide (show rnmG nm a i = 0 by unfold rnmG; rw [hb]; rfl)
    rw [HG.out]
    clear hb
    go_enter Try.func99, Try.ntmps99
    go_wp2_with (go_at_call 94; refine (has_c _ _ _ (by omega) (by omega) (by omega) (by omega)).mono ?_; rw [Int.toNat_natCast, Int.toNat_natCast, HB.out]; rintro e w' ⟨rfl, rfl⟩)
    go_ret
    exact ⟨rfl, Below.refl _ _⟩
  · have HB := hide hb
    have HG := hide (show rnmG nm a i = p2 (nm[i]?.getD 0).toNat by unfold rnmG; rw [hb]; rfl)
    rw [HG.out]
    clear hb
    generalize hx : nm[i]?.getD 0 = x at hr
    have HX := hide hx
    clear hx
    obtain ⟨y, rfl⟩ := Int.eq_ofNat_of_zero_le hr.1
    go_enter Try.func99, Try.ntmps99
    go_wp2_with (first
      | (go_at_call 94; refine (has_c _ _ _ (by omega) (by omega) (by omega) (by omega)).mono ?_; rw [Int.toNat_natCast, Int.toNat_natCast, HB.out]; rintro e w' ⟨rfl, rfl⟩)
      | (refine wpList_at sliceT intS rfl (.tmp _) (.tmp _) rfl _ rfl i rfl B nm HU.out hin ?_; intro ad hcell hblk; rw [HX.out] at hcell)
      | (go_at_call 100; refine (single_c _ _ (by omega) (by omega)).mono ?_; rw [Int.toNat_natCast]; rintro e w' ⟨rfl, rfl⟩))
    go_ret
    exact ⟨rfl, Below.refl _ _⟩

set_option maxHeartbeats 600000 in
theorem ren1_c (m a gf gn : Nat) (F : Nat → Bool) (u : Value) (nm : List Int) (B : Nat) (w : World) (h7 : m ≤ 7) (hl : nm.length = m) (hw : wordTo anySet m nm nm.length = true) (ha : a < 128) (hf : famAt 58 w gf (m : Int) F) (hcn : w.cell? ⟨gn, 0, none⟩ = some u) (hgn : gn < w.heap.size) (hu : ints B w u nm) (hB : B ≤ w.heap.size) :
    Calls Try.prog 97 #[.int .i64 (a : Int), .pointer (some ⟨gf, 0, none⟩), .pointer (some ⟨gn, 0, none⟩)] w fun e w' => e = .returned (.int .i64 (rnm nm m a : Int)) ∧ Below w.heap.size w w' := by
  have hb0 := (Below.refl w.heap.size w).alloc (Nat.le_refl _) (.cells #[.int .i64 (a : Int)] 72)
  have hc0 := (hf.alloc (.cells #[.int .i64 (a : Int)] 72)).get0
  have hs0 : (w.alloc (.cells #[.int .i64 (a : Int)] 72)).cell? ⟨w.heap.size, 0, none⟩ = some (.int .i64 (a : Int)) := by simp
  have hz0 : (w.alloc (.cells #[.int .i64 (a : Int)] 72)).heap.size = w.heap.size + 1 := by simp
  have hn0 := (hb0.cell (p := ⟨gn, 0, none⟩) hgn).trans hcn
  have HU := hide (hu.alloc (.cells #[.int .i64 (a : Int)] 72))
  have HW := hide hw
  have HF := hide hf
  clear hu hw hf
  go_enter Try.func97, Try.ntmps97
  go_wp2_with fail
  generalize w.alloc (.cells #[.int .i64 (a : Int)] 72) = W at hb0 hs0 hz0 hn0 HU ⊢
  refine (sumOf_c (m : Int) 99 #[.pointer (some ⟨w.heap.size, 0, none⟩), .pointer (some ⟨gn, 0, none⟩)] W (rnmG nm a) (by omega) (by omega) ent_ren11 ?h1 ?h2).mono ?_
  case h1 =>
    intro i hi
    exact rnmG_lt h7 hl HW.out a i (by omega)
  case h2 =>
    intro i w1 hi0 hi hb
    obtain ⟨i, rfl⟩ := Int.eq_ofNat_of_zero_le hi0
    have hr := rnm_in HW.out i (by omega)
    refine ren11_c i a w.heap.size gn u nm B w1 (by omega) (by omega) ha ?_ ?_ (HU.out.below hb (by omega)) (by omega)
    · rw [hb.cell (p := ⟨w.heap.size, 0, none⟩) (by show w.heap.size < W.heap.size; omega)]; exact hs0
    · rw [hb.cell (p := ⟨gn, 0, none⟩) (by show gn < W.heap.size; omega)]; exact hn0
  rw [Int.toNat_natCast, show orTo (rnmG nm a) m = rnm nm m a from rfl]
  rintro e w' ⟨rfl, hb⟩
  have HB := hide (hb0.trans (hb.mono (by omega)))
  clear hb
  go_wp2
  go_ret
  exact ⟨rfl, HB.out⟩

set_option maxHeartbeats 2000000 in
theorem renamed_c (m : Nat) (F : Nat → Bool) (b : Option Addr) (c : Nat) (nm : List Int) (w : World) (hm : ints w.heap.size w (.slice b nm.length c) nm) (h7 : m ≤ 7) (hl : nm.length = m) (hw : wordTo anySet m nm nm.length = true) :
    Calls Try.prog 72 #[.agg (fam (m : Int) F), .slice b nm.length c] w fun e w' => e = .returned (.agg (fam (m : Int) (imgTo F (rnm nm m) 128))) ∧ Below w.heap.size w w' := by
  have HLM := hide hl
  have HW := hide hw
  have hb0 := (((Below.refl w.heap.size w).alloc (Nat.le_refl _) (.cells (fam (m : Int) F) 58)).alloc (by simp) (.cells #[.slice b nm.length c] 30)).alloc (by simp; omega) (.cells (fam 0 noSet) 58)
  have HF0 := hide (((famAt.new 58 w (m : Int) F).alloc (.cells #[.slice b nm.length c] 30)).alloc (.cells (fam 0 noSet) 58))
  have HM0 := hide (((hm.alloc (.cells (fam (m : Int) F) 58)).alloc (.cells #[.slice b nm.length c] 30)).alloc (.cells (fam 0 noSet) 58))
  have HN0 := hide (show (((w.alloc (.cells (fam (m : Int) F) 58)).alloc (.cells #[.slice b nm.length c] 30)).alloc (.cells (fam 0 noSet) 58)).cell? ⟨w.heap.size + 1, 0, none⟩ = some (.slice b nm.length c) by simp [go_sem])
  have HR0 := hide (show famAt 58 (((w.alloc (.cells (fam (m : Int) F) 58)).alloc (.cells #[.slice b nm.length c] 30)).alloc (.cells (fam 0 noSet) 58)) (w.heap.size + 2) 0 noSet by have h := famAt.new 58 ((w.alloc (.cells (fam (m : Int) F) 58)).alloc (.cells #[.slice b nm.length c] 30)) 0 noSet; simpa using h)
  have HZ0 := hide (show (((w.alloc (.cells (fam (m : Int) F) 58)).alloc (.cells #[.slice b nm.length c] 30)).alloc (.cells (fam 0 noSet) 58)).heap.size = w.heap.size + 3 by simp)
  have HB0 := hide hb0
  have h00 := HF0.out.get0
  have HIM := hide (fun W (hb : Below w.heap.size w W) (hz : W.heap.size = w.heap.size + 3) (hf : famAt 58 W w.heap.size (m : Int) F) (hn : W.cell? ⟨w.heap.size + 1, 0, none⟩ = some (.slice b nm.length c)) (hu : ints w.heap.size W (.slice b nm.length c) nm) =>
    image_c (m : Int) (m : Int) F 97 #[.pointer (some ⟨w.heap.size, 0, none⟩), .pointer (some ⟨w.heap.size + 1, 0, none⟩)] W (rnm nm m) ent_ren1 (fun s _ _ => rnm_lt h7 HLM.out HW.out s m (Nat.le_refl _)) (fun s w2 hs _ hb2 => ren1_c m s w.heap.size (w.heap.size + 1) F (.slice b nm.length c) nm w.heap.size w2 h7 HLM.out HW.out hs (hf.below hb2 hf.lt) ((hb2.cell (p := ⟨w.heap.size + 1, 0, none⟩) (by show w.heap.size + 1 < W.heap.size; omega)).trans hn) (by have := hb2.size; omega) (hu.below hb2 (by omega)) (by have := hb2.size; omega)))
  clear hb0 hm hl hw
  go_enter Try.func72, Try.ntmps72
  go_wp2_with (first
    | (refine wpList_alloc_fam zeroT rfl rfl _ (by first | (simp only [World.size_alloc]; rfl) | rfl) ?_)
    | (refine wpList_load_fam rowT sizeT rfl (.tmp _) rfl _ rfl (m : Int) F HF0.out ?_)
    | (go_at_call 96; refine (HIM.out _ HB0.out HZ0.out HF0.out HN0.out HM0.out).mono ?_; rintro e w2 ⟨rfl, hb2⟩; have HR2 := hide (HR0.out.below hb2 (by rw [HZ0.out]; omega)); have HB2 := hide (HB0.out.trans (hb2.mono (by rw [HZ0.out]; omega))); clear hb2)
    | (refine wpList_store_fam sizeT rfl (.tmp _) (.tmp _) rfl (w.heap.size + 2) _ _ rfl rfl _ _ HR2.out ?_))
  exact bodyPost_ret (v := .agg (fam (m : Int) (imgTo F (rnm nm m) 128))) (results_fam rowT sizeT rfl _ _ (w.heap.size + 2) rfl _ _ (HR2.out.row _ _)) rfl ⟨rfl, bl_row HB2.out (by omega) _⟩
set_option maxHeartbeats 2000000 in
theorem implRenameItems_c (n : Int) (v : Value) (l : List Int) (u : Value) (nm : List Int) (w : World) (hl : ints w.heap.size w v l) (hlen : l.length < 1000000000) (base : Nat) (hm : own 3 w base u nm) (hml : nm.length < 1000000000) :
    Calls Try.prog 44 #[.agg #[.int .i64 n, v], u] w fun e w' => ∃ v', e = .returned (.tuple #[.agg #[.int .i64 (rmN n l nm), v'], .bool (rmB n l nm)]) ∧ own 3 w' w.heap.size v' (rmL n l nm) ∧ Below w.heap.size w w' := by
  have hm2 := hm.ints
  obtain ⟨bu, cu, hu⟩ := hm2.shape
  subst hu
  have hr0 : ((w.alloc (.cells #[.int .i64 n, v] 32)).alloc (.cells #[.int .i64 0, .slice none 0 0] 32)).heap[w.heap.size + 1]? = some (.cells #[.int .i64 0, .slice none 0 0] 32) := by have := hp_last (w.alloc (.cells #[.int .i64 n, v] 32)) (.cells #[.int .i64 0, .slice none 0 0] 32); simpa using this
  have H0 := hide (((Below.refl w.heap.size w).alloc (Nat.le_refl _) (.cells #[.int .i64 n, v] 32)).alloc (by simp) (.cells #[.int .i64 0, .slice none 0 0] 32))
  have HZ0 := hide (show ((w.alloc (.cells #[.int .i64 n, v] 32)).alloc (.cells #[.int .i64 0, .slice none 0 0] 32)).heap.size = w.heap.size + 2 by simp)
  have HL0 := hide (((hl.alloc (.cells #[.int .i64 n, v] 32)).alloc (.cells #[.int .i64 0, .slice none 0 0] 32)).mono (show w.heap.size ≤ ((w.alloc (.cells #[.int .i64 n, v] 32)).alloc (.cells #[.int .i64 0, .slice none 0 0] 32)).heap.size by rw [HZ0.out]; omega))
  have HM0 := hide ((hm2.alloc (.cells #[.int .i64 n, v] 32)).alloc (.cells #[.int .i64 0, .slice none 0 0] 32))
  have HR0 := hide hr0
  clear hl hm hm2 hr0
  cases hok : okSp n l
  · have HK := hide hok
    have HB := hide (rmB_no1 (nm := nm) hok)
    rw [rmN_no HB.out, rmL_no HB.out, HB.out]
    clear hok
    go_enter Try.func44, Try.ntmps44
    go_wp2_with (first
      | (go_at_call 58; refine (familyOf_c n v l _ HL0.out hlen).mono ?_; rw [famVal_no n l HK.out]; rintro e w1 ⟨rfl, hb1⟩; have hz1 : w.heap.size + 2 ≤ w1.heap.size := (by have := hb1.size; rw [HZ0.out] at this; exact this); have hr1 : ((w1.alloc (.cells (fam 0 noSet) 58)).setRow w1.heap.size (fam 0 noSet)).heap[w.heap.size + 1]? = some (.cells #[.int .i64 0, .slice none 0 0] 32) := (hp_rowO _ _ _ _ (by omega)).trans ((hp_old _ _ _ (by omega)).trans ((hb1.block (w.heap.size + 1) (by rw [HZ0.out]; omega)).trans HR0.out)); obtain ⟨q0, q1, q2, q3⟩ := zero_slots hr1; have HB2 := hide (bl_row ((H0.out.trans (hb1.mono (by rw [HZ0.out]; omega))).alloc (by omega) (.cells (fam 0 noSet) 58)) (show w.heap.size ≤ w1.heap.size by omega) (fam 0 noSet)); clear hb1 hr1)
      | (refine wpList_alloc_fam zeroT rfl rfl _ (by first | (simp only [World.size_alloc]; rfl) | rfl) ?_)
      | (refine wpList_store_fam sizeT rfl (.tmp _) (.tmp _) rfl _ _ _ rfl rfl _ _ (famAt.new _ _ _ _) ?_))
    refine bodyPost_ret (v := .tuple #[.agg #[.int .i64 0, .slice none 0 0], .bool false]) (by simp [results, Try.results44, go_sem, q0, q1]) rfl ⟨_, rfl, own_nil _ _ _, ?_⟩
    exact (HB2.out.setCell (by show w.heap.size ≤ w.heap.size + 1; omega) _).setCell (by show w.heap.size ≤ w.heap.size + 1; omega) _
  · have HK := hide hok
    have hn := okSp_n hok
    obtain ⟨m, rfl⟩ := Int.eq_ofNat_of_zero_le (show 0 ≤ n by omega)
    have hm7 : m ≤ 7 := by omega
    cases ho : (decide ((nm.length : Int) = (m : Int)) && wordTo anySet (m : Int).toNat nm nm.length)
    · have HO := hide ho
      have HB := hide (show rmB (m : Int) l nm = false by rw [rmB, hok, ho]; rfl)
      rw [rmN_no HB.out, rmL_no HB.out, HB.out]
      clear hok hn ho
      go_enter Try.func44, Try.ntmps44
      go_wp2_with (first
        | (go_at_call 58; refine (familyOf_c (m : Int) v l _ HL0.out hlen).mono ?_; rw [famVal_yes (m : Int) l HK.out]; rintro e w1 ⟨rfl, hb1⟩; have hz1 : w.heap.size + 2 ≤ w1.heap.size := (by have := hb1.size; rw [HZ0.out] at this; exact this); have hr1 : ((w1.alloc (.cells (fam 0 noSet) 58)).setRow w1.heap.size (fam (m : Int) (marksTo l l.length))).heap[w.heap.size + 1]? = some (.cells #[.int .i64 0, .slice none 0 0] 32) := (hp_rowO _ _ _ _ (by omega)).trans ((hp_old _ _ _ (by omega)).trans ((hb1.block (w.heap.size + 1) (by rw [HZ0.out]; omega)).trans HR0.out)); obtain ⟨q0, q1, q2, q3⟩ := zero_slots hr1; have HB2 := hide (bl_row ((H0.out.trans (hb1.mono (by rw [HZ0.out]; omega))).alloc (by omega) (.cells (fam 0 noSet) 58)) (show w.heap.size ≤ w1.heap.size by omega) (fam (m : Int) (marksTo l l.length))); have HRX := hide hr1; have HH := hide ((famAt.new 58 w1 0 noSet).row (m : Int) (marksTo l l.length)); have h00 := HH.out.get0; have HZX := hide (show ((w1.alloc (.cells (fam 0 noSet) 58)).setRow w1.heap.size (fam (m : Int) (marksTo l l.length))).heap.size = w1.heap.size + 1 by simp [World.setRow]); have HMX := hide ((((HM0.out.below hb1 (by rw [HZ0.out]; omega)).mono (show w.heap.size ≤ w1.heap.size by omega)).below (bl_row ((Below.refl w1.heap.size w1).alloc (Nat.le_refl _) (.cells (fam 0 noSet) 58)) (Nat.le_refl _) (fam (m : Int) (marksTo l l.length))) (Nat.le_refl _)).mono (show w1.heap.size ≤ ((w1.alloc (.cells (fam 0 noSet) 58)).setRow w1.heap.size (fam (m : Int) (marksTo l l.length))).heap.size by rw [HZX.out]; omega)); clear hb1 hr1)
        | (refine wpList_alloc_fam zeroT rfl rfl _ (by first | (simp only [World.size_alloc]; rfl) | rfl) ?_)
        | (refine wpList_store_fam sizeT rfl (.tmp _) (.tmp _) rfl _ _ _ rfl rfl _ _ (famAt.new _ _ _ _) ?_)
        | (go_at_call 71; refine (isOrder_c _ nm (m : Int) _ HMX.out hml (by omega) (by omega)).mono ?_; rw [HO.out]; rintro e w2 ⟨rfl, rfl⟩))
      refine bodyPost_ret (v := .tuple #[.agg #[.int .i64 0, .slice none 0 0], .bool false]) (by simp [results, Try.results44, go_sem, q0, q1]) rfl ⟨_, rfl, own_nil _ _ _, ?_⟩
      exact (HB2.out.setCell (by show w.heap.size ≤ w.heap.size + 1; omega) _).setCell (by show w.heap.size ≤ w.heap.size + 1; omega) _
    · have HO := hide ho
      rw [Bool.and_eq_true, decide_eq_true_eq, Int.toNat_natCast] at ho
      have HLM := hide (show nm.length = m by have := ho.1; omega)
      have HW := hide ho.2
      have HB := hide (show rmB (m : Int) l nm = true by rw [rmB, hok, HO.out]; rfl)
      have HF := hide (show imgTo (marksTo l l.length) (rnm nm m) 128 = rmF (m : Int) l nm by rw [img_lm hok]; rfl)
      rw [rmN_yes HB.out, rmL_yes HB.out, HB.out]
      generalize hF : rmF (m : Int) l nm = RF at HF
      clear hok hn ho hF
      go_enter Try.func44, Try.ntmps44
      go_wp2_with (first
        | (go_at_call 58; refine (familyOf_c (m : Int) v l _ HL0.out hlen).mono ?_; rw [famVal_yes (m : Int) l HK.out]; rintro e w1 ⟨rfl, hb1⟩; have hz1 : w.heap.size + 2 ≤ w1.heap.size := (by have := hb1.size; rw [HZ0.out] at this; exact this); have hr1 : ((w1.alloc (.cells (fam 0 noSet) 58)).setRow w1.heap.size (fam (m : Int) (marksTo l l.length))).heap[w.heap.size + 1]? = some (.cells #[.int .i64 0, .slice none 0 0] 32) := (hp_rowO _ _ _ _ (by omega)).trans ((hp_old _ _ _ (by omega)).trans ((hb1.block (w.heap.size + 1) (by rw [HZ0.out]; omega)).trans HR0.out)); obtain ⟨q0, q1, q2, q3⟩ := zero_slots hr1; have HB2 := hide (bl_row ((H0.out.trans (hb1.mono (by rw [HZ0.out]; omega))).alloc (by omega) (.cells (fam 0 noSet) 58)) (show w.heap.size ≤ w1.heap.size by omega) (fam (m : Int) (marksTo l l.length))); have HRX := hide hr1; have HH := hide ((famAt.new 58 w1 0 noSet).row (m : Int) (marksTo l l.length)); have h00 := HH.out.get0; have HZX := hide (show ((w1.alloc (.cells (fam 0 noSet) 58)).setRow w1.heap.size (fam (m : Int) (marksTo l l.length))).heap.size = w1.heap.size + 1 by simp [World.setRow]); have HMX := hide ((((HM0.out.below hb1 (by rw [HZ0.out]; omega)).mono (show w.heap.size ≤ w1.heap.size by omega)).below (bl_row ((Below.refl w1.heap.size w1).alloc (Nat.le_refl _) (.cells (fam 0 noSet) 58)) (Nat.le_refl _) (fam (m : Int) (marksTo l l.length))) (Nat.le_refl _)).mono (show w1.heap.size ≤ ((w1.alloc (.cells (fam 0 noSet) 58)).setRow w1.heap.size (fam (m : Int) (marksTo l l.length))).heap.size by rw [HZX.out]; omega)); clear hb1 hr1)
        | (refine wpList_alloc_fam zeroT rfl rfl _ (by first | (simp only [World.size_alloc]; rfl) | rfl) ?_)
        | (refine wpList_store_fam sizeT rfl (.tmp _) (.tmp _) rfl _ _ _ rfl rfl _ _ (famAt.new _ _ _ _) ?_)
        | (go_at_call 71; refine (isOrder_c _ nm (m : Int) _ HMX.out hml (by omega) (by omega)).mono ?_; rw [HO.out]; rintro e w2 ⟨rfl, rfl⟩)
        | (refine wpList_load_fam rowT sizeT rfl (.tmp _) rfl _ rfl (m : Int) _ HH.out ?_)
        | (go_at_call 72; refine (renamed_c m (marksTo l l.length) bu cu nm _ HMX.out hm7 HLM.out HW.out).mono ?_; rw [HF.out]; rintro e w2 ⟨rfl, hb2⟩; have hz2 : w1.heap.size + 1 ≤ w2.heap.size := (by have := hb2.size; rw [HZX.out] at this; exact this); have HR2 := hide ((hb2.block (w.heap.size + 1) (by rw [HZX.out]; omega)).trans HRX.out); have HB3 := hide (HB2.out.trans (hb2.mono (by rw [HZX.out]; omega))); clear hb2 q0 q1 q2 q3)
        | (go_at_call 48; refine (space_c (m : Int) RF _).mono ?_; rintro e w3 ⟨v3, rfl, ho3, hb3⟩; obtain ⟨aa, cc, hv⟩ := ho3.shape; subst hv; have HO3 := hide ho3; have hr3 := (hb3.block (w.heap.size + 1) (by omega)).trans HR2.out; obtain ⟨q0, q1, q2, q3⟩ := zero_slots hr3; have HB4 := hide (HB3.out.trans (hb3.mono (by omega))); clear hb3 hr3 ho3))
      refine bodyPost_ret (v := .tuple #[.agg #[.int .i64 (m : Int), .slice aa (setsTo RF 128).length cc], .bool true]) (by simp [results, Try.results44, go_sem, q0, q1]) rfl ⟨_, rfl, ?_, ?_⟩
      · have hfin := ((HO3.out.setLow ⟨w.heap.size + 1, 0, none⟩ (by show w.heap.size + 1 < _; omega) (.int .i64 (m : Int))).setLow ⟨w.heap.size + 1, 1, none⟩ (by show w.heap.size + 1 < _; omega) (.slice aa (setsTo RF 128).length cc))
        exact hfin.mono (by omega)
      · exact (HB4.out.setCell (by show w.heap.size ≤ w.heap.size + 1; omega) _).setCell (by show w.heap.size ≤ w.heap.size + 1; omega) _

theorem ord_len {n : Int} {l nm : List Int} (h : okSp n l = true) (h2 : (nm.length : Int) = n) : okOrd nm = wordTo anySet n.toNat nm nm.length := by
  have hn := okSp_n h
  have e : n.toNat = nm.length := by omega
  rw [okOrd, decide_eq_true (by omega), Bool.true_and, e]

set_option maxHeartbeats 3000000 in
theorem specRenameItems_c (n : Int) (v : Value) (l : List Int) (u : Value) (nm : List Int) (w : World) (hl : ints w.heap.size w v l) (hlen : l.length < 1000000000) (base : Nat) (hm : own 3 w base u nm) (hml : nm.length < 1000000000) :
    Calls Try.prog 42 #[.agg #[.int .i64 n, v], u] w fun e w' => ∃ v', e = .returned (.tuple #[.agg #[.int .i64 (rmN n l nm), v'], .bool (rmB n l nm)]) ∧ own 3 w' w.heap.size v' (rmL n l nm) ∧ Below w.heap.size w w' := by
  have HMI := hide hm.ints
  have HOW := hide hm
  have hs0 : ((w.alloc (.cells #[.int .i64 n, v] 32)).alloc (.cells #[.int .i64 0, .slice none 0 0] 32)).heap[w.heap.size]? = some (.cells #[.int .i64 n, v] 32) := (hp_old _ _ _ (by simp)).trans (hp_last _ _)
  have hr0 : ((w.alloc (.cells #[.int .i64 n, v] 32)).alloc (.cells #[.int .i64 0, .slice none 0 0] 32)).heap[w.heap.size + 1]? = some (.cells #[.int .i64 0, .slice none 0 0] 32) := by have := hp_last (w.alloc (.cells #[.int .i64 n, v] 32)) (.cells #[.int .i64 0, .slice none 0 0] 32); simpa using this
  have H0 := hide (((Below.refl w.heap.size w).alloc (Nat.le_refl _) (.cells #[.int .i64 n, v] 32)).alloc (by simp) (.cells #[.int .i64 0, .slice none 0 0] 32))
  have HL0 := hide ((hl.alloc (.cells #[.int .i64 n, v] 32)).alloc (.cells #[.int .i64 0, .slice none 0 0] 32))
  have HOW0 := hide ((hm.alloc (.cells #[.int .i64 n, v] 32)).alloc (.cells #[.int .i64 0, .slice none 0 0] 32))
  have hz0 : ((w.alloc (.cells #[.int .i64 n, v] 32)).alloc (.cells #[.int .i64 0, .slice none 0 0] 32)).heap.size = w.heap.size + 2 := by simp
  have HS0 := hide hs0
  have HR0 := hide hr0
  have HZ0 := hide hz0
  clear hl hm hs0 hr0 hz0
  cases hok : okSp n l
  · have HG := hide (show goodB n l = false by rw [← ok_good]; exact hok)
    have HB := hide (rmB_no1 (nm := nm) hok)
    rw [rmN_no HB.out, rmL_no HB.out, HB.out]
    clear hok
    go_enter Try.func42, Try.ntmps42
    go_wp2_with fail
    refine (spGood_c _ v l _ (HL0.out.mono (by rw [HZ0.out]; omega)) hlen).mono ?_
    rw [HG.out]
    rintro e w1 ⟨rfl, hb1⟩
    have hs1 := (hb1.block w.heap.size (by rw [HZ0.out]; omega)).trans HS0.out
    have hr1 := (hb1.block (w.heap.size + 1) (by rw [HZ0.out]; omega)).trans HR0.out
    have d0 := cells_at0 hs1
    have d1 := cells_at1 hs1
    have c0 := cells_at0 hr1
    have c1 := cells_at1 hr1
    have f0 := hp_free hr1 0
    have f1 := hp_free hr1 1
    have HS1 := hide hs1
    have HR1 := hide hr1
    have HB1 := hide (H0.out.trans (hb1.mono (by rw [HZ0.out]; omega)))
    have HL1 := hide (HL0.out.below hb1 (by rw [HZ0.out]; omega))
    have HOW1 := hide (HOW0.out.kept hb1)
    have HM1 := hide (HMI.out.below HB1.out (Nat.le_refl _))
    have HZ1 := hide (show w.heap.size + 2 ≤ w1.heap.size by rw [← HZ0.out]; exact hb1.size)
    clear hb1 hs1 hr1
    go_wp2
    refine bodyPost_ret (v := .tuple #[.agg #[.int .i64 0, .slice none 0 0], .bool false]) (by simp [results, Try.results42, go_sem, c0, c1]) rfl ⟨_, rfl, own_nil _ _ _, ?_⟩
    exact (HB1.out.setCell (by show w.heap.size ≤ w.heap.size + 1; omega) _).setCell (by show w.heap.size ≤ w.heap.size + 1; omega) _
  · have HG := hide (show goodB n l = true by rw [← ok_good]; exact hok)
    have HSP := hide hok
    by_cases hlm : (nm.length : Int) = n
    · have HOE := hide (ord_len hok hlm)
      have hne : ((nm.length : Int) != n) = false := by simpa using hlm
      cases ho : wordTo anySet n.toNat nm nm.length
      · have HO := hide (show okOrd nm = false by rw [HOE.out, ho])
        have HB := hide (rmB_no3 (l := l) ho)
        rw [rmN_no HB.out, rmL_no HB.out, HB.out]
        clear hok ho hlm
        go_enter Try.func42, Try.ntmps42
        go_wp2_with fail
        refine (spGood_c _ v l _ (HL0.out.mono (by rw [HZ0.out]; omega)) hlen).mono ?_
        rw [HG.out]
        rintro e w1 ⟨rfl, hb1⟩
        have hs1 := (hb1.block w.heap.size (by rw [HZ0.out]; omega)).trans HS0.out
        have hr1 := (hb1.block (w.heap.size + 1) (by rw [HZ0.out]; omega)).trans HR0.out
        have d0 := cells_at0 hs1
        have d1 := cells_at1 hs1
        have c0 := cells_at0 hr1
        have c1 := cells_at1 hr1
        have f0 := hp_free hr1 0
        have f1 := hp_free hr1 1
        have HS1 := hide hs1
        have HR1 := hide hr1
        have HB1 := hide (H0.out.trans (hb1.mono (by rw [HZ0.out]; omega)))
        have HL1 := hide (HL0.out.below hb1 (by rw [HZ0.out]; omega))
        have HOW1 := hide (HOW0.out.kept hb1)
        have HM1 := hide (HMI.out.below HB1.out (Nat.le_refl _))
        have HZ1 := hide (show w.heap.size + 2 ≤ w1.heap.size by rw [← HZ0.out]; exact hb1.size)
        clear hb1 hs1 hr1
        go_wp2_with (first
          | (refine wpList_len sliceT rfl (.tmp _) rfl u rfl _ nm HM1.out ?_)
          | (go_at_call 68; refine (spOrder_c u nm _ base HOW1.out hml).mono ?_; rw [HO.out]; rintro e w2 ⟨rfl, rfl⟩))
        refine bodyPost_ret (v := .tuple #[.agg #[.int .i64 0, .slice none 0 0], .bool false]) (by simp [results, Try.results42, go_sem, c0, c1]) rfl ⟨_, rfl, own_nil _ _ _, ?_⟩
        exact (HB1.out.setCell (by show w.heap.size ≤ w.heap.size + 1; omega) _).setCell (by show w.heap.size ≤ w.heap.size + 1; omega) _
      · have HO := hide (show okOrd nm = true by rw [HOE.out, ho])
        have HB := hide (rmB_yes hok hlm ho)
        have HW := hide ho
        have hn := okSp_n hok
        obtain ⟨m, rfl⟩ := Int.eq_ofNat_of_zero_le (show 0 ≤ n by omega)
        have hm7 : m ≤ 7 := by omega
        have HLM := hide (show nm.length = m by omega)
        have HF := hide (show rmF (m : Int) l nm = lmTo l (fun _ => true) (rnm nm m) l.length from rfl)
        rw [rmN_yes HB.out, rmL_yes HB.out, HB.out]
        generalize hF : rmF (m : Int) l nm = RF at HF
        clear hok ho hlm hn hF
        go_enter Try.func42, Try.ntmps42
        go_wp2_with fail
        refine (spGood_c _ v l _ (HL0.out.mono (by rw [HZ0.out]; omega)) hlen).mono ?_
        rw [HG.out]
        rintro e w1 ⟨rfl, hb1⟩
        have hs1 := (hb1.block w.heap.size (by rw [HZ0.out]; omega)).trans HS0.out
        have hr1 := (hb1.block (w.heap.size + 1) (by rw [HZ0.out]; omega)).trans HR0.out
        have d0 := cells_at0 hs1
        have d1 := cells_at1 hs1
        have c0 := cells_at0 hr1
        have c1 := cells_at1 hr1
        have f0 := hp_free hr1 0
        have f1 := hp_free hr1 1
        have HS1 := hide hs1
        have HR1 := hide hr1
        have HB1 := hide (H0.out.trans (hb1.mono (by rw [HZ0.out]; omega)))
        have HL1 := hide (HL0.out.below hb1 (by rw [HZ0.out]; omega))
        have HOW1 := hide (HOW0.out.kept hb1)
        have HM1 := hide (HMI.out.below HB1.out (Nat.le_refl _))
        have HZ1 := hide (show w.heap.size + 2 ≤ w1.heap.size by rw [← HZ0.out]; exact hb1.size)
        clear hb1 hs1 hr1
        have HT0 := hide (hp_last w1 (.cells #[.int .i64 (m : Int), .slice none 0 0] 32))
        have HS2 := hide ((hp_old w1 (.cells #[.int .i64 (m : Int), .slice none 0 0] 32) w.heap.size (by have := HZ1.out; omega)).trans HS1.out)
        have HR2 := hide ((hp_old w1 (.cells #[.int .i64 (m : Int), .slice none 0 0] 32) (w.heap.size + 1) (by have := HZ1.out; omega)).trans HR1.out)
        have HB2 := hide (HB1.out.alloc (by have := HZ1.out; omega) (.cells #[.int .i64 (m : Int), .slice none 0 0] 32))
        have HL2 := hide (HL1.out.alloc (.cells #[.int .i64 (m : Int), .slice none 0 0] 32))
        have HM2 := hide (HM1.out.alloc (.cells #[.int .i64 (m : Int), .slice none 0 0] 32))
        have hd1 := cells_at1 HS2.out
        have hz2 : (w1.alloc (.cells #[.int .i64 (m : Int), .slice none 0 0] 32)).heap.size = w1.heap.size + 1 := by simp
        have HZ2 := hide hz2
        clear hz2 c0 c1 f0 f1 d1
        go_wp2_with (first
          | (refine wpList_len sliceT rfl (.tmp _) rfl u rfl _ nm HM1.out ?_)
          | (go_at_call 68; refine (spOrder_c u nm _ base HOW1.out hml).mono ?_; rw [HO.out]; rintro e w2 ⟨rfl, rfl⟩)
          | (refine wpList_len sliceT rfl (.tmp _) rfl v rfl w.heap.size l HL2.out ?_))
        go_loopw [34] (fun iv wr => ∃ k : Nat, k ≤ l.length ∧ iv = .int .i64 k ∧ Hid (∃ sv, own 3 wr (w1.heap.size + 1) sv (setsTo (lmTo l (fun _ => true) (rnm nm m) k) 128) ∧ wr.heap[w1.heap.size]? = some (.cells #[.int .i64 (m : Int), sv] 32)) ∧ Hid (wr.heap[w.heap.size + 1]? = some (.cells #[.int .i64 0, .slice none 0 0] 32)) ∧ Hid (Below w.heap.size w wr) ∧ Hid (ints w.heap.size wr v l) ∧ Hid (ints w.heap.size wr u nm) ∧ w1.heap.size + 1 ≤ wr.heap.size) (fun iv _ => l.length - (intOf iv).toNat)
        case atStart => exact ⟨0, Nat.zero_le _, rfl, ⟨_, by rw [show lmTo l (fun _ => true) (rnm nm m) 0 = noSet from rfl, ← sets_none]; exact own_nil _ _ _, HT0.out⟩, HR2, HB2, HL2, HM2, by rw [HZ2.out]; exact Nat.le_refl _⟩
        case round =>
          obtain ⟨k, hk, rfl, HO2, HRR, HBB, HLL, HMM, hsz⟩ := hrel
          clear HT0 HS2 HR2 HB2 HL2 HM2 HZ2 hd1
          by_cases hlt : k < l.length
          · have HX := hide (nth_cast HSP.out k hlt)
            have hy := okSp_lt128 HSP.out _ ((okSp_has HSP.out (nth l k)).2 ⟨k, hlt, rfl⟩)
            have HST := hide (show lmTo l (fun _ => true) (rnm nm m) (k + 1) = upd (lmTo l (fun _ => true) (rnm nm m) k) (rnm nm m (nth l k)) true by rw [lmTo, if_pos rfl])
            generalize nth l k = y at HX hy HST
            generalize lmTo l (fun _ => true) (rnm nm m) k = G at HO2 HST
            obtain ⟨sv, ho2, ht2⟩ := HO2.out
            obtain ⟨sa, sc, hsv⟩ := ho2.shape
            have HSV := hide hsv
            have HOO := hide ho2
            have HTT := hide ht2
            clear ho2 ht2 HO2 hsv
            have HO0 := hide (show orTo (rnmG nm y) 0 = 0 from rfl)
            go_wp2_with (first
              | (refine wpList_at sliceT intS rfl (.tmp _) (.tmp _) rfl v rfl k rfl w.heap.size l HLL.out hlt ?_; intro ad hcell hblk; rw [HX.out] at hcell)
              | (refine wpList_len sliceT rfl (.tmp _) rfl u rfl w.heap.size nm HMM.out ?_))
            go_loop [9, 40] (fun o i => ∃ j : Nat, j ≤ nm.length ∧ i = .int .i64 j ∧ o = .int .i64 (orTo (rnmG nm y) j : Int)) (fun _ i => nm.length - (intOf i).toNat)
            case atStart => exact ⟨0, Nat.zero_le _, rfl, by rw [HO0.out]; rfl⟩
            case round =>
              obtain ⟨j, hj, rfl, rfl⟩ := hrel
              clear hcell
              have hO := rnm_lt hm7 HLM.out HW.out y j (by have := HLM.out; omega)
              have HG1 := hide (show orTo (rnmG nm y) (j + 1) = orTo (rnmG nm y) j ||| rnmG nm y j from rfl)
              by_cases hjl : j < nm.length
              · have hin := rnm_in HW.out j hjl
                have hj7 : j < 7 := by have := HLM.out; omega
                have hgd := (show rnmG nm y j = if y.testBit j = true then p2 (nm[j]?.getD 0).toNat else 0 from rfl)
                generalize orTo (rnmG nm y) j = oj at hO HG1
                generalize hx : nm[j]?.getD 0 = x at hin hgd
                have HX2 := hide hx
                clear hx
                obtain ⟨b, rfl⟩ := Int.eq_ofNat_of_zero_le hin.1
                rw [Int.toNat_natCast] at hgd
                cases hb : y.testBit j
                · have HBT := hide hb
                  have HG2 := hide (show orTo (rnmG nm y) (j + 1) = oj by rw [HG1.out, hgd, hb]; simp)
                  clear hgd hb
                  go_wp2_with (first
                    | (refine wpList_at sliceT intS rfl (.tmp _) (.tmp _) rfl u rfl j rfl w.heap.size nm HMM.out hjl ?_; intro ad2 hcell2 hblk2; rw [HX2.out] at hcell2)
                    | (go_at_call 69; refine (spIn_c (y : Int) (j : Int) _ (by omega) (by omega) (by omega) (by omega)).mono ?_; rw [Int.toNat_natCast, Int.toNat_natCast, HBT.out]; rintro e w' ⟨rfl, rfl⟩))
                  go_round
                  case rel => exact ⟨j + 1, by omega, by go_num, by rw [HG2.out]⟩
                  case measure => simp [intOf]; omega
                · have HBT := hide hb
                  have HG2 := hide (show orTo (rnmG nm y) (j + 1) = oj ||| p2 b by rw [HG1.out, hgd, hb]; rfl)
                  have hp := wrap_p2 b (by omega)
                  have hp2 : IntKind.i64.wrap (2 ^ b) = (p2 b : Int) := by rw [IntWalk.i64_left]; exact hp
                  have hpl := p2_lt128 b (by omega)
                  have hor := i64_or oj (p2 b) (by omega) (by omega)
                  clear hgd hb
                  go_wp2_with (first
                    | (refine wpList_at sliceT intS rfl (.tmp _) (.tmp _) rfl u rfl j rfl w.heap.size nm HMM.out hjl ?_; intro ad2 hcell2 hblk2; rw [HX2.out] at hcell2)
                    | (go_at_call 69; refine (spIn_c (y : Int) (j : Int) _ (by omega) (by omega) (by omega) (by omega)).mono ?_; rw [Int.toNat_natCast, Int.toNat_natCast, HBT.out]; rintro e w' ⟨rfl, rfl⟩))
                  go_round
                  case rel => exact ⟨j + 1, by omega, by go_num, by rw [HG2.out]⟩
                  case measure => simp [intOf]; omega
              · have hje : j = nm.length := by omega
                have HRN := hide (show orTo (rnmG nm y) j = rnm nm m y by rw [hje, HLM.out]; rfl)
                rw [HRN.out] at hO ⊢
                generalize rnm nm m y = r at hO HST HRN
                have hcv := cells_at1 HTT.out
                have hfv := hp_free HTT.out 1
                clear hj HG1 hje
                go_wp2_with (go_at_call 70; refine (spPut_c sv G r _ (w1.heap.size + 1) hO HOO.out hsz).mono ?_; rw [← HST.out]; rintro e w2 ⟨v1, rfl, ho1, hb1⟩; obtain ⟨sa1, sc1, hv1⟩ := ho1.shape; subst hv1; have ht1 := (hb1.block w1.heap.size (by omega)).trans HTT.out; have ct1 := cells_at1 ht1; have ft1 := hp_free ht1 1; have HT1 := hide ht1; have HO1 := hide ho1; have HR1 := hide ((hb1.block (w.heap.size + 1) (by have := HZ1.out; omega)).trans HRR.out); have HB1 := hide (HBB.out.trans (hb1.mono (by have := HZ1.out; omega))); have HL1 := hide (HLL.out.below hb1 (by have := HZ1.out; omega)); have HM1 := hide (HMM.out.below hb1 (by have := HZ1.out; omega)); have hz1 := hb1.size; clear ho1 hb1 ht1)
                go_roundw
                case rel => exact ⟨k + 1, by omega, by go_num, ⟨_, HO1.out.setLow ⟨w1.heap.size, 1, none⟩ (by show w1.heap.size < _; omega) _, bareN HT1.out _⟩, (hp_setO w2 ⟨w1.heap.size, 1, none⟩ (w.heap.size + 1) _ (by show w.heap.size + 1 ≠ w1.heap.size; have := HZ1.out; omega)).trans HR1.out, HB1.out.setCell (p := ⟨w1.heap.size, 1, none⟩) (by show w.heap.size ≤ w1.heap.size; have := HZ1.out; omega) _, HL1.out.setCell ⟨w1.heap.size, 1, none⟩ (by show w.heap.size ≤ w1.heap.size; have := HZ1.out; omega) _, HM1.out.setCell ⟨w1.heap.size, 1, none⟩ (by show w.heap.size ≤ w1.heap.size; have := HZ1.out; omega) _, by show w1.heap.size + 1 ≤ _; simp [World.setCell]; omega⟩
                case measure => simp [intOf]; omega
          · have HKE := hide (show k = l.length by omega)
            obtain ⟨sv, ho, ht⟩ := HO2.out
            obtain ⟨aa, cc, hsv⟩ := ho.shape
            subst hsv
            have HE := hide (show lmTo l (fun _ => true) (rnm nm m) k = RF by rw [HF.out, HKE.out])
            rw [HE.out] at ho ht
            have HOO := hide ho
            have hd0 := cells_at0 ht
            have hd1 := cells_at1 ht
            have c0 := cells_at0 HRR.out
            have c1 := cells_at1 HRR.out
            have f0 := hp_free HRR.out 0
            have f1 := hp_free HRR.out 1
            generalize hRE : setsTo RF 128 = R at HOO hd1
            have HRE := hide hRE
            clear ho ht HO2 hk hRE
            go_wp2
            refine bodyPost_ret (v := .tuple #[.agg #[.int .i64 (m : Int), .slice aa R.length cc], .bool true]) (by simp [results, Try.results42, go_sem, c0, c1]) rfl ⟨_, rfl, ?_, ?_⟩
            · have hz := HZ1.out
              have hfin := ((HOO.out.setLow ⟨w.heap.size + 1, 0, none⟩ (show w.heap.size + 1 < w1.heap.size + 1 by omega) (.int .i64 (m : Int))).setLow ⟨w.heap.size + 1, 1, none⟩ (show w.heap.size + 1 < w1.heap.size + 1 by omega) (.slice aa R.length cc))
              have hfin2 : own 3 _ w.heap.size (.slice aa R.length cc) R := hfin.mono (show w.heap.size ≤ w1.heap.size + 1 by omega)
              rw [HRE.out]; exact hfin2
            · exact (HBB.out.setCell (by show w.heap.size ≤ w.heap.size + 1; omega) _).setCell (by show w.heap.size ≤ w.heap.size + 1; omega) _
    · have hne : ((nm.length : Int) != n) = true := by simpa using hlm
      have HB := hide (rmB_no2 (l := l) hlm)
      rw [rmN_no HB.out, rmL_no HB.out, HB.out]
      clear hok hlm
      go_enter Try.func42, Try.ntmps42
      go_wp2_with fail
      refine (spGood_c _ v l _ (HL0.out.mono (by rw [HZ0.out]; omega)) hlen).mono ?_
      rw [HG.out]
      rintro e w1 ⟨rfl, hb1⟩
      have hs1 := (hb1.block w.heap.size (by rw [HZ0.out]; omega)).trans HS0.out
      have hr1 := (hb1.block (w.heap.size + 1) (by rw [HZ0.out]; omega)).trans HR0.out
      have d0 := cells_at0 hs1
      have d1 := cells_at1 hs1
      have c0 := cells_at0 hr1
      have c1 := cells_at1 hr1
      have f0 := hp_free hr1 0
      have f1 := hp_free hr1 1
      have HS1 := hide hs1
      have HR1 := hide hr1
      have HB1 := hide (H0.out.trans (hb1.mono (by rw [HZ0.out]; omega)))
      have HL1 := hide (HL0.out.below hb1 (by rw [HZ0.out]; omega))
      have HOW1 := hide (HOW0.out.kept hb1)
      have HM1 := hide (HMI.out.below HB1.out (Nat.le_refl _))
      have HZ1 := hide (show w.heap.size + 2 ≤ w1.heap.size by rw [← HZ0.out]; exact hb1.size)
      clear hb1 hs1 hr1
      go_wp2_with (first
        | (refine wpList_len sliceT rfl (.tmp _) rfl u rfl _ nm HM1.out ?_))
      refine bodyPost_ret (v := .tuple #[.agg #[.int .i64 0, .slice none 0 0], .bool false]) (by simp [results, Try.results42, go_sem, c0, c1]) rfl ⟨_, rfl, own_nil _ _ _, ?_⟩
      exact (HB1.out.setCell (by show w.heap.size ≤ w.heap.size + 1; omega) _).setCell (by show w.heap.size ≤ w.heap.size + 1; omega) _
end Go.Proofs.Ytcokdhmccokkiaa
