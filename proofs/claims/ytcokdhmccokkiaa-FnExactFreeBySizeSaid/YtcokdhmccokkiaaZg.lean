/- Contracts: SizesOf and FreeBySize, both. -/
import Derived.Test.YtcokdhmccokkiaaZf
import Derived.Test.YtcokdhmccokkiaaOw
import Derived.Test.YtcokdhmccokkiaaCt
namespace Go.Proofs.Ytcokdhmccokkiaa
open Go.RowKit
set_option maxRecDepth 100000
set_option linter.unusedSimpArgs false
def soL (n : Int) (l : List Int) : List Int := szL (okSp n l) n.toNat l
def fbL (n : Int) (l : List Int) : List Int := szL (okSp n l) n.toNat (fsL n l)
theorem szL_no {m : Nat} {l : List Int} : szL false m l = [] := rfl
theorem szL_yes {m : Nat} {l : List Int} : szL true m l = tlZ (m + 1) (szF l l.length) := rfl
theorem soL_len (n : Int) (l : List Int) : (soL n l).length < 1000000000 := by
  unfold soL
  cases h : okSp n l
  · simp [szL]
  · have := okSp_n h
    exact szL_len _ _ _ (by omega)
theorem fbL_len (n : Int) (l : List Int) : (fbL n l).length < 1000000000 := by
  unfold fbL
  cases h : okSp n l
  · simp [szL]
  · have := okSp_n h
    exact szL_len _ _ _ (by omega)
attribute [local irreducible] p2 low memB risB
set_option maxHeartbeats 1000000 in
theorem implSizesOf_c (n : Int) (v : Value) (l : List Int) (w : World) (hl : ints w.heap.size w v l) (hlen : l.length < 1000000000) :
    Calls Try.prog 30 #[.agg #[.int .i64 n, v]] w fun e w' => ∃ v', e = .returned (.tuple #[v', .bool (okSp n l)]) ∧ own 3 w' w.heap.size v' (soL n l) ∧ Below w.heap.size w w' := by
  have HL := hide ((hl.alloc (.cells #[.int .i64 n, v] 32)).mono (show w.heap.size ≤ (w.alloc (.cells #[.int .i64 n, v] 32)).heap.size by simp))
  have H0 := hide ((Below.refl w.heap.size w).alloc (Nat.le_refl _) (.cells #[.int .i64 n, v] 32))
  have HZ := hide (show (w.alloc (.cells #[.int .i64 n, v] 32)).heap.size = w.heap.size + 1 by simp)
  clear hl
  unfold soL
  cases hok : okSp n l
  · have HK := hide hok
    rw [szL_no]
    clear hok
    go_enter Try.func30, Try.ntmps30
    go_wp2_with (first
      | (go_at_call 58; refine (familyOf_c n v l _ HL.out hlen).mono ?_; rw [famVal_no n l HK.out]; rintro e w1 ⟨rfl, hb⟩; have hz1 := hb.size; rw [HZ.out] at hz1; have HB := hide (bl_row ((H0.out.trans (hb.mono (by rw [HZ.out]; omega))).alloc (by omega) (.cells (fam 0 noSet) 58)) (show w.heap.size ≤ w1.heap.size by omega) (fam 0 noSet)); clear hb)
      | (refine wpList_alloc_fam zeroT rfl rfl _ (by first | (simp only [World.size_alloc]; rfl) | rfl) ?_)
      | (refine wpList_store_fam sizeT rfl (.tmp _) (.tmp _) rfl w1.heap.size _ _ rfl rfl _ _ (famAt.new _ _ _ _) ?_)
      )
    go_ret2
    exact ⟨_, rfl, own_nil _ _ _, HB.out⟩
  · have HK := hide hok
    have hn := okSp_n hok
    obtain ⟨m, rfl⟩ := Int.eq_ofNat_of_zero_le (show 0 ≤ n by omega)
    have hm7 : m ≤ 7 := by omega
    have HSZ := hide (fun w1 => sizes_c m (marksTo l l.length) w1 hm7)
    rw [← okSp_list hok] at HSZ
    rw [szL_yes, Int.toNat_natCast]
    clear hok hn
    go_enter Try.func30, Try.ntmps30
    go_wp2_with (first
      | (go_at_call 58; refine (familyOf_c (m : Int) v l _ HL.out hlen).mono ?_; rw [famVal_yes (m : Int) l HK.out]; rintro e w1 ⟨rfl, hb⟩; have hz1 := hb.size; rw [HZ.out] at hz1; have HH := hide ((famAt.new 58 w1 0 noSet).row (m : Int) (marksTo l l.length)); have HZ2 := hide (show ((w1.alloc (.cells (fam 0 noSet) 58)).setRow w1.heap.size (fam (m : Int) (marksTo l l.length))).heap.size = w1.heap.size + 1 by simp [World.setRow]); have HB := hide (bl_row ((H0.out.trans (hb.mono (by rw [HZ.out]; omega))).alloc (by omega) (.cells (fam 0 noSet) 58)) (show w.heap.size ≤ w1.heap.size by omega) (fam (m : Int) (marksTo l l.length))); clear hb)
      | (refine wpList_alloc_fam zeroT rfl rfl _ (by first | (simp only [World.size_alloc]; rfl) | rfl) ?_)
      | (refine wpList_store_fam sizeT rfl (.tmp _) (.tmp _) rfl w1.heap.size _ _ rfl rfl _ _ (famAt.new _ _ _ _) ?_)
      | (refine wpList_load_fam rowT sizeT rfl (.tmp _) rfl w1.heap.size rfl (m : Int) _ HH.out ?_)
      | (go_at_call 59; refine (HSZ.out _).mono ?_; rintro e w3 ⟨v3, rfl, ho3, hb3⟩; rw [HZ2.out] at ho3 hb3; have HO3 := hide (show own 3 w3 w.heap.size v3 _ from ho3.mono (by omega)); have HB3 := hide (HB.out.trans (hb3.mono (by omega))); clear hb3 ho3))
    go_ret2
    exact ⟨_, rfl, HO3.out, HB3.out⟩
set_option maxHeartbeats 1000000 in
theorem implFreeBySize_c (n : Int) (v : Value) (l : List Int) (w : World) (hl : ints w.heap.size w v l) (hlen : l.length < 1000000000) :
    Calls Try.prog 37 #[.agg #[.int .i64 n, v]] w fun e w' => ∃ v', e = .returned (.tuple #[v', .bool (okSp n l)]) ∧ own 3 w' w.heap.size v' (fbL n l) ∧ Below w.heap.size w w' := by
  have HL := hide ((hl.alloc (.cells #[.int .i64 n, v] 32)).mono (show w.heap.size ≤ (w.alloc (.cells #[.int .i64 n, v] 32)).heap.size by simp))
  have H0 := hide ((Below.refl w.heap.size w).alloc (Nat.le_refl _) (.cells #[.int .i64 n, v] 32))
  have HZ := hide (show (w.alloc (.cells #[.int .i64 n, v] 32)).heap.size = w.heap.size + 1 by simp)
  clear hl
  unfold fbL
  cases hok : okSp n l
  · have HK := hide hok
    rw [szL_no]
    clear hok
    go_enter Try.func37, Try.ntmps37
    go_wp2_with (first
      | (go_at_call 58; refine (familyOf_c n v l _ HL.out hlen).mono ?_; rw [famVal_no n l HK.out]; rintro e w1 ⟨rfl, hb⟩; have hz1 := hb.size; rw [HZ.out] at hz1; have HB := hide (bl_row ((H0.out.trans (hb.mono (by rw [HZ.out]; omega))).alloc (by omega) (.cells (fam 0 noSet) 58)) (show w.heap.size ≤ w1.heap.size by omega) (fam 0 noSet)); clear hb)
      | (refine wpList_alloc_fam zeroT rfl rfl _ (by first | (simp only [World.size_alloc]; rfl) | rfl) ?_)
      | (refine wpList_store_fam sizeT rfl (.tmp _) (.tmp _) rfl w1.heap.size _ _ rfl rfl _ _ (famAt.new _ _ _ _) ?_)
      )
    go_ret2
    exact ⟨_, rfl, own_nil _ _ _, HB.out⟩
  · have HK := hide hok
    have hn := okSp_n hok
    have HFL := hide (fsL_impl hok)
    obtain ⟨m, rfl⟩ := Int.eq_ofNat_of_zero_le (show 0 ≤ n by omega)
    have hm7 : m ≤ 7 := by omega
    rw [Int.toNat_natCast] at HFL
    have HSZ := hide (fun w1 => sizes_c m (cutAt (frB (marksTo l l.length) m) (low m + 1)) w1 hm7)
    rw [HFL.out] at HSZ
    rw [szL_yes, Int.toNat_natCast]
    clear hok hn
    go_enter Try.func37, Try.ntmps37
    go_wp2_with (first
      | (go_at_call 58; refine (familyOf_c (m : Int) v l _ HL.out hlen).mono ?_; rw [famVal_yes (m : Int) l HK.out]; rintro e w1 ⟨rfl, hb⟩; have hz1 := hb.size; rw [HZ.out] at hz1; have HH := hide ((famAt.new 58 w1 0 noSet).row (m : Int) (marksTo l l.length)); have HZ2 := hide (show ((w1.alloc (.cells (fam 0 noSet) 58)).setRow w1.heap.size (fam (m : Int) (marksTo l l.length))).heap.size = w1.heap.size + 1 by simp [World.setRow]); have HB := hide (bl_row ((H0.out.trans (hb.mono (by rw [HZ.out]; omega))).alloc (by omega) (.cells (fam 0 noSet) 58)) (show w.heap.size ≤ w1.heap.size by omega) (fam (m : Int) (marksTo l l.length))); clear hb)
      | (refine wpList_alloc_fam zeroT rfl rfl _ (by first | (simp only [World.size_alloc]; rfl) | rfl) ?_)
      | (refine wpList_store_fam sizeT rfl (.tmp _) (.tmp _) rfl w1.heap.size _ _ rfl rfl _ _ (famAt.new _ _ _ _) ?_)
      | (refine wpList_load_fam rowT sizeT rfl (.tmp _) rfl w1.heap.size rfl (m : Int) _ HH.out ?_)
      | (go_at_call 61; refine (freeSets_c m (marksTo l l.length) _ hm7).mono ?_; rintro e w2 ⟨rfl, hb2⟩; have hz2 := hb2.size; rw [HZ2.out] at hz2; have HB2 := hide (HB.out.trans (hb2.mono (by rw [HZ2.out]; omega))); clear hb2)
      | (go_at_call 59; refine (HSZ.out _).mono ?_; rintro e w3 ⟨v3, rfl, ho3, hb3⟩; have HO3 := hide (show own 3 w3 w.heap.size v3 _ from ho3.mono (by omega)); have HB3 := hide (HB2.out.trans (hb3.mono (by omega))); clear hb3 ho3))
    go_ret2
    exact ⟨_, rfl, HO3.out, HB3.out⟩
/-! The specification's. -/
set_option maxHeartbeats 2000000 in
theorem specSizesOf_c (n : Int) (v : Value) (l : List Int) (w : World) (hl : ints w.heap.size w v l) (hlen : l.length < 1000000000) :
    Calls Try.prog 29 #[.agg #[.int .i64 n, v]] w fun e w' => ∃ v', e = .returned (.tuple #[v', .bool (okSp n l)]) ∧ own 3 w' w.heap.size v' (soL n l) ∧ Below w.heap.size w w' := by
  have HL := hide ((hl.alloc (.cells #[.int .i64 n, v] 32)).mono (show w.heap.size ≤ (w.alloc (.cells #[.int .i64 n, v] 32)).heap.size by simp))
  have H0 := hide ((Below.refl w.heap.size w).alloc (Nat.le_refl _) (.cells #[.int .i64 n, v] 32))
  have HS0 := hide (hp_last w (.cells #[.int .i64 n, v] 32))
  have HZ := hide (show (w.alloc (.cells #[.int .i64 n, v] 32)).heap.size = w.heap.size + 1 by simp)
  have hc0 := cells_at0 HS0.out
  have hc1 := cells_at1 HS0.out
  have HG := hide (spGood_c n v l (w.alloc (.cells #[.int .i64 n, v] 32)) HL.out hlen)
  rw [← ok_good] at HG
  clear hl
  unfold soL
  cases hok : okSp n l
  · rw [hok] at HG
    rw [szL_no]
    clear hok
    go_enter Try.func29, Try.ntmps29
    go_wp2_with (first
      | (go_at_call 53; refine HG.out.mono ?_; rintro e w1 ⟨rfl, hb1⟩; have HB1 := hide (H0.out.trans (hb1.mono (by rw [HZ.out]; omega))); clear hb1 hc0 hc1)
      )
    go_ret2
    exact ⟨_, rfl, own_nil _ _ _, HB1.out⟩
  · rw [hok] at HG
    have hn := okSp_n hok
    have HLR := hide (show ∀ j, j < l.length → 0 ≤ l[j]?.getD 0 ∧ l[j]?.getD 0 < 2 ^ n.toNat from fun j hj => by have h1 := okSp_pos hok j hj; have h2 := low_succ n.toNat; have e : ((2 : Int) ^ n.toNat) = ((2 ^ n.toNat : Nat) : Int) := (by push_cast; rfl); rw [e]; omega)
    obtain ⟨m, rfl⟩ := Int.eq_ofNat_of_zero_le (show 0 ≤ n by omega)
    have hm7 : m ≤ 7 := by omega
    have hp7 := p2_le m 7 hm7
    rw [Int.toNat_natCast] at HLR
    rw [szL_yes, Int.toNat_natCast]
    clear hok hn
    generalize hLL : l = L at *
    clear hLL
    go_enter Try.func29, Try.ntmps29
    go_wp2_with (first
      | (go_at_call 53; refine HG.out.mono ?_; rintro e w1 ⟨rfl, hb1⟩; have hz1 := hb1.size; rw [HZ.out] at hz1; have HS1 := hide ((hb1.block w.heap.size (by rw [HZ.out]; omega)).trans HS0.out); have HL1 := hide ((HL.out.below hb1 (by rw [HZ.out]; omega)).mono hb1.size); have HB1 := hide (H0.out.trans (hb1.mono (by rw [HZ.out]; omega))); have d0 := cells_at0 HS1.out; have d1 := cells_at1 HS1.out; clear hb1 hc0 hc1)
      | (refine wpList_makeInts sliceT intI rfl (.tmp 12) (.tmp 12) rfl (m + 1) rfl rfl (by omega) ?_; intro w2 hz2 hk2 hb2; rw [← szF_zero L] at hk2; have HK2 := hide hk2; have HS2 := hide ((hb2.block w.heap.size (by omega)).trans HS1.out); have HI2 := hide (HL1.out.below hb2 (Nat.le_refl _)); have HB2 := hide (HB1.out.trans (hb2.mono (by omega))); have e0 := cells_at0 HS2.out; have e1 := cells_at1 HS2.out; clear hk2 hb2 d0 d1)
      | (refine wpList_len sliceT rfl (.tmp _) rfl v rfl w1.heap.size L HI2.out ?_))
    have HKW := HK2
    have HBW := HB2
    have HIL := hide (fun wr (ho : Other (.slice (some ⟨w1.heap.size, 0, none⟩) (m + 1) (m + 1)) w2 wr) => (HI2.out.below (ho.below w1.heap.size (fun g hg => by cases hg; exact Nat.le_refl _) (by omega)) (Nat.le_refl _)).mono (show w1.heap.size ≤ wr.heap.size by have := ho.size; omega))
    have hwz : w.heap.size ≤ w2.heap.size := by omega
    clear HK2 HB2 HI2
    generalize hWW : w2 = W at *
    clear hWW
    clear e0 e1
    have hob : (Value.slice (some ⟨w1.heap.size, 0, none⟩) (m + 1) (m + 1)).ownBlock = some w1.heap.size := rfl
    go_loopw [17] (fun iv wr => ∃ k : Nat, k ≤ L.length ∧ iv = .int .i64 (k : Int) ∧ Hid (blk 3 wr w1.heap.size (tlZ (m + 1) (szF L k))) ∧ Hid (Other (.slice (some ⟨w1.heap.size, 0, none⟩) (m + 1) (m + 1)) W wr)) (fun iv _ => L.length - (intOf iv).toNat)
    case atStart => exact ⟨0, by omega, rfl, HKW.out, Other.refl _ _⟩
    case round =>
      obtain ⟨k, hk, rfl, HK, HB⟩ := hrel
      have hsz := HB.out.size
      have HIW := hide (HIL.out _ HB.out)
      have hbl := tlZ_len (m + 1) (szF L k)
      by_cases hlt : k < L.length
      · have hlt' : (k : Int) < (L.length : Int) := by omega
        obtain ⟨hr0, hr1⟩ := HLR.out k hlt
        obtain ⟨x, hx⟩ := Int.eq_ofNat_of_zero_le hr0
        have e : ((2 : Int) ^ m) = ((2 ^ m : Nat) : Int) := by push_cast; rfl
        have hxm : x < 2 ^ m := by rw [hx, e] at hr1; omega
        have hx7 : x < 128 := by omega
        have hpm := pc_most m hm7 x hx7 hxm
        have HST := hide (szF_set L k (m + 1) x (by rw [hx, Int.toNat_natCast]))
        have hcell := HK.out.cell (pc x) (by rw [hbl]; omega)
        rw [tlZ_at _ (by omega)] at hcell
        have hfree := HK.out.free (pc x)
        have how := HK.out.own (base := w1.heap.size) (Nat.le_refl _) (by rw [hbl]; unfold maxLen; omega)
        rw [hbl] at how
        have HOW := hide how
        have hsb := szF_le L k (pc x)
        have HSP := hide (fun w4 => by have := spCount_c (x : Int) w4 (by omega) (by omega); rw [Int.toNat_natCast] at this; exact this)
        have HX := hide hx
        generalize hs : szF L k (pc x) = s at *
        generalize hT : tlZ (m + 1) (szF L k) = T at *
        clear hx hr0 hr1 how hs hT e
        generalize pc x = c at *
        go_wp2_with (first
          | (refine wpList_at sliceT intS rfl (.tmp 15) (.tmp _) rfl _ rfl k rfl wr.heap.size L HIW.out hlt ?_; intro ad hca hba; rw [HX.out] at hca)
          | (go_at_call 57; refine (HSP.out _).mono ?_; rintro e w4 ⟨rfl, rfl⟩)
          | (refine wpList_atOwn sliceT (by kernel_rfl) rfl (.tmp 21) (.tmp 23) rfl _ rfl _ rfl c rfl w1.heap.size T HOW.out (by rw [hbl]; omega) ?_; intro g hg; have hg2 : w1.heap.size = g := (by simpa [Value.ownBlock] using hg); subst hg2; clear hg))
        go_roundw
        case rel => exact ⟨k + 1, by omega, by go_num, by rw [← HST.out]; exact HK.out.set c (s + 1), HB.out.setCell hob _ _⟩
        case measure => (simp [intOf] <;> omega)
      · have HE := hide (show k = L.length by omega)
        have hlt' : ¬ ((k : Int) < (L.length : Int)) := by omega
        have how := HK.out.own (base := w.heap.size) (by omega) (by rw [hbl]; unfold maxLen; omega)
        rw [hbl] at how
        have HOW := hide how
        clear how hbl
        go_wp2
        go_ret2
        exact ⟨_, rfl, by rw [← HE.out]; exact HOW.out, HBW.out.trans (HB.out.below w.heap.size (fun g hg => by rw [hob] at hg; cases hg; omega) (by omega))⟩
set_option maxHeartbeats 2000000 in
theorem specFreeBySize_c (n : Int) (v : Value) (l : List Int) (w : World) (hl : ints w.heap.size w v l) (hlen : l.length < 1000000000) :
    Calls Try.prog 36 #[.agg #[.int .i64 n, v]] w fun e w' => ∃ v', e = .returned (.tuple #[v', .bool (okSp n l)]) ∧ own 3 w' w.heap.size v' (fbL n l) ∧ Below w.heap.size w w' := by
  have HL := hide ((hl.alloc (.cells #[.int .i64 n, v] 32)).mono (show w.heap.size ≤ (w.alloc (.cells #[.int .i64 n, v] 32)).heap.size by simp))
  have H0 := hide ((Below.refl w.heap.size w).alloc (Nat.le_refl _) (.cells #[.int .i64 n, v] 32))
  have HS0 := hide (hp_last w (.cells #[.int .i64 n, v] 32))
  have HZ := hide (show (w.alloc (.cells #[.int .i64 n, v] 32)).heap.size = w.heap.size + 1 by simp)
  have hc0 := cells_at0 HS0.out
  have hc1 := cells_at1 HS0.out
  have HG := hide (spGood_c n v l (w.alloc (.cells #[.int .i64 n, v] 32)) HL.out hlen)
  rw [← ok_good] at HG
  clear hl
  unfold fbL
  cases hok : okSp n l
  · rw [hok] at HG
    rw [szL_no]
    clear hok
    go_enter Try.func36, Try.ntmps36
    go_wp2_with (first
      | (go_at_call 53; refine HG.out.mono ?_; rintro e w1 ⟨rfl, hb1⟩; have HB1 := hide (H0.out.trans (hb1.mono (by rw [HZ.out]; omega))); clear hb1 hc0 hc1)
      )
    go_ret2
    exact ⟨_, rfl, own_nil _ _ _, HB1.out⟩
  · rw [hok] at HG
    have hn := okSp_n hok
    have HI := hide (okSp_inc hok)
    have HFL := hide (fsL_yes hok)
    have HLR := hide (fsL_range n l)
    have hfl := fsL_len n l
    obtain ⟨m, rfl⟩ := Int.eq_ofNat_of_zero_le (show 0 ≤ n by omega)
    have hm7 : m ≤ 7 := by omega
    have hp7 := p2_le m 7 hm7
    rw [Int.toNat_natCast] at HLR HFL
    have HAF := hide (fun w1 h => alFree_c m v l w1 h HI.out hlen hm7)
    rw [← HFL.out] at HAF
    rw [szL_yes, Int.toNat_natCast]
    clear hok hn HFL
    generalize hLL : fsL (m : Int) l = L at *
    clear hLL
    go_enter Try.func36, Try.ntmps36
    go_wp2_with (first
      | (go_at_call 53; refine HG.out.mono ?_; rintro e w1 ⟨rfl, hb1⟩; have hz1 := hb1.size; rw [HZ.out] at hz1; have HS1 := hide ((hb1.block w.heap.size (by rw [HZ.out]; omega)).trans HS0.out); have HL1 := hide ((HL.out.below hb1 (by rw [HZ.out]; omega)).mono hb1.size); have HB1 := hide (H0.out.trans (hb1.mono (by rw [HZ.out]; omega))); have d0 := cells_at0 HS1.out; have d1 := cells_at1 HS1.out; clear hb1 hc0 hc1)
      | (refine wpList_makeInts sliceT intI rfl (.tmp 12) (.tmp 12) rfl (m + 1) rfl rfl (by omega) ?_; intro w2 hz2 hk2 hb2; rw [← szF_zero L] at hk2; have HK2 := hide hk2; have HS2 := hide ((hb2.block w.heap.size (by omega)).trans HS1.out); have HI2 := hide (HL1.out.below hb2 (Nat.le_refl _)); have HB2 := hide (HB1.out.trans (hb2.mono (by omega))); have e0 := cells_at0 HS2.out; have e1 := cells_at1 HS2.out; clear hk2 hb2 d0 d1)
      | (go_at_call 60; refine (HAF.out _ (HI2.out.mono (by omega))).mono ?_; rintro e w3 ⟨v3, rfl, ho3, hb3⟩; have hz3 := hb3.size; have HO3 := hide ho3; have HI3 := hide ho3.ints; have HK3 := hide (HK2.out.below hb3 (by omega)); have HB3 := hide (HB2.out.trans (hb3.mono (by omega))); clear hb3 ho3)
      | (refine wpList_len sliceT rfl (.tmp _) rfl v3 rfl w3.heap.size L HI3.out ?_))
    have HKW := HK3
    have HBW := HB3
    have HIL := hide (fun wr (ho : Other (.slice (some ⟨w1.heap.size, 0, none⟩) (m + 1) (m + 1)) w3 wr) => (HO3.out.other ho (fun g hg e => by have h1 := HO3.out.base g hg; have h2 : w1.heap.size = g := (by simpa [Value.ownBlock] using e); omega)).ints)
    have hwz : w.heap.size ≤ w3.heap.size := by omega
    clear HK3 HB3 HI2 HI3 HO3 HK2
    generalize hWW : w3 = W at *
    clear hWW
    clear e0 e1
    have hob : (Value.slice (some ⟨w1.heap.size, 0, none⟩) (m + 1) (m + 1)).ownBlock = some w1.heap.size := rfl
    go_loopw [17] (fun iv wr => ∃ k : Nat, k ≤ L.length ∧ iv = .int .i64 (k : Int) ∧ Hid (blk 3 wr w1.heap.size (tlZ (m + 1) (szF L k))) ∧ Hid (Other (.slice (some ⟨w1.heap.size, 0, none⟩) (m + 1) (m + 1)) W wr)) (fun iv _ => L.length - (intOf iv).toNat)
    case atStart => exact ⟨0, by omega, rfl, HKW.out, Other.refl _ _⟩
    case round =>
      obtain ⟨k, hk, rfl, HK, HB⟩ := hrel
      have hsz := HB.out.size
      have HIW := hide (HIL.out _ HB.out)
      have hbl := tlZ_len (m + 1) (szF L k)
      by_cases hlt : k < L.length
      · have hlt' : (k : Int) < (L.length : Int) := by omega
        obtain ⟨hr0, hr1⟩ := HLR.out k hlt
        obtain ⟨x, hx⟩ := Int.eq_ofNat_of_zero_le hr0
        have e : ((2 : Int) ^ m) = ((2 ^ m : Nat) : Int) := by push_cast; rfl
        have hxm : x < 2 ^ m := by rw [hx, e] at hr1; omega
        have hx7 : x < 128 := by omega
        have hpm := pc_most m hm7 x hx7 hxm
        have HST := hide (szF_set L k (m + 1) x (by rw [hx, Int.toNat_natCast]))
        have hcell := HK.out.cell (pc x) (by rw [hbl]; omega)
        rw [tlZ_at _ (by omega)] at hcell
        have hfree := HK.out.free (pc x)
        have how := HK.out.own (base := w1.heap.size) (Nat.le_refl _) (by rw [hbl]; unfold maxLen; omega)
        rw [hbl] at how
        have HOW := hide how
        have hsb := szF_le L k (pc x)
        have HSP := hide (fun w4 => by have := spCount_c (x : Int) w4 (by omega) (by omega); rw [Int.toNat_natCast] at this; exact this)
        have HX := hide hx
        generalize hs : szF L k (pc x) = s at *
        generalize hT : tlZ (m + 1) (szF L k) = T at *
        clear hx hr0 hr1 how hs hT e
        generalize pc x = c at *
        go_wp2_with (first
          | (refine wpList_at sliceT intS rfl (.tmp 15) (.tmp _) rfl _ rfl k rfl wr.heap.size L HIW.out hlt ?_; intro ad hca hba; rw [HX.out] at hca)
          | (go_at_call 57; refine (HSP.out _).mono ?_; rintro e w4 ⟨rfl, rfl⟩)
          | (refine wpList_atOwn sliceT (by kernel_rfl) rfl (.tmp 21) (.tmp 23) rfl _ rfl _ rfl c rfl w1.heap.size T HOW.out (by rw [hbl]; omega) ?_; intro g hg; have hg2 : w1.heap.size = g := (by simpa [Value.ownBlock] using hg); subst hg2; clear hg))
        go_roundw
        case rel => exact ⟨k + 1, by omega, by go_num, by rw [← HST.out]; exact HK.out.set c (s + 1), HB.out.setCell hob _ _⟩
        case measure => (simp [intOf] <;> omega)
      · have HE := hide (show k = L.length by omega)
        have hlt' : ¬ ((k : Int) < (L.length : Int)) := by omega
        have how := HK.out.own (base := w.heap.size) (by omega) (by rw [hbl]; unfold maxLen; omega)
        rw [hbl] at how
        have HOW := hide how
        clear how hbl
        go_wp2
        go_ret2
        exact ⟨_, rfl, by rw [← HE.out]; exact HOW.out, HBW.out.trans (HB.out.below w.heap.size (fun g hg => by rw [hob] at hg; cases hg; omega) (by omega))⟩
end Go.Proofs.Ytcokdhmccokkiaa
