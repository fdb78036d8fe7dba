/- Contracts: AreMaking, the program's. -/
import Derived.Test.YtbcohlnimmoifaaAmk
namespace Go.Proofs.Ytbcohlnimmoifaa
open Go.RowKit
set_option maxRecDepth 100000
set_option linter.unusedSimpArgs false
attribute [local irreducible] p2 low memB risB
/-! ### The program's -/
theorem ent_full1 : enters Try.prog 36 := enters_of Try.func36 (by kernel_rfl) (by kernel_rfl)
theorem full1_c (n : Nat) (F : Nat → Bool) (g : Nat) (x : Value) (m : List Int) (w : World) (hg : famAt 44 w g (n : Int) F) (hm : ints w.heap.size w x m) (hml : m.length < 1000000000) (h7 : n ≤ 7) :
    Calls Try.prog 36 #[x, .pointer (some ⟨g, 0, none⟩)] w fun e w' => e = .returned (.bool (!(decide (m.length = n) && wordB F n m))) ∧ Below w.heap.size w w' := by
  have HG := hide hg
  have HF := hide (isFullWord_c n F x m w hm hml h7)
  generalize (decide (m.length = n) && wordB F n m) = b at *
  go_enter Try.func36, Try.ntmps36
  go_wp2_with (first
    | (refine wpList_load_fam rowT sizeT rfl (.tmp _) rfl g rfl (n : Int) F HG.out ?_)
    | (go_at_call 37; refine HF.out.mono ?_; rintro e w2 ⟨rfl, hb2⟩; have HB2 := hide hb2; clear hb2))
  go_ret
  exact ⟨rfl, HB2.out⟩
set_option maxHeartbeats 2000000 in
theorem indexFuncR_c (u : Value) (L : List (List Int)) (kf : Nat) (pre caps : Array Value) (g : List Int → Bool) (w : World) (hch : rows w.heap.size w u L) (hcl : L.length < 1000000000) (hk : enters Try.prog kf)
    (hg : ∀ (k : Nat) (x : Value) (w1 : World), k < L.length → Below w.heap.size w w1 → ints w1.heap.size w1 x (L[k]?.getD []) → Calls Try.prog kf (pre ++ #[x] ++ caps) w1 fun e w2 => e = .returned (.bool (!g (L[k]?.getD []))) ∧ Below w1.heap.size w1 w2) :
    Calls Try.prog 50 #[u, .func (.func kf) pre caps] w fun e w' => ∃ r : Int, e = .returned (.int .i64 r) ∧ ((r = -1 ∧ amTo g L L.length = true) ∨ (∃ j : Nat, r = (j : Int) ∧ amTo g L L.length = false)) ∧ Below w.heap.size w w' := by
  have hk1 : ∀ (args : Array Value) (w : World), Sem.run Try.prog (callFunc kf args) w = .ok (.enter kf args) w := hk
  obtain ⟨ua, uc, hu⟩ := hch.shape
  subst hu
  have HCH := hide hch
  have HG := hide hg
  clear hch hg
  go_enter Try.func50, Try.ntmps50
  go_wp2_with fail
  go_loopw [8] (fun iv wr => ∃ k : Nat, k ≤ L.length ∧ iv = .int .i64 (k : Int) ∧ Hid (amTo g L k = true) ∧ Hid (Below w.heap.size w wr)) (fun iv _ => L.length - (intOf iv).toNat)
  case atStart => exact ⟨0, by omega, rfl, rfl, Below.refl _ _⟩
  case round =>
    obtain ⟨k, hk, rfl, HN, HB⟩ := hrel
    have HCW := hide (HCH.out.below HB.out (Nat.le_refl _))
    have hsz := HB.out.size
    by_cases hlt : k < L.length
    · have hlt' : (k : Int) < (L.length : Int) := by omega
      have HNX := hide (show amTo g L (k + 1) = g (L[k]?.getD []) by rw [amTo_next, HN.out, Bool.true_and])
      have HA := hide (fun x w1 h => HG.out k x w1 hlt h)
      generalize hx : L[k]?.getD [] = r at HNX HA
      have HX := hide hx
      clear hx
      generalize hd : g r = d at HNX HA
      clear hd
      cases d
      all_goals
        go_wp2_with (first
          | (refine wpList_at2 sliceT2 rowS2 rfl (.tmp _) (.tmp _) rfl _ rfl _ rfl k rfl w.heap.size L HCW.out hlt ?_; intro ad uu hcell hblk hu; rw [HX.out] at hu; have HU := hide (hu.mono (show w.heap.size ≤ wr.heap.size by omega)); obtain ⟨sa, sc, hsu⟩ := hu.shape; clear hu; subst hsu))
        refine (HA.out _ _ HB.out HU.out).mono ?_
        rintro e w4 ⟨rfl, hb4⟩
        have HB4 := hide (HB.out.trans (hb4.mono hsz))
        clear hb4
        go_wp2
      · go_ret
        exact ⟨_, rfl, .inr ⟨k, rfl, amTo_no HNX.out _ (by omega)⟩, HB4.out⟩
      · go_roundw
        case rel => exact ⟨k + 1, by omega, by go_num, HNX, HB4⟩
        case measure => (simp [intOf] <;> omega)
    · have hlt' : ¬ ((k : Int) < (L.length : Int)) := by omega
      have HE := hide (show amTo g L L.length = true by rw [show L.length = k by omega]; exact HN.out)
      go_wp2
      go_ret
      exact ⟨_, rfl, .inl ⟨rfl, HE.out⟩, HB.out⟩
theorem containsFuncR_c (u : Value) (L : List (List Int)) (kf : Nat) (pre caps : Array Value) (g : List Int → Bool) (w : World) (hch : rows w.heap.size w u L) (hcl : L.length < 1000000000) (hk : enters Try.prog kf)
    (hg : ∀ (k : Nat) (x : Value) (w1 : World), k < L.length → Below w.heap.size w w1 → ints w1.heap.size w1 x (L[k]?.getD []) → Calls Try.prog kf (pre ++ #[x] ++ caps) w1 fun e w2 => e = .returned (.bool (!g (L[k]?.getD []))) ∧ Below w1.heap.size w1 w2) :
    Calls Try.prog 35 #[u, .func (.func kf) pre caps] w fun e w' => e = .returned (.bool (!amTo g L L.length)) ∧ Below w.heap.size w w' := by
  have HI := hide (indexFuncR_c u L kf pre caps g w hch hcl hk hg)
  clear hch hg
  cases hn : amTo g L L.length
  · rw [hn] at HI
    clear hn
    go_enter Try.func35, Try.ntmps35
    go_wp2_with (go_at_call 50; refine HI.out.mono ?_; rintro e w3 ⟨r, rfl, hr, hb3⟩; have hr1 : 0 ≤ r := (hr.elim (fun h => by cases h.2) (fun ⟨_, h, _⟩ => by omega)); have HB3 := hide hb3; clear hb3 hr)
    go_ret
    exact ⟨ret_b (by simp [hr1]), HB3.out⟩
  · rw [hn] at HI
    clear hn
    go_enter Try.func35, Try.ntmps35
    go_wp2_with (go_at_call 50; refine HI.out.mono ?_; rintro e w3 ⟨r, rfl, hr, hb3⟩; have hr1 : r = -1 := (hr.elim (fun h => h.1) (fun ⟨_, _, h⟩ => by cases h)); subst hr1; have HB3 := hide hb3; clear hb3 hr)
    go_ret
    exact ⟨rfl, HB3.out⟩
theorem areFullWords_c (n : Nat) (F : Nat → Bool) (u : Value) (L : List (List Int)) (w : World) (hl : rows w.heap.size w u L) (hs : small2 L) (h7 : n ≤ 7) :
    Calls Try.prog 19 #[.agg (fam (n : Int) F), u] w fun e w' => e = .returned (.bool (amTo (fun m => decide (m.length = n) && wordB F n m) L L.length)) ∧ Below w.heap.size w w' := by
  have HB0 := hide ((Below.refl w.heap.size w).alloc (Nat.le_refl _) (.cells (fam (n : Int) F) 44))
  have HF := hide (famAt.new 44 w (n : Int) F)
  have HZ := hide (show (w.alloc (.cells (fam (n : Int) F) 44)).heap.size = w.heap.size + 1 by simp)
  have HC := hide (containsFuncR_c u L 36 #[] #[.pointer (some ⟨w.heap.size, 0, none⟩)] (fun m => decide (m.length = n) && wordB F n m) (w.alloc (.cells (fam (n : Int) F) 44)) ((hl.alloc _).mono (by simp)) (by have := hs.1; omega) ent_full1 (fun k x w1 hk hb hx => full1_c n F w.heap.size x _ w1 (HF.out.below hb (by rw [HZ.out]; omega)) hx (by have := hs.row k hk; omega) h7))
  generalize amTo (fun m => decide (m.length = n) && wordB F n m) L L.length = b at *
  obtain ⟨ua, uc, hu⟩ := hl.shape
  subst hu
  clear hl
  go_enter Try.func19, Try.ntmps19
  go_wp2_with (first
    | (go_at_call 35; refine HC.out.mono ?_; rintro e w2 ⟨rfl, hb2⟩; have HB2 := hide (HB0.out.trans (hb2.mono (by rw [HZ.out]; omega))); clear hb2))
  go_ret
  exact ⟨ret_b (by simp), HB2.out⟩
theorem ent_setsA : enters Try.prog 22 := enters_of Try.func22 (by kernel_rfl) (by kernel_rfl)
theorem ent_equalA : enters Try.prog 21 := enters_of Try.func21 (by kernel_rfl) (by kernel_rfl)
set_option maxHeartbeats 2000000 in
theorem implAreMaking_c (n : Int) (v : Value) (l : List Int) (u : Value) (L : List (List Int)) (w : World) (hl : ints w.heap.size w v l) (hlen : l.length < 1000000000) (hu : rows w.heap.size w u L) (hs : small2 L) :
    Calls Try.prog 9 #[.agg #[.int .i64 n, v], u] w fun e w' => e = .returned (.tuple #[.bool (amR n l L), .bool (amB n l L)]) ∧ Below w.heap.size w w' := by
  obtain ⟨ua, uc, hus⟩ := hu.shape
  subst hus
  have HU := hide hu
  have HL := hide ((hl.alloc (.cells #[.int .i64 n, v] 30)).mono (show w.heap.size ≤ (w.alloc (.cells #[.int .i64 n, v] 30)).heap.size by simp))
  have H0 := hide ((Below.refl w.heap.size w).alloc (Nat.le_refl _) (.cells #[.int .i64 n, v] 30))
  have HZ := hide (show (w.alloc (.cells #[.int .i64 n, v] 30)).heap.size = w.heap.size + 1 by simp)
  have HUB := hide (fun w1 (h : Below w.heap.size w w1) => (HU.out.below h (Nat.le_refl _)).mono h.size)
  clear hl hu
  cases hok : okSp n l
  · have HK := hide hok
    rw [amR_no (amB_no1 hok), amB_no1 hok]
    clear hok
    go_enter Try.func9, Try.ntmps9
    go_wp2_with (first
      | (go_at_call 18; refine (familyOf_c n v l _ HL.out hlen).mono ?_; rw [famVal_no n l HK.out]; rintro e w1 ⟨rfl, hb⟩; have hz1 := hb.size; rw [HZ.out] at hz1; have HB := hide (bl_row ((H0.out.trans (hb.mono (by rw [HZ.out]; omega))).alloc (by omega) (.cells (fam 0 noSet) 44)) (show w.heap.size ≤ w1.heap.size by omega) (fam 0 noSet)); clear hb)
      | (refine wpList_alloc_fam zeroT rfl rfl _ (by first | (simp only [World.size_alloc]; rfl) | rfl) ?_)
      | (refine wpList_store_fam sizeT rfl (.tmp _) (.tmp _) rfl w1.heap.size _ _ rfl rfl _ _ (famAt.new _ _ _ _) ?_)
      )
    go_ret2
    exact ⟨rfl, HB.out⟩
  · have HK := hide hok
    have hn := okSp_n hok
    obtain ⟨m, rfl⟩ := Int.eq_ofNat_of_zero_le (show 0 ≤ n by omega)
    have hm7 : m ≤ 7 := by omega
    by_cases h35 : L.length ≤ 35
    · have hgt : decide ((35 : Int) < (L.length : Int)) = false := by rw [decide_eq_false_iff_not]; omega
      have HAF := hide (fun w1 (h : Below w.heap.size w w1) => areFullWords_c m (marksTo l l.length) (.slice ua L.length uc) L w1 (HUB.out w1 h) hs hm7)
      have HFG := hide (show (fun r => decide (r.length = m) && wordB (marksTo l l.length) m r) = fwG (m : Int) l by funext r; unfold fwG; rw [Int.toNat_natCast])
      rw [HFG.out] at HAF
      cases ham : amTo (fwG (m : Int) l) L L.length
      · rw [ham] at HAF
        rw [amR_no (amB_no3 ham), amB_no3 ham]
        clear hok hn ham HFG
        go_enter Try.func9, Try.ntmps9
        go_wp2_with (first
          | (go_at_call 18; refine (familyOf_c (m : Int) v l _ HL.out hlen).mono ?_; rw [famVal_yes (m : Int) l HK.out]; rintro e w1 ⟨rfl, hb⟩; have hz1 := hb.size; rw [HZ.out] at hz1; have HH := hide ((famAt.new 44 w1 0 noSet).row (m : Int) (marksTo l l.length)); have HZ2 := hide (show ((w1.alloc (.cells (fam 0 noSet) 44)).setRow w1.heap.size (fam (m : Int) (marksTo l l.length))).heap.size = w1.heap.size + 1 by simp [World.setRow]); have HB := hide (bl_row ((H0.out.trans (hb.mono (by rw [HZ.out]; omega))).alloc (by omega) (.cells (fam 0 noSet) 44)) (show w.heap.size ≤ w1.heap.size by omega) (fam (m : Int) (marksTo l l.length))); clear hb)
          | (refine wpList_alloc_fam zeroT rfl rfl _ (by first | (simp only [World.size_alloc]; rfl) | rfl) ?_)
          | (refine wpList_store_fam sizeT rfl (.tmp _) (.tmp _) rfl w1.heap.size _ _ rfl rfl _ _ (famAt.new _ _ _ _) ?_)
          | (refine wpList_load_fam rowT sizeT rfl (.tmp _) rfl w1.heap.size rfl (m : Int) _ HH.out ?_)
          | (go_at_call 19; refine (HAF.out _ HB.out).mono ?_; rintro e w3 ⟨rfl, hb3⟩; have HB3 := hide (HB.out.trans (hb3.mono (by rw [HZ2.out]; omega))); clear hb3))
        go_ret2
        exact ⟨rfl, HB3.out⟩
      · have hyes := amB_yes hok h35 ham
        have HMD := hide (am_made hok h35 ham)
        have HLS := hide (okSp_list hok)
        rw [ham] at HAF
        rw [amR_yes hyes, hyes, ← HMD.out]
        have HSW := hide (fun w1 (h : Below w.heap.size w w1) => implSpaceOfWords_c (.slice ua L.length uc) L w1 (HUB.out w1 h) hs)
        have hsl := swL_len L
        generalize swL L = SL at *
        generalize swN L = SN at *
        generalize wlB L = SB at *
        clear hok hn ham HFG hyes HMD
        go_enter Try.func9, Try.ntmps9
        go_wp2_with (first
          | (go_at_call 18; refine (familyOf_c (m : Int) v l _ HL.out hlen).mono ?_; rw [famVal_yes (m : Int) l HK.out]; rintro e w1 ⟨rfl, hb⟩; have hz1 := hb.size; rw [HZ.out] at hz1; have HH := hide ((famAt.new 44 w1 0 noSet).row (m : Int) (marksTo l l.length)); have HZ2 := hide (show ((w1.alloc (.cells (fam 0 noSet) 44)).setRow w1.heap.size (fam (m : Int) (marksTo l l.length))).heap.size = w1.heap.size + 1 by simp [World.setRow]); have HB := hide (bl_row ((H0.out.trans (hb.mono (by rw [HZ.out]; omega))).alloc (by omega) (.cells (fam 0 noSet) 44)) (show w.heap.size ≤ w1.heap.size by omega) (fam (m : Int) (marksTo l l.length))); clear hb)
          | (refine wpList_alloc_fam zeroT rfl rfl _ (by first | (simp only [World.size_alloc]; rfl) | rfl) ?_)
          | (refine wpList_store_fam sizeT rfl (.tmp _) (.tmp _) rfl w1.heap.size _ _ rfl rfl _ _ (famAt.new _ _ _ _) ?_)
          | (refine wpList_load_fam rowT sizeT rfl (.tmp _) rfl w1.heap.size rfl (m : Int) _ HH.out ?_)
          | (go_at_call 19; refine (HAF.out _ HB.out).mono ?_; rintro e w3 ⟨rfl, hb3⟩; have hz3 := hb3.size; rw [HZ2.out] at hz3; have HH3 := hide (HH.out.below hb3 (by rw [HZ2.out]; omega)); have HB3 := hide (HB.out.trans (hb3.mono (by rw [HZ2.out]; omega))); clear hb3)
          | (go_at_call 20; refine (HSW.out _ HB3.out).mono ?_; rintro e w4 ⟨v4, rfl, ho4, hb4⟩; obtain ⟨xa, xc, hxv⟩ := ho4.shape; subst hxv; have hz4 := hb4.size; have HO4 := hide ho4; have HH4 := hide (HH3.out.below hb4 (by omega)); have HB4 := hide (HB3.out.trans (hb4.mono (by omega))); clear hb4 ho4))
        have HX5 := hide (hp_last w4 (.cells #[.int .i64 SN, .slice xa SL.length xc] 30))
        have HH5 := hide (HH4.out.alloc (.cells #[.int .i64 SN, .slice xa SL.length xc] 30))
        have HB5 := hide (HB4.out.alloc (by omega) (.cells #[.int .i64 SN, .slice xa SL.length xc] 30))
        have HI5 := hide ((HO4.out.alloc (.cells #[.int .i64 SN, .slice xa SL.length xc] 30)).ints)
        have HZ5 := hide (show (w4.alloc (.cells #[.int .i64 SN, .slice xa SL.length xc] 30)).heap.size = w4.heap.size + 1 by simp)
        generalize w4.alloc (.cells #[.int .i64 SN, .slice xa SL.length xc] 30) = W at HX5 HH5 HB5 HI5 HZ5 ⊢
        refine wp_region_held (S := Below W.heap.size W) (by kernel_rfl) ?_
        have hS : Below W.heap.size W { W with drawn := W.drawn + 1 } := (Below.refl _ _).drew
        refine wpAnyH_take (i := 0) (v := .pointer (some ⟨w4.heap.size, 1, none⟩)) rfl (by kernel_rfl) (by kernel_rfl) (by kernel_rfl) (fun _ _ _ h => h) (.inl ⟨rfl, fun w' _ => by go_simp⟩) hS ?_
        simp only [Act.put, List.getElem_toArray, List.getElem_cons_zero, List.getElem_cons_succ, List.setIfInBounds_toArray, List.set_cons_zero, List.set_cons_succ]
        refine wpAnyH_take (i := 1) rfl (by kernel_rfl) (by kernel_rfl) (by kernel_rfl) (fun _ _ _ h => h) (yields_load_cell (by kernel_rfl) rfl (.tmp _) rfl ⟨w4.heap.size, 1, none⟩ rfl (.slice xa SL.length xc) (fun w' h => (h.cell (p := ⟨w4.heap.size, 1, none⟩) (by show w4.heap.size < _; rw [HZ5.out]; omega)).trans (cells_at1 HX5.out))) hS ?_
        simp only [Act.put, List.getElem_toArray, List.getElem_cons_zero, List.getElem_cons_succ, List.setIfInBounds_toArray, List.set_cons_zero, List.set_cons_succ]
        refine wpAnyH_take (i := 2) rfl (by kernel_rfl) (by kernel_rfl) (by kernel_rfl) (fun _ _ _ h => h) (yields_load_fam rowT sizeT rfl (.tmp _) rfl w1.heap.size rfl (m : Int) (marksTo l l.length) (fun w' h => HH5.out.below h HH5.out.lt)) hS ?_
        simp only [Act.put, List.getElem_toArray, List.getElem_cons_zero, List.getElem_cons_succ, List.setIfInBounds_toArray, List.set_cons_zero, List.set_cons_succ]
        refine anyH_call (i := 3) (by kernel_rfl) rfl rfl 22 ent_setsA _ _ rfl #[.agg (fam (m : Int) (marksTo l l.length))] rfl (sets_c (m : Int) (marksTo l l.length) _) ?_
        rw [← HLS.out]
        rintro e w5 ⟨v5, rfl, ho5, hb5⟩
        have hS5 : Below W.heap.size W w5 := hS.trans (hb5.mono hS.size)
        refine ⟨_, rfl, hS5, ?_⟩
        simp only [Act.put, List.getElem_toArray, List.getElem_cons_zero, List.getElem_cons_succ, List.setIfInBounds_toArray, List.set_cons_zero, List.set_cons_succ]
        refine anyH_call (i := 4) (by kernel_rfl) rfl rfl 21 ent_equalA _ _ rfl #[.slice xa SL.length xc, v5] rfl (equalS_c (.slice xa SL.length xc) v5 SL l w5 ((HI5.out.below hS5 (Nat.le_refl _)).mono hS5.size) ho5.ints hsl hlen) ?_
        rintro e w6 ⟨rfl, hb6⟩
        have hS6 : Below W.heap.size W w6 := hS5.trans (hb6.mono hS5.size)
        refine ⟨_, rfl, hS6, ?_⟩
        simp only [Act.put, List.getElem_toArray, List.getElem_cons_zero, List.getElem_cons_succ, List.setIfInBounds_toArray, List.set_cons_zero, List.set_cons_succ]
        refine anyH_op (i := 5) (by kernel_rfl) rfl rfl (.bool (decide (SL = l))) w6 (by simp [go_sem]) hS6 ?_
        refine anyH_op (i := 6) (by kernel_rfl) rfl rfl (.bool true) w6 (by simp [go_sem]) hS6 ?_
        refine wpAnyH_done (by kernel_rfl) ?_ _
        simp only [Act.put, List.getElem_toArray, List.getElem_cons_zero, List.getElem_cons_succ, List.setIfInBounds_toArray, List.set_cons_zero, List.set_cons_succ]
        have HB6 := hide (HB5.out.trans (hS6.mono (by rw [HZ5.out]; omega)))
        clear hS hS5 hS6 hb5 hb6 ho5
        go_wp2
        go_ret2
        exact ⟨rfl, HB6.out⟩
    · have hgt : (35 : Int) < (L.length : Int) := by omega
      rw [amR_no (amB_no2 h35), amB_no2 h35]
      clear hok hn
      go_enter Try.func9, Try.ntmps9
      go_wp2_with (first
        | (go_at_call 18; refine (familyOf_c (m : Int) v l _ HL.out hlen).mono ?_; rw [famVal_yes (m : Int) l HK.out]; rintro e w1 ⟨rfl, hb⟩; have hz1 := hb.size; rw [HZ.out] at hz1; have HH := hide ((famAt.new 44 w1 0 noSet).row (m : Int) (marksTo l l.length)); have HZ2 := hide (show ((w1.alloc (.cells (fam 0 noSet) 44)).setRow w1.heap.size (fam (m : Int) (marksTo l l.length))).heap.size = w1.heap.size + 1 by simp [World.setRow]); have HB := hide (bl_row ((H0.out.trans (hb.mono (by rw [HZ.out]; omega))).alloc (by omega) (.cells (fam 0 noSet) 44)) (show w.heap.size ≤ w1.heap.size by omega) (fam (m : Int) (marksTo l l.length))); clear hb)
        | (refine wpList_alloc_fam zeroT rfl rfl _ (by first | (simp only [World.size_alloc]; rfl) | rfl) ?_)
        | (refine wpList_store_fam sizeT rfl (.tmp _) (.tmp _) rfl w1.heap.size _ _ rfl rfl _ _ (famAt.new _ _ _ _) ?_)
        )
      go_ret2
      exact ⟨rfl, HB.out⟩
end Go.Proofs.Ytbcohlnimmoifaa
