/- Contracts: FirstWord. -/
import Derived.Test.YtndnkefbilhgnaaDoorKn
import Derived.Test.YtndnkefbilhgnaaDoorKo
namespace Go.Proofs.YtndnkefbilhgnaaDoor
open Go.RowKit
set_option maxRecDepth 100000
set_option linter.unusedSimpArgs false
def fwC (r : List Int) (_s i : Nat) : Int := r[i]?.getD 0
def fwO (n : Int) (r : List Int) : Bool := decide ((r.length : Int) = n) && wordTo anySet n.toNat r r.length
def fwB (n : Int) (l r : List Int) : Bool := okSp n l && fwO n r
def fwL (n : Int) (l r : List Int) : List Int := if fwB n l r then grW (fwC r) (outerOf (marksTo l l.length) n.toNat) n.toNat else []
theorem fw_no {n : Int} {l r : List Int} (h : fwB n l r = false) : fwL n l r = [] := by unfold fwL; rw [h]; rfl
theorem fw_yes {n : Int} {l r : List Int} (h : fwB n l r = true) : fwL n l r = grW (fwC r) (outerOf (marksTo l l.length) n.toNat) n.toNat := by unfold fwL; rw [h]; rfl
theorem fwL_len (n : Int) (l r : List Int) : (fwL n l r).length < 1000000000 := by
  unfold fwL
  split
  · rename_i h
    rw [grW_len]
    unfold fwB at h
    rw [Bool.and_eq_true] at h
    have := okSp_n h.1
    omega
  · simp
theorem fw_bd {r : List Int} {m : Nat} (h7 : m ≤ 7) (hl : r.length = m) (h : wordTo anySet m r r.length = true) (s i : Nat) (hi : i < m) : -10000 ≤ fwC r s i ∧ fwC r s i ≤ 10000 := by
  have h1 := (wordTo_iff anySet m r r.length).1 h i (by omega)
  simp only [stepB, Bool.and_eq_true, decide_eq_true_eq] at h1
  unfold fwC
  omega
attribute [local irreducible] p2 low memB risB
theorem ent_first1 : enters Tryd.prog 88 := enters_of Tryd.func88 (by kernel_rfl) (by kernel_rfl)
theorem first1_c (g : Nat) (u : Value) (r : List Int) (s i : Nat) (w : World) (B : Nat) (hg : w.cell? ⟨g, 0, none⟩ = some u) (hr : ints B w u r) (hi : i < r.length) :
    Calls Tryd.prog 88 #[.int .i64 (s : Int), .int .i64 (i : Int), .pointer (some ⟨g, 0, none⟩)] w fun e w' => e = .returned (.int .i64 (fwC r s i)) ∧ Below w.heap.size w w' := by
  have HX := hide (show r[i]?.getD 0 = fwC r s i from rfl)
  generalize fwC r s i = x at *
  go_enter Tryd.func88, Tryd.ntmps88
  go_wp2_with (refine wpList_at sliceT intS rfl (.tmp _) (.tmp _) rfl u rfl i rfl B r hr hi ?_; intro ad hcell hblk; rw [HX.out] at hcell)
  go_ret
  exact ⟨rfl, Below.refl _ _⟩
set_option maxHeartbeats 2000000 in
theorem implFirstWord_c (n : Int) (v : Value) (l : List Int) (u : Value) (r : List Int) (w : World) (hl : ints w.heap.size w v l) (hlen : l.length < 1000000000) (base : Nat) (hm : own 3 w base u r) (hml : r.length < 1000000000) (hT : tab w) :
    Calls Tryd.prog 45 #[.agg #[.int .i64 n, v], u] w fun e w' => ∃ v', e = .returned (.tuple #[v', .bool (fwB n l r)]) ∧ own 3 w' w.heap.size v' (fwL n l r) ∧ Below w.heap.size w w' := by
  have hm2 := hm.ints
  obtain ⟨bu, cu, hu⟩ := hm2.shape
  subst hu
  have H0 := hide (((Below.refl w.heap.size w).alloc (Nat.le_refl _) (.cells #[.int .i64 n, v] 30)).alloc (by simp) (.cells #[.slice bu r.length cu] 22))
  have HZ0 := hide (show ((w.alloc (.cells #[.int .i64 n, v] 30)).alloc (.cells #[.slice bu r.length cu] 22)).heap.size = w.heap.size + 2 by simp)
  have HL0 := hide (((hl.alloc (.cells #[.int .i64 n, v] 30)).alloc (.cells #[.slice bu r.length cu] 22)).mono (show w.heap.size ≤ ((w.alloc (.cells #[.int .i64 n, v] 30)).alloc (.cells #[.slice bu r.length cu] 22)).heap.size by rw [HZ0.out]; omega))
  have hn0 : ((w.alloc (.cells #[.int .i64 n, v] 30)).alloc (.cells #[.slice bu r.length cu] 22)).cell? ⟨w.heap.size + 1, 0, none⟩ = some (.slice bu r.length cu) := by simp [go_sem]
  have HN0 := hide hn0
  have HM := hide hm2
  have HT := hide hT
  clear hl hm hm2 hn0 hT
  cases hok : okSp n l
  · have HK := hide hok
    have HB := hide (show fwB n l r = false by unfold fwB; rw [hok]; rfl)
    have HR := hide (fw_no HB.out)
    rw [HB.out]
    clear hok
    go_enter Tryd.func45, Tryd.ntmps45
    go_wp2_with (first
      | (go_at_call 86; refine (familyOf_c n v l _ HL0.out hlen).mono ?_; rw [famVal_no n l HK.out]; rintro e w1 ⟨rfl, hb1⟩; have hz1 : w.heap.size + 2 ≤ w1.heap.size := (by have := hb1.size; rw [HZ0.out] at this; exact this); have HB2 := hide (bl_row ((H0.out.trans (hb1.mono (by rw [HZ0.out]; omega))).alloc (by omega) (.cells (fam 0 noSet) 73)) (show w.heap.size ≤ w1.heap.size by omega) (fam 0 noSet)); clear hb1)
      | (refine wpList_alloc_fam zeroT rfl rfl _ (by first | (simp only [World.size_alloc]; rfl) | rfl) ?_)
      | (refine wpList_store_fam sizeT rfl (.tmp _) (.tmp _) rfl _ _ _ rfl rfl _ _ (famAt.new _ _ _ _) ?_)
    )
    go_ret2
    exact ⟨_, rfl, by rw [HR.out]; exact own_nil _ _ _, HB2.out⟩
  · have HK := hide hok
    have hn := okSp_n hok
    obtain ⟨m, rfl⟩ := Int.eq_ofNat_of_zero_le (show 0 ≤ n by omega)
    have hm7 : m ≤ 7 := by omega
    cases ho : (decide ((r.length : Int) = (m : Int)) && wordTo anySet (m : Int).toNat r r.length)
    · have HO := hide ho
      have HB := hide (show fwB (m : Int) l r = false by unfold fwB fwO; rw [hok, ho]; rfl)
      have HR := hide (fw_no HB.out)
      rw [HB.out]
      clear hok hn ho
      go_enter Tryd.func45, Tryd.ntmps45
      go_wp2_with (first
        | (go_at_call 86; refine (familyOf_c (m : Int) v l _ HL0.out hlen).mono ?_; rw [famVal_yes (m : Int) l HK.out]; rintro e w1 ⟨rfl, hb1⟩; have hz1 : w.heap.size + 2 ≤ w1.heap.size := (by have := hb1.size; rw [HZ0.out] at this; exact this); have HB2 := hide (bl_row ((H0.out.trans (hb1.mono (by rw [HZ0.out]; omega))).alloc (by omega) (.cells (fam 0 noSet) 73)) (show w.heap.size ≤ w1.heap.size by omega) (fam (m : Int) (marksTo l l.length))); have HH := hide ((famAt.new 73 w1 0 noSet).row (m : Int) (marksTo l l.length)); have h00 := HH.out.get0; have HZX := hide (show ((w1.alloc (.cells (fam 0 noSet) 73)).setRow w1.heap.size (fam (m : Int) (marksTo l l.length))).heap.size = w1.heap.size + 1 by simp [World.setRow]); have hnx : ((w1.alloc (.cells (fam 0 noSet) 73)).setRow w1.heap.size (fam (m : Int) (marksTo l l.length))).cell? ⟨w.heap.size + 1, 0, none⟩ = some (.slice bu r.length cu) := (((Below.refl w1.heap.size w1).alloc (Nat.le_refl _) (.cells (fam 0 noSet) 73)) |> fun h => ((bl_row h (Nat.le_refl _) (fam (m : Int) (marksTo l l.length))).cell (p := ⟨w.heap.size + 1, 0, none⟩) (by show w.heap.size + 1 < w1.heap.size; omega)).trans ((hb1.cell (p := ⟨w.heap.size + 1, 0, none⟩) (by show w.heap.size + 1 < _; rw [HZ0.out]; omega)).trans HN0.out)); have HNX := hide hnx; have HMX := hide ((HM.out.below HB2.out (Nat.le_refl _)).mono (show w.heap.size ≤ ((w1.alloc (.cells (fam 0 noSet) 73)).setRow w1.heap.size (fam (m : Int) (marksTo l l.length))).heap.size by rw [HZX.out]; omega)); clear hb1)
        | (refine wpList_alloc_fam zeroT rfl rfl _ (by first | (simp only [World.size_alloc]; rfl) | rfl) ?_)
        | (refine wpList_store_fam sizeT rfl (.tmp _) (.tmp _) rfl _ _ _ rfl rfl _ _ (famAt.new _ _ _ _) ?_)
        | (go_at_call 87; refine (isOrder_c _ r (m : Int) _ HMX.out hml (by omega) (by omega)).mono ?_; rw [HO.out]; rintro e w2 ⟨rfl, rfl⟩)
      )
      go_ret2
      exact ⟨_, rfl, by rw [HR.out]; exact own_nil _ _ _, HB2.out⟩
    · have HO := hide ho
      rw [Bool.and_eq_true, decide_eq_true_eq, Int.toNat_natCast] at ho
      have HLM := hide (show r.length = m by have := ho.1; omega)
      have HBD := hide (fw_bd hm7 HLM.out ho.2)
      have HB := hide (show fwB (m : Int) l r = true by unfold fwB fwO; rw [hok, HO.out]; rfl)
      have HR := hide (fw_yes HB.out)
      have hsp := okSp_spc hok
      rw [Int.toNat_natCast] at hsp
      have HSP := hide hsp
      rw [HB.out]
      clear hok hn ho hsp
      go_enter Tryd.func45, Tryd.ntmps45
      go_wp2_with (first
        | (go_at_call 86; refine (familyOf_c (m : Int) v l _ HL0.out hlen).mono ?_; rw [famVal_yes (m : Int) l HK.out]; rintro e w1 ⟨rfl, hb1⟩; have hz1 : w.heap.size + 2 ≤ w1.heap.size := (by have := hb1.size; rw [HZ0.out] at this; exact this); have HB2 := hide (bl_row ((H0.out.trans (hb1.mono (by rw [HZ0.out]; omega))).alloc (by omega) (.cells (fam 0 noSet) 73)) (show w.heap.size ≤ w1.heap.size by omega) (fam (m : Int) (marksTo l l.length))); have HH := hide ((famAt.new 73 w1 0 noSet).row (m : Int) (marksTo l l.length)); have h00 := HH.out.get0; have HZX := hide (show ((w1.alloc (.cells (fam 0 noSet) 73)).setRow w1.heap.size (fam (m : Int) (marksTo l l.length))).heap.size = w1.heap.size + 1 by simp [World.setRow]); have hnx : ((w1.alloc (.cells (fam 0 noSet) 73)).setRow w1.heap.size (fam (m : Int) (marksTo l l.length))).cell? ⟨w.heap.size + 1, 0, none⟩ = some (.slice bu r.length cu) := (((Below.refl w1.heap.size w1).alloc (Nat.le_refl _) (.cells (fam 0 noSet) 73)) |> fun h => ((bl_row h (Nat.le_refl _) (fam (m : Int) (marksTo l l.length))).cell (p := ⟨w.heap.size + 1, 0, none⟩) (by show w.heap.size + 1 < w1.heap.size; omega)).trans ((hb1.cell (p := ⟨w.heap.size + 1, 0, none⟩) (by show w.heap.size + 1 < _; rw [HZ0.out]; omega)).trans HN0.out)); have HNX := hide hnx; have HMX := hide ((HM.out.below HB2.out (Nat.le_refl _)).mono (show w.heap.size ≤ ((w1.alloc (.cells (fam 0 noSet) 73)).setRow w1.heap.size (fam (m : Int) (marksTo l l.length))).heap.size by rw [HZX.out]; omega)); clear hb1)
        | (refine wpList_alloc_fam zeroT rfl rfl _ (by first | (simp only [World.size_alloc]; rfl) | rfl) ?_)
        | (refine wpList_store_fam sizeT rfl (.tmp _) (.tmp _) rfl _ _ _ rfl rfl _ _ (famAt.new _ _ _ _) ?_)
        | (go_at_call 87; refine (isOrder_c _ r (m : Int) _ HMX.out hml (by omega) (by omega)).mono ?_; rw [HO.out]; rintro e w2 ⟨rfl, rfl⟩)
        | (refine wpList_load_fam rowT sizeT rfl (.tmp _) rfl _ rfl (m : Int) _ HH.out ?_)
        | (go_at_call 73; refine (greedyWord_c 88 #[.pointer (some ⟨w.heap.size + 1, 0, none⟩)] (fwC r) m (marksTo l l.length) _ hm7 HSP.out ent_first1 (fun w3 hb3 s i _ hi => first1_c (w.heap.size + 1) _ r s i w3 _ ((hb3.cell (p := ⟨w.heap.size + 1, 0, none⟩) (by show w.heap.size + 1 < ((w1.alloc (.cells (fam 0 noSet) 73)).setRow w1.heap.size (fam (m : Int) (marksTo l l.length))).heap.size; rw [HZX.out]; omega)).trans HNX.out) (HMX.out.below hb3 (Nat.le_refl _)) (by rw [HLM.out]; exact hi)) HBD.out (HT.out.below HB2.out)).mono ?_; rintro e w3 ⟨v3, rfl, ho3, hb3⟩; obtain ⟨ga, gc, hgv⟩ := ho3.shape; subst hgv; have HO3 := hide ho3; have HB3 := hide (HB2.out.trans (hb3.mono HB2.out.size)); clear hb3 ho3)
      )
      go_ret2
      exact ⟨_, rfl, by rw [HR.out, Int.toNat_natCast]; exact HO3.out.mono (by rw [HZX.out]; omega), HB3.out⟩
theorem ord_lenF {n : Int} {l r : List Int} (h : okSp n l = true) (h2 : (r.length : Int) = n) : okOrd r = wordTo anySet n.toNat r r.length := by
  have hn := okSp_n h
  have e : n.toNat = r.length := by omega
  rw [okOrd, decide_eq_true (by omega), Bool.true_and, e]
set_option maxHeartbeats 4000000 in
theorem specFirstWord_c (n : Int) (v : Value) (l : List Int) (u : Value) (r : List Int) (w : World) (hl : ints w.heap.size w v l) (hlen : l.length < 1000000000) (base : Nat) (hm : own 3 w base u r) (hml : r.length < 1000000000) (_hT : tab w) :
    Calls Tryd.prog 44 #[.agg #[.int .i64 n, v], u] w fun e w' => ∃ v', e = .returned (.tuple #[v', .bool (fwB n l r)]) ∧ own 3 w' w.heap.size v' (fwL n l r) ∧ Below w.heap.size w w' := by
  obtain ⟨ua, uc, hu⟩ := hm.ints.shape
  subst hu
  have HL := hide (hl.alloc (.cells #[.int .i64 n, v] 30))
  have HMI := hide hm.ints
  have HOW := hide (hm.alloc (.cells #[.int .i64 n, v] 30))
  have H0 := hide ((Below.refl w.heap.size w).alloc (Nat.le_refl _) (.cells #[.int .i64 n, v] 30))
  have HX := hide (hp_last w (.cells #[.int .i64 n, v] 30))
  have HZ := hide (show (w.alloc (.cells #[.int .i64 n, v] 30)).heap.size = w.heap.size + 1 by simp)
  have HG := hide (spGood_c n v l (w.alloc (.cells #[.int .i64 n, v] 30)) (HL.out.mono (by rw [HZ.out]; omega)) hlen)
  have hb0 := cells_at0 HX.out
  have hb1 := cells_at1 HX.out
  have HW := hide (fun (w1 : World) (h : Below (w.alloc (.cells #[.int .i64 n, v] 30)).heap.size (w.alloc (.cells #[.int .i64 n, v] 30)) w1) => show Below w.heap.size w w1 ∧ ints w1.heap.size w1 v l ∧ w1.cell? ⟨w.heap.size, 0, none⟩ = some (.int .i64 n) ∧ w1.cell? ⟨w.heap.size, 1, none⟩ = some v from by
    have hz := HZ.out
    have hsz := h.size
    have hbk := (h.block w.heap.size (by omega)).trans HX.out
    exact ⟨H0.out.trans (h.mono (by omega)), (HL.out.below h (by omega)).mono (by omega), cells_at0 hbk, cells_at1 hbk⟩)
  clear hl hm
  cases hok : okSp n l
  · have HB := hide (show fwB n l r = false by unfold fwB; rw [hok]; rfl)
    have HR := hide (fw_no HB.out)
    rw [ok_good] at hok
    rw [hok] at HG
    rw [HB.out]
    clear hok
    go_enter Tryd.func44, Tryd.ntmps44
    go_wp2_with (first
      | (go_at_call 84; refine HG.out.mono ?_; rintro e w1 ⟨rfl, hb⟩; have HB1 := hide hb; have c0 := (HW.out _ hb).2.2.1; have c1 := (HW.out _ hb).2.2.2; have hz1 := hb.size; rw [HZ.out] at hz1; have HOW1 := hide (HOW.out.kept hb); clear hb)
    )
    go_ret2
    exact ⟨_, rfl, by rw [HR.out]; exact own_nil _ _ _, (HW.out _ HB1.out).1⟩
  · have hgo := hok
    rw [ok_good] at hgo
    rw [hgo] at HG
    clear hgo
    by_cases hlm : (r.length : Int) = n
    · have HOE := hide (ord_lenF hok hlm)
      have hne : ((r.length : Int) != n) = false := by simpa using hlm
      cases ho : wordTo anySet n.toNat r r.length
      · have HO := hide (show okOrd r = false by rw [HOE.out, ho])
        have HB := hide (show fwB n l r = false by unfold fwB fwO; rw [ho, Bool.and_false, Bool.and_false])
        have HR := hide (fw_no HB.out)
        rw [HB.out]
        clear hok ho hlm
        go_enter Tryd.func44, Tryd.ntmps44
        go_wp2_with (first
          | (go_at_call 84; refine HG.out.mono ?_; rintro e w1 ⟨rfl, hb⟩; have HB1 := hide hb; have c0 := (HW.out _ hb).2.2.1; have c1 := (HW.out _ hb).2.2.2; have hz1 := hb.size; rw [HZ.out] at hz1; have HOW1 := hide (HOW.out.kept hb); clear hb)
          | (go_at_call 85; refine (spOrder_c _ r _ base HOW1.out hml).mono ?_; rw [HO.out]; rintro e w2 ⟨rfl, rfl⟩)
        )
        go_ret2
        exact ⟨_, rfl, by rw [HR.out]; exact own_nil _ _ _, (HW.out _ HB1.out).1⟩
      · have HO := hide (show okOrd r = true by rw [HOE.out, ho])
        have HB := hide (show fwB n l r = true by unfold fwB fwO; rw [hok, ho, decide_eq_true hlm]; rfl)
        have HR := hide (fw_yes HB.out)
        rw [HB.out]
        have hn := okSp_n hok
        obtain ⟨m, rfl⟩ := Int.eq_ofNat_of_zero_le (show 0 ≤ n by omega)
        have h7 : m ≤ 7 := by omega
        have htl : r.length = m := by omega
        have hsp := okSp_spc hok
        rw [Int.toNat_natCast] at hsp
        have HI := hide (okSp_inc hok)
        have HMK := hide (okSp_marks hok)
        rw [Int.toNat_natCast] at HR
        generalize fwL (m : Int) l r = G at HR ⊢
        generalize marksTo l l.length = F at hsp HMK HR
        have HOK := hide (fun k hk => gs_ok (fwC r) hsp h7 k hk)
        have HGI := hide (fun k hk => gi_ok (fwC r) hsp h7 (k := k) hk)
        have HLT := hide (fun x (hx : F x = true) => hsp.lt x hx)
        have HGN := hide (fun k => gs_next (fwC r) (outerOf F m) k)
        have HWN := hide (fun k => grW_next (fwC r) (outerOf F m) k)
        have HWL := hide (fun k => grW_len (fwC r) (outerOf F m) k)
        have HTL := hide htl
        clear hok ho hlm hn hsp htl HB
        go_enter Tryd.func44, Tryd.ntmps44
        go_wp2_with (first
          | (go_at_call 84; refine HG.out.mono ?_; rintro e w1 ⟨rfl, hb⟩; have HB1 := hide hb; have c0 := (HW.out _ hb).2.2.1; have c1 := (HW.out _ hb).2.2.2; have hz1 := hb.size; rw [HZ.out] at hz1; have HOW1 := hide (HOW.out.kept hb); clear hb)
          | (go_at_call 85; refine (spOrder_c _ r _ base HOW1.out hml).mono ?_; rw [HO.out]; rintro e w2 ⟨rfl, rfl⟩)
        )
        have HX1 := hide ((HB1.out.block w.heap.size (by rw [HZ.out]; omega)).trans HX.out)
        have HL1 := hide (HW.out _ HB1.out).2.1
        have HBA := hide (HW.out _ HB1.out).1
        clear c0 c1
        go_loopw [6, 7] (fun o sv wr => ∃ k : Nat, k ≤ m ∧ sv = .int .i64 (gs (fwC r) (outerOf F m) k : Int) ∧ Hid (own 3 wr (w.heap.size + 1) o (grW (fwC r) (outerOf F m) k)) ∧ Hid (Below (w.heap.size + 1) w1 wr)) (fun o _ _ => 8 - (grLen2 o))
        case atStart => exact ⟨0, Nat.zero_le _, rfl, own_nil _ _ _, Below.refl _ _⟩
        case round =>
          obtain ⟨k, hk2, rfl, HO, HB⟩ := hrel
          have hlenk := HWL.out k
          obtain ⟨oa, oc, ho⟩ := HO.out.shape
          rw [hlenk] at ho
          subst ho
          have hszw := HB.out.size
          have hblk := (HB.out.block w.heap.size (by omega)).trans HX1.out
          have d0 := cells_at0 hblk
          have d1 := cells_at1 hblk
          have HBL := hide hblk
          clear hblk
          by_cases hlt : k < m
          · have hlt' : (k : Int) < (m : Int) := by omega
            have hok := HOK.out k hk2
            have hs2n := HLT.out _ hok.1
            have hs128 : gs (fwC r) (outerOf F m) k < 128 := by have := p2_le m 7 h7; omega
            have hgi := HGI.out k hlt
            have HGK := hide (HGN.out k)
            have HWK := hide (HWN.out k)
            have hin := outer_in hgi.1
            have hO128 := outer_lt F m (gs (fwC r) (outerOf F m) k) h7
            have hO2n : outerOf F m (gs (fwC r) (outerOf F m) k) < 2 ^ m := by unfold outerOf; exact itemsOf_lt _ m
            have HMN := hide (mnTo_of hO2n hgi)
            generalize gs (fwC r) (outerOf F m) k = s at *
            generalize grW (fwC r) (outerOf F m) k = L0 at *
            generalize gi (fwC r) (outerOf F m) k = i at *
            have HOS := hide (outer_same F l m s h7 hs2n (fun y _ => HMK.out y))
            have HOU := hide (fun w1 h1 => by have := spOuter_c (m : Int) v l (s : Int) w1 h1 HI.out hlen (by omega) (by omega) (by omega) (by omega); rw [Int.toNat_natCast, Int.toNat_natCast, ← HOS.out] at this; exact this)
            clear HOS
            generalize outerOf F m s = O at *
            have HBW := hide (HBA.out.trans (HB.out.mono (show w.heap.size ≤ w.heap.size + 1 by omega)))
            have HLW := hide ((HL1.out.below ((Below.refl w1.heap.size w1)) (Nat.le_refl _)))
            have HLW2 := hide (((HL.out.below HB1.out (by rw [HZ.out]; omega)).below HB.out (by omega)).mono (show w.heap.size ≤ wr.heap.size by omega))
            have HMX := hide (fun k => mnTo_next (fwC r s) O k)
            have HML := hide (fun k => mnTo_lt (fwC r s) O k)
            have HSI := hide (fun q hq w1 => spIn_natK O q hO128 hq w1)
            clear hgi hok
            go_wp2_with (go_at_call 57; refine (HOU.out _ HLW2.out).mono ?_; rintro e w3 ⟨rfl, hb3⟩; have hz3 := hb3.size; have HO3 := hide (HO.out.kept hb3); have HB3 := hide (HB.out.trans (hb3.mono (show w.heap.size + 1 ≤ wr.heap.size by omega))); have HBW3 := hide (HBW.out.trans (hb3.mono (show w.heap.size ≤ wr.heap.size by omega))); clear hb3)
            go_loopw [8, 36] (fun bv iv wq => ∃ q : Nat, q ≤ m ∧ iv = .int .i64 (q : Int) ∧ bv = .int .i64 (mnTo (fwC r s) O q) ∧ Hid (Below w3.heap.size w3 wq)) (fun _ iv _ => m - (intOf iv).toNat)
            case atStart => exact ⟨0, Nat.zero_le _, rfl, rfl, Below.refl _ _⟩
            case round =>
              obtain ⟨q, hq2, rfl, rfl, HQ⟩ := hrel
              have HQW := hide (HBW3.out.trans (HQ.out.mono HBW3.out.size))
              have HMW := hide (HMI.out.below HQW.out (Nat.le_refl _))
              have hzqw := HQW.out.size
              have HNX := hide (HMX.out q)
              have hml2 := HML.out q
              by_cases hlq : q < m
              · have hlq' : (q : Int) < ((r.length : Nat) : Int) := by rw [HTL.out]; omega
                have hlqr : q < r.length := by rw [HTL.out]; exact hlq
                have HSQ := hide (HSI.out q (by omega))
                have HCQ := hide (show r[q]?.getD 0 = fwC r s q from rfl)
                generalize hm : mnTo (fwC r s) O q = mm at *
                clear hm
                cases hb : O.testBit q
                · rw [hb] at HSQ HNX
                  clear hb
                  go_wp2_with fail
                  refine wp_region_old (by kernel_rfl) (by kernel_rfl) ?_
                  go_big_quiet_step ((first | exact fun _ => rfl | exact fun _ => ⟨rfl, rfl⟩))
                  go_big_quiet_step ((first | exact fun _ => rfl | exact fun _ => ⟨rfl, rfl⟩))
                  refine q_pure rfl 56 ent_spIn _ _ rfl #[.int .i64 (O : Int), .int .i64 (q : Int)] rfl (.bool false) (fun w' _ => HSQ.out w') ?_
                  simp only [Act.put, List.setIfInBounds_toArray, List.set_cons_zero, List.set_cons_succ]
                  repeat (go_big_quiet_step ((first | exact fun _ => rfl | exact fun _ => ⟨rfl, rfl⟩)))
                  refine wpQuiet_nil ?_
                  intro w4 hb4
                  have HQ4 := hide (HQ.out.trans (hb4.mono HQ.out.size))
                  clear hb4
                  go_wp2
                  go_roundw
                  case rel => exact ⟨q + 1, by omega, by go_num, by rw [HNX.out]; simp, HQ4⟩
                  case measure => (simp [intOf] <;> omega)
                · rw [hb] at HSQ HNX
                  clear hb
                  rcases hml2 with hm1 | ⟨b, hmb, hbq⟩
                  · subst hm1
                    have hnd : decide ((-1 : Int) < 0) = true := rfl
                    go_wp2_with fail
                    refine wp_region_old (by kernel_rfl) (by kernel_rfl) ?_
                    go_big_quiet_step ((first | exact fun _ => rfl | exact fun _ => ⟨rfl, rfl⟩))
                    go_big_quiet_step ((first | exact fun _ => rfl | exact fun _ => ⟨rfl, rfl⟩))
                    refine q_pure rfl 56 ent_spIn _ _ rfl #[.int .i64 (O : Int), .int .i64 (q : Int)] rfl (.bool true) (fun w' _ => HSQ.out w') ?_
                    simp only [Act.put, List.setIfInBounds_toArray, List.set_cons_zero, List.set_cons_succ]
                    go_big_quiet_step ((first | exact fun _ => rfl | exact fun _ => ⟨rfl, rfl⟩))
                    go_big_quiet_step ((first | exact fun _ => rfl | exact fun _ => ⟨rfl, rfl⟩))
                    go_big_quiet_step ((first | exact fun _ => rfl | exact fun _ => ⟨rfl, rfl⟩))
                    try rw [hnd]
                    repeat (go_big_quiet_step ((first | exact fun _ => rfl | exact fun _ => ⟨rfl, rfl⟩)))
                    refine wpQuiet_nil ?_
                    intro w4 hb4
                    have HQ4 := hide (HQ.out.trans (hb4.mono HQ.out.size))
                    clear hb4
                    go_wp2
                    go_roundw
                    case rel => exact ⟨q + 1, by omega, by go_num, by rw [HNX.out]; simp, HQ4⟩
                    case measure => (simp [intOf] <;> omega)
                  · subst hmb
                    have hnd : decide ((b : Int) < 0) = false := decide_eq_false (by omega)
                    have hlbr : b < r.length := by omega
                    have HCB := hide (show r[b]?.getD 0 = fwC r s b from rfl)
                    rw [Int.toNat_natCast] at HNX
                    generalize fwC r s q = cq at HNX HCQ
                    generalize fwC r s b = cb at HNX HCB
                    cases hcd : decide (cq < cb)
                    all_goals
                      rw [hnd, hcd] at HNX
                      go_wp2_with fail
                      refine wp_region_old (by kernel_rfl) (by kernel_rfl) ?_
                      go_big_quiet_step ((first | exact fun _ => rfl | exact fun _ => ⟨rfl, rfl⟩))
                      go_big_quiet_step ((first | exact fun _ => rfl | exact fun _ => ⟨rfl, rfl⟩))
                      refine q_pure rfl 56 ent_spIn _ _ rfl #[.int .i64 (O : Int), .int .i64 (q : Int)] rfl (.bool true) (fun w' _ => HSQ.out w') ?_
                      simp only [Act.put, List.setIfInBounds_toArray, List.set_cons_zero, List.set_cons_succ]
                      go_big_quiet_step ((first | exact fun _ => rfl | exact fun _ => ⟨rfl, rfl⟩))
                      go_big_quiet_step ((first | exact fun _ => rfl | exact fun _ => ⟨rfl, rfl⟩))
                      go_big_quiet_step ((first | exact fun _ => rfl | exact fun _ => ⟨rfl, rfl⟩))
                      try rw [hnd]
                      go_big_quiet_step ((first | exact fun _ => rfl | exact fun _ => ⟨rfl, rfl⟩))
                      go_big_quiet_step ((first | exact fun _ => rfl | exact fun _ => ⟨rfl, rfl⟩))
                      go_big_quiet_step ((first | exact fun _ => rfl | exact fun _ => ⟨rfl, rfl⟩))
                      refine q_at sliceT intS rfl (.tmp _) (.tmp _) rfl _ rfl _ rfl q rfl w.heap.size r wr HMW.out hlqr ?_
                      intro ad hcell hblk
                      rw [HCQ.out] at hcell
                      simp only [Act.put, List.setIfInBounds_toArray, List.set_cons_zero, List.set_cons_succ]
                      refine q_load_cell rowI rfl (.tmp _) rfl ad rfl (.int .i64 cq) (fun w' h => (h.cell (by omega)).trans hcell) ?_
                      simp only [Act.put, List.setIfInBounds_toArray, List.set_cons_zero, List.set_cons_succ]
                      go_big_quiet_step ((first | exact fun _ => rfl | exact fun _ => ⟨rfl, rfl⟩))
                      go_big_quiet_step ((first | exact fun _ => rfl | exact fun _ => ⟨rfl, rfl⟩))
                      refine q_at sliceT intS rfl (.tmp _) (.tmp _) rfl _ rfl _ rfl b rfl w.heap.size r wr HMW.out hlbr ?_
                      intro ad2 hcell2 hblk2
                      rw [HCB.out] at hcell2
                      simp only [Act.put, List.setIfInBounds_toArray, List.set_cons_zero, List.set_cons_succ]
                      refine q_load_cell rowI rfl (.tmp _) rfl ad2 rfl (.int .i64 cb) (fun w' h => (h.cell (by omega)).trans hcell2) ?_
                      simp only [Act.put, List.setIfInBounds_toArray, List.set_cons_zero, List.set_cons_succ]
                      go_big_quiet_step ((first | exact fun _ => rfl | exact fun _ => ⟨rfl, rfl⟩))
                      try rw [hcd]
                      go_big_quiet_step ((first | exact fun _ => rfl | exact fun _ => ⟨rfl, rfl⟩))
                      go_big_quiet_step ((first | exact fun _ => rfl | exact fun _ => ⟨rfl, rfl⟩))
                      clear hcell hcell2
                      refine wpQuiet_nil ?_
                      intro w4 hb4
                      have HQ4 := hide (HQ.out.trans (hb4.mono HQ.out.size))
                      clear hb4
                      go_wp2
                      go_roundw
                      case rel => exact ⟨q + 1, by omega, by go_num, by rw [HNX.out]; simp, HQ4⟩
                      case measure => (simp [intOf] <;> omega)
              · have hqn : q = m := by omega
                have hlq' : ¬ ((q : Int) < ((r.length : Nat) : Int)) := by rw [HTL.out]; omega
                generalize hmq : mnTo (fwC r s) O q = mm at *
                have hmi : mm = (i : Int) := by rw [← hmq, hqn]; exact HMN.out
                subst hmi
                clear hmq
                have HO4 := hide (HO3.out.kept HQ.out)
                have HB4 := hide (HB3.out.trans (HQ.out.mono (show w.heap.size + 1 ≤ w3.heap.size by omega)))
                have hzq := HQ.out.size
                have hi7 : i < 7 := by omega
                have hp1 := wrap_p2 i (by omega)
                have hp2 : IntKind.i64.wrap (2 ^ i) = (p2 i : Int) := by rw [IntWalk.i64_left]; exact hp1
                have hpk := p2_lt128 i hi7
                have hor := i64_or s (p2 i) (Nat.lt_trans hs128 (by decide)) (Nat.lt_trans hpk (by decide))
                clear hqn
                go_wp2_with (at_builtin; refine wpList_append1 sliceT intI rfl (.tmp 59) (.tmp 61) rfl (w.heap.size + 1) _ _ rfl (HO4.out.alloc _) _ (i : Int) rfl (by simp [go_sem]) (by simp; omega) (by omega) ?_; intro v7 w7 ho7 hb7; have HO7 := hide ho7; have HB7 := hide ((HB4.out.alloc (by omega) _).trans hb7); clear ho7 hb7)
                go_roundw
                case rel => exact ⟨k + 1, by omega, by rw [HGK.out], by rw [HWK.out]; exact HO7, HB7⟩
                case measure =>
                  obtain ⟨xa, xc, hx⟩ := HO7.out.shape
                  rw [hx, List.length_append, List.length_singleton, hlenk]
                  simp [grLen2]
                  omega
          · have hkn : k = m := by omega
            have hlt' : ¬ ((k : Int) < (m : Int)) := by omega
            have HKN := hide (show grW (fwC r) (outerOf F m) m = grW (fwC r) (outerOf F m) k by rw [hkn])
            clear hkn
            go_wp2
            go_ret2
            exact ⟨_, rfl, by rw [HR.out, HKN.out]; exact HO.out.mono (by omega), HBA.out.trans (HB.out.mono (by omega))⟩
    · have hne : ((r.length : Int) != n) = true := by simpa using hlm
      have HB := hide (show fwB n l r = false by unfold fwB fwO; rw [decide_eq_false hlm, Bool.false_and, Bool.and_false])
      have HR := hide (fw_no HB.out)
      rw [HB.out]
      clear hok hlm
      go_enter Tryd.func44, Tryd.ntmps44
      go_wp2_with (first
        | (go_at_call 84; refine HG.out.mono ?_; rintro e w1 ⟨rfl, hb⟩; have HB1 := hide hb; have c0 := (HW.out _ hb).2.2.1; have c1 := (HW.out _ hb).2.2.2; have hz1 := hb.size; rw [HZ.out] at hz1; have HOW1 := hide (HOW.out.kept hb); clear hb)
      )
      go_ret2
      exact ⟨_, rfl, by rw [HR.out]; exact own_nil _ _ _, (HW.out _ HB1.out).1⟩
end Go.Proofs.YtndnkefbilhgnaaDoor
