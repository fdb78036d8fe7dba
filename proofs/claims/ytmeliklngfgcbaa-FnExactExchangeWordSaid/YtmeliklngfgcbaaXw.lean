/- Contracts: ExchangeWord, the program's and the specification's. -/
import Derived.Test.YtmeliklngfgcbaaWs
import Derived.Test.YtmeliklngfgcbaaCh
namespace Go.Proofs.Ytmeliklngfgcbaa
open Go.RowKit
set_option maxRecDepth 100000
attribute [local irreducible] p2 low memB risB

/-- a, and behind it what the first k items of b have more. -/
def exTo (a b : List Int) : Nat → List Int
  | 0 => a
  | k + 1 => if (setTo a a.length).testBit (b[k]?.getD 0).toNat = true then exTo a b k else exTo a b k ++ [b[k]?.getD 0]
theorem exTo_len (a b : List Int) : ∀ k, (exTo a b k).length ≤ a.length + k
  | 0 => by simp [exTo]
  | k + 1 => by
    have := exTo_len a b k
    rw [exTo]
    split
    · omega
    · simp; omega
def exB (n : Int) (l a b : List Int) : Bool := okWd n l a && okWd n l b
def exL (n : Int) (l a b : List Int) : List Int := if exB n l a b then exTo a b b.length else []
theorem wordTo_len {F : Nat → Bool} {n : Nat} {l : List Int} : wordTo F n l l.length = true → ∀ j, j < l.length → 0 ≤ l[j]?.getD 0 ∧ l[j]?.getD 0 < (n : Int) := fun h j hj => by
  have := (wordTo_iff F n l l.length).1 h j hj
  simp only [stepB, Bool.and_eq_true, decide_eq_true_eq] at this
  exact this.1
theorem okWd_in {n : Int} {l m : List Int} (h : okWd n l m = true) : ∀ j, j < m.length → 0 ≤ m[j]?.getD 0 ∧ m[j]?.getD 0 < n := fun j hj => by
  have h1 := okWd_sp h
  rw [okWd_yes h1] at h
  have := wordTo_len h j hj
  have := okSp_n h1
  omega
theorem okWd_set {n : Int} {l m : List Int} (h : okWd n l m = true) : setTo m m.length < 128 := by
  have h1 := okWd_sp h
  rw [okWd_yes h1] at h
  have h2 := setTo_lt m.length h
  have h3 := okSp_n h1
  have := p2_le n.toNat 7 (by omega)
  omega
theorem word_short {F : Nat → Bool} {n : Nat} {l : List Int} (hw : wordTo F n l l.length = true) : l.length ≤ n := by
  have hi := (wordTo_iff F n l l.length).1 hw
  have hin := wordTo_len hw
  have hinj : ∀ i j, i < j → j < l.length → (l[i]?.getD 0).toNat ≠ (l[j]?.getD 0).toNat := by
    intro i j hij hj e
    have h2 := hi j hj
    simp only [stepB, Bool.and_eq_true, decide_eq_true_eq, Bool.not_eq_true'] at h2
    have := (setTo_bit l (l[j]?.getD 0).toNat j).2 ⟨i, hij, e⟩
    rw [h2.2.1] at this; cases this
  have key := List.Nodup.length_le_of_subset (l₁ := (List.range l.length).map fun j => (l[j]?.getD 0).toNat) (l₂ := List.range n) ?_ ?_
  · simpa using key
  · rw [List.nodup_iff_pairwise_ne, List.pairwise_map, List.pairwise_iff_getElem]
    intro i j hi1 hj1 hij
    simp at hi1 hj1 ⊢
    exact hinj i j hij hj1
  · intro x hx
    simp at hx ⊢
    obtain ⟨j, hj, rfl⟩ := hx
    have := hin j hj
    omega
theorem exL_len (n : Int) (l a b : List Int) : (exL n l a b).length < 1000000000 := by
  unfold exL
  split
  · rename_i h
    simp only [exB, Bool.and_eq_true] at h
    have h1 := okWd_sp h.1
    have h2 := h.1
    have h3 := h.2
    rw [okWd_yes h1] at h2 h3
    have h4 := word_short h2
    have h5 := word_short h3
    have h6 := okSp_n h1
    have := exTo_len a b b.length
    omega
  · simp
theorem ex_has {n : Int} {l a b : List Int} (ha : okWd n l a = true) (hb : okWd n l b = true) (k : Nat) (hk : k < b.length) : memB a (b[k]?.getD 0) = (setTo a a.length).testBit (b[k]?.getD 0).toNat := by
  have h1 := okWd_in ha
  have h2 := okWd_in hb k hk
  rw [Bool.eq_iff_iff, mem_iff, setTo_bit]
  constructor
  · rintro ⟨j, hj, e⟩; exact ⟨j, hj, by rw [e]⟩
  · rintro ⟨j, hj, e⟩
    have := h1 j hj
    exact ⟨j, hj, by omega⟩
theorem exB_no1 {n : Int} {l a b : List Int} (h : okWd n l a = false) : exB n l a b = false := by simp [exB, h]
theorem exB_no2 {n : Int} {l a b : List Int} (h : okWd n l b = false) : exB n l a b = false := by simp [exB, h]
theorem exB_yes {n : Int} {l a b : List Int} (h : okWd n l a = true) (h2 : okWd n l b = true) : exB n l a b = true := by simp [exB, h, h2]
theorem exL_no {n : Int} {l a b : List Int} (h : exB n l a b = false) : exL n l a b = [] := by simp [exL, h]
theorem exL_yes {n : Int} {l a b : List Int} (h : exB n l a b = true) : exL n l a b = exTo a b b.length := by simp [exL, h]

set_option maxHeartbeats 2000000 in
theorem specExchangeWord_c (n : Int) (v : Value) (l : List Int) (u : Value) (a : List Int) (u2 : Value) (b : List Int) (w : World) (hl : ints w.heap.size w v l) (hlen : l.length < 1000000000) (ha : ints w.heap.size w u a) (hal : a.length < 100000000) (hb : ints w.heap.size w u2 b) (hbl : b.length < 100000000) :
    Calls Try.prog 5 #[.agg #[.int .i64 n, v], u, u2] w fun e w' => ∃ v', e = .returned (.tuple #[v', .bool (exB n l a b)]) ∧ own 3 w' w.heap.size v' (exL n l a b) ∧ Below w.heap.size w w' := by
  have HL := hide ((hl.alloc (.cells #[.int .i64 n, v] 28)).mono (show w.heap.size ≤ (w.alloc (.cells #[.int .i64 n, v] 28)).heap.size by simp))
  have HA0P := hide ha
  have HB0P := hide hb
  have HA0 := hide (ha.alloc (.cells #[.int .i64 n, v] 28))
  have HB0 := hide (hb.alloc (.cells #[.int .i64 n, v] 28))
  have H0 := hide ((Below.refl w.heap.size w).alloc (Nat.le_refl _) (.cells #[.int .i64 n, v] 28))
  have hz0 : (w.alloc (.cells #[.int .i64 n, v] 28)).heap.size = w.heap.size + 1 := by simp
  have HZ := hide hz0
  have HS0 := hide (hp_last w (.cells #[.int .i64 n, v] 28))
  clear hl ha hb hz0
  cases hok : okSp n l
  · have HG := hide (show goodB n l = false by rw [← ok_good]; exact hok)
    have HE := hide (exB_no1 (b := b) (okWd_no (m := a) hok))
    rw [exL_no HE.out, HE.out]
    clear hok
    go_enter Try.func5, Try.ntmps5
    go_wp2_with (go_at_call 15; refine (spGood_c n v l _ HL.out hlen).mono ?_; rw [HG.out]; rintro e w' ⟨rfl, hb⟩)
    go_ret2
    exact ⟨_, rfl, own_nil _ _ _, H0.out.trans (hb.mono (by simp))⟩
  · have HG := hide (show goodB n l = true by rw [← ok_good]; exact hok)
    have hn := okSp_n hok
    have hn1 := hn.1
    have hn2 := hn.2
    have HI := hide (okSp_inc hok)
    have HE1 := hide (wd_spec hok a)
    have HE2 := hide (wd_spec hok b)
    have HO1 := hide (okWd_yes (m := a) hok)
    have HO2 := hide (okWd_yes (m := b) hok)
    clear hok hn
    generalize hsa : (wordS (fun x => memB l (x : Int)) n.toNat a) = sa
    have HSA := hide hsa
    generalize hsb : (wordS (fun x => memB l (x : Int)) n.toNat b) = sb
    have HSB := hide hsb
    clear hsa hsb
    have key : ∀ (A B : Bool), okWd n l a = A → okWd n l b = B → Calls Try.prog 5 #[.agg #[.int .i64 n, v], u, u2] w fun e w' => ∃ v', e = .returned (.tuple #[v', .bool (exB n l a b)]) ∧ own 3 w' w.heap.size v' (exL n l a b) ∧ Below w.heap.size w w' := by
      intro A B hA hB
      have HA := hide hA
      have HB := hide hB
      clear hA hB
      cases A
      · have HE := hide (exB_no1 (b := b) HA.out)
        rw [exL_no HE.out, HE.out]
        go_enter Try.func5, Try.ntmps5
        go_wp2_with fail
        refine (spGood_c n v l _ HL.out hlen).mono ?_
        rw [HG.out]
        rintro e w1 ⟨rfl, hb⟩
        have hs1 := (hb.block w.heap.size (by simp)).trans HS0.out
        have c0 : w1.cell? ⟨w.heap.size, 0, none⟩ = some (.int .i64 n) := (by rw [hp_cell hs1]; rfl)
        have c1 : w1.cell? ⟨w.heap.size, 1, none⟩ = some v := (by rw [hp_cell hs1]; rfl)
        have HS1 := hide hs1
        have HBA := hide hb
        have HB1 := hide (H0.out.trans (hb.mono (by simp)))
        clear hb hs1
        go_wp2_with fail
        refine (woSet_c n v u a l _ ((HL.out.below HBA.out (Nat.le_refl _)).mono HBA.out.size) HI.out hlen ((HA0.out.below HBA.out (by simp)).mono (by have := HB1.out.size; omega)) (by omega) (by omega) (by omega)).mono ?_
        rw [HE1.out, HSA.out, ← HO1.out, HA.out]
        rintro e w2 ⟨rfl, hb2⟩
        have hs2 := (hb2.block w.heap.size (by have := HBA.out.size; have := HZ.out; omega)).trans HS1.out
        have d0 : w2.cell? ⟨w.heap.size, 0, none⟩ = some (.int .i64 n) := (by rw [hp_cell hs2]; rfl)
        have d1 : w2.cell? ⟨w.heap.size, 1, none⟩ = some v := (by rw [hp_cell hs2]; rfl)
        have HBB := hide (HBA.out.trans (hb2.mono HBA.out.size))
        have HB2 := hide (HB1.out.trans (hb2.mono HB1.out.size))
        clear hb2 hs2 c0 c1
        go_wp2_with fail
        refine (woSet_c n v u2 b l _ ((HL.out.below HBB.out (Nat.le_refl _)).mono HBB.out.size) HI.out hlen ((HB0.out.below HBB.out (by simp)).mono (by have := HB2.out.size; omega)) (by omega) (by omega) (by omega)).mono ?_
        rw [HE2.out, HSB.out, ← HO2.out, HB.out]
        rintro e w3 ⟨rfl, hb3⟩
        have HBC := hide (HBB.out.trans (hb3.mono HBB.out.size))
        have HB3 := hide (HB2.out.trans (hb3.mono HB2.out.size))
        clear hb3 d0 d1
        go_wp2
        go_ret2
        exact ⟨_, rfl, own_nil _ _ _, HB3.out⟩
      · cases B
        · have HE := hide (exB_no2 (a := a) HB.out)
          rw [exL_no HE.out, HE.out]
          go_enter Try.func5, Try.ntmps5
          go_wp2_with fail
          refine (spGood_c n v l _ HL.out hlen).mono ?_
          rw [HG.out]
          rintro e w1 ⟨rfl, hb⟩
          have hs1 := (hb.block w.heap.size (by simp)).trans HS0.out
          have c0 : w1.cell? ⟨w.heap.size, 0, none⟩ = some (.int .i64 n) := (by rw [hp_cell hs1]; rfl)
          have c1 : w1.cell? ⟨w.heap.size, 1, none⟩ = some v := (by rw [hp_cell hs1]; rfl)
          have HS1 := hide hs1
          have HBA := hide hb
          have HB1 := hide (H0.out.trans (hb.mono (by simp)))
          clear hb hs1
          go_wp2_with fail
          refine (woSet_c n v u a l _ ((HL.out.below HBA.out (Nat.le_refl _)).mono HBA.out.size) HI.out hlen ((HA0.out.below HBA.out (by simp)).mono (by have := HB1.out.size; omega)) (by omega) (by omega) (by omega)).mono ?_
          rw [HE1.out, HSA.out, ← HO1.out, HA.out]
          rintro e w2 ⟨rfl, hb2⟩
          have hs2 := (hb2.block w.heap.size (by have := HBA.out.size; have := HZ.out; omega)).trans HS1.out
          have d0 : w2.cell? ⟨w.heap.size, 0, none⟩ = some (.int .i64 n) := (by rw [hp_cell hs2]; rfl)
          have d1 : w2.cell? ⟨w.heap.size, 1, none⟩ = some v := (by rw [hp_cell hs2]; rfl)
          have HBB := hide (HBA.out.trans (hb2.mono HBA.out.size))
          have HB2 := hide (HB1.out.trans (hb2.mono HB1.out.size))
          clear hb2 hs2 c0 c1
          go_wp2_with fail
          refine (woSet_c n v u2 b l _ ((HL.out.below HBB.out (Nat.le_refl _)).mono HBB.out.size) HI.out hlen ((HB0.out.below HBB.out (by simp)).mono (by have := HB2.out.size; omega)) (by omega) (by omega) (by omega)).mono ?_
          rw [HE2.out, HSB.out, ← HO2.out, HB.out]
          rintro e w3 ⟨rfl, hb3⟩
          have HBC := hide (HBB.out.trans (hb3.mono HBB.out.size))
          have HB3 := hide (HB2.out.trans (hb3.mono HB2.out.size))
          clear hb3 d0 d1
          go_wp2
          go_ret2
          exact ⟨_, rfl, own_nil _ _ _, HB3.out⟩
        · have HE := hide (exB_yes HA.out HB.out)
          have HXH := hide (fun k hk => ex_has HA.out HB.out k hk)
          rw [exL_yes HE.out, HE.out]
          go_enter Try.func5, Try.ntmps5
          go_wp2_with fail
          refine (spGood_c n v l _ HL.out hlen).mono ?_
          rw [HG.out]
          rintro e w1 ⟨rfl, hb⟩
          have hs1 := (hb.block w.heap.size (by simp)).trans HS0.out
          have c0 : w1.cell? ⟨w.heap.size, 0, none⟩ = some (.int .i64 n) := (by rw [hp_cell hs1]; rfl)
          have c1 : w1.cell? ⟨w.heap.size, 1, none⟩ = some v := (by rw [hp_cell hs1]; rfl)
          have HS1 := hide hs1
          have HBA := hide hb
          have HB1 := hide (H0.out.trans (hb.mono (by simp)))
          clear hb hs1
          go_wp2_with fail
          refine (woSet_c n v u a l _ ((HL.out.below HBA.out (Nat.le_refl _)).mono HBA.out.size) HI.out hlen ((HA0.out.below HBA.out (by simp)).mono (by have := HB1.out.size; omega)) (by omega) (by omega) (by omega)).mono ?_
          rw [HE1.out, HSA.out, ← HO1.out, HA.out]
          rintro e w2 ⟨rfl, hb2⟩
          have hs2 := (hb2.block w.heap.size (by have := HBA.out.size; have := HZ.out; omega)).trans HS1.out
          have d0 : w2.cell? ⟨w.heap.size, 0, none⟩ = some (.int .i64 n) := (by rw [hp_cell hs2]; rfl)
          have d1 : w2.cell? ⟨w.heap.size, 1, none⟩ = some v := (by rw [hp_cell hs2]; rfl)
          have HBB := hide (HBA.out.trans (hb2.mono HBA.out.size))
          have HB2 := hide (HB1.out.trans (hb2.mono HB1.out.size))
          clear hb2 hs2 c0 c1
          go_wp2_with fail
          refine (woSet_c n v u2 b l _ ((HL.out.below HBB.out (Nat.le_refl _)).mono HBB.out.size) HI.out hlen ((HB0.out.below HBB.out (by simp)).mono (by have := HB2.out.size; omega)) (by omega) (by omega) (by omega)).mono ?_
          rw [HE2.out, HSB.out, ← HO2.out, HB.out]
          rintro e w3 ⟨rfl, hb3⟩
          have HBC := hide (HBB.out.trans (hb3.mono HBB.out.size))
          have HB3 := hide (HB2.out.trans (hb3.mono HB2.out.size))
          clear hb3 d0 d1
          go_wp2_with fail
          refine (l1Own_c u a _ ((HA0.out.below HBC.out (by simp)).mono (by have := HB3.out.size; omega)) (by omega)).mono ?_
          rintro e w4 ⟨v4, rfl, ho4, hb4⟩
          have HO4 := hide (ho4.mono (show w.heap.size ≤ _ from HB3.out.size))
          have HB4 := hide (HB3.out.trans (hb4.mono HB3.out.size))
          have HBQ := hide (HB0.out.below (HBC.out.trans (hb4.mono (by have := HBC.out.size; omega))) (by simp))
          clear ho4 hb4
          go_wp2_with (refine wpList_len sliceT rfl (.tmp _) rfl u2 rfl w.heap.size b HBQ.out ?_)
          have HLN := hide (fun k => exTo_len a b k)
          go_loopw [12, 40] (fun o i wr => ∃ k : Nat, k ≤ b.length ∧ i = .int .i64 k ∧ Hid (own 3 wr w.heap.size o (exTo a b k)) ∧ Hid (Below w.heap.size w wr)) (fun _ i _ => b.length - (intOf i).toNat)
          case atStart => exact ⟨0, Nat.zero_le _, rfl, HO4, HB4⟩
          case round =>
            obtain ⟨k, hk, rfl, HO, HBW⟩ := hrel
            have HAW := hide ((HA0P.out.below HBW.out (Nat.le_refl _)).mono HBW.out.size)
            have HBBW := hide ((HB0P.out.below HBW.out (Nat.le_refl _)).mono HBW.out.size)
            have hszw := HBW.out.size
            clear HO4 HB4
            by_cases hlt : k < b.length
            · have HH := hide (HXH.out k hlt)
              have HX1 := hide (show exTo a b (k + 1) = if (setTo a a.length).testBit (b[k]?.getD 0).toNat = true then exTo a b k else exTo a b k ++ [b[k]?.getD 0] from rfl)
              have hlk := HLN.out k
              generalize hx : b[k]?.getD 0 = x at HH HX1
              have HX := hide hx
              clear hx
              cases hm : memB a x
              · have HM := hide hm
                have HX2 := hide (show exTo a b (k + 1) = exTo a b k ++ [x] by rw [HX1.out, ← HH.out, hm]; rfl)
                clear hm
                generalize exTo a b k = L at HO HX2 hlk
                go_wp2_with (first
                  | (refine wpList_at sliceT intS rfl (.tmp _) (.tmp _) rfl u2 rfl k rfl _ b HBBW.out hlt ?_; intro ad hcell hblk; rw [HX.out] at hcell)
                  | (go_at_call 18; refine (l1Has_c u a x _ HAW.out (by omega)).mono ?_; rw [HM.out]; rintro e w' ⟨rfl, rfl⟩)
                  | (at_builtin; refine wpList_append1 sliceT intI rfl (.tmp 48) (.tmp 50) rfl w.heap.size _ _ rfl (HO.out.alloc _) _ x rfl (by simp [go_sem]) (by simp; omega) (by omega) ?_; intro v5 w5 ho5 hb5; have HO5 := hide ho5; have HB5 := hide ((HBW.out.alloc (by omega) _).trans hb5); clear ho5 hb5))
                go_roundw
                case rel => exact ⟨k + 1, by omega, by go_num, by rw [HX2.out]; exact HO5, HB5⟩
                case measure => simp [intOf]; omega
              · have HM := hide hm
                have HX2 := hide (show exTo a b (k + 1) = exTo a b k by rw [HX1.out, ← HH.out, hm]; rfl)
                clear hm
                go_wp2_with (first
                  | (refine wpList_at sliceT intS rfl (.tmp _) (.tmp _) rfl u2 rfl k rfl _ b HBBW.out hlt ?_; intro ad hcell hblk; rw [HX.out] at hcell)
                  | (go_at_call 18; refine (l1Has_c u a x _ HAW.out (by omega)).mono ?_; rw [HM.out]; rintro e w' ⟨rfl, rfl⟩))
                go_roundw
                case rel => exact ⟨k + 1, by omega, by go_num, by rw [HX2.out]; exact HO, HBW⟩
                case measure => simp [intOf]; omega
            · have HK := hide (show k = b.length by omega)
              have hlt' : ¬ ((k : Int) < (b.length : Int)) := by omega
              clear hk
              go_wp2
              go_ret2
              exact ⟨_, rfl, by rw [← HK.out]; exact HO.out, HBW.out⟩
    exact key _ _ rfl rfl
set_option maxHeartbeats 2000000 in
theorem implExchangeWord_c (n : Int) (v : Value) (l : List Int) (u : Value) (a : List Int) (u2 : Value) (b : List Int) (w : World) (hl : ints w.heap.size w v l) (hlen : l.length < 1000000000) (ha : ints w.heap.size w u a) (hal : a.length < 100000000) (hb : ints w.heap.size w u2 b) (hbl : b.length < 100000000) :
    Calls Try.prog 8 #[.agg #[.int .i64 n, v], u, u2] w fun e w' => ∃ v', e = .returned (.tuple #[v', .bool (exB n l a b)]) ∧ own 3 w' w.heap.size v' (exL n l a b) ∧ Below w.heap.size w w' := by
  have HL := hide ((hl.alloc (.cells #[.int .i64 n, v] 28)).mono (show w.heap.size ≤ (w.alloc (.cells #[.int .i64 n, v] 28)).heap.size by simp))
  have HAP := hide ha
  have HBP := hide hb
  have HA0 := hide ((ha.alloc (.cells #[.int .i64 n, v] 28)).mono (show w.heap.size ≤ (w.alloc (.cells #[.int .i64 n, v] 28)).heap.size by simp))
  have H0 := hide ((Below.refl w.heap.size w).alloc (Nat.le_refl _) (.cells #[.int .i64 n, v] 28))
  clear hl ha hb
  cases hA : okWd n l a
  · have HA := hide hA
    have HE := hide (exB_no1 (b := b) hA)
    rw [exL_no HE.out, HE.out]
    clear hA
    go_enter Try.func8, Try.ntmps8
    go_wp2_with (first
      | (go_at_call 19; refine (familyAndWord_c n v l u a _ HL.out hlen HA0.out (by omega)).mono ?_; rw [famVal4_no n l a HA.out]; rintro e w1 ⟨rfl, hb1⟩; have hz1 := hb1.size; simp at hz1; have HB1 := hide (bl_row ((H0.out.trans (hb1.mono (by simp))).alloc (by omega) (.cells (fam 0 noSet) 42)) (show w.heap.size ≤ w1.heap.size by omega) (fam 0 noSet)); clear hb1)
      | (refine wpList_alloc_fam zeroT rfl rfl _ (by first | (simp only [World.size_alloc]; rfl) | rfl) ?_)
      | (refine wpList_store_fam sizeT rfl (.tmp _) (.tmp _) rfl _ _ _ rfl rfl _ _ (famAt.new _ _ _ _) ?_))
    go_ret2
    exact ⟨_, rfl, own_nil _ _ _, HB1.out⟩
  · have HA := hide hA
    have hs128 := okWd_set hA
    have hn := okSp_n (okWd_sp hA)
    have hn1 := hn.1
    have hn2 := hn.2
    have HWB := hide (show wordB (marksTo l l.length) n.toNat b = okWd n l b from (okWd_yes (okWd_sp hA)).symm)
    clear hA hn
    cases hB : okWd n l b
    · have HB := hide hB
      have HE := hide (exB_no2 (a := a) hB)
      rw [exL_no HE.out, HE.out]
      clear hB
      generalize hst : setTo a a.length = st at hs128
      have HST := hide hst
      clear hst
      go_enter Try.func8, Try.ntmps8
      go_wp2_with (first
        | (go_at_call 19; refine (familyAndWord_c n v l u a _ HL.out hlen HA0.out (by omega)).mono ?_; rw [famVal4_yes n l a HA.out, HST.out]; rintro e w1 ⟨rfl, hb1⟩; have hz1 := hb1.size; simp at hz1; have hh := (famAt.new 42 w1 0 noSet).row n (marksTo l l.length); have HB1 := hide (bl_row ((H0.out.trans (hb1.mono (by simp))).alloc (by omega) (.cells (fam 0 noSet) 42)) (show w.heap.size ≤ w1.heap.size by omega) (fam n (marksTo l l.length))); clear hb1)
        | (refine wpList_alloc_fam zeroT rfl rfl _ (by first | (simp only [World.size_alloc]; rfl) | rfl) ?_)
        | (refine wpList_store_fam sizeT rfl (.tmp _) (.tmp _) rfl _ _ _ rfl rfl _ _ (famAt.new _ _ _ _) ?_)
        | (refine wpList_load_fam rowT sizeT rfl (.tmp _) rfl _ rfl n _ hh ?_))
      refine (isWord_c n (marksTo l l.length) u2 b _ ((HBP.out.below HB1.out (Nat.le_refl _)).mono HB1.out.size) (by omega) (by omega) (by omega)).mono ?_
      rw [HWB.out, HB.out]
      rintro e w3 ⟨rfl, hb3⟩
      have HB3 := hide (HB1.out.trans (hb3.mono HB1.out.size))
      clear hb3 hh hz1
      go_wp2
      go_ret2
      exact ⟨_, rfl, own_nil _ _ _, HB3.out⟩
    · have HB := hide hB
      have HE := hide (exB_yes HA.out hB)
      have HIN := hide (okWd_in hB)
      rw [exL_yes HE.out, HE.out]
      clear hB
      have HX1 := hide (fun k => show exTo a b (k + 1) = if (setTo a a.length).testBit (b[k]?.getD 0).toNat = true then exTo a b k else exTo a b k ++ [b[k]?.getD 0] from rfl)
      have HLN := hide (fun k => exTo_len a b k)
      have HX0 := hide (show exTo a b 0 = a from rfl)
      generalize hst : setTo a a.length = st at hs128 HX1
      have HST := hide hst
      clear hst
      go_enter Try.func8, Try.ntmps8
      go_wp2_with (first
        | (go_at_call 19; refine (familyAndWord_c n v l u a _ HL.out hlen HA0.out (by omega)).mono ?_; rw [famVal4_yes n l a HA.out, HST.out]; rintro e w1 ⟨rfl, hb1⟩; have hz1 := hb1.size; simp at hz1; have hh := (famAt.new 42 w1 0 noSet).row n (marksTo l l.length); have HB1 := hide (bl_row ((H0.out.trans (hb1.mono (by simp))).alloc (by omega) (.cells (fam 0 noSet) 42)) (show w.heap.size ≤ w1.heap.size by omega) (fam n (marksTo l l.length))); clear hb1)
        | (refine wpList_alloc_fam zeroT rfl rfl _ (by first | (simp only [World.size_alloc]; rfl) | rfl) ?_)
        | (refine wpList_store_fam sizeT rfl (.tmp _) (.tmp _) rfl _ _ _ rfl rfl _ _ (famAt.new _ _ _ _) ?_)
        | (refine wpList_load_fam rowT sizeT rfl (.tmp _) rfl _ rfl n _ hh ?_))
      refine (isWord_c n (marksTo l l.length) u2 b _ ((HBP.out.below HB1.out (Nat.le_refl _)).mono HB1.out.size) (by omega) (by omega) (by omega)).mono ?_
      rw [HWB.out, HB.out]
      rintro e w3 ⟨rfl, hb3⟩
      have HB3 := hide (HB1.out.trans (hb3.mono HB1.out.size))
      clear hb3 hh hz1
      have HEM := hide (own_empty 3 w3)
      have HAE := hide ((((HAP.out.below HB3.out (Nat.le_refl _)).mono HB3.out.size)).alloc (.cells #[] 3))
      go_wp2_with (first
        | (at_builtin; refine wpList_appendN sliceT intI rfl (.tmp 29) (.tmp 30) rfl w3.heap.size _ [] rfl HEM.out u a w3.heap.size rfl HAE.out (by simp) (by simp; omega) ?_; intro v4 w4 ho4 hb4; have HO4 := hide ho4; have HB4 := hide ((HB3.out.alloc (by have := HB3.out.size; omega) (.cells #[] 3)).trans (hb4.mono HB3.out.size)); have HBQ := hide (HBP.out.below HB4.out (Nat.le_refl _)); clear ho4 hb4)
        | (refine wpList_len sliceT rfl (.tmp _) rfl u2 rfl w.heap.size b HBQ.out ?_))
      go_loopw [11, 34] (fun o i wr => ∃ k : Nat, k ≤ b.length ∧ i = .int .i64 k ∧ Hid (own 3 wr w.heap.size o (exTo a b k)) ∧ Hid (Below w.heap.size w wr)) (fun _ i _ => b.length - (intOf i).toNat)
      case atStart => exact ⟨0, Nat.zero_le _, rfl, by rw [HX0.out]; exact hide (by simpa using HO4.out.mono HB3.out.size), HB4⟩
      case round =>
        obtain ⟨k, hk, rfl, HO, HBW⟩ := hrel
        have HBBW := hide ((HBP.out.below HBW.out (Nat.le_refl _)).mono HBW.out.size)
        have hszw := HBW.out.size
        clear HO4 HB4 HX0
        by_cases hlt : k < b.length
        · have hin := HIN.out k hlt
          have hx1 := HX1.out k
          have hlk := HLN.out k
          generalize hx : b[k]?.getD 0 = x at hin hx1
          have HX := hide hx
          have HX2 := hide hx1
          clear hx hx1
          obtain ⟨i, rfl⟩ := Int.eq_ofNat_of_zero_le hin.1
          rw [Int.toNat_natCast] at HX2
          have hi7 : i < 7 := by omega
          clear hin
          cases hm : st.testBit i
          · have HM := hide hm
            have HX3 := hide (show exTo a b (k + 1) = exTo a b k ++ [(i : Int)] by rw [HX2.out, hm]; rfl)
            clear hm
            generalize exTo a b k = L at HO HX3 hlk
            go_wp2_with (first
              | (refine wpList_at sliceT intS rfl (.tmp _) (.tmp _) rfl u2 rfl k rfl _ b HBBW.out hlt ?_; intro ad hcell hblk; rw [HX.out] at hcell)
              | (go_at_call 21; refine (has_c _ _ _ (by omega) (by omega) (by omega) (by omega)).mono ?_; rw [Int.toNat_natCast, Int.toNat_natCast, HM.out]; rintro e w' ⟨rfl, rfl⟩)
              | (at_builtin; refine wpList_append1 sliceT intI rfl (.tmp 42) (.tmp 44) rfl w.heap.size _ _ rfl (HO.out.alloc _) _ (i : Int) rfl (by simp [go_sem]) (by simp; omega) (by omega) ?_; intro v5 w5 ho5 hb5; have HO5 := hide ho5; have HB5 := hide ((HBW.out.alloc (by omega) _).trans hb5); clear ho5 hb5))
            go_roundw
            case rel => exact ⟨k + 1, by omega, by go_num, by rw [HX3.out]; exact HO5, HB5⟩
            case measure => simp [intOf]; omega
          · have HM := hide hm
            have HX3 := hide (show exTo a b (k + 1) = exTo a b k by rw [HX2.out, hm]; rfl)
            clear hm
            go_wp2_with (first
              | (refine wpList_at sliceT intS rfl (.tmp _) (.tmp _) rfl u2 rfl k rfl _ b HBBW.out hlt ?_; intro ad hcell hblk; rw [HX.out] at hcell)
              | (go_at_call 21; refine (has_c _ _ _ (by omega) (by omega) (by omega) (by omega)).mono ?_; rw [Int.toNat_natCast, Int.toNat_natCast, HM.out]; rintro e w' ⟨rfl, rfl⟩))
            go_roundw
            case rel => exact ⟨k + 1, by omega, by go_num, by rw [HX3.out]; exact HO, HBW⟩
            case measure => simp [intOf]; omega
        · have HK := hide (show k = b.length by omega)
          have hlt' : ¬ ((k : Int) < (b.length : Int)) := by omega
          clear hk
          go_wp2
          go_ret2
          exact ⟨_, rfl, by rw [← HK.out]; exact HO.out, HBW.out⟩
end Go.Proofs.Ytmeliklngfgcbaa
