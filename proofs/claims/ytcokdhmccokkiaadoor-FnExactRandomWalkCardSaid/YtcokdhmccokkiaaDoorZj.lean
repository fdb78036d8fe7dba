/- Contracts: RandomWalk of the specification. -/
import Derived.Test.YtcokdhmccokkiaaDoorZi
import Derived.Test.YtcokdhmccokkiaaDoorAp
namespace Go.Proofs.YtcokdhmccokkiaaDoor
open Go.RowKit
set_option maxRecDepth 100000
set_option linter.unusedSimpArgs false
theorem whL_nextZ (K : Nat → Bool) (k : Nat) : whL K (k + 1) = whL K k ++ (if K k then [(k : Int)] else []) := rfl
theorem rwB_neg {n : Int} {l ch : List Int} (h : ngTo ch ch.length = true) : rwB n l ch = false := by
  unfold rwB chB
  rw [h]; simp
theorem rwB_long {n : Int} {l ch : List Int} (h : ¬ ch.length ≤ 20) : rwB n l ch = false := by
  unfold rwB chB
  rw [decide_eq_false (show ¬ (ch.length : Int) ≤ 20 by omega)]; simp
theorem rwB_fine {n : Int} {l ch : List Int} (h0 : okSp n l = true) (h1 : ch.length ≤ 20) (h : ngTo ch ch.length = false) : rwB n l ch = true := by
  unfold rwB chB
  rw [h0, h, decide_eq_true (show (ch.length : Int) ≤ 20 by omega)]; rfl
attribute [local irreducible] p2 low memB risB
set_option maxHeartbeats 4000000 in
theorem specRandomWalk_c (n : Int) (v : Value) (l : List Int) (u : Value) (ch : List Int) (w : World) (hl : ints w.heap.size w v l) (hlen : l.length < 1000000000) (hm : ints w.heap.size w u ch) (hml : ch.length < 1000000000) (_hT : tab w) :
    Calls Tryd.prog 21 #[.agg #[.int .i64 n, v], u] w fun e w' => ∃ v', e = .returned (.tuple #[v', .bool (rwB n l ch)]) ∧ own 3 w' w.heap.size v' (rwL n l ch) ∧ Below w.heap.size w w' := by
  obtain ⟨ua, uc, hu⟩ := hm.shape
  subst hu
  have HM := hide hm
  have HLV := hide hl
  have HL := hide ((hl.alloc (.cells #[.int .i64 n, v] 29)).mono (show w.heap.size ≤ (w.alloc (.cells #[.int .i64 n, v] 29)).heap.size by simp))
  have H0 := hide ((Below.refl w.heap.size w).alloc (Nat.le_refl _) (.cells #[.int .i64 n, v] 29))
  have HS0 := hide (hp_last w (.cells #[.int .i64 n, v] 29))
  have HZ := hide (show (w.alloc (.cells #[.int .i64 n, v] 29)).heap.size = w.heap.size + 1 by simp)
  have hc0 := cells_at0 HS0.out
  have hc1 := cells_at1 HS0.out
  have HG := hide (spGood_c n v l (w.alloc (.cells #[.int .i64 n, v] 29)) HL.out hlen)
  rw [← ok_good] at HG
  clear hl hm
  cases hok : okSp n l
  · have hb : rwB n l ch = false := by unfold rwB; rw [hok]; rfl
    rw [hok] at HG
    rw [rwL_no hb, hb]
    clear hok hb
    go_enter Tryd.func21, Tryd.ntmps21
    go_wp2_with (first
      | (go_at_call 43; refine HG.out.mono ?_; rintro e w1 ⟨rfl, hb1⟩; have HB1 := hide (H0.out.trans (hb1.mono (by rw [HZ.out]; omega))); clear hb1 hc0 hc1))
    go_ret2
    exact ⟨_, rfl, own_nil _ _ _, HB1.out⟩
  · by_cases h20 : ch.length ≤ 20
    · have HK := hide hok
      have hn := okSp_n hok
      have HI := hide (okSp_inc hok)
      have HSP := hide (okSp_spc hok)
      have HMK := hide (fun x => okSp_marks hok x)
      obtain ⟨m, rfl⟩ := Int.eq_ofNat_of_zero_le (show 0 ≤ n by omega)
      have hm7 : m ≤ 7 := by omega
      rw [Int.toNat_natCast] at HSP
      have hgt : ¬ ((20 : Int) < (ch.length : Int)) := by omega
      rw [hok] at HG
      clear hok hn
      go_enter Tryd.func21, Tryd.ntmps21
      go_wp2_with (first
        | (go_at_call 43; refine HG.out.mono ?_; rintro e w1 ⟨rfl, hb1⟩; have hz1 := hb1.size; rw [HZ.out] at hz1; have HS1 := hide ((hb1.block w.heap.size (by rw [HZ.out]; omega)).trans HS0.out); have HL1 := hide ((HL.out.below hb1 (by rw [HZ.out]; omega)).mono hb1.size); have HB1 := hide (H0.out.trans (hb1.mono (by rw [HZ.out]; omega))); clear hb1 hc0 hc1))
      have HM1 := hide ((HM.out.below HB1.out (Nat.le_refl _)))
      go_loopw [25] (fun iv wr => ∃ k : Nat, k ≤ ch.length ∧ iv = .int .i64 (k : Int) ∧ Hid (ngTo ch k = false) ∧ wr = w1) (fun iv _ => ch.length - (intOf iv).toNat)
      case atStart => exact ⟨0, by omega, rfl, rfl, rfl⟩
      case round =>
        obtain ⟨k, hk, rfl, HN, rfl⟩ := hrel
        by_cases hlt : k < ch.length
        · have hlt' : (k : Int) < (ch.length : Int) := by omega
          have HNX := hide (show ngTo ch (k + 1) = decide (ch[k]?.getD 0 < 0) by rw [ngTo_next, HN.out, Bool.false_or])
          generalize hx : ch[k]?.getD 0 = x at HNX
          have HX := hide hx
          clear hx
          by_cases hx0 : x < 0
          · rw [decide_eq_true hx0] at HNX
            have hb := rwB_neg (n := (m : Int)) (l := l) (ngTo_stay HNX.out ch.length (by omega))
            have HNO := hide hb
            have HNL := hide (rwL_no hb)
            clear hb
            go_wp2_with (first
              | (refine wpList_at sliceT intS rfl (.tmp _) (.tmp _) rfl _ rfl k rfl w.heap.size ch HM1.out hlt ?_; intro ad hcell hblk; rw [HX.out] at hcell))
            go_ret2
            exact ⟨.slice none 0 0, by rw [HNO.out]; rfl, by rw [HNL.out]; exact own_nil _ _ _, HB1.out⟩
          · rw [decide_eq_false hx0] at HNX
            go_wp2_with (first
              | (refine wpList_at sliceT intS rfl (.tmp _) (.tmp _) rfl _ rfl k rfl w.heap.size ch HM1.out hlt ?_; intro ad hcell hblk; rw [HX.out] at hcell))
            go_roundw
            case rel => exact ⟨k + 1, by omega, by go_num, HNX, by trivial⟩
            case measure => (simp [intOf] <;> omega)
        · have hlt' : ¬ ((k : Int) < (ch.length : Int)) := by omega
          have hng : ngTo ch ch.length = false := by rw [show ch.length = k by omega]; exact HN.out
          have hrb := rwB_fine HK.out h20 hng
          have hpos := ngTo_no _ hng
          have HPOS := hide hpos
          have HRB := hide hrb
          have HRL := hide (rwL_yes hrb)
          rw [Int.toNat_natCast] at HRL
          have d0 := cells_at0 HS1.out
          have d1 := cells_at1 HS1.out
          clear hng hrb hpos HN hk
          go_wp2_with fail
          clear d0 d1 hlt'
          generalize hWW : wr = W at *
          clear hWW
          go_loopw [8, 9, 10] (fun ow sv iv wq => ∃ j : Nat, j ≤ m ∧ sv = .int .i64 (wkS (marksTo l l.length) m ch j : Int) ∧ iv = .int .i64 (j : Int) ∧ Hid (own 3 wq (w.heap.size + 1) ow (wkL (marksTo l l.length) m ch j)) ∧ Hid (Below (w.heap.size + 1) W wq)) (fun _ _ iv _ => m - (intOf iv).toNat)
          case atStart => exact ⟨0, by omega, rfl, rfl, own_nil _ _ _, Below.refl _ _⟩
          case round =>
            obtain ⟨j, hj, rfl, rfl, HO, HB⟩ := hrel
            obtain ⟨wa, wc, hwv⟩ := HO.out.shape
            subst hwv
            have hsz := HB.out.size
            have HSW := hide ((HB.out.block w.heap.size (by omega)).trans HS1.out)
            have d0 := cells_at0 HSW.out
            have d1 := cells_at1 HSW.out
            by_cases hjm : j < m
            · have hjm' : (j : Int) < (m : Int) := by omega
              obtain ⟨hs8, hl0, hl7, i, he, hi7, hS, hLn⟩ := wk_step HSP.out hm7 ch j hjm
              obtain ⟨hF, _⟩ := wk_ok HSP.out hm7 ch j (by omega)
              have hos := outer_same (marksTo l l.length) l m _ hm7 (HSP.out.lt _ hF) (fun x _ => HMK.out x)
              have how := outer_whL l m (wkS (marksTo l l.length) m ch j) hm7
              have hwk : wkO (marksTo l l.length) m ch j = itemsL (outerOf (marksTo l l.length) m (wkS (marksTo l l.length) m ch j)) := rfl
              rw [hos, how] at hwk
              have HLA := hide (wkL_len (marksTo l l.length) m ch j)
              have HLW := hide ((HLV.out.below (HB1.out.trans (HB.out.mono (show w.heap.size ≤ w.heap.size + 1 by omega))) (Nat.le_refl _)).mono (show w.heap.size ≤ wr.heap.size by omega))
              have HOU := hide (fun w3 h => by have := spOuter_c (m : Int) v l (wkS (marksTo l l.length) m ch j : Int) w3 h HI.out hlen (by omega) (by omega) (by omega) (by omega); rw [Int.toNat_natCast, Int.toNat_natCast] at this; exact this)
              have hO8 : itemsOf (outerSp l (wkS (marksTo l l.length) m ch j)) m < 128 := by
                have h1 : itemsOf (outerSp l (wkS (marksTo l l.length) m ch j)) m < 2 ^ m := itemsOf_lt _ m
                have h2 := p2_le m 7 hm7
                omega
              clear hos how hF
              generalize itemsOf (outerSp l (wkS (marksTo l l.length) m ch j)) m = O at HOU hO8 hwk
              rw [hwk] at hl0 hl7 he
              have HCV := hide he
              have HSN := hide hS
              have HLN := hide hLn
              generalize wkS (marksTo l l.length) m ch j = S at *
              generalize wkL (marksTo l l.length) m ch j = A at *
              have HIN := hide (fun (b : Nat) (hb : b < m) w3 => by have := spIn_c (O : Int) (b : Int) w3 (by omega) (by omega) (by omega) (by omega); rw [Int.toNat_natCast, Int.toNat_natCast] at this; exact this)
              clear he hS hLn hwk
              have HBQ := HB
              have HOQ := HO
              clear HB HO
              go_wp2_with (first
                | (go_at_call 44; refine (HOU.out _ HLW.out).mono ?_; rintro e w3 ⟨rfl, hb3⟩; have hz3 := hb3.size; have HO3 := hide (HOQ.out.kept hb3); have HB3 := hide (HBQ.out.trans (hb3.mono (by omega))); clear hb3 d0 d1))
              generalize hQQ : w3 = Q3 at *
              clear hQQ
              have HS3 := hide ((HB3.out.block w.heap.size (by omega)).trans HS1.out)
              go_loopw [11, 13] (fun nv iv wq => ∃ b : Nat, b ≤ m ∧ iv = .int .i64 (b : Int) ∧ Hid (own 3 wq Q3.heap.size nv (whL (fun i => O.testBit i) b)) ∧ Hid (Below Q3.heap.size Q3 wq)) (fun _ iv _ => m - (intOf iv).toNat)
              case atStart => exact ⟨0, by omega, rfl, own_nil _ _ _, Below.refl _ _⟩
              case round =>
                obtain ⟨b, hb, rfl, HN, HB⟩ := hrel
                have hzb := HB.out.size
                have HSB := hide ((HB.out.block w.heap.size (by omega)).trans HS3.out)
                have f0 := cells_at0 HSB.out
                by_cases hbm : b < m
                · have hbm' : (b : Int) < (m : Int) := by omega
                  have HIB := hide (HIN.out b hbm)
                  have HNX := hide (whL_nextZ (fun i => O.testBit i) b)
                  have hnl := whL_len (fun i => O.testBit i) b
                  generalize whL (fun i => O.testBit i) b = N at *
                  generalize O.testBit b = bb at *
                  cases bb
                  · go_wp2_with (first
                      | (go_at_call 45; refine (HIB.out _).mono ?_; rintro e w5 ⟨rfl, rfl⟩))
                    go_roundw
                    case rel => exact ⟨b + 1, by omega, by go_num, by rw [HNX.out, if_neg (by simp), List.append_nil]; exact HN.out, HB⟩
                    case measure => (simp [intOf] <;> omega)
                  · go_wp2_with (first
                      | (go_at_call 45; refine (HIB.out _).mono ?_; rintro e w5 ⟨rfl, rfl⟩)
                      | (at_builtin; refine wpList_append1 sliceT intI rfl _ _ rfl Q3.heap.size _ _ rfl (HN.out.alloc _) _ (b : Int) rfl (by simp [go_sem]) (by simp; omega) (by omega) ?_; intro v6 w6 ho6 hb6; have HO6 := hide ho6; have HB6 := hide ((HB.out.alloc (by omega) _).trans hb6); clear ho6 hb6))
                    go_roundw
                    case rel => exact ⟨b + 1, by omega, by go_num, by rw [HNX.out]; exact HO6.out, HB6⟩
                    case measure => (simp [intOf] <;> omega)
                · have hbe : b = m := by omega
                  subst hbe
                  have hbm' : ¬ ((b : Int) < (b : Int)) := by omega
                  have HNI := hide HN.out.ints
                  obtain ⟨na, nc, hnv⟩ := HN.out.shape
                  have HO4 := hide (HO3.out.kept HB.out)
                  have HB4 := hide (HB3.out.trans (HB.out.mono (by omega)))
                  have HC4 := hide ((HM1.out.below HB4.out (by omega)).mono (show w.heap.size ≤ wr.heap.size by omega))
                  have HPK := hide (show chV ch j (whL (fun i => O.testBit i) b) = (whL (fun i => O.testBit i) b)[pkI ch j (whL (fun i => O.testBit i) b).length]?.getD 0 from rfl)
                  generalize whL (fun i => O.testBit i) b = N at *
                  subst hnv
                  rw [HCV.out] at HPK
                  have hpk : pkI ch j N.length = if j < ch.length then (ch[j]?.getD 0).toNat % N.length else 0 := rfl
                  have hix := pkI_lt (ch := ch) (k := j) hl0
                  have hne : ¬ ((N.length : Int) = 0) := by omega
                  have hneb : ((N.length : Int) == 0) = false := by rw [beq_eq_false_iff_ne]; omega
                  have hw1 : wrap64 (2 ^ i) = (p2 i : Int) := wrap_p2 i (by omega)
                  have hw2 : IntKind.i64.wrap (2 ^ i) = (p2 i : Int) := by rw [IntWalk.i64_left]; exact hw1
                  have hp7 := p2_lt128 i (by omega)
                  have hor := i64_or S (p2 i) (by omega) (by omega)
                  clear hlt
                  by_cases hjc : j < ch.length
                  · have hjc' : (j : Int) < (ch.length : Int) := by omega
                    have hx0 := HPOS.out j hjc
                    rw [if_pos hjc] at hpk
                    have hrm : (ch[j]?.getD 0).tmod (N.length : Int) = (pkI ch j N.length : Int) := by
                      rw [Int.tmod_eq_emod_of_nonneg hx0, hpk]
                      obtain ⟨z, hz⟩ := Int.eq_ofNat_of_zero_le hx0
                      rw [hz]; simp
                    generalize hxx : ch[j]?.getD 0 = x at hrm hx0
                    have HX := hide hxx
                    generalize pkI ch j N.length = ix at *
                    clear hpk hxx
                    go_wp2_with (first
                      | (refine wpList_at sliceT intS rfl (.tmp 58) (.tmp _) rfl _ rfl j rfl wr.heap.size ch HC4.out hjc ?_; intro ad hcell hblk; rw [HX.out] at hcell)
                      | (refine wpList_at sliceT intS rfl (.tmp 66) (.tmp _) rfl _ rfl ix rfl wr.heap.size N HNI.out hix ?_; intro ad2 hcell2 hblk2; rw [← HPK.out] at hcell2)
                      | (at_builtin; refine wpList_append1_at sliceT intI rfl _ _ rfl (w.heap.size + 1) _ _ rfl (HO4.out.alloc _) wr.heap.size (i : Int) rfl (by simp [go_sem]) (by simp; omega) (by rw [HLA.out]; omega) ?_; intro v6 w6 ho6 hot6 hw6; have HO6 := hide ho6; have HN6 := hide (((HN.out.alloc (.cells #[.int .i64 (i : Int)] 3)).other hot6 (fun g hg e => by have h1 := HN.out.base g hg; have h2 := HO3.out.blockLt g e; omega)).ints); have HB6 := hide ((HB4.out.alloc (by omega) (.cells #[.int .i64 (i : Int)] 3)).trans (hot6.below (w.heap.size + 1) (fun g hg => HO4.out.base g hg) (by simp; omega))); clear ho6 hot6 hw6)
                      | (refine wpList_at sliceT intS rfl (.tmp 73) (.tmp _) rfl _ rfl ix rfl w6.heap.size N HN6.out hix ?_; intro ad3 hcell3 hblk3; rw [← HPK.out] at hcell3))
                    go_roundw
                    case rel => exact ⟨j + 1, by omega, by rw [HSN.out], by go_num, by rw [HLN.out]; exact HO6.out, HB6⟩
                    case measure => (simp [intOf] <;> omega)
                  · have hjc' : ¬ ((j : Int) < (ch.length : Int)) := by omega
                    rw [if_neg hjc] at hpk
                    rw [hpk] at HPK hix
                    clear hpk
                    go_wp2_with (first
                      | (refine wpList_at sliceT intS rfl (.tmp 66) (.tmp _) rfl _ rfl 0 rfl wr.heap.size N HNI.out hix ?_; intro ad2 hcell2 hblk2; rw [← HPK.out] at hcell2)
                      | (at_builtin; refine wpList_append1_at sliceT intI rfl _ _ rfl (w.heap.size + 1) _ _ rfl (HO4.out.alloc _) wr.heap.size (i : Int) rfl (by simp [go_sem]) (by simp; omega) (by rw [HLA.out]; omega) ?_; intro v6 w6 ho6 hot6 hw6; have HO6 := hide ho6; have HN6 := hide (((HN.out.alloc (.cells #[.int .i64 (i : Int)] 3)).other hot6 (fun g hg e => by have h1 := HN.out.base g hg; have h2 := HO3.out.blockLt g e; omega)).ints); have HB6 := hide ((HB4.out.alloc (by omega) (.cells #[.int .i64 (i : Int)] 3)).trans (hot6.below (w.heap.size + 1) (fun g hg => HO4.out.base g hg) (by simp; omega))); clear ho6 hot6 hw6)
                      | (refine wpList_at sliceT intS rfl (.tmp 73) (.tmp _) rfl _ rfl 0 rfl w6.heap.size N HN6.out hix ?_; intro ad3 hcell3 hblk3; rw [← HPK.out] at hcell3))
                    go_roundw
                    case rel => exact ⟨j + 1, by omega, by rw [HSN.out], by go_num, by rw [HLN.out]; exact HO6.out, HB6⟩
                    case measure => (simp [intOf] <;> omega)
            · have hjm' : ¬ ((j : Int) < (m : Int)) := by omega
              have HJ := hide (show j = m by omega)
              go_wp2_with fail
              go_ret2
              exact ⟨_, by rw [HRB.out]; rfl, by rw [HRL.out, show wkL (marksTo l l.length) m ch m = wkL (marksTo l l.length) m ch j by rw [HJ.out]]; exact HO.out.mono (show w.heap.size ≤ w.heap.size + 1 by omega), HB1.out.trans (HB.out.mono (by omega))⟩
    · have hb := rwB_long (n := n) (l := l) h20
      rw [hok] at HG
      rw [rwL_no hb, hb]
      have hgt : (20 : Int) < (ch.length : Int) := by omega
      clear hok hb
      go_enter Tryd.func21, Tryd.ntmps21
      go_wp2_with (first
        | (go_at_call 43; refine HG.out.mono ?_; rintro e w1 ⟨rfl, hb1⟩; have HB1 := hide (H0.out.trans (hb1.mono (by rw [HZ.out]; omega))); clear hb1 hc0 hc1))
      go_ret2
      exact ⟨_, rfl, own_nil _ _ _, HB1.out⟩
end Go.Proofs.YtcokdhmccokkiaaDoor
