/- Contracts: RunBy of the specification, FirstRun and NeverEnds, both. -/
import Derived.Test.YtjmhmmenampgbaaDoorYu
namespace Go.Proofs.YtjmhmmenampgbaaDoor
open Go.RowKit
set_option maxRecDepth 100000
set_option linter.unusedSimpArgs false
theorem rby_no2 {M : List (List Int)} {A ch : List Int} (h : chB 60 ch = false) : rbyB M A ch = false ∧ rbyL M A ch = [] := rby_no (by rw [h]; simp)
theorem chB_long {ch : List Int} (h : ¬ ch.length ≤ 60) : chB 60 ch = false := by
  unfold chB
  rw [decide_eq_false (by omega)]; rfl
theorem chB_neg {ch : List Int} (h : ngTo ch ch.length = true) : chB 60 ch = false := by
  unfold chB
  rw [h]; simp
theorem chB_fine {ch : List Int} (h1 : ch.length ≤ 60) (h : ngTo ch ch.length = false) : chB 60 ch = true := by
  unfold chB
  rw [h, decide_eq_true (by omega)]; rfl
noncomputable def neB (M : List (List Int)) (A : List Int) : Bool := cpB M A && !(fuR M A []).2.2
theorem neB_no {M : List (List Int)} {A : List Int} (h : cpB M A = false) : neB M A = false := by unfold neB; rw [h]; rfl
theorem neB_yes {M : List (List Int)} {A : List Int} (h : cpB M A = true) : neB M A = !(fuR M A []).2.2 := by unfold neB; rw [h]; rfl
theorem ints_nilY (B : Nat) (w : World) : ints B w (.slice none 0 0) [] := .inl ⟨rfl, _, _, rfl⟩
attribute [local irreducible] p2 low memB risB
set_option maxHeartbeats 2000000 in
theorem specRunBy_c (v u : Value) (M : List (List Int)) (A : List Int) (z : Value) (ch : List Int) (w : World) (hl : rows w.heap.size w v M) (hs : small2 M) (hu : ints w.heap.size w u A) (hlen : A.length < 1000000000) (hm : ints w.heap.size w z ch) (hml : ch.length < 1000000000) (_hT : tab w) :
    Calls Tryd.prog 35 #[.agg #[v, u], z] w fun e w' => ∃ v', e = .returned (.tuple #[v', .bool (rbyB M A ch)]) ∧ own 3 w' w.heap.size v' (rbyL M A ch) ∧ Below w.heap.size w w' := by
  obtain ⟨za, zc, hz⟩ := hm.shape
  subst hz
  have HM := hide hm
  have HB0 := hide (by_start 29 v u w)
  have HG := hide (waGood_c v u M A (w.alloc (.cells #[v, u] 29)) ((hl.alloc _).mono (by simp)) hs ((hu.alloc _).mono (by simp)) hlen)
  have HU := hide hu
  have HL := hide hl
  clear hl hu
  clear hm
  cases hc : cpB M A
  · have HNO := hide (rby_no (M := M) (A := A) (ch := ch) (by rw [hc]; rfl))
    rw [hc] at HG
    rw [HNO.out.1, HNO.out.2]
    clear hc
    go_enter Tryd.func35, Tryd.ntmps35
    go_wp2_with (first
      | (go_at_call 41; refine HG.out.mono ?_; rintro e w2 ⟨rfl, hb2⟩; have HB2 := hide (by_to HB0.out hb2); clear hb2)
      )
    go_ret2
    exact ⟨_, rfl, own_nil _ _ _, by_below HB2.out⟩
  · by_cases h60 : ch.length ≤ 60
    · have hp := cpB_iff.1 hc
      have hgt : ¬ ((60 : Int) < (ch.length : Int)) := by omega
      have HFU := hide (fun (hpos : ∀ k, k < ch.length → 0 ≤ ch[k]?.getD 0) w1 (h : Below w.heap.size w w1) => waFull_c v u (.slice za ch.length zc) M A ch w1 ((HL.out.below h (Nat.le_refl _)).mono h.size) hp ((HU.out.below h (Nat.le_refl _)).mono h.size) ((HM.out.below h (Nat.le_refl _)).mono h.size) hml hpos)
      have HC := hide hc
      rw [hc] at HG
      clear hc hp
      go_enter Tryd.func35, Tryd.ntmps35
      go_wp2_with (first
        | (go_at_call 41; refine HG.out.mono ?_; rintro e w2 ⟨rfl, hb2⟩; have HB2 := hide (by_to HB0.out hb2); have c0 := by_cell0 HB2.out; have c1 := by_cell1 HB2.out; have hz2 := by_size HB2.out; clear hb2)
        )
      clear c0 c1
      go_loopw [21] (fun iv wr => ∃ k : Nat, k ≤ ch.length ∧ iv = .int .i64 (k : Int) ∧ Hid (ngTo ch k = false) ∧ wr = w2) (fun iv _ => ch.length - (intOf iv).toNat)
      case atStart => exact ⟨0, by omega, rfl, rfl, rfl⟩
      case round =>
        obtain ⟨k, hk, rfl, HN, rfl⟩ := hrel
        have HMW := hide (HM.out.below (by_below HB2.out) (Nat.le_refl _))
        by_cases hlt : k < ch.length
        · have hlt' : (k : Int) < (ch.length : Int) := by omega
          have HNX := hide (show ngTo ch (k + 1) = decide (ch[k]?.getD 0 < 0) by rw [ngTo_next, HN.out, Bool.false_or])
          generalize hx : ch[k]?.getD 0 = x at HNX
          have HX := hide hx
          clear hx
          by_cases hx0 : x < 0
          · rw [decide_eq_true hx0] at HNX
            have HNO := hide (rby_no2 (M := M) (A := A) (chB_neg (ngTo_stay HNX.out ch.length (by omega))))
            go_wp2_with (first
              | (refine wpList_at sliceT intS rfl (.tmp _) (.tmp _) rfl _ rfl k rfl w.heap.size ch HMW.out hlt ?_; intro ad hcell hblk; rw [HX.out] at hcell))
            go_ret2
            exact ⟨.slice none 0 0, by rw [HNO.out.1]; rfl, by rw [HNO.out.2]; exact own_nil _ _ _, by_below HB2.out⟩
          · rw [decide_eq_false hx0] at HNX
            go_wp2_with (first
              | (refine wpList_at sliceT intS rfl (.tmp _) (.tmp _) rfl _ rfl k rfl w.heap.size ch HMW.out hlt ?_; intro ad hcell hblk; rw [HX.out] at hcell))
            go_roundw
            case rel => exact ⟨k + 1, by omega, by go_num, HNX, by trivial⟩
            case measure => (simp [intOf] <;> omega)
        · have hlt' : ¬ ((k : Int) < (ch.length : Int)) := by omega
          have hng : ngTo ch ch.length = false := by rw [show ch.length = k by omega]; exact HN.out
          have hcb := chB_fine h60 hng
          have HYES := hide (rby_yes (M := M) (A := A) (ch := ch) (by rw [HC.out, hcb]; rfl))
          have HFX := hide (fun w1 h => HFU.out (chB_inY hcb).2 w1 h)
          have HFQ := hide (show fuR M A ch = frF A.length (plL M A) ch 60 0 (atN A) from rfl)
          rw [← HFQ.out] at HFX
          have c0 := by_cell0 HB2.out
          have c1 := by_cell1 HB2.out
          clear hng hcb
          rw [← HYES.out.1] at HFX
          have HFX2 := hide (fun w1 h => (HFX.out w1 h).mono (fun e w' he => show ∃ v1 v2, e = .returned (.tuple #[v1, v2, .bool (rbyB M A ch)]) ∧ own 3 w' w1.heap.size v1 (rbyL M A ch) ∧ Below w1.heap.size w1 w' by
            obtain ⟨v1, v2, h1, h2, _, h4⟩ := he
            exact ⟨v1, v2, h1, by rw [HYES.out.2]; exact h2, h4⟩))
          go_wp2_with (first
            | (go_at_call 57; refine (HFX2.out _ (by_below HB2.out)).mono ?_; rintro e w4 ⟨v1, v2, rfl, ho1, hb4⟩; have HB4 := hide (by_to HB2.out hb4); have HO1 := hide (show own 3 w4 w.heap.size v1 _ from ho1.mono (by omega)); clear hb4 ho1))
          go_ret2
          exact ⟨_, rfl, HO1.out, by_below HB4.out⟩
    · have HNO := hide (rby_no2 (M := M) (A := A) (chB_long h60))
      rw [hc] at HG
      rw [HNO.out.1, HNO.out.2]
      have hgt : (60 : Int) < (ch.length : Int) := by omega
      clear hc
      go_enter Tryd.func35, Tryd.ntmps35
      go_wp2_with (first
        | (go_at_call 41; refine HG.out.mono ?_; rintro e w2 ⟨rfl, hb2⟩; have HB2 := hide (by_to HB0.out hb2); clear hb2)
        )
      go_ret2
      exact ⟨_, rfl, own_nil _ _ _, by_below HB2.out⟩
set_option maxHeartbeats 1000000 in
theorem implFirstRun_c (v u : Value) (M : List (List Int)) (A : List Int) (w : World) (hl : rows w.heap.size w v M) (hs : small2 M) (hu : ints w.heap.size w u A) (hlen : A.length < 1000000000) (hT : tab w) :
    Calls Tryd.prog 34 #[.agg #[v, u]] w fun e w' => ∃ v', e = .returned (.tuple #[v', .bool (rbyB M A [])]) ∧ own 3 w' w.heap.size v' (rbyL M A []) ∧ Below w.heap.size w w' := by
  have HB0 := hide (by_start 29 v u w)
  have c0 := by_cell0 HB0.out
  have c1 := by_cell1 HB0.out
  have HG := hide (implRunBy_c v u M A (.slice none 0 0) [] (w.alloc (.cells #[v, u] 29)) ((hl.alloc _).mono (by simp)) hs ((hu.alloc _).mono (by simp)) hlen (ints_nilY _ _) (by simp) (hT.alloc _))
  clear hl hu hT
  go_enter Tryd.func34, Tryd.ntmps34
  go_wp2_with (first
    | (go_at_call 36; refine HG.out.mono ?_; rintro e w2 ⟨v2, rfl, ho2, hb2⟩; have HB2 := hide (by_to HB0.out hb2); have HO2 := hide (show own 3 w2 w.heap.size v2 _ from ho2.mono (by simp)); clear hb2 ho2))
  go_ret2
  exact ⟨_, rfl, HO2.out, by_below HB2.out⟩
set_option maxHeartbeats 1000000 in
theorem specFirstRun_c (v u : Value) (M : List (List Int)) (A : List Int) (w : World) (hl : rows w.heap.size w v M) (hs : small2 M) (hu : ints w.heap.size w u A) (hlen : A.length < 1000000000) (_hT : tab w) :
    Calls Tryd.prog 33 #[.agg #[v, u]] w fun e w' => ∃ v', e = .returned (.tuple #[v', .bool (rbyB M A [])]) ∧ own 3 w' w.heap.size v' (rbyL M A []) ∧ Below w.heap.size w w' := by
  have HB0 := hide (by_start 29 v u w)
  have HG := hide (waGood_c v u M A (w.alloc (.cells #[v, u] 29)) ((hl.alloc _).mono (by simp)) hs ((hu.alloc _).mono (by simp)) hlen)
  have HU := hide hu
  have HL := hide hl
  clear hl hu
  cases hc : cpB M A
  · have HNO := hide (rby_no (M := M) (A := A) (ch := []) (by rw [hc]; rfl))
    rw [hc] at HG
    rw [HNO.out.1, HNO.out.2]
    clear hc
    go_enter Tryd.func33, Tryd.ntmps33
    go_wp2_with (first
      | (go_at_call 41; refine HG.out.mono ?_; rintro e w2 ⟨rfl, hb2⟩; have HB2 := hide (by_to HB0.out hb2); clear hb2)
      )
    go_ret2
    exact ⟨_, rfl, own_nil _ _ _, by_below HB2.out⟩
  · have hp := cpB_iff.1 hc
    have HYES := hide (rby_yes (M := M) (A := A) (ch := []) (by rw [hc, chB_nil 60 (by omega)]; rfl))
    have HFU := hide (fun w1 (h : Below w.heap.size w w1) => waFull_c v u (.slice none 0 0) M A [] w1 ((HL.out.below h (Nat.le_refl _)).mono h.size) hp ((HU.out.below h (Nat.le_refl _)).mono h.size) (ints_nilY _ _) (by simp) (fun k hk => by simp at hk))
    have HFQ := hide (show fuR M A [] = frF A.length (plL M A) [] 60 0 (atN A) from rfl)
    rw [← HFQ.out] at HFU
    rw [hc] at HG
    rw [HYES.out.1, HYES.out.2]
    clear hc hp HFQ
    generalize fuR M A [] = R at *
    go_enter Tryd.func33, Tryd.ntmps33
    go_wp2_with (first
      | (go_at_call 41; refine HG.out.mono ?_; rintro e w2 ⟨rfl, hb2⟩; have HB2 := hide (by_to HB0.out hb2); have c0 := by_cell0 HB2.out; have c1 := by_cell1 HB2.out; have hz2 := by_size HB2.out; clear hb2)
      | (go_at_call 57; refine (HFU.out _ (by_below HB2.out)).mono ?_; rintro e w4 ⟨v1, v2, rfl, ho1, ho2, hb4⟩; have HB4 := hide (by_to HB2.out hb4); have HO1 := hide (show own 3 w4 w.heap.size v1 _ from ho1.mono (by omega)); clear hb4 ho1 ho2))
    go_ret2
    exact ⟨_, rfl, HO1.out, by_below HB4.out⟩
set_option maxHeartbeats 1000000 in
theorem specNeverEnds_c (v u : Value) (M : List (List Int)) (A : List Int) (w : World) (hl : rows w.heap.size w v M) (hs : small2 M) (hu : ints w.heap.size w u A) (hlen : A.length < 1000000000) (_hT : tab w) :
    Calls Tryd.prog 37 #[.agg #[v, u]] w fun e w' => e = .returned (.tuple #[.bool (neB M A), .bool (cpB M A)]) ∧ Below w.heap.size w w' := by
  have HB0 := hide (by_start 29 v u w)
  have HG := hide (waGood_c v u M A (w.alloc (.cells #[v, u] 29)) ((hl.alloc _).mono (by simp)) hs ((hu.alloc _).mono (by simp)) hlen)
  have HU := hide hu
  have HL := hide hl
  clear hl hu
  cases hc : cpB M A
  · rw [hc] at HG
    rw [neB_no hc]
    clear hc
    go_enter Tryd.func37, Tryd.ntmps37
    go_wp2_with (first
      | (go_at_call 41; refine HG.out.mono ?_; rintro e w2 ⟨rfl, hb2⟩; have HB2 := hide (by_to HB0.out hb2); clear hb2)
      )
    go_ret2
    exact ⟨rfl, by_below HB2.out⟩
  · have hp := cpB_iff.1 hc
    have HFU := hide (fun w1 (h : Below w.heap.size w w1) => waFull_c v u (.slice none 0 0) M A [] w1 ((HL.out.below h (Nat.le_refl _)).mono h.size) hp ((HU.out.below h (Nat.le_refl _)).mono h.size) (ints_nilY _ _) (by simp) (fun k hk => by simp at hk))
    have HFQ := hide (show fuR M A [] = frF A.length (plL M A) [] 60 0 (atN A) from rfl)
    rw [← HFQ.out] at HFU
    rw [neB_yes hc]
    rw [hc] at HG
    clear hc hp HFQ
    generalize fuR M A [] = R at *
    go_enter Tryd.func37, Tryd.ntmps37
    go_wp2_with (first
      | (go_at_call 41; refine HG.out.mono ?_; rintro e w2 ⟨rfl, hb2⟩; have HB2 := hide (by_to HB0.out hb2); have c0 := by_cell0 HB2.out; have c1 := by_cell1 HB2.out; have hz2 := by_size HB2.out; clear hb2)
      | (go_at_call 57; refine (HFU.out _ (by_below HB2.out)).mono ?_; rintro e w4 ⟨v1, v2, rfl, ho1, ho2, hb4⟩; have HB4 := hide (by_to HB2.out hb4); clear hb4 ho1 ho2))
    go_ret2
    exact ⟨rfl, by_below HB4.out⟩
set_option maxHeartbeats 2000000 in
theorem implNeverEnds_c (v u : Value) (M : List (List Int)) (A : List Int) (w : World) (hl : rows w.heap.size w v M) (hs : small2 M) (hu : ints w.heap.size w u A) (hlen : A.length < 1000000000) (hT : tab w) :
    Calls Tryd.prog 38 #[.agg #[v, u]] w fun e w' => e = .returned (.tuple #[.bool (neB M A), .bool (cpB M A)]) ∧ Below w.heap.size w w' := by
  have HB0 := hide ((Below.refl w.heap.size w).alloc (Nat.le_refl _) (.cells #[v, u] 29))
  have HG := hide (pilesOf_c v u M A (w.alloc (.cells #[v, u] 29)) ((hl.alloc _).mono (by simp)) hs ((hu.alloc _).mono (by simp)) hlen)
  have HLN := hide (pl_ln M A)
  have HAT := hide (pl_at M A)
  have HT := hide hT
  clear hl hu hT
  have HNE := hide (show neB M A = (cpB M A && !(frF (plN M A) (plL M A) [] 60 0 (plA M A)).2.2) by
    cases hc : cpB M A
    · rw [neB_no hc]; rfl
    · rw [neB_yes hc, fuR_pl hc]; rfl)
  rw [HNE.out]
  generalize cpB M A = okc at *
  generalize plN M A = n at *
  generalize plL M A = L at *
  generalize plA M A = a at *
  have HFR := hide (fun w1 (h : Below w.heap.size w w1) => fullRun_c n L a none 0 [] w1 HLN.out HAT.out (ints_nilY _ _) (by simp) (fun k hk => by simp at hk) (HT.out.below h))
  generalize frF n L [] 60 0 a = R at *
  obtain ⟨R1, b, ok⟩ := R
  simp only at HFR ⊢
  have HFS0 := hide (fun (P Q : List Int) (x : Value) (hP : P.length = 31) (hQ : Q.length = 31) => show (Tryd.prog.info? 71).map (·.size) = some (frC P Q x).size by rw [frC_size hP hQ]; exact sizeFR)
  have HFG : Hid (∃ Fg : Value → Array Value, (∀ xa k c, (Fg (.slice xa k c)).size = 63 ∧ (Fg (.slice xa k c)).all (·.oneCell') = true) ∧ ∀ x, (if ok = true then frC (plR n L a) (plR n L b) x else frC (plR 0 zL zA) (plR 0 zL zA) (.slice none 0 0)) = Fg x) := hide (by
    refine ⟨_, fun xa k c => ?_, fun x => rfl⟩
    cases ok
    · exact ⟨by simp only [Bool.false_eq_true, if_false]; exact frC_size (plR_len _ _ _) (plR_len _ _ _) _, by simp only [Bool.false_eq_true, if_false]; exact frC_one _ _ _ _ _⟩
    · exact ⟨by simp only [if_true]; exact frC_size (plR_len _ _ _) (plR_len _ _ _) _, by simp only [if_true]; exact frC_one _ _ _ _ _⟩)
  obtain ⟨Fg, hF1, hF2⟩ := HFG.out
  simp only [hF2] at HFR
  clear hF2 HFG
  cases okc
  all_goals
    go_enter Tryd.func38, Tryd.ntmps38
    go_wp2_with (first
      | (go_at_call 44; refine HG.out.mono ?_; rintro e w2 ⟨rfl, hb2⟩; have hz2 := hb2.size; simp at hz2; have HB2 := hide (bl_row ((HB0.out.trans (hb2.mono (by simp))).alloc (by omega) (.cells (rowV (plR 0 zL zA)) 55)) (show w.heap.size ≤ w2.heap.size by omega) (rowV (plR n L a))); have HK2 := hide (pkAt.new w2 0 zL zA); have HK3 := hide ((pkAt.new w2 0 zL zA).row (m := n) (K := L) (b := a)); have HZ3 := hide (show ((w2.alloc (.cells (rowV (plR 0 zL zA)) 55)).setRow w2.heap.size (rowV (plR n L a))).heap.size = w2.heap.size + 1 by simp [World.setRow]); clear hb2)
      | (refine wpList_alloc_csY zeroPK rfl rfl _ rfl ?_)
      | (refine wpList_store_csY (sizePKl n L a) rfl (.tmp 4) (.tmp _) rfl w2.heap.size rfl rfl _ HK2.out (by simp [rowV, plR_len]) (rowV_one _) ?_)
      | (refine wpList_load_csY rowPK (sizePKl n L a) rfl (.tmp 4) rfl w2.heap.size rfl HK3.out ?_)
      | fail)
    refine (HFR.out _ HB2.out).mono ?_
    rintro e w4 ⟨xv, rfl, ho4, hb4⟩
    obtain ⟨xa, xc, hxv⟩ := ho4.shape
    subst hxv
    have hz4 := hb4.size
    rw [HZ3.out] at hz4
    have HB4 := hide (HB2.out.trans (hb4.mono (by rw [HZ3.out]; omega)))
    have HK5 := hide (hp_last w4 (.cells (frC (plR 0 zL zA) (plR 0 zL zA) (.slice none 0 0)) 71))
    obtain ⟨hg1, hg2⟩ := hF1 xa R1.length xc
    generalize Fg (.slice xa R1.length xc) = FC at *
    have HG1 := hide hg1
    have HG2 := hide hg2
    clear ho4 hb4 hg1 hg2
    go_wp2_with (first
      | (refine wpList_alloc_csY zeroFR rfl rfl _ rfl ?_)
      | (refine wpList_store_csY (cs := FC) (by rw [HG1.out]; exact sizeFR) rfl (.tmp 6) (.tmp _) rfl w4.heap.size rfl rfl _ HK5.out (by rw [HG1.out, frC_size (plR_len _ _ _) (plR_len _ _ _)]) HG2.out ?_; have HB5 := hide (bl_row (HB4.out.alloc (by omega) (.cells (frC (plR 0 zL zA) (plR 0 zL zA) (.slice none 0 0)) 71)) (show w.heap.size ≤ w4.heap.size by omega) FC)))
    go_ret2
    exact ⟨rfl, HB5.out⟩
end Go.Proofs.YtjmhmmenampgbaaDoor
