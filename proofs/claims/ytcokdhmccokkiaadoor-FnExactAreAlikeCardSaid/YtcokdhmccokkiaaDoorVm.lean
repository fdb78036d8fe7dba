/- Words by their rank: mathematics; the program's. -/
import Derived.Test.YtcokdhmccokkiaaDoorRw
namespace Go.Proofs.YtcokdhmccokkiaaDoor
open Go.RowKit
set_option maxRecDepth 100000
theorem pc_orW : ∀ s, s < 128 → ∀ i, i < 7 → s.testBit i = false → pc (s ||| p2 i) = pc s + 1 := by decide +kernel
theorem pc_low7 : ∀ n, n < 8 → pc (low n) = n := by decide +kernel
theorem items_take : ∀ y, y < 128 → ∀ j, j < 7 → j < (itemsN y).length → (itemsN y).take j = itemsN (y &&& low ((itemsN y)[j]?.getD 0)) := by decide +kernel
attribute [local irreducible] p2 low memB risB
/-- The item that the word of rank r goes on with. -/
def pk (F : Nat → Bool) (n s r : Nat) : Nat := ((List.range 7).find? fun i => decide (r < sumN F (cnt F n) s (i + 1))).getD 0
theorem pk_eq {F : Nat → Bool} {n s r x : Nat} (hx : x < 7) (h1 : sumN F (cnt F n) s x ≤ r) (h2 : r < sumN F (cnt F n) s (x + 1)) : pk F n s r = x := by
  have hf : (List.range 7).find? (fun i => decide (r < sumN F (cnt F n) s (i + 1))) = some x := by
    rw [List.find?_range_eq_some]
    refine ⟨by simpa using h2, by simpa using hx, fun j hj => ?_⟩
    have := sumN_mono (F := F) (A := cnt F n) (s := s) (j + 1) x (by omega)
    simp
    omega
  rw [pk, hf]; rfl
def wwL (F : Nat → Bool) (n : Nat) : Nat → Nat → Nat → List Int
  | 0, _, _ => []
  | k + 1, s, r => ((pk F n s r : Nat) : Int) :: wwL F n k (s ||| p2 (pk F n s r)) (r - sumN F (cnt F n) s (pk F n s r))
theorem wwL_len (F : Nat → Bool) (n : Nat) : ∀ k s r, (wwL F n k s r).length = k
  | 0, _, _ => rfl
  | k + 1, s, r => by simp [wwL, wwL_len F n k]
/-- What holds of a beginning: its set, how many items it has, the rank that is left. -/
structure WwOk (F : Nat → Bool) (n k s r : Nat) : Prop where
  mark : F s = true
  cnt : pc s = k
  lt : r < Go.Proofs.YtcokdhmccokkiaaDoor.cnt F n s
theorem ww_sum {F : Nat → Bool} {n k s r : Nat} (h : WwOk F n k s r) (h7 : n ≤ 7) (hs : s < 128) (hk : k < n) : r < sumN F (cnt F n) s n := by
  have h1 := h.lt
  rw [cnt_eq F n h7 s hs, if_neg (by rintro rfl; have := pc_low7 n (by omega); have := h.cnt; omega), if_pos h.mark] at h1
  exact h1
theorem ww_step {F : Nat → Bool} {n k s r x : Nat} (h : WwOk F n k s r) (hs : s < 128) (hx : x < 7) (hb : s.testBit x = false) (hf : F (p2s s x) = true) (h1 : sumN F (cnt F n) s x ≤ r) (h2 : r - sumN F (cnt F n) s x < cnt F n (p2s s x)) :
    WwOk F n (k + 1) (s ||| p2 x) (r - sumN F (cnt F n) s x) ∧ ∀ q, wwL F n (q + 1) s r = (x : Int) :: wwL F n q (s ||| p2 x) (r - sumN F (cnt F n) s x) := by
  have hsum : sumN F (cnt F n) s (x + 1) = sumN F (cnt F n) s x + cnt F n (p2s s x) := by
    rw [sumN, hb, hf]; simp
  have hp : pk F n s r = x := pk_eq hx h1 (by omega)
  refine ⟨⟨hf, ?_, h2⟩, fun q => by rw [wwL, hp]⟩
  rw [pc_orW s hs x hx hb, h.cnt]
theorem isum_at (F : Nat → Bool) (A : Nat → Nat) (n s j x : Nat) (h7 : n ≤ 7) (hj : j < (itemsL (outerOf F n s)).length) (hx : (itemsL (outerOf F n s))[j]?.getD 0 = (x : Int)) (hxn : x ≤ n) :
    isum (fun i => A (p2s s i)) (itemsL (outerOf F n s)) j = sumN F A s x := by
  rw [← isum_below F A n s x h7 hxn]
  have hy := outer_lt F n s h7
  have hl := itemsL_len _ hy
  unfold isum
  rw [List.take_length]
  unfold itemsL at hj hx hl ⊢
  rw [List.length_map] at hj hl
  have e1 : ∀ L : List Nat, (L.map fun i : Nat => (i : Int)).map Int.toNat = L := fun L => by
    rw [List.map_map]
    conv => rhs; rw [← List.map_id L]
    exact List.map_congr_left fun x _ => by simp
  rw [← List.map_take, e1, e1]
  have hx2 : (itemsN (outerOf F n s))[j]?.getD 0 = x := by
    rw [List.getElem?_map, List.getElem?_eq_getElem hj] at hx
    rw [List.getElem?_eq_getElem hj]
    simp at hx ⊢
    omega
  rw [items_take _ hy j (by omega) hj, hx2]

set_option maxHeartbeats 4000000 in
theorem wordWith_c (n : Nat) (F : Nat → Bool) (r0 : Nat) (w : World) (h1 : 1 ≤ n) (h7 : n ≤ 7) (hsp : Spc F n) (hr0 : r0 < cnt F n 0) (hT : tab w) :
    Calls Tryd.prog 81 #[.agg (fam (n : Int) F), .agg (rowV (cRow (cnt F n))), .int .i64 (r0 : Int)] w fun e w' => ∃ v', e = .returned v' ∧ own 3 w' w.heap.size v' (wwL F n n 0 r0) ∧ Below w.heap.size w w' := by
  have hp := p2_le n 7 h7
  have HLT := hide (fun x (hx : F x = true) => show x < 128 by have := hsp.lt x hx; omega)
  have HZERO := hide hsp.zero
  have HR0 := hide hr0
  have HCL := hide (fun s => cnt_le F n h7 s)
  have HT := hide hT
  have hf0 : famAt 53 ((w.alloc (.cells (fam (n : Int) F) 53)).alloc (.cells (rowV (cRow (cnt F n))) 91)) w.heap.size (n : Int) F := (famAt.new _ _ _ _).alloc _
  have hc0 : blk 91 ((w.alloc (.cells (fam (n : Int) F) 53)).alloc (.cells (rowV (cRow (cnt F n))) 91)) (w.heap.size + 1) (cRow (cnt F n)) := by
    have := blk.new 91 (w.alloc (.cells (fam (n : Int) F) 53)) (cRow (cnt F n))
    simpa using this
  have H0 := hide (((Below.refl w.heap.size w).alloc (Nat.le_refl _) (.cells (fam (n : Int) F) 53)).alloc (by simp) (.cells (rowV (cRow (cnt F n))) 91))
  have HZ := hide (show ((w.alloc (.cells (fam (n : Int) F) 53)).alloc (.cells (rowV (cRow (cnt F n))) 91)).heap.size = w.heap.size + 2 by simp)
  have c0 := hf0.get0
  have HF0 := hide hf0
  have HC0 := hide hc0
  clear hsp hr0 hT hp hf0 hc0
  go_enter Tryd.func81, Tryd.ntmps81
  go_wp2_with fail
  generalize ((w.alloc (.cells (fam (n : Int) F) 53)).alloc (.cells (rowV (cRow (cnt F n))) 91)) = W at HF0 HC0 H0 HZ c0 ⊢
  have hzW := HZ.out
  clear c0 HZ
  go_loopw [7, 8, 2, 14] (fun ov sv rv kv wr => ∃ k s r : Nat, k ≤ n ∧ kv = .int .i64 k ∧ sv = .int .i64 (s : Int) ∧ rv = .int .i64 (r : Int) ∧ Hid (WwOk F n k s r) ∧ Hid (∃ L, own 3 wr (w.heap.size + 2) ov L ∧ L ++ wwL F n (n - k) s r = wwL F n n 0 r0) ∧ Hid (Below (w.heap.size + 2) W wr)) (fun _ _ _ kv _ => n - (intOf kv).toNat)
  case atStart => exact ⟨0, 0, r0, Nat.zero_le _, rfl, rfl, rfl, ⟨HZERO.out, by decide, HR0.out⟩, ⟨[], own_nil _ _ _, by simp⟩, Below.refl _ _⟩
  case round =>
    obtain ⟨k, s, r, hk, rfl, rfl, rfl, HWO, HO, HB⟩ := hrel
    obtain ⟨L, ho, hl⟩ := HO.out
    have HOL := hide ho
    have HLL := hide hl
    have hs128 : s < 128 := HLT.out s HWO.out.mark
    have hszr := HB.out.size
    have hlL : L.length ≤ 7 := by
      have h1 := congrArg List.length hl
      rw [List.length_append, wwL_len, wwL_len] at h1
      omega
    clear ho hl HO
    by_cases hkn : k < n
    · have HF := hide (HF0.out.below HB.out (by omega))
      have HTR := hide ((HT.out.belowB HT.out H0.out (Nat.le_refl _)).belowB HT.out HB.out (by omega))
      have HRS := hide (ww_sum HWO.out h7 hs128 hkn)
      have hrc := HCL.out s
      have hrl := HWO.out.lt
      have hy := outer_lt F n s h7
      have HIA := hide (isum_below F (cnt F n) n s n h7 (Nat.le_refl _))
      have HAT := hide (fun j x => isum_at F (cnt F n) n s j x h7)
      have HOB := hide (fun i => outer_bit F n s i)
      have hyl : outerOf F n s &&& low n = outerOf F n s := by
        apply Nat.eq_of_testBit_eq
        intro b
        rw [Nat.testBit_and, outer_bit, low_bit]
        cases decide (b < n) <;> simp
      rw [hyl] at HIA
      clear hyl
      generalize hyy : outerOf F n s = y at hy HIA HAT HOB
      have HY := hide hyy
      clear hyy
      have HIL := hide (itemsL_at y)
      have hlen := itemsL_len _ hy
      have HIT := hide (fun j h => isum_step (fun i => cnt F n (p2s s i)) (itemsL y) j h)
      generalize hLL : itemsL y = I at HIA HIL hlen HIT HAT
      have HI := hide hLL
      clear hLL
      go_wp2_with (first
        | (refine wpList_load_fam rowT sizeT rfl (.tmp _) rfl _ rfl (n : Int) F HF.out ?_)
        | (go_at_call 71; refine (outerFringe_c (n : Int) F (s : Int) wr (by omega) (by omega) (by omega) (by omega)).mono ?_; rw [Int.toNat_natCast, Int.toNat_natCast, HY.out]; rintro e w3 ⟨rfl, hb3⟩; have hz3 := hb3.size; have HT3 := hide (HTR.out.belowB HTR.out hb3 (Nat.le_refl _)); have HB3 := hide (HB.out.trans (hb3.mono (by omega))); have HOL3 := hide (HOL.out.kept hb3); clear hb3)
        | (go_at_call 72; refine (items_c y _ hy HT3.out).mono ?_; rw [HI.out]; rintro e w4 ⟨v4, rfl, ho4, hb4⟩; have hz4 := hb4.size; have HO4 := hide ho4; have HB4 := hide (HB3.out.trans (hb4.mono (by omega))); have HOL4 := hide (HOL3.out.kept hb4); clear ho4 hb4)
        | (refine wpList_len sliceT rfl (.tmp _) rfl v4 rfl _ I HO4.out.ints ?_))
      go_loopw [7, 8, 2, 21] (fun ov sv rv jv wi => ∃ j : Nat, j ≤ I.length ∧ jv = .int .i64 j ∧ sv = .int .i64 (s : Int) ∧ rv = .int .i64 ((r - isum (fun i => cnt F n (p2s s i)) I j : Nat) : Int) ∧ isum (fun i => cnt F n (p2s s i)) I j ≤ r ∧ Hid (own 3 wi (w.heap.size + 2) ov L) ∧ Hid (∃ B, own 3 wi B v4 I) ∧ Hid (Below (w.heap.size + 2) W wi)) (fun _ _ _ jv _ => I.length - (intOf jv).toNat)
      case atStart => exact ⟨0, Nat.zero_le _, rfl, rfl, by rw [isum_zero]; rfl, by rw [isum_zero]; omega, HOL4, ⟨_, HO4.out⟩, HB4⟩
      case round =>
        clear HB HB3 HB4 HO4 HOL HOL3 HOL4 HF HTR HT3
        obtain ⟨j, hj, rfl, rfl, rfl, hle, HOL, HO, HB⟩ := hrel
        have hszi := HB.out.size
        by_cases hjl : j < I.length
        · obtain ⟨B, hob⟩ := HO.out
          have HOI := hide hob.ints
          obtain ⟨x, hx, hx7, hyb⟩ := HIL.out j hjl
          have hbits := (HOB.out x).symm.trans hyb
          simp only [Bool.and_eq_true, decide_eq_true_eq, Bool.not_eq_true'] at hbits
          have hsx := HAT.out j x hjl hx (by omega)
          have HXI := hide hx
          have hps := p2s_lt s x hs128 hx7
          have HC := HC0.out.below HB.out (by omega)
          have hg2 := HC.cell (p2s s x) (by rw [cRow_len]; exact hps)
          rw [cRow_get _ _ hps] at hg2
          have HST := hide (show isum (fun i => cnt F n (p2s s i)) I (j + 1) = isum (fun i => cnt F n (p2s s i)) I j + cnt F n (p2s s x) by rw [HIT.out j hjl, hx, Int.toNat_natCast])
          have HWS := hide (fun h1 h2 => ww_step HWO.out hs128 hx7 hbits.2.1 hbits.2.2 h1 h2)
          have hc := HCL.out (p2s s x)
          have hwith := with_c (s : Int) (x : Int)
          rw [Int.toNat_natCast, Int.toNat_natCast, show s ||| p2 x = p2s s x from rfl] at hwith
          have HW := hide hwith
          clear hx hyb hwith hob HC hbits
          rw [← hsx] at HWS
          rw [show s ||| p2 x = p2s s x from rfl] at HWS
          generalize p2s s x = q at hps HST hg2 HW HWS hc
          generalize cnt F n q = c at HST hg2 HWS hc
          generalize isum (fun i => cnt F n (p2s s i)) I j = p at HST hle HWS ⊢
          generalize hrp : r - p = rp at HWS ⊢
          by_cases hlt : rp < c
          · obtain ⟨g1, g2⟩ := HWS.out hle hlt
            have G1 := hide g1
            have G2 := hide (g2 (n - (k + 1)))
            have hlti : ((rp : Int) < (c : Int)) := by omega
            have hnk : n - k = n - (k + 1) + 1 := by omega
            have HNK := hide hnk
            clear g1 g2 hrp hnk
            go_wp2_with (first
              | (refine wpList_at sliceT intS rfl (.tmp _) (.tmp _) rfl v4 rfl j rfl _ I HOI.out hjl ?_; intro ad hcell hblk; rw [HXI.out] at hcell)
              | (go_at_call 73; refine (HW.out _ (by omega) (by omega) (by omega) (by omega)).mono ?_; rintro e w5 ⟨rfl, rfl⟩)
              | (at_builtin; refine wpList_append1 sliceT intI rfl (.tmp 33) (.tmp 35) rfl (w.heap.size + 2) _ _ rfl (HOL.out.alloc _) _ (x : Int) rfl (by simp [go_sem]) (by simp; omega) (by omega) ?_; intro v7 w7 ho7 hb7; have HO7 := hide ho7; have HB7 := hide ((HB.out.alloc (by omega) _).trans hb7); clear ho7 hb7))
            go_roundw
            case rel => exact ⟨k + 1, q, rp, by omega, by go_num, rfl, rfl, G1, ⟨L ++ [(x : Int)], HO7.out, by rw [← HLL.out, HNK.out, G2.out, List.append_assoc]; rfl⟩, HB7⟩
            case measure => simp [intOf]; omega
          · have hlti : ¬ ((rp : Int) < (c : Int)) := by omega
            have hsub : IntKind.i64.wrap ((rp : Int) - (c : Int)) = ((rp - c : Nat) : Int) := by rw [IntWalk.i64_in _ (by omega)]; omega
            have HRP := hide (show rp - c = r - isum (fun i => cnt F n (p2s s i)) I (j + 1) by rw [HST.out]; omega)
            have HLE := hide (show isum (fun i => cnt F n (p2s s i)) I (j + 1) ≤ r by rw [HST.out]; omega)
            have hcast : ((rp - c : Nat) : Int) = (rp : Int) - (c : Int) := by omega
            have HCAST := hide hcast
            clear hrp hcast
            go_wp2_with (first
              | (refine wpList_at sliceT intS rfl (.tmp _) (.tmp _) rfl v4 rfl j rfl _ I HOI.out hjl ?_; intro ad hcell hblk; rw [HXI.out] at hcell)
              | (go_at_call 73; refine (HW.out _ (by omega) (by omega) (by omega) (by omega)).mono ?_; rintro e w5 ⟨rfl, rfl⟩))
            go_roundw
            case rel => exact ⟨j + 1, by omega, by go_num, rfl, by rw [← HRP.out], HLE.out, HOL, HO, HB⟩
            case measure => simp [intOf]; omega
        · exfalso
          have hjj : j = I.length := by omega
          have h := HRS.out
          rw [hjj, HIA.out] at hle
          omega
    · have hkn' : ¬ ((k : Int) < (n : Int)) := by omega
      have hl := HLL.out
      rw [show n - k = 0 by omega] at hl
      have HL2 := hide (show L = wwL F n n 0 r0 by rw [← hl]; simp [wwL])
      clear hl
      go_wp2
      go_ret
      exact ⟨_, rfl, by rw [← HL2.out]; exact HOL.out.mono (by omega), H0.out.trans (HB.out.mono (by omega))⟩
end Go.Proofs.YtcokdhmccokkiaaDoor
