/- Contracts: runs and the worst of them with halving, the specification's. -/
import Derived.Test.YtppojaekngeelaaDoorHr
import Derived.Test.YtppojaekngeelaaDoorHj
import Derived.Test.YtppojaekngeelaaDoorHk
namespace Go.Proofs.YtppojaekngeelaaDoor
open Go.RowKit
set_option maxRecDepth 100000
set_option linter.unusedSimpArgs false
theorem leF_zero (F : Nat → Bool) : leF F 0 0 = F := by
  funext s
  unfold leF
  have : leB 0 0 s = true := by rw [leB_iff]; intro i; rw [Nat.zero_testBit]; simp
  rw [this, Bool.and_true]
theorem ptF_yes (F : Nat → Bool) (y z i : Nat) : ptF (leF F y z) i true = leF F (y ||| p2 i) z := by unfold ptF; rw [if_pos rfl, leF_leF, Nat.or_zero]
theorem ptF_no (F : Nat → Bool) (y z i : Nat) : ptF (leF F y z) i false = leF F y (z ||| p2 i) := by unfold ptF; rw [if_neg (by simp), leF_leF, Nat.or_zero]
theorem hf_bit {m : Nat} {F : Nat → Bool} (hm7 : m ≤ 7) (h : opN m F ≠ 0) : (opN m F).testBit (hfI m F) = true := (next_ex (opN_lt m hm7 F) h).1
attribute [local irreducible] p2 low memB risB famAt own
set_option maxHeartbeats 8000000 in
theorem asRunH_c (m : Nat) (v : Value) (l : List Int) (S : Nat) (u : Value) (w : World) (hl : ints w.heap.size w v l) (hlen : l.length < 1000000000) (hok : okSp (m : Int) l = true) (hS : S < 128) :
    Calls Tryd.prog 28 #[.agg #[.int .i64 (m : Int), v], u, .int .i64 (S : Int), .bool true] w fun e w' => ∃ v', e = .returned v' ∧ own 3 w' w.heap.size v' (rnL m (hfI m) S 128 (marksTo l l.length)) ∧ Below w.heap.size w w' := by
  have HLI := hide hl
  have H0 := hide ((Below.refl w.heap.size w).alloc (Nat.le_refl _) (.cells #[.int .i64 (m : Int), v] 28))
  have HS0 := hide (hp_last w (.cells #[.int .i64 (m : Int), v] 28))
  have HZ := hide (show (w.alloc (.cells #[.int .i64 (m : Int), v] 28)).heap.size = w.heap.size + 1 by simp)
  have hm := okSp_n hok
  have hm7 : m ≤ 7 := by omega
  have HOK := hide hok
  have HR := hide (sp_r128 hok)
  have HLO := hide (show ∀ x, marksTo l l.length x = true → x ≤ low m from fun x hx => by have := marks_low hok x hx; rwa [Int.toNat_natCast] at this)
  have HZR := hide (leF_zero (marksTo l l.length))
  have HASQ := hide (fun (y z : Nat) (hy : y < 128) (hz : z < 128) w1 (h : ints w1.heap.size w1 v l) => by have h2 := asLeft_c (m : Int) v l y z w1 h hlen HR.out hy hz; rw [lf_sets hok y z] at h2; exact h2)
  have HAHQ := hide (fun (y z : Nat) (hy : y < 128) (hz : z < 128) (hn : opN m (leF (marksTo l l.length) y z) ≠ 0) w1 (h : ints w1.heap.size w1 v l) => by have h2 := asHalf_c m v l y z w1 h hlen hok hy hz hn; exact h2)
  clear hl hok
  generalize marksTo l l.length = F0 at *
  go_enter Tryd.func28, Tryd.ntmps28
  go_wp2_with fail
  generalize (w.alloc (.cells #[.int .i64 (m : Int), v] 28)) = W0 at *
  go_loopw [9, 10, 11] (fun o a b wr => ∃ (A : List Int) (y z g : Nat), y < 128 ∧ z < 128 ∧ a = .int .i64 (y : Int) ∧ b = .int .i64 (z : Int) ∧ Hid (A ++ rnL m (hfI m) S g (leF F0 y z) = rnL m (hfI m) S 128 F0) ∧ A.length + g ≤ 128 ∧ Hid (cntS (leF F0 y z) ≤ g) ∧ Hid (own 3 wr (w.heap.size + 1) o A) ∧ Hid (w.heap.size + 1 ≤ wr.heap.size) ∧ Hid (wr.heap[w.heap.size]? = some (.cells #[.int .i64 (m : Int), v] 28)) ∧ Hid (Below w.heap.size w wr)) (fun o _ _ _ => 128 - lenV o)
  case atStart => exact ⟨[], 0, 0, 128, by omega, by omega, rfl, rfl, by rw [HZR.out]; rfl, by simp, cntS_le _, own_nil _ _ _, by rw [HZ.out]; exact Nat.le_refl _, HS0, H0⟩
  case round =>
    obtain ⟨A, y, z, g, hy, hz, rfl, rfl, HRN, hAg, HC, HO, HSZ, HSW, HB⟩ := hrel
    have hsz := HB.out.size
    have hs1 := HSZ.out
    have HLW := hide (HLI.out.below HB.out (Nat.le_refl _))
    have c0 := cells_at0 HSW.out
    have c1 := cells_at1 HSW.out
    have hLV := hide HO.out.lenV
    have HFL := hide (show ∀ x, leF F0 y z x = true → x ≤ low m from fun x hx => HLO.out x (leF_in hx))
    have HAS := hide (HASQ.out y z hy hz)
    have hcn : cntS (leF F0 y z) = (setsTo (leF F0 y z) 128).length := rfl
    have hze := opN_zero hm7 HFL.out
    rw [hcn] at hze
    by_cases h0 : opN m (leF F0 y z) = 0
    · have hle := hze.1 h0
      have HE := hide (show A = rnL m (hfI m) S 128 F0 by have := HRN.out; rw [rnL_end h0, List.append_nil] at this; exact this)
      have hle2 : ¬ ((1 : Int) < ((setsTo (leF F0 y z) 128).length : Int)) := by omega
      clear h0 hze hcn HAS
      have HAS := hide (HASQ.out y z hy hz)
      generalize setsTo (leF F0 y z) 128 = L at *
      go_wp2_with (first
        | (go_at_call 44; refine (HAS.out _ (HLW.out.mono hsz)).mono ?_; rintro e w2 ⟨v2, rfl, ho2, hb2⟩; have hz2 := hb2.size; have HI2 := hide ho2.ints; have HO2 := hide (HO.out.kept hb2); have HS2 := hide ((hb2.block w.heap.size (by omega)).trans HSW.out); have d0 := cells_at0 HS2.out; have d1 := cells_at1 HS2.out; have HL2 := hide ((HLW.out.below hb2 hsz).mono (show w.heap.size ≤ w2.heap.size by omega)); have HB2 := hide (HB.out.trans (hb2.mono hsz)); clear ho2 hb2 c0 c1)
        | (refine wpList_len sliceT rfl (.tmp _) rfl _ rfl w2.heap.size L HI2.out ?_)
        )
      go_ret
      exact ⟨_, rfl, by rw [← HE.out]; exact HO2.out.mono (by omega), HB2.out⟩
    · have hgt : (1 : Int) < ((setsTo (leF F0 y z) 128).length : Int) := by
        rcases Nat.lt_or_ge 1 (setsTo (leF F0 y z) 128).length with h | h
        · omega
        · exact absurd (hze.2 h) h0
      have HAH := hide (HAHQ.out y z hy hz h0)
      have hb := hf_bit hm7 h0
      have hi7 := open_lt7 hb hm7
      have hp8 := p2_lt128 _ hi7
      obtain ⟨g', rfl, hgo⟩ := rnL_go (q := hfI m) (s := S) h0 HFL.out hm7 HC.out
      have HR2 := hide (show (A ++ [(hfI m (leF F0 y z) : Int)]) ++ rnL m (hfI m) S g' (ptF (leF F0 y z) (hfI m (leF F0 y z)) (S.testBit (hfI m (leF F0 y z)))) = rnL m (hfI m) S 128 F0 by have := HRN.out; rw [hgo] at this; rw [← this]; simp)
      have HC2 := hide (show cntS (ptF (leF F0 y z) (hfI m (leF F0 y z)) (S.testBit (hfI m (leF F0 y z)))) ≤ g' by have h1 := part_less hb (S.testBit (hfI m (leF F0 y z))); have := HC.out; omega)
      have HQ := hide (show mnI (difN (leF F0 y z)) (opN m (leF F0 y z)) = hfI m (leF F0 y z) from rfl)
      rw [HQ.out] at HAH
      have HYS := hide (ptF_yes F0 y z (hfI m (leF F0 y z)))
      have HNS := hide (ptF_no F0 y z (hfI m (leF F0 y z)))
      clear h0 hze hcn hgo hb HQ
      generalize setsTo (leF F0 y z) 128 = L at *
      generalize hfI m (leF F0 y z) = i at *
      have HSB := hide (fun w1 => by have h := spIn_c (S : Int) (i : Int) w1 (by omega) (by omega) (by omega) (by omega); rw [Int.toNat_natCast, Int.toNat_natCast] at h; exact h)
      have ho1 := i64_or y (p2 i) (Nat.lt_trans hy (by decide)) (Nat.lt_trans hp8 (by decide))
      have ho2 := i64_or z (p2 i) (Nat.lt_trans hz (by decide)) (Nat.lt_trans hp8 (by decide))
      have hyy : y ||| p2 i < 128 := or_lt128 _ _ hy hp8
      have hzz : z ||| p2 i < 128 := or_lt128 _ _ hz hp8
      have hq1 := wrap_p2 i (by omega)
      have hq2 : IntKind.i64.wrap (2 ^ i) = (p2 i : Int) := by rw [IntWalk.i64_left]; exact hq1
      cases hbt : S.testBit i
      · rw [hbt, HNS.out] at HR2 HC2
        rw [hbt] at HSB
        clear hbt hyy ho1
        generalize p2 i = P at *
        generalize (z ||| P) = z1 at *
        go_wp2_with (first
          | (go_at_call 44; refine (HAS.out _ (HLW.out.mono hsz)).mono ?_; rintro e w2 ⟨v2, rfl, ho2, hb2⟩; have hz2 := hb2.size; have HI2 := hide ho2.ints; have HO2 := hide (HO.out.kept hb2); have HS2 := hide ((hb2.block w.heap.size (by omega)).trans HSW.out); have d0 := cells_at0 HS2.out; have d1 := cells_at1 HS2.out; have HL2 := hide ((HLW.out.below hb2 hsz).mono (show w.heap.size ≤ w2.heap.size by omega)); have HB2 := hide (HB.out.trans (hb2.mono hsz)); clear ho2 hb2 c0 c1)
          | (refine wpList_len sliceT rfl (.tmp _) rfl _ rfl w2.heap.size L HI2.out ?_)
          | (go_at_call 45; refine (HAH.out _ (HL2.out.mono (by omega))).mono ?_; rintro e w3 ⟨rfl, hb3⟩; have hz3 := hb3.size; have HO3 := hide (HO2.out.kept hb3); have HS3 := hide ((hb3.block w.heap.size (by omega)).trans HS2.out); have HB3 := hide (HB2.out.trans (hb3.mono (by omega))); clear hb3 d0 d1)
          | (at_builtin; refine wpList_append1 sliceT intI rfl _ _ rfl (w.heap.size + 1) _ _ rfl (HO3.out.alloc _) _ (i : Int) rfl (by simp [go_sem]) (by simp; omega) (by omega) ?_; intro v4 w4 ho4 hb4; have hb5 := ((Below.refl (w.heap.size + 1) w3).alloc (by omega) _).trans hb4; have hz4 := hb5.size; have HO4 := hide ho4; have HS4 := hide ((hb5.block w.heap.size (by omega)).trans HS3.out); have HB4 := hide (HB3.out.trans (hb5.mono (by omega))); clear ho4 hb4 hb5)
          | (go_at_call 47; refine (HSB.out _).mono ?_; rintro e w' ⟨rfl, rfl⟩)
          )
        go_roundw
        case rel => exact ⟨A ++ [(i : Int)], y, z1, g', hy, hzz, rfl, rfl, HR2, by simp; omega, HC2, HO4, hide (by omega), HS4, HB4⟩
        case measure =>
          have h1 := HO4.out.lenV
          have h2 := hLV.out
          simp at h1
          omega
      · rw [hbt, HYS.out] at HR2 HC2
        rw [hbt] at HSB
        clear hbt hzz ho2
        generalize p2 i = P at *
        generalize (y ||| P) = y1 at *
        go_wp2_with (first
          | (go_at_call 44; refine (HAS.out _ (HLW.out.mono hsz)).mono ?_; rintro e w2 ⟨v2, rfl, ho2, hb2⟩; have hz2 := hb2.size; have HI2 := hide ho2.ints; have HO2 := hide (HO.out.kept hb2); have HS2 := hide ((hb2.block w.heap.size (by omega)).trans HSW.out); have d0 := cells_at0 HS2.out; have d1 := cells_at1 HS2.out; have HL2 := hide ((HLW.out.below hb2 hsz).mono (show w.heap.size ≤ w2.heap.size by omega)); have HB2 := hide (HB.out.trans (hb2.mono hsz)); clear ho2 hb2 c0 c1)
          | (refine wpList_len sliceT rfl (.tmp _) rfl _ rfl w2.heap.size L HI2.out ?_)
          | (go_at_call 45; refine (HAH.out _ (HL2.out.mono (by omega))).mono ?_; rintro e w3 ⟨rfl, hb3⟩; have hz3 := hb3.size; have HO3 := hide (HO2.out.kept hb3); have HS3 := hide ((hb3.block w.heap.size (by omega)).trans HS2.out); have HB3 := hide (HB2.out.trans (hb3.mono (by omega))); clear hb3 d0 d1)
          | (at_builtin; refine wpList_append1 sliceT intI rfl _ _ rfl (w.heap.size + 1) _ _ rfl (HO3.out.alloc _) _ (i : Int) rfl (by simp [go_sem]) (by simp; omega) (by omega) ?_; intro v4 w4 ho4 hb4; have hb5 := ((Below.refl (w.heap.size + 1) w3).alloc (by omega) _).trans hb4; have hz4 := hb5.size; have HO4 := hide ho4; have HS4 := hide ((hb5.block w.heap.size (by omega)).trans HS3.out); have HB4 := hide (HB3.out.trans (hb5.mono (by omega))); clear ho4 hb4 hb5)
          | (go_at_call 47; refine (HSB.out _).mono ?_; rintro e w' ⟨rfl, rfl⟩)
          )
        go_roundw
        case rel => exact ⟨A ++ [(i : Int)], y1, z, g', hyy, hz, rfl, rfl, HR2, by simp; omega, HC2, HO4, hide (by omega), HS4, HB4⟩
        case measure =>
          have h1 := HO4.out.lenV
          have h2 := hLV.out
          simp at h1
          omega
end Go.Proofs.YtppojaekngeelaaDoor
