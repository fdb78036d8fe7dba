/- Mathematics and contract: what is learnt if always an item that costs at most a limit is. -/
import Derived.Test.YtdalbjpjnfjgfaaDoorKv
import Derived.Test.YtdalbjpjnfjgfaaDoorKy
import Derived.Test.YtdalbjpjnfjgfaaDoorCnt
namespace Go.Proofs.YtdalbjpjnfjgfaaDoor
open Go.RowKit
set_option maxRecDepth 100000
set_option linter.unusedSimpArgs false
def pk (ch : List Int) (k O : Nat) : Nat := ((itemsL O)[pkI ch k (itemsL O).length]?.getD 0).toNat
/-- The set at which a run ends. -/
def kbF (F : Nat → Bool) (al : Nat → Nat → Bool) (n : Nat) (ch : List Int) : Nat → Nat → Nat → Nat
  | 0, _, s => s
  | f + 1, k, s => if nxA F al n s = 0 then s else kbF F al n ch f (k + 1) (s ||| p2 (pk ch k (nxA F al n s)))
theorem kbF_end {F : Nat → Bool} {al : Nat → Nat → Bool} {n : Nat} {ch : List Int} {f k s : Nat} (h : nxA F al n s = 0) : kbF F al n ch f k s = s := by
  cases f
  · rfl
  · rw [kbF, if_pos h]
theorem kbF_next {F : Nat → Bool} {al : Nat → Nat → Bool} {n : Nat} {ch : List Int} {f k s : Nat} (h : nxA F al n s ≠ 0) : kbF F al n ch (f + 1) k s = kbF F al n ch f (k + 1) (s ||| p2 (pk ch k (nxA F al n s))) := by
  rw [kbF, if_neg h]
theorem itemsL_pos : ∀ y, y < 128 → y ≠ 0 → 0 < (itemsL y).length := by decide +kernel
theorem itemsL_nil : itemsL 0 = [] := by decide +kernel
theorem pc_zero0 : pc 0 = 0 := by decide +kernel
theorem pk_in {F : Nat → Bool} {al : Nat → Nat → Bool} {n s : Nat} (h7 : n ≤ 7) (ch : List Int) (k : Nat) (h0 : nxA F al n s ≠ 0) :
    ∃ i : Nat, (itemsL (nxA F al n s))[pkI ch k (itemsL (nxA F al n s)).length]?.getD 0 = (i : Int) ∧ pk ch k (nxA F al n s) = i ∧ i < n ∧ i < 7 ∧ s.testBit i = false := by
  obtain ⟨i, h1, h2, h3⟩ := itemsL_at (nxA F al n s) _ (pkI_lt (ch := ch) (k := k) (itemsL_pos _ (nxA_lt F al n s h7) h0))
  rw [nxA_bit] at h3
  simp only [Bool.and_eq_true, decide_eq_true_eq, Bool.not_eq_true'] at h3
  refine ⟨i, h1, ?_, h3.1, h2, h3.2.1.1⟩
  unfold pk
  rw [h1, Int.toNat_natCast]
attribute [local irreducible] p2 low memB risB itemsL
set_option maxHeartbeats 4000000 in
theorem keptBelow_c (kf : Nat) (caps : Array Value) (c : Nat → Nat → Int) (n : Nat) (F : Nat → Bool) (lim : Int) (u : Value) (ch : List Int) (w : World) (h7 : n ≤ 7) (hk : enters Tryd.prog kf) (hc : isCost w kf caps n c) (hch : ints w.heap.size w u ch) (_hcl : ch.length < 1000000000) (hpos : ∀ k, k < ch.length → 0 ≤ ch[k]?.getD 0) (hT : tab w) :
    Calls Tryd.prog 74 #[.agg (fam (n : Int) F), .func (.func kf) #[] caps, .int .i64 lim, u] w fun e w' => e = .returned (.int .i64 (kbF F (alC c lim) n ch 8 0 0 : Int)) ∧ Below w.heap.size w w' := by
  obtain ⟨ua, uc, hu⟩ := hch.shape
  subst hu
  have HF0 := hide (famAt.new 97 w (n : Int) F)
  have HB0 := hide ((Below.refl w.heap.size w).alloc (Nat.le_refl _) (.cells (fam (n : Int) F) 97))
  have HZ0 := hide (show (w.alloc (.cells (fam (n : Int) F) 97)).heap.size = w.heap.size + 1 by simp)
  have HCH := hide hch
  have HC := hide hc
  have HT := hide hT
  have HPOS := hide hpos
  have HP0 := hide pc_zero0
  obtain ⟨R, hR⟩ : ∃ R, R = kbF F (alC c lim) n ch 8 0 0 := ⟨_, rfl⟩
  rw [← hR]
  have HR := hide hR
  clear hR
  clear hch hc hT hpos
  go_enter Tryd.func74, Tryd.ntmps74
  go_wp2_with fail
  go_loopw [9, 10] (fun sv st wr => ∃ k s : Nat, k ≤ 7 ∧ pc s = k ∧ s < 128 ∧ sv = .int .i64 (s : Int) ∧ st = .int .i64 (k : Int) ∧ Hid (R = kbF F (alC c lim) n ch (8 - k) k s) ∧ Hid (famAt 97 wr w.heap.size (n : Int) F) ∧ Hid (Below w.heap.size w wr) ∧ w.heap.size + 1 ≤ wr.heap.size) (fun _ st _ => 8 - (intOf st).toNat)
  case atStart => exact ⟨0, 0, by omega, HP0.out, by omega, rfl, rfl, HR, HF0, HB0, by rw [HZ0.out]; omega⟩
  case round =>
    obtain ⟨k, s, hk7, hpc, hs128, rfl, rfl, HV, HF, HB, hsz⟩ := hrel
    have HFB := hide (fun (w1 : World) (h : Below w.heap.size w w1) => fringeBelow_c kf caps c n F s lim w1 h7 hk (HC.out.below h) hs128)
    have hy := nxA_lt F (alC c lim) n s h7
    have HCW := hide (HCH.out.below HB.out (Nat.le_refl _))
    by_cases h0 : nxA F (alC c lim) n s = 0
    · have HE := hide (show R = s by rw [HV.out]; exact kbF_end h0)
      rw [h0] at HFB
      clear h0
      go_wp2_with (first
        | (refine wpList_load_fam rowT sizeT rfl (.tmp _) rfl _ rfl (n : Int) F HF.out ?_)
        | (go_at_call 112; refine (HFB.out _ HB.out).mono ?_; rintro e w3 ⟨rfl, hb3⟩; have HB3 := hide (HB.out.trans (hb3.mono (by omega))); clear hb3)
        | (go_at_call 91; refine (items_c 0 _ (by omega) (HT.out.below HB3.out)).mono ?_; rw [itemsL_nil]; rintro e w4 ⟨v4, rfl, ho4, hb4⟩; have HB4 := hide (HB3.out.trans (hb4.mono HB3.out.size)); obtain ⟨xa, xc, hx⟩ := ho4.shape; subst hx; clear ho4 hb4))
      go_ret
      exact ⟨ret_i (by rw [HE.out]), HB4.out⟩
    · have hlt7 : k < 7 := by
        obtain ⟨i, _, _, _, i7, ib⟩ := pk_in h7 ch k h0
        have h1 := pc_stepK s i hs128 i7 ib
        have h2 := pc_le (s ||| p2 i)
        omega
      have HV2 := hide (show R = kbF F (alC c lim) n ch (8 - (k + 1)) (k + 1) (s ||| p2 (pk ch k (nxA F (alC c lim) n s))) by
        rw [HV.out, show 8 - k = (8 - (k + 1)) + 1 by omega]; exact kbF_next h0)
      obtain ⟨i, hi1, hi2, hin, hi7, hib⟩ := pk_in h7 ch k h0
      have HI1 := hide hi1
      have hlen := itemsL_len _ hy
      have hpos := itemsL_pos _ hy h0
      rw [hi2] at HV2
      have hix := pkI_lt (ch := ch) (k := k) hpos
      have HIX := hide (show pkI ch k (itemsL (nxA F (alC c lim) n s)).length = if k < ch.length then (ch[k]?.getD 0).toNat % (itemsL (nxA F (alC c lim) n s)).length else 0 from rfl)
      clear hi1 hi2 h0
      have hpcs := pc_stepK s i hs128 hi7 hib
      have hsi : s ||| p2 i < 128 := p2s_lt s i hs128 hi7
      generalize nxA F (alC c lim) n s = y at *
      generalize hpi : pkI ch k (itemsL y).length = ix at *
      have HPI := hide hpi
      clear hpi
      have HW := hide (fun w1 => by have := with_c (s : Int) (i : Int) w1 (by omega) (by omega) (by omega) (by omega); rw [Int.toNat_natCast, Int.toNat_natCast] at this; exact this)
      have HIT := hide (fun w1 hT1 => items_c y w1 hy hT1)
      generalize itemsL y = L at *
      have hne : ¬ ((L.length : Int) = 0) := by omega
      have hneb : ((L.length : Int) == 0) = false := by rw [beq_eq_false_iff_ne]; omega
      clear HIX
      have HCS := hide (fun w1 v1 (h1 : ints w1.heap.size w1 (.slice ua ch.length uc) ch) (h2 : ints w1.heap.size w1 v1 L) => chosen_c (.slice ua ch.length uc) v1 ch L k w1 h1 _hcl HPOS.out h2 hpos (by omega))
      rw [show pkI ch k L.length = ix from HPI.out, HI1.out] at HCS
      clear HPI
      go_wp2_with (first
        | (refine wpList_load_fam rowT sizeT rfl (.tmp _) rfl _ rfl (n : Int) F HF.out ?_)
        | (go_at_call 112; refine (HFB.out _ HB.out).mono ?_; rintro e w3 ⟨rfl, hb3⟩; have hz3 := hb3.size; have HF3 := hide (HF.out.below hb3 HF.out.lt); have HB3 := hide (HB.out.trans (hb3.mono (by omega))); clear hb3)
        | (go_at_call 91; refine (HIT.out _ (HT.out.below HB3.out)).mono ?_; rintro e w4 ⟨v4, rfl, ho4, hb4⟩; have hz4 := hb4.size; have HF4 := hide (HF3.out.below hb4 HF3.out.lt); have HB4 := hide (HB3.out.trans (hb4.mono HB3.out.size)); obtain ⟨xa, xc, hx⟩ := ho4.shape; subst hx; have HO4 := hide ho4.ints; have HC4 := hide ((HCH.out.below HB4.out (Nat.le_refl _)).mono HB4.out.size); clear ho4 hb4)
        | (go_at_call 113; refine (HCS.out _ _ HC4.out HO4.out).mono ?_; rintro e w8 ⟨rfl, rfl⟩)
        | (go_at_call 98; refine (HW.out _).mono ?_; rintro e w8 ⟨rfl, rfl⟩))
      go_roundw
      case rel => exact ⟨k + 1, s ||| p2 i, by omega, by omega, hsi, rfl, by go_num, HV2, HF4, HB4, by omega⟩
      case measure => (simp [intOf] <;> omega)
end Go.Proofs.YtdalbjpjnfjgfaaDoor
