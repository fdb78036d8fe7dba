/- Contract: what is learnt if always an item that costs at most a limit is, the specification's. -/
import Derived.Test.YtdalbjpjnfjgfaaDoorKw
namespace Go.Proofs.YtdalbjpjnfjgfaaDoor
open Go.RowKit
set_option maxRecDepth 100000
set_option linter.unusedSimpArgs false
theorem pc_lowK : ∀ n, n < 8 → ∀ x, x < 128 → x < 2 ^ n → pc x ≤ n := by decide +kernel
theorem or_lt2 {s i n : Nat} (hs : s < 2 ^ n) (hi : i < n) : s ||| p2 i < 2 ^ n := by
  refine Nat.or_lt_two_pow hs ?_
  show 2 ^ i < 2 ^ n
  exact Nat.pow_lt_pow_right (by omega) hi
theorem kb_full {F : Nat → Bool} {al : Nat → Nat → Bool} {n s : Nat} (h7 : n ≤ 7) (hs : s < 2 ^ n) (hp : pc s = n) : nxA F al n s = 0 := by
  by_cases h0 : nxA F al n s = 0
  · exact h0
  · exfalso
    have hn := p2_le n 7 h7
    obtain ⟨i, _, _, hin, hi7, hib⟩ := pk_in h7 [] 0 h0
    have h1 := pc_stepK s i (by omega) hi7 hib
    have h2 := pc_lowK n (by omega) (s ||| p2 i) (p2s_lt s i (by omega) hi7) (or_lt2 hs hin)
    omega
attribute [local irreducible] p2 low memB risB itemsL
set_option maxHeartbeats 4000000 in
theorem grRun_c (n : Nat) (v : Value) (l : List Int) (u : Value) (T : List Tsk) (lim : Int) (z : Value) (ch : List Int) (w : World) (hl : ints w.heap.size w v l) (hlen : l.length < 1000000000) (ht : tks w.heap.size w u T) (hsp0 : okSp (n : Int) l = true) (hta : taB T (n : Int) = true) (hch : ints w.heap.size w z ch) (hpos : ∀ k, k < ch.length → 0 ≤ ch[k]?.getD 0) :
    Calls Tryd.prog 69 #[.agg #[.int .i64 (n : Int), v], u, .int .i64 lim, z] w fun e w' => e = .returned (.int .i64 (kbF (marksTo l l.length) (alC (coT T) lim) n ch 8 0 0 : Int)) ∧ Below w.heap.size w w' := by
  obtain ⟨hn1, hn7⟩ := okSp_n hsp0
  have h7 : n ≤ 7 := by omega
  obtain ⟨ua, uc, hu⟩ := hch.shape
  subst hu
  have HL := hide hl
  have HTK := hide ht
  have H0 := hide ((Below.refl w.heap.size w).alloc (Nat.le_refl _) (.cells #[.int .i64 (n : Int), v] 34))
  have HX := hide (hp_last w (.cells #[.int .i64 (n : Int), v] 34))
  have HZ := hide (show (w.alloc (.cells #[.int .i64 (n : Int), v] 34)).heap.size = w.heap.size + 1 by simp)
  have HCH := hide hch
  have HPOS := hide hpos
  have HP0 := hide pc_zero0
  have HGC := hide (fun (w1 : World) (h : Below w.heap.size w w1) s hs => grCheap_c n v l u T s lim w1 ((hl.below h (Nat.le_refl _)).mono h.size) hlen (ht.to h) hsp0 hta hs)
  have hnp := p2_le n 7 h7
  have HPN := hide (show (0 : Nat) < 2 ^ n from Nat.pow_pos (by omega))
  generalize marksTo l l.length = F at HGC ⊢
  obtain ⟨R, hR⟩ : ∃ R, R = kbF F (alC (coT T) lim) n ch 8 0 0 := ⟨_, rfl⟩
  rw [← hR]
  have HR := hide hR
  clear hR hch hpos hl ht hsp0 hta
  go_enter Tryd.func69, Tryd.ntmps69
  go_wp2_with fail
  go_loopw [9, 10] (fun sv st wr => ∃ k s : Nat, k ≤ n ∧ pc s = k ∧ s < 2 ^ n ∧ sv = .int .i64 (s : Int) ∧ st = .int .i64 (k : Int) ∧ Hid (R = kbF F (alC (coT T) lim) n ch (8 - k) k s) ∧ Hid (Below (w.heap.size + 1) (w.alloc (.cells #[.int .i64 (n : Int), v] 34)) wr)) (fun _ st _ => 8 - (intOf st).toNat)
  case atStart => exact ⟨0, 0, by omega, HP0.out, HPN.out, rfl, rfl, HR, Below.refl _ _⟩
  case round =>
    obtain ⟨k, s, hk7, hpc, hs2n, rfl, rfl, HV, HBA⟩ := hrel
    have hs128 : s < 128 := by omega
    have hszw := HBA.out.size
    rw [HZ.out] at hszw
    have hblk := (HBA.out.block w.heap.size (by omega)).trans HX.out
    have d0 := cells_at0 hblk
    have d1 := cells_at1 hblk
    clear hblk
    have HB := hide (H0.out.trans (HBA.out.mono (show w.heap.size ≤ w.heap.size + 1 by omega)))
    have HGS := hide (HGC.out wr HB.out s hs2n)
    have hy := nxA_lt F (alC (coT T) lim) n s h7
    by_cases hlt : k < n
    · have hlt' : (k : Int) < (n : Int) := by omega
      by_cases h0 : nxA F (alC (coT T) lim) n s = 0
      · have HE := hide (show R = s by rw [HV.out]; exact kbF_end h0)
        rw [h0, itemsL_nil] at HGS
        clear h0
        go_wp2_with (go_at_call 108; refine HGS.out.mono ?_; rintro e w4 ⟨v4, rfl, ho4, hb4⟩; have HB4 := hide (HB.out.trans (hb4.mono HB.out.size)); obtain ⟨xa, xc, hx⟩ := ho4.shape; subst hx; clear ho4 hb4)
        go_ret
        exact ⟨ret_i (by rw [HE.out]), HB4.out⟩
      · have HV2 := hide (show R = kbF F (alC (coT T) lim) n ch (8 - (k + 1)) (k + 1) (s ||| p2 (pk ch k (nxA F (alC (coT T) lim) n s))) by
          rw [HV.out, show 8 - k = (8 - (k + 1)) + 1 by omega]; exact kbF_next h0)
        obtain ⟨i, hi1, hi2, hin, hi7, hib⟩ := pk_in h7 ch k h0
        have HI1 := hide hi1
        have hlen := itemsL_len _ hy
        have hpos := itemsL_pos _ hy h0
        rw [hi2] at HV2
        have hix := pkI_lt (ch := ch) (k := k) hpos
        have HIX := hide (show pkI ch k (itemsL (nxA F (alC (coT T) lim) n s)).length = if k < ch.length then (ch[k]?.getD 0).toNat % (itemsL (nxA F (alC (coT T) lim) n s)).length else 0 from rfl)
        clear hi1 hi2 h0
        have hpcs := pc_stepK s i hs128 hi7 hib
        have hsi : s ||| p2 i < 128 := p2s_lt s i hs128 hi7
        have hsn : s ||| p2 i < 2 ^ n := or_lt2 hs2n hin
        generalize nxA F (alC (coT T) lim) n s = y at *
        generalize pkI ch k (itemsL y).length = ix at *
        have hp1 := wrap_p2 i (by omega)
        have hp2 : IntKind.i64.wrap (2 ^ i) = (p2 i : Int) := by rw [IntWalk.i64_left]; exact hp1
        have hpk := p2_lt128 i hi7
        have hor := i64_or s (p2 i) (Nat.lt_trans hs128 (by decide)) (Nat.lt_trans hpk (by decide))
        generalize itemsL y = L at *
        have hne : ¬ ((L.length : Int) = 0) := by omega
        have hneb : ((L.length : Int) == 0) = false := by rw [beq_eq_false_iff_ne]; omega
        by_cases hck : k < ch.length
        · have hck' : (k : Int) < (ch.length : Int) := by omega
          have hx0 := HPOS.out k hck
          have hixe : ix = (ch[k]?.getD 0).toNat % L.length := by rw [HIX.out, if_pos hck]
          have hrm : (ch[k]?.getD 0).tmod (L.length : Int) = (ix : Int) := by
            rw [Int.tmod_eq_emod_of_nonneg hx0, hixe]
            obtain ⟨z, hz⟩ := Int.eq_ofNat_of_zero_le hx0
            rw [hz]; simp
          have hwr : IntKind.i64.wrap (ix : Int) = (ix : Int) := IntWalk.i64_in _ (by omega)
          generalize hxx : ch[k]?.getD 0 = x at hrm hx0
          have HX := hide hxx
          clear hixe hxx HIX
          go_wp2_with (first
            | (go_at_call 108; refine HGS.out.mono ?_; rintro e w4 ⟨v4, rfl, ho4, hb4⟩; have hz4 := hb4.size; have HBA4 := hide (HBA.out.trans (hb4.mono (by omega))); have HB4 := hide (HB.out.trans (hb4.mono HB.out.size)); obtain ⟨xa, xc, hx⟩ := ho4.shape; subst hx; have HO4 := hide ho4.ints; have HC4 := hide (HCH.out.below HB4.out (Nat.le_refl _)); clear ho4 hb4)
            | (refine wpList_at sliceT intS rfl (.tmp _) (.tmp _) rfl _ rfl k rfl w.heap.size ch HC4.out hck ?_; intro ad hcell hblk; rw [HX.out] at hcell)
            | (refine wpList_at sliceT intS rfl (.tmp _) (.tmp _) rfl _ rfl ix rfl _ L HO4.out hix ?_; intro ad2 hcell2 hblk2; rw [HI1.out] at hcell2))
          go_roundw
          case rel => exact ⟨k + 1, s ||| p2 i, by omega, by omega, hsn, rfl, by go_num, HV2, HBA4⟩
          case measure => (simp [intOf] <;> omega)
        · have hck' : ¬ ((k : Int) < (ch.length : Int)) := by omega
          have hix0 : ix = 0 := by rw [HIX.out, if_neg hck]
          subst hix0
          clear HIX
          go_wp2_with (first
            | (go_at_call 108; refine HGS.out.mono ?_; rintro e w4 ⟨v4, rfl, ho4, hb4⟩; have hz4 := hb4.size; have HBA4 := hide (HBA.out.trans (hb4.mono (by omega))); have HB4 := hide (HB.out.trans (hb4.mono HB.out.size)); obtain ⟨xa, xc, hx⟩ := ho4.shape; subst hx; have HO4 := hide ho4.ints; have HC4 := hide (HCH.out.below HB4.out (Nat.le_refl _)); clear ho4 hb4)
            | (refine wpList_at sliceT intS rfl (.tmp _) (.tmp _) rfl _ rfl 0 rfl _ L HO4.out hix ?_; intro ad2 hcell2 hblk2; rw [HI1.out] at hcell2))
          go_roundw
          case rel => exact ⟨k + 1, s ||| p2 i, by omega, by omega, hsn, rfl, by go_num, HV2, HBA4⟩
          case measure => (simp [intOf] <;> omega)
    · have hkn : k = n := by omega
      have hlt' : ¬ ((k : Int) < (n : Int)) := by omega
      have HE := hide (show R = s by rw [HV.out]; exact kbF_end (kb_full h7 hs2n (hpc.trans hkn)))
      clear hkn
      go_wp2
      go_ret
      exact ⟨ret_i (by rw [HE.out]), HB.out⟩
end Go.Proofs.YtdalbjpjnfjgfaaDoor
