/- Contracts: SpaceOfClauses: what is learnt by clauses, the program's way. -/
import Derived.Test.YtlgcnablhkmdaaaSd
import Derived.Handy
namespace Go.Proofs.Ytlgcnablhkmdaaa
open Go.RowKit
set_option maxRecDepth 100000
attribute [local irreducible] p2 low memB risB
theorem within_cC (a b : Nat) (w : World) (ha : a < 128) : Calls Try.prog 64 #[.int .i64 (a : Int), .int .i64 (b : Int)] w fun e w' => e = .returned (.bool (decide (andNot a b = 0))) ∧ w = w' := by
  have h := i64_andNot a b (by omega)
  generalize andNot a b = c at h
  by_cases hc : c = 0
  · subst hc
    go_enter Try.func64, Try.ntmps64
    go_wp2
    go_ret
    exact ⟨by simp, rfl⟩
  · have hb0 : ((c : Int) == 0) = false := by simp; omega
    go_enter Try.func64, Try.ntmps64
    go_wp2
    go_ret
    exact ⟨by simp [hc], rfl⟩
theorem freeMet_c (i : Int) (s : Nat) (w : World) : Calls Try.prog 60 #[.int .i64 i, .int .i64 (s : Int)] w fun e w' => e = .returned (.bool true) ∧ w = w' := by
  go_enter Try.func60, Try.ntmps60
  go_wp2
  go_ret
  exact ⟨rfl, rfl⟩
theorem freeItem_c (i : Int) (w : World) : Calls Try.prog 61 #[.int .i64 i] w fun e w' => e = .returned (.int .i64 i) ∧ w = w' := by
  go_enter Try.func61, Try.ntmps61
  go_wp2
  go_ret
  exact ⟨rfl, rfl⟩
theorem askItem_c (i s : Int) (w : World) : Calls Try.prog 63 #[.agg #[.int .i64 i, .int .i64 s]] w fun e w' => e = .returned (.int .i64 i) ∧ Below w.heap.size w w' := by
  go_enter Try.func63, Try.ntmps63
  go_wp2
  go_ret
  exact ⟨rfl, (Below.refl _ _).alloc (Nat.le_refl _) _⟩
theorem askMet_c (i : Int) (s a : Nat) (w : World) (hs : s < 128) : Calls Try.prog 62 #[.agg #[.int .i64 i, .int .i64 (s : Int)], .int .i64 (a : Int)] w fun e w' => e = .returned (.bool (decide (andNot s a = 0))) ∧ Below w.heap.size w w' := by
  go_enter Try.func62, Try.ntmps62
  go_wp2_with (go_at_call 64; refine (within_cC s a _ hs).mono ?_; rintro e w' ⟨rfl, rfl⟩)
  go_ret
  exact ⟨rfl, (Below.refl _ _).alloc (Nat.le_refl _) _⟩
theorem rowOk_at {n : Nat} {L : List (List Int)} (h7 : n ≤ 7) (h : rowsOk (n : Int) L L.length = true) (k : Nat) (hk : k < L.length) : ∃ i s : Nat, scI L k = i ∧ scM L k = s ∧ i < n ∧ s < 128 ∧ clR (L[k]?.getD []) = clV i s := by
  have := (rowsOk_iff (n : Int) L L.length).1 h k hk
  obtain ⟨_, i, s, e, hi, hs, _⟩ := rowOk_in this (by omega)
  rw [Int.toNat_natCast] at hs
  have h1 := low_succ n
  have h2 := p2_le n 7 h7
  refine ⟨i, s, ?_, ?_, by omega, by omega, ?_⟩
  · unfold scI; rw [e]; simp
  · unfold scM; rw [e]; simp
  · rw [e]; exact clR_pair i s
theorem lb_lt {n : Nat} {L : List (List Int)} (hI : ∀ k, k < L.length → scI L k < n) {t x : Nat} (h : lbOut L t x = true) : x < 2 ^ n := rch_lt hI (lbOut_rch L t x h)
set_option maxHeartbeats 4000000 in
theorem learntBy_c (n : Nat) (v : Value) (base : Nat) (L : List (List Int)) (w : World) (ho : ownC w base v L) (h1 : 1 ≤ n) (h7 : n ≤ 7) (h60 : L.length ≤ 60) (hok : rowsOk (n : Int) L L.length = true) :
    Calls Try.prog 24 #[.int .i64 (n : Int), v] w fun e w' => e = .returned (.agg (fam (n : Int) (scF n L))) ∧ Below w.heap.size w w' := by
  have HOK := hide hok
  have hn128 := p2_le n 7 h7
  have hls := low_succ n
  obtain ⟨va, vc, hv⟩ := ho.shape
  subst hv
  have HO := hide ho
  have HLT := hide ho.lt
  have HZ1 := hide (show ((w.alloc (.cells (fam 0 noSet) 46)).alloc (.cells (fam 0 noSet) 46)).heap.size = w.heap.size + 2 by simp)
  have hh := (famAt.new 46 (w.alloc (.cells (fam 0 noSet) 46)) 0 noSet).row (n : Int) noSet
  rw [show (w.alloc (.cells (fam 0 noSet) 46)).heap.size = w.heap.size + 1 by simp] at hh
  have hg0 := hh.get 0 (by omega)
  have hf0 := hh.free (1 + 0)
  have HF0 := hide (hh.set 0 (by omega) true)
  have HT0 := hide (show famAt 46 ((((w.alloc (.cells (fam 0 noSet) 46)).alloc (.cells (fam 0 noSet) 46)).setRow (w.heap.size + 1) (fam (n : Int) noSet)).setCell ⟨w.heap.size + 1, 1 + 0, none⟩ (.bool true)) w.heap.size 0 noSet from
    (hp_setO _ _ _ _ (by show w.heap.size ≠ w.heap.size + 1; omega)).trans ((hp_rowO _ _ _ _ (by omega)).trans ((hp_old _ _ _ (by simp)).trans (famAt.new _ _ _ _))))
  have HB0 := hide ((bl_row (((Below.refl w.heap.size w).alloc (Nat.le_refl _) (.cells (fam 0 noSet) 46)).alloc (by simp) (.cells (fam 0 noSet) 46)) (show w.heap.size ≤ w.heap.size + 1 by omega) (fam (n : Int) noSet)).setCell (p := ⟨w.heap.size + 1, 1 + 0, none⟩) (by show w.heap.size ≤ w.heap.size + 1; omega) (.bool true))
  have HS0 := hide (show ((((w.alloc (.cells (fam 0 noSet) 46)).alloc (.cells (fam 0 noSet) 46)).setRow (w.heap.size + 1) (fam (n : Int) noSet)).setCell ⟨w.heap.size + 1, 1 + 0, none⟩ (.bool true)).heap.size = w.heap.size + 2 by simp [World.setRow])
  clear ho hok
  go_enter Try.func24, Try.ntmps24
  go_wp2_with (first
    | (refine wpList_alloc_fam zeroT rfl rfl _ (by first | (simp only [World.size_alloc]; rfl) | rfl) ?_)
    | (refine wpList_build_fam builtT rfl _ rfl _ rfl ?_)
    | (refine wpList_store_fam sizeT rfl (.tmp _) (.tmp _) rfl (w.heap.size + 1) (n : Int) noSet rfl rfl _ _ (by have := famAt.new 46 (w.alloc (.cells (fam 0 noSet) 46)) 0 noSet; simpa using this) ?_)
    | (refine wpList_load_fam rowT sizeT rfl (.tmp _) rfl _ rfl (n : Int) _ HF0.out ?_)
    | (go_at_call 25; refine (full_c _ _ _ (by omega) (by omega)).mono ?_; rw [Int.toNat_natCast]; rintro e w2 ⟨rfl, hb2⟩; have hz2 := hb2.size; rw [HS0.out] at hz2 hb2; have HF2 := hide (HF0.out.below hb2 (by omega)); have HT2 := hide (HT0.out.below hb2 (by omega)); have HB2 := hide (HB0.out.trans (hb2.mono (by omega))); clear hb2))
  clear HF0 HT0 HB0 HS0 hg0 hf0 hh HZ1
  go_loopw [16] (fun i wr => ∃ k : Nat, k ≤ low n + 1 ∧ i = .int .i64 k ∧ Hid (famAt 46 wr (w.heap.size + 1) (n : Int) (lbOut L k)) ∧ Hid (famAt 46 wr w.heap.size 0 noSet) ∧ Hid (Below w.heap.size w wr)) (fun i _ => low n + 1 - (intOf i).toNat)
  case atStart => exact ⟨0, by omega, rfl, HF2, HT2, HB2⟩
  case round =>
    obtain ⟨k, hk, rfl, HF, HT, HB⟩ := hrel
    clear HF2 HT2 HB2
    have hlf := HF.out.lt
    by_cases hlt : k < low n + 1
    · have hlt' : ((k : Int) < (low n : Int) + 1) := by omega
      have hk128 : k < 128 := by omega
      have HST := hide (show lbOut L (k + 1) = lbIn L k (lbOut L k) L.length from rfl)
      have H00 := hide (show lbIn L k (lbOut L k) 0 = lbOut L k from rfl)
      generalize lbOut L k = G at HF HST H00
      go_wp2_with fail
      go_loopw [21] (fun i wr => ∃ j : Nat, j ≤ L.length ∧ i = .int .i64 j ∧ Hid (famAt 46 wr (w.heap.size + 1) (n : Int) (lbIn L k G j)) ∧ Hid (famAt 46 wr w.heap.size 0 noSet) ∧ Hid (Below w.heap.size w wr)) (fun i _ => L.length - (intOf i).toNat)
      case atStart => exact ⟨0, by omega, rfl, by rw [H00.out]; exact HF, HT, HB⟩
      case round =>
        clear HF HT HB hlf
        obtain ⟨j, hj, rfl, HF, HT, HB⟩ := hrel
        have hlf := HF.out.lt
        by_cases hlj : j < L.length
        · have HOW := hide (HO.out.below HB.out (fun g hg => (HLT.out g hg).2))
          obtain ⟨b, c, hbv, hcell⟩ := HOW.out.at j hlj
          obtain ⟨i, s, hi, hs, hin, hs128, hcl⟩ := rowOk_at h7 HOK.out j hlj
          rw [hcl] at hcell
          have HBV := hide hbv
          have HY := hide (fun h => lbIn_yes (L := L) (s := k) (F := G) (k := j) h)
          have HN := hide (fun h => lbIn_no (L := L) (s := k) (F := G) (k := j) h)
          rw [hi, hs] at HY
          rw [hs] at HN
          generalize lbIn L k G j = F at HF HY HN
          have c1 := HF.out.get k hk128
          have HWI := hide (fun w1 => by have := with_c (k : Int) (i : Int) w1 (by omega) (by omega) (by omega) (by omega); rw [Int.toNat_natCast, Int.toNat_natCast] at this; exact this)
          have hor : (k ||| p2 i) < 128 := Nat.or_lt_two_pow (n := 7) hk128 (show p2 i < 2 ^ 7 from p2_lt128 i (by omega))
          have c2 := HF.out.get (k ||| p2 i) hor
          have f2 := HF.out.free (1 + (k ||| p2 i))
          generalize hkk : (k ||| p2 i) = kk at HWI hor c2 f2 HY
          clear hcl hbv hi hs
          cases hFk : F k
          · rw [hFk] at c1
            have HE := hide (HN.out (by rw [hFk]; simp))
            clear HWI c2 f2
            go_wp2_with (refine wpList_atB sliceC infoC1 rfl (.tmp _) (.tmp _) rfl b L.length c (Eq.trans rfl HBV.out) _ rfl j rfl hlj ?_)
            go_roundw
            case rel => exact ⟨j + 1, by omega, by go_num, by rw [HE.out]; exact HF, HT, HB⟩
            case measure => (simp [intOf] <;> omega)
          · rw [hFk] at c1
            by_cases h0 : s = 0
            · subst h0
              rw [show clV i 0 = .iface 64 (.int .i64 (i : Int)) by simp [clV]] at hcell
              have HE := hide (HY.out ⟨hFk, by rw [an0C]; intro q hq; rw [Nat.zero_testBit] at hq; cases hq⟩)
              go_wp2_with (first
                | (refine wpList_atB sliceC infoC1 rfl (.tmp _) (.tmp _) rfl b L.length c (Eq.trans rfl HBV.out) _ rfl j rfl hlj ?_)
                | (go_at_call 60; refine (freeMet_c _ _ _).mono ?_; rintro e w5 ⟨rfl, rfl⟩)
                | (go_at_call 61; refine (freeItem_c _ _).mono ?_; rintro e w6 ⟨rfl, rfl⟩)
                | (go_at_call 36; refine (HWI.out _).mono ?_; rintro e w7 ⟨rfl, rfl⟩))
              go_roundw
              case rel => exact ⟨j + 1, by omega, by go_num, by rw [HE.out]; exact HF.out.set kk hor true, HT.out.setO _ (by show w.heap.size ≠ w.heap.size + 1; omega) _, HB.out.setCell (by show w.heap.size ≤ w.heap.size + 1; omega) _⟩
              case measure => (simp [intOf] <;> omega)
            · rw [show clV i s = .iface 66 (.agg #[.int .i64 (i : Int), .int .i64 (s : Int)]) by simp [clV, h0]] at hcell
              clear h0
              cases hmet : decide (andNot s k = 0)
              · have HM := hide hmet
                have HE := hide (HN.out (by have := of_decide_eq_false hmet; intro h; exact this h.2))
                clear hmet HWI c2 f2
                go_wp2_with (first
                  | (refine wpList_atB sliceC infoC1 rfl (.tmp _) (.tmp _) rfl b L.length c (Eq.trans rfl HBV.out) _ rfl j rfl hlj ?_)
                  | (go_at_call 62; refine (askMet_c _ s k _ hs128).mono ?_; rw [HM.out]; rintro e w5 ⟨rfl, hb5⟩; have HF5 := hide (HF.out.below hb5 hlf); have HT5 := hide (HT.out.below hb5 (by omega)); have HB5 := hide (HB.out.trans (hb5.mono (by omega))); clear hb5))
                go_roundw
                case rel => exact ⟨j + 1, by omega, by go_num, by rw [HE.out]; exact HF5, HT5, HB5⟩
                case measure => (simp [intOf] <;> omega)
              · have HM := hide hmet
                have HE := hide (HY.out ⟨hFk, of_decide_eq_true hmet⟩)
                clear hmet c2 f2
                go_wp2_with (first
                  | (refine wpList_atB sliceC infoC1 rfl (.tmp _) (.tmp _) rfl b L.length c (Eq.trans rfl HBV.out) _ rfl j rfl hlj ?_)
                  | (go_at_call 62; refine (askMet_c _ s k _ hs128).mono ?_; rw [HM.out]; rintro e w5 ⟨rfl, hb5⟩; have HF5 := hide (HF.out.below hb5 hlf); have HT5 := hide (HT.out.below hb5 (by omega)); have HB5 := hide (HB.out.trans (hb5.mono (by omega))); clear hb5)
                  | (go_at_call 63; refine (askItem_c _ _ _).mono ?_; rintro e w6 ⟨rfl, hb6⟩; have hl5 := HF5.out.lt; have hf6 := HF5.out.below hb6 hl5; have c6 := hf6.get kk hor; have f6 := hf6.free (1 + kk); have HF6 := hide hf6; have HT6 := hide (HT5.out.below hb6 (by omega)); have HB6 := hide (HB5.out.trans (hb6.mono (by omega))); clear hb6 hf6)
                  | (go_at_call 36; refine (HWI.out _).mono ?_; rintro e w7 ⟨rfl, rfl⟩))
                go_roundw
                case rel => exact ⟨j + 1, by omega, by go_num, by rw [HE.out]; exact HF6.out.set kk hor true, HT6.out.setO _ (by show w.heap.size ≠ w.heap.size + 1; omega) _, HB6.out.setCell (by show w.heap.size ≤ w.heap.size + 1; omega) _⟩
                case measure => (simp [intOf] <;> omega)
        · have HJ := hide (show j = L.length by omega)
          have hlj' : ¬ ((j : Int) < (L.length : Int)) := by omega
          rw [HJ.out, ← HST.out] at HF
          go_wp2
          go_roundw
          case rel => exact ⟨k + 1, by omega, by go_num, HF, HT, HB⟩
          case measure => (simp [intOf] <;> omega)
    · have hlt' : ¬ ((k : Int) < (low n : Int) + 1) := by omega
      have HFF := hide (show famAt 46 wr (w.heap.size + 1) (n : Int) (scF n L) by unfold scF; rw [show 2 ^ n = k by omega]; exact HF.out)
      go_wp2_with (first
        | (refine wpList_load_fam rowT sizeT rfl (.tmp _) rfl _ rfl (n : Int) _ HFF.out ?_)
        | (refine wpList_store_fam sizeT rfl (.tmp _) (.tmp _) rfl w.heap.size (n : Int) (scF n L) rfl rfl _ _ HT.out ?_))
      refine bodyPost_ret (v := .agg (fam (n : Int) (scF n L))) (results_fam rowT sizeT rfl _ _ w.heap.size rfl _ _ (HT.out.row _ _)) rfl ⟨rfl, bl_row HB.out (Nat.le_refl _) _⟩
end Go.Proofs.Ytlgcnablhkmdaaa
