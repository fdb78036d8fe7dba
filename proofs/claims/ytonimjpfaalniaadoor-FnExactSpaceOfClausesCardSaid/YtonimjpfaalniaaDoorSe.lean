/- Contracts: SpaceOfClauses: what is learnt by clauses, the program's way. -/
import Derived.Test.YtonimjpfaalniaaDoorSd
import Derived.Test.YtonimjpfaalniaaDoorRb
import Derived.Handy
namespace Go.Proofs.YtonimjpfaalniaaDoor
open Go.RowKit
set_option maxRecDepth 100000
theorem within_cC (a b : Nat) (w : World) (ha : a < 128) : Calls Tryd.prog 145 #[.int .i64 (a : Int), .int .i64 (b : Int)] w fun e w' => e = .returned (.bool (decide (andNot a b = 0))) ∧ w = w' := by
  have h := i64_andNot a b (by omega)
  generalize andNot a b = c at h
  by_cases hc : c = 0
  · subst hc
    go_enter Tryd.func145, Tryd.ntmps145
    go_wp2
    go_ret
    exact ⟨by simp, rfl⟩
  · have hb0 : ((c : Int) == 0) = false := by simp; omega
    go_enter Tryd.func145, Tryd.ntmps145
    go_wp2
    go_ret
    exact ⟨by simp [hc], rfl⟩
theorem freeMet_c (i : Int) (s : Nat) (w : World) : Calls Tryd.prog 228 #[.int .i64 i, .int .i64 (s : Int)] w fun e w' => e = .returned (.bool true) ∧ w = w' := by
  go_enter Tryd.func228, Tryd.ntmps228
  go_wp2
  go_ret
  exact ⟨rfl, rfl⟩
theorem freeItem_c (i : Int) (w : World) : Calls Tryd.prog 229 #[.int .i64 i] w fun e w' => e = .returned (.int .i64 i) ∧ w = w' := by
  go_enter Tryd.func229, Tryd.ntmps229
  go_wp2
  go_ret
  exact ⟨rfl, rfl⟩
theorem askItem_c (i s : Int) (w : World) : Calls Tryd.prog 231 #[.agg #[.int .i64 i, .int .i64 s]] w fun e w' => e = .returned (.int .i64 i) ∧ Below w.heap.size w w' := by
  go_enter Tryd.func231, Tryd.ntmps231
  go_wp2
  go_ret
  exact ⟨rfl, (Below.refl _ _).alloc (Nat.le_refl _) _⟩
theorem askMet_c (i : Int) (s a : Nat) (w : World) (hs : s < 128) : Calls Tryd.prog 230 #[.agg #[.int .i64 i, .int .i64 (s : Int)], .int .i64 (a : Int)] w fun e w' => e = .returned (.bool (decide (andNot s a = 0))) ∧ Below w.heap.size w w' := by
  go_enter Tryd.func230, Tryd.ntmps230
  go_wp2_with (go_at_call 145; refine (within_cC s a _ hs).mono ?_; rintro e w' ⟨rfl, rfl⟩)
  go_ret
  exact ⟨rfl, (Below.refl _ _).alloc (Nat.le_refl _) _⟩
theorem rowOk_at {n : Nat} {L : List (List Int)} (h7 : n ≤ 7) (h : rowsOk (n : Int) L L.length = true) (k : Nat) (hk : k < L.length) : ∃ i s : Nat, scI L k = i ∧ scM L k = s ∧ i < n ∧ s < 128 ∧ clR (L[k]?.getD []) = clV i s := by
  have := (rowsOk_iff (n : Int) L L.length).1 h k hk
  obtain ⟨_, i, s, e, hi, hs, _⟩ := rowOk_in this (by omega)
  rw [Int.toNat_natCast] at hs
  have h1 := low_succ n
  have h2 := p2_le n 7 h7
  refine ⟨i, s, ?_, ?_, by omega, by omega, ?_⟩
  · unfold scI; rw [e]; simp
  · unfold scM; rw [e]; simp
  · rw [e]; exact clR_pair i s
def lqTo (L : List (List Int)) (s : Nat) : Nat → Nat
  | 0 => 0
  | k + 1 => if andNot (scM L k) s = 0 then lqTo L s k ||| p2 (scI L k) else lqTo L s k
theorem lq_bit (L : List (List Int)) (s i : Nat) : ∀ K, (lqTo L s K).testBit i = true ↔ ∃ k, k < K ∧ andNot (scM L k) s = 0 ∧ scI L k = i
  | 0 => by simp [lqTo]
  | K + 1 => by
    have ih := lq_bit L s i K
    by_cases hm : andNot (scM L K) s = 0
    · rw [lqTo, if_pos hm, Nat.testBit_or, Bool.or_eq_true, ih, p2_bit, decide_eq_true_eq]
      constructor
      · rintro (⟨k, h1, h2⟩ | h)
        · exact ⟨k, by omega, h2⟩
        · exact ⟨K, by omega, hm, h⟩
      · rintro ⟨k, h1, h2, h3⟩
        rcases Nat.lt_or_ge k K with h | h
        · exact .inl ⟨k, h, h2, h3⟩
        · have : k = K := by omega
          subst this; exact .inr h3
    · rw [lqTo, if_neg hm, ih]
      constructor
      · rintro ⟨k, h1, h2⟩
        exact ⟨k, by omega, h2⟩
      · rintro ⟨k, h1, h2, h3⟩
        rcases Nat.lt_or_ge k K with h | h
        · exact ⟨k, h, h2, h3⟩
        · have : k = K := by omega
          subst this; exact absurd h2 hm
def lqN (L : List (List Int)) (s : Nat) : Nat := lqTo L s L.length
theorem lq_iff (L : List (List Int)) (x : Nat) : RchN (lqN L) x ↔ Rch L x := by
  constructor
  · intro h
    induction h with
    | zero => exact .zero
    | step a i ha hi ih =>
      obtain ⟨k, h1, h2, h3⟩ := (lq_bit L a i L.length).1 hi
      rw [← h3]
      exact ih.put h1 h2
  · intro h
    induction h with
    | zero => exact .zero
    | step a k ha hk hm hb ih => exact .step a _ ih ((lq_bit L a _ L.length).2 ⟨k, hk, hm, rfl⟩)
theorem lqTo_lt {L : List (List Int)} {n : Nat} (hI : ∀ k, k < L.length → scI L k < n) (s : Nat) : ∀ K, K ≤ L.length → lqTo L s K < 2 ^ n
  | 0, _ => p2_pos n
  | K + 1, h => by
    have ih := lqTo_lt hI s K (by omega)
    rw [lqTo]
    split
    · exact Nat.or_lt_two_pow ih (p2_lt _ _ (hI K h))
    · exact ih
theorem lq_fam {L : List (List Int)} {n : Nat} (h7 : n ≤ 7) (hI : ∀ k, k < L.length → scI L k < n) : fam (n : Int) (rbOut (lqN L) (2 ^ n)) = fam (n : Int) (scF n L) :=
  fam_congr _ fun x _ => by
    rw [Bool.eq_iff_iff, rb_iff (nx := lqN L) h7 (fun a _ => lqTo_lt hI a L.length (Nat.le_refl _)), lq_iff, scF, lb_iff L (2 ^ n) (fun x h => rch_lt hI h)]
attribute [local irreducible] p2 low memB risB
theorem ent_learnt1 : enters Tryd.prog 155 := enters_of Tryd.func155 (by kernel_rfl) (by kernel_rfl)
set_option maxHeartbeats 4000000 in
theorem learnt1_c (n : Nat) (v : Value) (base : Nat) (L : List (List Int)) (s g : Nat) (w : World) (ho : ownC w base v L) (h7 : n ≤ 7) (hok : rowsOk (n : Int) L L.length = true) (hlen : L.length ≤ 60) (hc : w.cell? ⟨g, 0, none⟩ = some v) :
    Calls Tryd.prog 155 #[.int .i64 (s : Int), .pointer (some ⟨g, 0, none⟩)] w fun e w' => e = .returned (.int .i64 (lqN L s : Int)) ∧ Below w.heap.size w w' := by
  have HOK := hide hok
  have hlt8 := fun K (hK : K ≤ L.length) => lqTo_lt (scI_lt h7 hok) s K hK
  have HL8 := hide hlt8
  have hn128 := p2_le n 7 h7
  obtain ⟨va, vc, hv⟩ := ho.shape
  subst hv
  have HO := hide ho
  have HC := hide hc
  have HLT := hide ho.lt
  clear ho hok hlt8
  go_enter Tryd.func155, Tryd.ntmps155
  go_wp2_with fail
  clear hc
  go_loopw [4, 9] (fun q i wr => ∃ j : Nat, j ≤ L.length ∧ i = .int .i64 j ∧ q = .int .i64 (lqTo L s j : Int) ∧ Hid (Below w.heap.size w wr)) (fun _ i _ => L.length - (intOf i).toNat)
  case atStart => exact ⟨0, by omega, rfl, rfl, Below.refl _ _⟩
  case round =>
    obtain ⟨j, hj, rfl, rfl, HB⟩ := hrel
    have hsz := HB.out.size
    by_cases hlj : j < L.length
    · have HOW := hide (HO.out.below HB.out (fun g hg => (HLT.out g hg).2))
      obtain ⟨b, c, hbv, hcell⟩ := HOW.out.at j hlj
      obtain ⟨i, r, hi, hr, hin, hr128, hcl⟩ := rowOk_at h7 HOK.out j hlj
      rw [hcl] at hcell
      have HBV := hide hbv
      have HST := hide (show lqTo L s (j + 1) = if andNot (scM L j) s = 0 then lqTo L s j ||| p2 (scI L j) else lqTo L s j from rfl)
      rw [hi, hr] at HST
      have hq8 := HL8.out j (by omega)
      generalize lqTo L s j = q at HST hq8 ⊢
      have HWI := hide (fun w1 => by have := with_c (q : Int) (i : Int) w1 (by omega) (by omega) (by omega) (by omega); rw [Int.toNat_natCast, Int.toNat_natCast] at this; exact this)
      generalize hqq : (q ||| p2 i) = qq at HWI HST
      clear hcl hbv hi hr hqq
      by_cases h0 : r = 0
      · subst h0
        rw [show clV i 0 = .iface 178 (.int .i64 (i : Int)) by simp [clV]] at hcell
        rw [if_pos (by rw [an0C]; intro z hz; rw [Nat.zero_testBit] at hz; cases hz)] at HST
        go_wp2_with (first
          | (refine wpList_atB sliceC infoC1 rfl (.tmp _) (.tmp _) rfl b L.length c (Eq.trans rfl HBV.out) _ rfl j rfl hlj ?_)
          | (go_at_call 228; refine (freeMet_c _ _ _).mono ?_; rintro e w5 ⟨rfl, rfl⟩)
          | (go_at_call 229; refine (freeItem_c _ _).mono ?_; rintro e w6 ⟨rfl, rfl⟩)
          | (go_at_call 115; refine (HWI.out _).mono ?_; rintro e w7 ⟨rfl, rfl⟩))
        go_roundw
        case rel => exact ⟨j + 1, by omega, by go_num, by rw [HST.out], HB⟩
        case measure => (simp [intOf] <;> omega)
      · rw [show clV i r = .iface 180 (.agg #[.int .i64 (i : Int), .int .i64 (r : Int)]) by simp [clV, h0]] at hcell
        clear h0
        cases hmet : decide (andNot r s = 0)
        · have HM := hide hmet
          rw [if_neg (of_decide_eq_false hmet)] at HST
          clear hmet HWI
          go_wp2_with (first
            | (refine wpList_atB sliceC infoC1 rfl (.tmp _) (.tmp _) rfl b L.length c (Eq.trans rfl HBV.out) _ rfl j rfl hlj ?_)
            | (go_at_call 230; refine (askMet_c _ r s _ hr128).mono ?_; rw [HM.out]; rintro e w5 ⟨rfl, hb5⟩; have HB5 := hide (HB.out.trans (hb5.mono hsz)); clear hb5))
          go_roundw
          case rel => exact ⟨j + 1, by omega, by go_num, by rw [HST.out], HB5⟩
          case measure => (simp [intOf] <;> omega)
        · have HM := hide hmet
          rw [if_pos (of_decide_eq_true hmet)] at HST
          clear hmet
          go_wp2_with (first
            | (refine wpList_atB sliceC infoC1 rfl (.tmp _) (.tmp _) rfl b L.length c (Eq.trans rfl HBV.out) _ rfl j rfl hlj ?_)
            | (go_at_call 230; refine (askMet_c _ r s _ hr128).mono ?_; rw [HM.out]; rintro e w5 ⟨rfl, hb5⟩; have hz5 := hb5.size; have HB5 := hide (HB.out.trans (hb5.mono hsz)); clear hb5)
            | (go_at_call 231; refine (askItem_c _ _ _).mono ?_; rintro e w6 ⟨rfl, hb6⟩; have HB6 := hide (HB5.out.trans (hb6.mono (by omega))); clear hb6)
            | (go_at_call 115; refine (HWI.out _).mono ?_; rintro e w7 ⟨rfl, rfl⟩))
          go_roundw
          case rel => exact ⟨j + 1, by omega, by go_num, by rw [HST.out], HB6⟩
          case measure => (simp [intOf] <;> omega)
    · have HJ := hide (show j = L.length by omega)
      have hlj' : ¬ ((j : Int) < (L.length : Int)) := by omega
      go_wp2
      go_ret
      exact ⟨ret_i (by rw [HJ.out]; rfl), HB.out⟩
set_option maxHeartbeats 2000000 in
theorem learntBy_c (n : Nat) (v : Value) (base : Nat) (L : List (List Int)) (w : World) (ho : ownC w base v L) (_h1 : 1 ≤ n) (h7 : n ≤ 7) (h60 : L.length ≤ 60) (hok : rowsOk (n : Int) L L.length = true) (hT : tab w) :
    Calls Tryd.prog 107 #[.int .i64 (n : Int), v] w fun e w' => e = .returned (.agg (fam (n : Int) (scF n L))) ∧ Below w.heap.size w w' := by
  have hI := scI_lt h7 hok
  have HFA := hide (lq_fam h7 hI)
  obtain ⟨va, vc, hv⟩ := ho.shape
  subst hv
  have HO := hide ho
  have HLT := hide ho.lt
  have HT := hide hT
  have HB1 := hide (show Below (w.heap.size + 1) (w.alloc (.cells #[.slice va L.length vc] 125)) ((w.alloc (.cells #[.slice va L.length vc] 125)).alloc (.cells (fam 0 noSet) 83)) from (Below.refl _ _).alloc (by simp) _)
  have HF1 := hide (show famAt 83 ((w.alloc (.cells #[.slice va L.length vc] 125)).alloc (.cells (fam 0 noSet) 83)) (w.heap.size + 1) 0 noSet by have h := famAt.new 83 (w.alloc (.cells #[.slice va L.length vc] 125)) 0 noSet; simpa using h)
  clear ho hT
  go_enter Tryd.func107, Tryd.ntmps107
  go_wp2_with (first
    | (refine wpList_alloc_fam zeroT rfl rfl _ (by first | (simp only [World.size_alloc]; rfl) | rfl) ?_)
    | (go_at_call 94; refine (reachedBy_c n 155 #[] #[.pointer (some ⟨w.heap.size, 0, none⟩)] (lqN L) _ h7 ent_learnt1 (HT.out.below (bx_below HB1.out)) (fun a _ => lqTo_lt hI a L.length (Nat.le_refl _)) (fun s w5 hs5 _ hb5 => learnt1_c n _ base L s w.heap.size w5 (HO.out.below (bx_below (bx_to HB1.out hb5)) (fun g hg => (HLT.out g hg).2)) h7 hok h60 (bx_cell (bx_to HB1.out hb5)))).mono ?_; rw [HFA.out]; rintro e w2 ⟨rfl, hb2⟩; have HF2 := hide (HF1.out.below hb2 HF1.out.lt); have HB2 := hide (bx_to HB1.out hb2); clear hb2)
    | (refine wpList_store_fam sizeT rfl (.tmp _) (.tmp _) rfl (w.heap.size + 1) (n : Int) (scF n L) rfl rfl _ _ HF2.out ?_))
  exact bodyPost_ret (v := .agg (fam (n : Int) (scF n L))) (results_fam rowT sizeT rfl _ _ (w.heap.size + 1) rfl _ _ (HF2.out.row _ _)) rfl ⟨rfl, bl_row (bx_below HB2.out) (by omega) _⟩
end Go.Proofs.YtonimjpfaalniaaDoor
