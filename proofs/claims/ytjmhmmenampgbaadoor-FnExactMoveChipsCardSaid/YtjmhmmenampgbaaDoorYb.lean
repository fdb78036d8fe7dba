/- Contracts: whether chips are ones, the specification's. -/
import Derived.Test.YtjmhmmenampgbaaDoorYa
import Derived.Test.YtjmhmmenampgbaaDoorPs
import Derived.Test.YtjmhmmenampgbaaDoorRh
import Derived.Handy
namespace Go.Proofs.YtjmhmmenampgbaaDoor
open Go.RowKit
set_option maxRecDepth 100000
set_option linter.unusedSimpArgs false
/-- The first k rows are good ones. -/
def rwOk (M : List (List Int)) (n k : Nat) : Prop := ∀ i, i < k → (M[i]?.getD []).length = n ∧ (∀ j, j < n → 0 ≤ lnN M i j ∧ lnN M i j ≤ 3) ∧ lnN M i i = 0
theorem rwOk_next {M : List (List Int)} {n k : Nat} (h : rwOk M n k) (h1 : (M[k]?.getD []).length = n) (h2 : allTo 0 3 (M[k]?.getD []) (M[k]?.getD []).length = true) (h3 : (M[k]?.getD [])[k]?.getD 0 = 0) : rwOk M n (k + 1) := by
  intro i hi
  rcases Nat.lt_or_ge i k with h4 | h4
  · exact h i h4
  · rw [show i = k by omega]
    exact ⟨h1, fun j hj => (allTo_iff _ _ _ _).1 h2 j (by omega), h3⟩
def syTo (M : List (List Int)) (n k : Nat) : Prop := ∀ i j, i < k → j < n → lnN M i j = lnN M j i
def syRow (M : List (List Int)) (i k : Nat) : Prop := ∀ j, j < k → lnN M i j = lnN M j i
theorem syTo_next {M : List (List Int)} {n k : Nat} (h : syTo M n k) (h2 : syRow M k n) : syTo M n (k + 1) := by
  intro i j hi hj
  rcases Nat.lt_or_ge i k with h4 | h4
  · exact h i j h4 hj
  · rw [show i = k by omega]; exact h2 j hj
theorem syRow_next {M : List (List Int)} {i k : Nat} (h : syRow M i k) (h2 : lnN M i k = lnN M k i) : syRow M i (k + 1) := by
  intro j hj
  rcases Nat.lt_or_ge j k with h4 | h4
  · exact h j h4
  · rw [show j = k by omega]; exact h2
attribute [local irreducible] p2 low memB risB
set_option maxHeartbeats 4000000 in
theorem waGood_c (v u : Value) (M : List (List Int)) (A : List Int) (w : World) (hl : rows w.heap.size w v M) (hs : small2 M) (hu : ints w.heap.size w u A) (hlen : A.length < 1000000000) :
    Calls Tryd.prog 41 #[.agg #[v, u]] w fun e w' => e = .returned (.bool (cpB M A)) ∧ Below w.heap.size w w' := by
  have HU := hide (hu.alloc (.cells #[v, u] 29))
  have HL := hide (hl.alloc (.cells #[v, u] 29))
  have HB := hide ((Below.refl w.heap.size w).alloc (Nat.le_refl _) (.cells #[v, u] 29))
  have HAL := hide ((l1All_c u A 0 30 (w.alloc (.cells #[v, u] 29)) (HU.out.mono (by simp)) hlen))
  have hM := hs.1
  have HS := hide hs
  clear hl hu hs
  by_cases hin : 1 ≤ (A.length : Int) ∧ (A.length : Int) ≤ 5
  · have HIN := hide (fun w1 => by have := l1In_c (A.length : Int) 1 5 w1; rw [decide_eq_true hin] at this; exact this)
    by_cases hml : M.length = A.length
    · have hmn : ((M.length : Int) != (A.length : Int)) = false := by simp [hml]
      cases hal : allTo 0 30 A A.length
      · rw [hal] at HAL
        rw [show cpB M A = false from cpB_no.2 fun h => by
          rw [(allTo_iff _ _ _ _).2 fun j hj => h.a0 j hj] at hal; cases hal]
        clear hal
        go_enter Tryd.func41, Tryd.ntmps41
        go_wp2_with (first
          | (go_at_call 49; refine (HIN.out _).mono ?_; rintro e w1 ⟨rfl, rfl⟩)
          | (refine wpList_len sliceT rfl (.tmp _) rfl u rfl w.heap.size A HU.out ?_)
          | (refine wpList_len2 sliceT2 rfl (.tmp _) rfl v rfl w.heap.size M HL.out ?_)
          | (go_at_call 64; refine HAL.out.mono ?_; rintro e w1 ⟨rfl, rfl⟩))
        go_ret
        exact ⟨rfl, HB.out⟩
      · rw [hal] at HAL
        have HA0 := hide ((allTo_iff _ _ _ _).1 hal)
        clear hal
        go_enter Tryd.func41, Tryd.ntmps41
        go_wp2_with (first
          | (go_at_call 49; refine (HIN.out _).mono ?_; rintro e w1 ⟨rfl, rfl⟩)
          | (refine wpList_len sliceT rfl (.tmp _) rfl u rfl w.heap.size A HU.out ?_)
          | (refine wpList_len2 sliceT2 rfl (.tmp _) rfl v rfl w.heap.size M HL.out ?_)
          | (go_at_call 64; refine HAL.out.mono ?_; rintro e w1 ⟨rfl, rfl⟩))
        go_loop [4, 33] (fun sv iv => ∃ k : Nat, k ≤ A.length ∧ iv = .int .i64 (k : Int) ∧ sv = .int .i64 (smF (atN A) k) ∧ Hid (rwOk M A.length k)) (fun _ iv => A.length - (intOf iv).toNat)
        case atStart => exact ⟨0, Nat.zero_le _, rfl, rfl, fun i hi => by omega⟩
        case round =>
          obtain ⟨k, hk, rfl, rfl, HOK⟩ := hrel
          by_cases hlt : k < A.length
          · have hlt' : (k : Int) < (M.length : Int) := by omega
            have hltM : k < M.length := by omega
            have hrl2 := HS.out.row k hltM
            have h1 : -1000 ≤ smF (atN A) k ∧ smF (atN A) k ≤ 1000 := by
              have h2 := smF_lo (f := atN A) (k := k) fun i hi => (HA0.out i (by omega)).1
              have h3 := smF_hi (f := atN A) (c := 30) (k := k) fun i hi => (HA0.out i (by omega)).2
              omega
            have h2 := HA0.out k hlt
            have HNX := hide (show smF (atN A) (k + 1) = smF (atN A) k + A[k]?.getD 0 from rfl)
            have HRN := hide (fun a b c => rwOk_next (n := A.length) HOK.out a b c)
            have HRW := hide (show rwOk M A.length (k + 1) → (M[k]?.getD []).length = A.length from fun h => (h k (by omega)).1)
            have HRA := hide (show rwOk M A.length (k + 1) → allTo 0 3 (M[k]?.getD []) A.length = true from fun h => (allTo_iff _ _ _ _).2 (h k (by omega)).2.1)
            have HRD := hide (show rwOk M A.length (k + 1) → (M[k]?.getD [])[k]?.getD 0 = 0 from fun h => (h k (by omega)).2.2)
            have HCP := hide (show ¬ rwOk M A.length (k + 1) → cpB M A = false from fun h => cpB_no.2 fun hp => h fun i hi => ⟨hp.rl i (by omega), fun j hj => hp.l0 i j (by omega) hj, hp.dz i (by omega)⟩)
            generalize hx : A[k]?.getD 0 = x at h2 HNX
            have HX := hide hx
            generalize smF (atN A) k = sm at h1 HNX
            generalize hrr : M[k]?.getD [] = R at *
            have HRR := hide hrr
            have hw : IntKind.i64.wrap (sm + x) = sm + x := IntWalk.i64_in _ (by omega)
            clear hx hrr
            by_cases hrl : R.length = A.length
            · have hrn : ((R.length : Int) != (A.length : Int)) = false := by simp [hrl]
              have HRN2 := hide (HRN.out hrl)
              cases hra : allTo 0 3 R R.length
              · have HF := hide (HCP.out fun h => by have h2 := HRA.out h; rw [← hrl, hra] at h2; cases h2)
                have HRL := hide (fun (z : Value) (w1 : World) (hz : ints w1.heap.size w1 z R) => by have := l1All_c z R 0 3 w1 hz (by omega); rw [hra] at this; exact this)
                clear hra
                go_wp2_with (first
                  | (refine wpList_at2 sliceT2 rowS2 rfl (.tmp _) (.tmp _) rfl v rfl _ rfl k rfl w.heap.size M HL.out hltM ?_; intro ad2 r hcell2 hblk2 hr; rw [HRR.out] at hr; have HR := hide hr; clear hr)
                  | (refine wpList_at sliceT intS rfl (.tmp _) (.tmp _) rfl u rfl k rfl w.heap.size A HU.out hlt ?_; intro ad hcell hblk; rw [HX.out] at hcell)
                  | (refine wpList_len sliceT rfl (.tmp _) rfl r rfl w.heap.size R HR.out ?_)
                  | (go_at_call 64; refine (HRL.out r _ (HR.out.mono (by simp))).mono ?_; rintro e w1 ⟨rfl, rfl⟩))
                go_ret
                exact ⟨ret_b HF.out.symm, HB.out⟩
              · have HRN3 := hide (HRN2.out hra)
                have HRL := hide (fun (z : Value) (w1 : World) (hz : ints w1.heap.size w1 z R) => by have := l1All_c z R 0 3 w1 hz (by omega); rw [hra] at this; exact this)
                have hltR : k < R.length := by omega
                generalize hy : R[k]?.getD 0 = y at HRN3 HRD
                have HY := hide hy
                clear hra hy
                by_cases hy0 : y = 0
                · subst hy0
                  have HOK2 := hide (HRN3.out rfl)
                  go_wp2_with (first
                    | (refine wpList_at2 sliceT2 rowS2 rfl (.tmp _) (.tmp _) rfl v rfl _ rfl k rfl w.heap.size M HL.out hltM ?_; intro ad2 r hcell2 hblk2 hr; rw [HRR.out] at hr; have HR := hide hr; clear hr)
                    | (refine wpList_at sliceT intS rfl (.tmp _) (.tmp _) rfl u rfl k rfl w.heap.size A HU.out hlt ?_; intro ad hcell hblk; rw [HX.out] at hcell)
                    | (refine wpList_len sliceT rfl (.tmp _) rfl r rfl w.heap.size R HR.out ?_)
                    | (refine wpList_at sliceT intS rfl (.tmp _) (.tmp _) rfl r rfl k rfl w.heap.size R HR.out hltR ?_; intro ad3 hcell3 hblk3; rw [HY.out] at hcell3)
                    | (go_at_call 64; refine (HRL.out r _ (HR.out.mono (by simp))).mono ?_; rintro e w1 ⟨rfl, rfl⟩))
                  go_round
                  case rel => exact ⟨k + 1, by omega, by go_num, by rw [HNX.out], HOK2⟩
                  case measure => (simp [intOf] <;> omega)
                · have HF := hide (HCP.out fun h => hy0 (HRD.out h))
                  have hyb : (y != 0) = true := by simp [hy0]
                  go_wp2_with (first
                    | (refine wpList_at2 sliceT2 rowS2 rfl (.tmp _) (.tmp _) rfl v rfl _ rfl k rfl w.heap.size M HL.out hltM ?_; intro ad2 r hcell2 hblk2 hr; rw [HRR.out] at hr; have HR := hide hr; clear hr)
                    | (refine wpList_at sliceT intS rfl (.tmp _) (.tmp _) rfl u rfl k rfl w.heap.size A HU.out hlt ?_; intro ad hcell hblk; rw [HX.out] at hcell)
                    | (refine wpList_len sliceT rfl (.tmp _) rfl r rfl w.heap.size R HR.out ?_)
                    | (refine wpList_at sliceT intS rfl (.tmp _) (.tmp _) rfl r rfl k rfl w.heap.size R HR.out hltR ?_; intro ad3 hcell3 hblk3; rw [HY.out] at hcell3)
                    | (go_at_call 64; refine (HRL.out r _ (HR.out.mono (by simp))).mono ?_; rintro e w1 ⟨rfl, rfl⟩))
                  go_ret
                  exact ⟨ret_b HF.out.symm, HB.out⟩
            · have hrn : ((R.length : Int) != (A.length : Int)) = true := by simp; omega
              have HF := hide (HCP.out fun h => hrl (HRW.out h))
              go_wp2_with (first
                | (refine wpList_at2 sliceT2 rowS2 rfl (.tmp _) (.tmp _) rfl v rfl _ rfl k rfl w.heap.size M HL.out hltM ?_; intro ad2 r hcell2 hblk2 hr; rw [HRR.out] at hr; have HR := hide hr; clear hr)
                | (refine wpList_at sliceT intS rfl (.tmp _) (.tmp _) rfl u rfl k rfl w.heap.size A HU.out hlt ?_; intro ad hcell hblk; rw [HX.out] at hcell)
                | (refine wpList_len sliceT rfl (.tmp _) rfl r rfl w.heap.size R HR.out ?_))
              go_ret
              exact ⟨ret_b HF.out.symm, HB.out⟩
          · have hkn : k = A.length := by omega
            subst hkn
            have hlt' : ¬ ((A.length : Int) < (M.length : Int)) := by omega
            have hsm : -1000 ≤ smF (atN A) A.length ∧ smF (atN A) A.length ≤ 1000 := by
              have h2 := smF_lo (f := atN A) (k := A.length) fun i hi => (HA0.out i (by omega)).1
              have h3 := smF_hi (f := atN A) (c := 30) (k := A.length) fun i hi => (HA0.out i (by omega)).2
              omega
            have HKP := hide HOK.out
            have HSQ := hide (show ¬ syTo M A.length A.length → cpB M A = false from fun h => cpB_no.2 fun hp => h fun i j hi hj => hp.sy i j hi hj)
            have HYS := hide (show syTo M A.length A.length → smF (atN A) A.length ≤ 30 → cpB M A = true from fun h hm => cpB_iff.2 ⟨by omega, by omega, hml, HA0.out, fun i hi => (HKP.out i hi).1, fun i j hi hj => (HKP.out i hi).2.1 j hj, fun i hi => (HKP.out i hi).2.2, fun i j hi hj => h i j hi hj, hm⟩)
            have HNO := hide (show ¬ smF (atN A) A.length ≤ 30 → cpB M A = false from fun h => cpB_no.2 fun hp => h hp.sm)
            generalize smF (atN A) A.length = sm at *
            go_wp2_with (first
              | (refine wpList_len2 sliceT2 rfl (.tmp _) rfl v rfl w.heap.size M HL.out ?_))
            go_loop [65] (fun iv => ∃ k : Nat, k ≤ A.length ∧ iv = .int .i64 (k : Int) ∧ Hid (syTo M A.length k)) (fun iv => A.length - (intOf iv).toNat)
            case atStart => exact ⟨0, Nat.zero_le _, rfl, fun i j hi => by omega⟩
            case round =>
              obtain ⟨k, hk, rfl, HSY⟩ := hrel
              by_cases hlt : k < A.length
              · have hlt' : (k : Int) < (M.length : Int) := by omega
                have hltM : k < M.length := by omega
                have hrow := (HKP.out k hlt).1
                have HROW := hide (fun j hj => (HKP.out j hj).1)
                have HIN2 := hide (fun h => syTo_next (M := M) (n := A.length) HSY.out (k := k) h)
                have HIO := hide (show ¬ syRow M k A.length → cpB M A = false from fun h => HSQ.out fun h2 => h fun j hj => h2 k j hlt hj)
                generalize hrr : M[k]?.getD [] = R at *
                have HRR := hide hrr
                have hrl : R.length = A.length := hrow
                clear hrr hrow
                go_wp2_with (first
                  | (refine wpList_at2 sliceT2 rowS2 rfl (.tmp _) (.tmp _) rfl v rfl _ rfl k rfl w.heap.size M HL.out hltM ?_; intro ad2 r hcell2 hblk2 hr; rw [HRR.out] at hr; have HR := hide hr; clear hr)
                  | (refine wpList_len sliceT rfl (.tmp _) rfl r rfl w.heap.size R HR.out ?_))
                go_loop [72] (fun iv => ∃ j : Nat, j ≤ A.length ∧ iv = .int .i64 (j : Int) ∧ Hid (syRow M k j)) (fun iv => A.length - (intOf iv).toNat)
                case atStart => exact ⟨0, Nat.zero_le _, rfl, fun i hi => by omega⟩
                case round =>
                  obtain ⟨j, hj, rfl, HSR⟩ := hrel
                  by_cases hjt : j < A.length
                  · have hjt' : (j : Int) < (R.length : Int) := by omega
                    have hjR : j < R.length := by omega
                    have hjM : j < M.length := by omega
                    have hr2 := HROW.out j hjt
                    have HE1 := hide (show lnN M k j = R[j]?.getD 0 by unfold lnN; rw [HRR.out])
                    have HN3 := hide (fun h => syRow_next (M := M) (i := k) HSR.out (k := j) h)
                    have HNN := hide (show ¬ lnN M k j = lnN M j k → cpB M A = false from fun h => HIO.out fun h2 => h (h2 j hjt))
                    have HE2 := hide (show lnN M j k = (M[j]?.getD [])[k]?.getD 0 from rfl)
                    generalize hqq : M[j]?.getD [] = R2 at *
                    have HQQ := hide hqq
                    have hkR2 : k < R2.length := by omega
                    generalize hx : R[j]?.getD 0 = x at HE1
                    generalize hy : R2[k]?.getD 0 = y at HE2
                    have HX := hide hx
                    have HY := hide hy
                    rw [HE1.out, HE2.out] at HN3 HNN
                    clear hqq hx hy hr2
                    by_cases hxy : x = y
                    · have hyx : (y != x) = false := by simp [hxy]
                      have HN4 := hide (HN3.out hxy)
                      clear hxy
                      go_wp2_with (first
                        | (refine wpList_at sliceT intS rfl (.tmp _) (.tmp _) rfl r rfl j rfl w.heap.size R HR.out hjR ?_; intro ad3 hcell3 hblk3; rw [HX.out] at hcell3)
                        | (refine wpList_at2 sliceT2 rowS2 rfl (.tmp _) (.tmp _) rfl v rfl _ rfl j rfl w.heap.size M HL.out hjM ?_; intro ad4 r2 hcell4 hblk4 hr4; rw [HQQ.out] at hr4; have HR4 := hide hr4; clear hr4)
                        | (refine wpList_at sliceT intS rfl (.tmp _) (.tmp _) rfl r2 rfl k rfl w.heap.size R2 HR4.out hkR2 ?_; intro ad5 hcell5 hblk5; rw [HY.out] at hcell5))
                      go_round
                      case rel => exact ⟨j + 1, by omega, by go_num, HN4⟩
                      case measure => (simp [intOf] <;> omega)
                    · have hyx : (y != x) = true := by simp; omega
                      have HF := hide (HNN.out hxy)
                      clear hxy
                      go_wp2_with (first
                        | (refine wpList_at sliceT intS rfl (.tmp _) (.tmp _) rfl r rfl j rfl w.heap.size R HR.out hjR ?_; intro ad3 hcell3 hblk3; rw [HX.out] at hcell3)
                        | (refine wpList_at2 sliceT2 rowS2 rfl (.tmp _) (.tmp _) rfl v rfl _ rfl j rfl w.heap.size M HL.out hjM ?_; intro ad4 r2 hcell4 hblk4 hr4; rw [HQQ.out] at hr4; have HR4 := hide hr4; clear hr4)
                        | (refine wpList_at sliceT intS rfl (.tmp _) (.tmp _) rfl r2 rfl k rfl w.heap.size R2 HR4.out hkR2 ?_; intro ad5 hcell5 hblk5; rw [HY.out] at hcell5))
                      go_ret
                      exact ⟨ret_b HF.out.symm, HB.out⟩
                  · have hjn : j = A.length := by omega
                    subst hjn
                    have hjt' : ¬ ((A.length : Int) < (R.length : Int)) := by omega
                    have HN4 := hide (HIN2.out HSR.out)
                    go_wp2
                    go_round
                    case rel => exact ⟨k + 1, by omega, by go_num, HN4⟩
                    case measure => (simp [intOf] <;> omega)
              · have hkn : k = A.length := by omega
                subst hkn
                have hlt' : ¬ ((A.length : Int) < (M.length : Int)) := by omega
                by_cases h30 : sm ≤ 30
                · have HF := hide (HYS.out HSY.out h30)
                  go_wp2
                  go_ret
                  exact ⟨ret_b HF.out.symm, HB.out⟩
                · have HF := hide (HNO.out (by omega))
                  go_wp2
                  go_ret
                  exact ⟨ret_b HF.out.symm, HB.out⟩
    · rw [show cpB M A = false from cpB_no.2 fun h => hml h.ml]
      have hmn : ((M.length : Int) != (A.length : Int)) = true := by simp; omega
      go_enter Tryd.func41, Tryd.ntmps41
      go_wp2_with (first
        | (go_at_call 49; refine (HIN.out _).mono ?_; rintro e w1 ⟨rfl, rfl⟩)
        | (refine wpList_len sliceT rfl (.tmp _) rfl u rfl w.heap.size A HU.out ?_)
        | (refine wpList_len2 sliceT2 rfl (.tmp _) rfl v rfl w.heap.size M HL.out ?_)
        )
      go_ret
      exact ⟨rfl, HB.out⟩
  · have HIN := hide (fun w1 => by have := l1In_c (A.length : Int) 1 5 w1; rw [decide_eq_false hin] at this; exact this)
    rw [show cpB M A = false from cpB_no.2 fun h => hin ⟨by have := h.n1; omega, by have := h.n5; omega⟩]
    go_enter Tryd.func41, Tryd.ntmps41
    go_wp2_with (first
      | (go_at_call 49; refine (HIN.out _).mono ?_; rintro e w1 ⟨rfl, rfl⟩)
      | (refine wpList_len sliceT rfl (.tmp _) rfl u rfl w.heap.size A HU.out ?_)
      | (refine wpList_len2 sliceT2 rfl (.tmp _) rfl v rfl w.heap.size M HL.out ?_)
      )
    go_ret
    exact ⟨rfl, HB.out⟩
end Go.Proofs.YtjmhmmenampgbaaDoor
