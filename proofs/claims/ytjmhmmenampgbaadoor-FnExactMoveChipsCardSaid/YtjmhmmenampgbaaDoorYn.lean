/- Contracts: piles of chips, the program's: pilesOf. -/
import Derived.Test.YtjmhmmenampgbaaDoorYm
import Derived.Test.YtjmhmmenampgbaaDoorTw
import Derived.Deep.Cut
namespace Go.Proofs.YtjmhmmenampgbaaDoor
open Go.RowKit
set_option maxRecDepth 100000
set_option linter.unusedSimpArgs false
theorem ent_areUpTo : enters Tryd.prog 65 := enters_of Tryd.func65 (by kernel_rfl) (by kernel_rfl)
attribute [local irreducible] p2 low memB risB
set_option maxHeartbeats 8000000 in
theorem pilesOf_c (v u : Value) (M : List (List Int)) (A : List Int) (w : World) (hl : rows w.heap.size w v M) (hs : small2 M) (hu : ints w.heap.size w u A) (hlen : A.length < 1000000000) :
    Calls Tryd.prog 44 #[.agg #[v, u]] w fun e w' => e = .returned (.tuple #[.agg (rowV (plR (plN M A) (plL M A) (plA M A))), .bool (cpB M A)]) ∧ Below w.heap.size w w' := by
  have hb0 := ((((Below.refl w.heap.size w).alloc (Nat.le_refl _) (.cells #[v, u] 29)).alloc (by simp) (.cells (rowV (plR 0 zL zA)) 55)).alloc (by simp; omega) (.cells (rowV (plR 0 zL zA)) 55))
  have HB0 := hide (bl_row hb0 (show w.heap.size ≤ w.heap.size + 1 + 1 by omega) (rowV (plR A.length zL zA)))
  have HC0 := hide (show ((((w.alloc (.cells #[v, u] 29)).alloc (.cells (rowV (plR 0 zL zA)) 55)).alloc (.cells (rowV (plR 0 zL zA)) 55)).setRow (w.heap.size + 1 + 1) (rowV (plR A.length zL zA))).heap[w.heap.size]? = some (.cells #[v, u] 29) from (hp_rowO _ _ _ _ (by omega)).trans ((hp_old _ _ _ (by simp; omega)).trans ((hp_old _ _ _ (by simp)).trans (hp_last _ _))))
  have HZ2 := hide (show pkAt (((w.alloc (.cells #[v, u] 29)).alloc (.cells (rowV (plR 0 zL zA)) 55)).alloc (.cells (rowV (plR 0 zL zA)) 55)) (w.heap.size + 1 + 1) 0 zL zA by have h := pkAt.new ((w.alloc (.cells #[v, u] 29)).alloc (.cells (rowV (plR 0 zL zA)) 55)) 0 zL zA; simpa using h)
  have HR0 := hide (((show pkAt ((w.alloc (.cells #[v, u] 29)).alloc (.cells (rowV (plR 0 zL zA)) 55)) (w.heap.size + 1) 0 zL zA by have h := pkAt.new (w.alloc (.cells #[v, u] 29)) 0 zL zA; simpa using h).alloc (.cells (rowV (plR 0 zL zA)) 55)).rowO (w.heap.size + 1 + 1) (by omega) (rowV (plR A.length zL zA)))
  have HK0 := hide (HZ2.out.row (m := A.length) (K := zL) (b := zA))
  have hzz : ((((w.alloc (.cells #[v, u] 29)).alloc (.cells (rowV (plR 0 zL zA)) 55)).alloc (.cells (rowV (plR 0 zL zA)) 55)).setRow (w.heap.size + 1 + 1) (rowV (plR A.length zL zA))).heap.size = w.heap.size + 3 := by simp [World.setRow]
  have HU := hide (((hu.alloc (.cells #[v, u] 29)).alloc (.cells (rowV (plR 0 zL zA)) 55)))
  have HU0 := hide (hu.below HB0.out (Nat.le_refl _))
  have HL0 := hide (hl.below HB0.out (Nat.le_refl _))
  have HS := hide hs
  have hM := hs.1
  have HNO := hide (show cpB M A = false → Value.tuple #[.agg (rowV (plR (plN M A) (plL M A) (plA M A))), .bool (cpB M A)] = .tuple #[.agg (rowV (plR 0 zL zA)), .bool false] from fun h => by rw [plN_no h, plL_no h, plA_no h, h]; rfl)
  clear hl hu hs hb0
  have c1 : (((w.alloc (.cells #[v, u] 29)).alloc (.cells (rowV (plR 0 zL zA)) 55))).cell? ⟨w.heap.size, 1, none⟩ = some u := by rw [hp_cell ((hp_old _ _ _ (by simp)).trans (hp_last w (.cells #[v, u] 29)))]; rfl
  go_enter Tryd.func44, Tryd.ntmps44
  go_upto_region 2 with (first
    | (refine wpList_alloc_csY zeroPK rfl rfl _ (by first | (simp only [World.size_alloc]; rfl) | rfl) ?_)
    | (refine wpList_len sliceT rfl (.tmp _) rfl u rfl w.heap.size A HU.out ?_)
    | (refine wpList_build_pk rfl (.tmp _) rfl A.length rfl ?_)
    | (refine wpList_store_csY (sizePKl A.length zL zA) rfl (.tmp _) (.tmp _) rfl (w.heap.size + 1 + 1) rfl rfl _ HZ2.out (by simp [rowV, plR_len]) (rowV_one _) ?_))
  generalize ((((w.alloc (.cells #[v, u] 29)).alloc (.cells (rowV (plR 0 zL zA)) 55)).alloc (.cells (rowV (plR 0 zL zA)) 55)).setRow (w.heap.size + 1 + 1) (rowV (plR A.length zL zA))) = W at *
  clear HZ2 HU c1
  have c0 := HK0.out.cell
  have k0 : W.cell? ⟨w.heap.size, 0, none⟩ = some v := by rw [hp_cell HC0.out]; rfl
  have k1 : W.cell? ⟨w.heap.size, 1, none⟩ = some u := by rw [hp_cell HC0.out]; rfl
  have HBX := HB0
  have HR1 := HR0
  by_cases h1 : A.length < 1
  · have HF := hide (HNO.out (cpB_no.2 fun h => by have := h.n1; omega))
    have hi1 : (A.length : Int) < 1 := by omega
    go_wp2_with (first
      | (refine wpList_build_pk0 rfl rfl ?_)
      | (refine wpList_store_csY (sizePKl 0 zL zA) rfl (.tmp _) (.tmp _) rfl (w.heap.size + 1) rfl rfl _ HR0.out (by simp [rowV, plR_len]) (rowV_one _) ?_))
    refine (show bodyPost _ _ _ Exit.ret _ _ from ?_)
    refine bodyPost_ret (v := .tuple #[.agg (rowV (plR 0 zL zA)), .bool false]) (results_cs2Y rowPK (sizePKl 0 zL zA) (fn := Tryd.f44) (p := 2) (q := 3) rfl _ _ (w.heap.size + 1) rfl (HR1.out.row (m := 0) (K := zL) (b := zA))) rfl ⟨by rw [HF.out], ?_⟩
    exact bl_row HBX.out (by omega) _
  · have hi1 : ¬ (A.length : Int) < 1 := by omega
    by_cases h5 : 5 < A.length
    · have HF := hide (HNO.out (cpB_no.2 fun h => by have := h.n5; omega))
      have hi2 : (5 : Int) < (A.length : Int) := by omega
      go_wp2_with (first
        | (refine wpList_build_pk0 rfl rfl ?_)
        | (refine wpList_store_csY (sizePKl 0 zL zA) rfl (.tmp _) (.tmp _) rfl (w.heap.size + 1) rfl rfl _ HR0.out (by simp [rowV, plR_len]) (rowV_one _) ?_))
      refine (show bodyPost _ _ _ Exit.ret _ _ from ?_)
      refine bodyPost_ret (v := .tuple #[.agg (rowV (plR 0 zL zA)), .bool false]) (results_cs2Y rowPK (sizePKl 0 zL zA) (fn := Tryd.f44) (p := 2) (q := 3) rfl _ _ (w.heap.size + 1) rfl (HR1.out.row (m := 0) (K := zL) (b := zA))) rfl ⟨by rw [HF.out], ?_⟩
      exact bl_row HBX.out (by omega) _
    · have hi2 : ¬ (5 : Int) < (A.length : Int) := by omega
      by_cases hml : M.length = A.length
      · have hmn : ((M.length : Int) != (A.length : Int)) = false := by simp [hml]
        have HZK := hide (show pkAt W (w.heap.size + 1 + 1) A.length (lnK M A.length 0) zA by rw [show lnK M A.length 0 = zL by funext i j; simp [lnK, zL]]; exact HK0.out)
        go_wp2_with (first
          | (refine wpList_len2 sliceT2 rfl (.tmp _) rfl v rfl w.heap.size M HL0.out ?_))
        clear c0 k0 k1
        go_loopw [31] (fun iv wr => ∃ k : Nat, k ≤ A.length ∧ iv = .int .i64 (k : Int) ∧ Hid (pkAt wr (w.heap.size + 1 + 1) A.length (lnK M A.length k) zA) ∧ Hid (∀ i, i < k → (M[i]?.getD []).length = A.length ∧ allTo 0 3 (M[i]?.getD []) A.length = true) ∧ Hid (Below (w.heap.size + 2) W wr)) (fun iv _ => A.length - (intOf iv).toNat)
        case atStart => exact ⟨0, Nat.zero_le _, rfl, HZK, fun i hi => by omega, Below.refl _ _⟩
        case round =>
          obtain ⟨k, hk, rfl, HK, HOK, HB⟩ := hrel
          have hs := HB.out.size
          have HLW := hide (HL0.out.below (HB.out.mono (by omega)) (Nat.le_refl _))
          have HR1 := hide (HR0.out.below HB.out (by omega))
          have HBW := hide (HB0.out.trans (HB.out.mono (by omega)))
          have c2 := HK.out.cell
          by_cases hlt : k < A.length
          · have hltM : k < M.length := by omega
            have hlt' : (k : Int) < (M.length : Int) := by omega
            have hlt5 : (k : Int) < 5 := by omega
            have hrl := HS.out.row k hltM
            have HAU := hide (fun v1 w1 h => areUpTo_c 3 v1 (M[k]?.getD []) w1 h (by omega))
            have HLI := hide (fun h => spl_line M A.length k (by omega) (by omega) h)
            have HNX := hide (show (M[k]?.getD []).length = A.length → allTo 0 3 (M[k]?.getD []) (M[k]?.getD []).length = true → ∀ i, i < k + 1 → (M[i]?.getD []).length = A.length ∧ allTo 0 3 (M[i]?.getD []) A.length = true from fun h1 h2 i hi => by
              rcases Nat.lt_or_ge i k with h | h
              · exact HOK.out i h
              · rw [show i = k by omega]; rw [h1] at h2; exact ⟨h1, h2⟩)
            have HWR := hide (show ¬ ((M[k]?.getD []).length = A.length ∧ allTo 0 3 (M[k]?.getD []) (M[k]?.getD []).length = true) → cpB M A = false from fun h => cpB_no.2 fun hp => h ⟨hp.rl k hlt, (allTo_iff _ _ _ _).2 fun j hj => hp.l0 k j hlt (by rw [hp.rl k hlt] at hj; exact hj)⟩)
            generalize hrr : M[k]?.getD [] = R at *
            have HRR := hide hrr
            clear hrr
            by_cases hrn : R.length = A.length
            · have hne : ((R.length : Int) != (A.length : Int)) = false := by simp [hrn]
              cases ha : allTo 0 3 R R.length
              · have HF := hide (HNO.out (HWR.out fun h => by rw [h.2] at ha; cases ha))
                rw [ha] at HAU
                clear ha
                go_wp2_with (first
                  | (refine wpList_at2 sliceT2 rowS2 rfl (.tmp _) (.tmp _) rfl v rfl _ rfl k rfl w.heap.size M HLW.out hltM ?_; intro ad2 r hcell2 hblk2 hr; rw [HRR.out] at hr; have HRI := hide (hr.mono (show w.heap.size ≤ wr.heap.size by omega)); clear hr)
                  | (refine wpList_len sliceT rfl (.tmp _) rfl r rfl wr.heap.size R HRI.out ?_)
                  | (go_at_call 65; refine (HAU.out r wr HRI.out).mono ?_; rintro e W1 ⟨rfl, hb1⟩; have hz1 := hb1.size; have HR1b := hide (HR1.out.below hb1 (by omega)); have HBWb := hide (HBW.out.trans (hb1.mono (by omega))); clear hb1)
                  | (refine wpList_build_pk0 rfl rfl ?_)
                  | (refine wpList_store_csY (sizePKl 0 zL zA) rfl (.tmp _) (.tmp _) rfl (w.heap.size + 1) rfl rfl _ HR1b.out (by simp [rowV, plR_len]) (rowV_one _) ?_))
                have HBX := HBWb
                have HR1 := HR1b
                refine (show bodyPost _ _ _ Exit.ret _ _ from ?_)
                refine bodyPost_ret (v := .tuple #[.agg (rowV (plR 0 zL zA)), .bool false]) (results_cs2Y rowPK (sizePKl 0 zL zA) (fn := Tryd.f44) (p := 2) (q := 3) rfl _ _ (w.heap.size + 1) rfl (HR1.out.row (m := 0) (K := zL) (b := zA))) rfl ⟨by rw [HF.out], ?_⟩
                exact bl_row HBX.out (by omega) _
              · have HOK2 := hide (HNX.out hrn ha)
                have HLI2 := hide (HLI.out hrn)
                rw [ha] at HAU
                clear ha
                go_wp2_with (first
                  | (refine wpList_at2 sliceT2 rowS2 rfl (.tmp _) (.tmp _) rfl v rfl _ rfl k rfl w.heap.size M HLW.out hltM ?_; intro ad2 r hcell2 hblk2 hr; rw [HRR.out] at hr; have HRI := hide (hr.mono (show w.heap.size ≤ wr.heap.size by omega)); obtain ⟨adr, rc, hrc, hsb, hsrc⟩ := ints_srcY HRI.out (by omega); rw [hrn] at hrc; subst hrc; have HSB := hide hsb; have HSRC := hide hsrc; clear hr hsrc hsb)
                  | (refine wpList_len sliceT rfl (.tmp _) rfl _ rfl wr.heap.size R HRI.out ?_)
                  | (go_at_call 65; refine (HAU.out _ wr HRI.out).mono ?_; rintro e W1 ⟨rfl, hb1⟩; have hz1 := hb1.size; have HK1 := hide (HK.out.below hb1 (by omega)); have hcp := copyY 55 W1 (w.heap.size + 1 + 1) (1 + k * 5) 5 _ R adr A.length rc hrn.symm HK1.out (by omega) (by rw [plR_len]; omega) (fun j z hj => (hb1.cell (HSB.out j)).trans (HSRC.out j z hj)); have HB1 := hide (HB.out.trans (hb1.mono (by omega))); rw [HLI2.out] at hcp; clear hb1))
                go_roundw
                case rel => exact ⟨k + 1, by omega, by go_num, HK1.out.row, HOK2, bl_row HB1.out (by omega) _⟩
                case measure => (simp [intOf] <;> omega)
            · have HF := hide (HNO.out (HWR.out fun h => hrn h.1))
              have hne : ((R.length : Int) != (A.length : Int)) = true := by simp; omega
              go_wp2_with (first
                | (refine wpList_at2 sliceT2 rowS2 rfl (.tmp _) (.tmp _) rfl v rfl _ rfl k rfl w.heap.size M HLW.out hltM ?_; intro ad2 r hcell2 hblk2 hr; rw [HRR.out] at hr; have HRI := hide (hr.mono (show w.heap.size ≤ wr.heap.size by omega)); clear hr)
                | (refine wpList_len sliceT rfl (.tmp _) rfl r rfl wr.heap.size R HRI.out ?_)
                | (refine wpList_build_pk0 rfl rfl ?_)
                | (refine wpList_store_csY (sizePKl 0 zL zA) rfl (.tmp _) (.tmp _) rfl (w.heap.size + 1) rfl rfl _ HR1.out (by simp [rowV, plR_len]) (rowV_one _) ?_))
              have HBX := HBW
              refine (show bodyPost _ _ _ Exit.ret _ _ from ?_)
              refine bodyPost_ret (v := .tuple #[.agg (rowV (plR 0 zL zA)), .bool false]) (results_cs2Y rowPK (sizePKl 0 zL zA) (fn := Tryd.f44) (p := 2) (q := 3) rfl _ _ (w.heap.size + 1) rfl (HR1.out.row (m := 0) (K := zL) (b := zA))) rfl ⟨by rw [HF.out], ?_⟩
              exact bl_row HBX.out (by omega) _
          · have hkn : k = A.length := by omega
            subst hkn
            have hlt' : ¬ ((A.length : Int) < (M.length : Int)) := by omega
            have HUW := hide ((HU0.out.below (HB.out.mono (by omega)) (Nat.le_refl _)).mono (show w.heap.size ≤ wr.heap.size by omega))
            have HCW := hide ((HB.out.block w.heap.size (by omega)).trans HC0.out)
            have k1 : wr.cell? ⟨w.heap.size, 1, none⟩ = some u := by rw [hp_cell HCW.out]; rfl
            have HAU := hide (fun w1 h => areUpTo_c 30 u A w1 h hlen)
            have HCPW := hide (show (allTo 0 30 A A.length = true → smF (atN A) A.length ≤ 30 → LnSy (lnK M A.length A.length) → ChP M A) from fun h2 h3 h4 => cp_way.2 ⟨by omega, by omega, hml, HOK.out, h2, h3, h4⟩)
            have HC1 := hide (show ¬ allTo 0 30 A A.length = true → cpB M A = false from fun h => cpB_no.2 fun hp => h (cp_way.1 hp).2.2.2.2.1)
            have HC2 := hide (show ¬ smF (atN A) A.length ≤ 30 → cpB M A = false from fun h => cpB_no.2 fun hp => h hp.sm)
            have HC3 := hide (show ¬ LnSy (lnK M A.length A.length) → cpB M A = false from fun h => cpB_no.2 fun hp => h (cp_way.1 hp).2.2.2.2.2.2)
            have HAL := hide (fun w1 => areLines_c A.length (lnK M A.length A.length) zA w1)
            cases ha : allTo 0 30 A A.length
            · have HF := hide (HNO.out (HC1.out (by rw [ha]; decide)))
              rw [ha] at HAU
              clear ha
              go_wp2_with (first
                | (go_at_call 65; refine (HAU.out wr HUW.out).mono ?_; rintro e W1 ⟨rfl, hb1⟩; have hz1 := hb1.size; have HR1b := hide (HR1.out.below hb1 (by omega)); have HBWb := hide (HBW.out.trans (hb1.mono (by omega))); clear hb1)
                | (refine wpList_build_pk0 rfl rfl ?_)
                | (refine wpList_store_csY (sizePKl 0 zL zA) rfl (.tmp _) (.tmp _) rfl (w.heap.size + 1) rfl rfl _ HR1b.out (by simp [rowV, plR_len]) (rowV_one _) ?_))
              have HBX := HBWb
              have HR1 := HR1b
              refine (show bodyPost _ _ _ Exit.ret _ _ from ?_)
              refine bodyPost_ret (v := .tuple #[.agg (rowV (plR 0 zL zA)), .bool false]) (results_cs2Y rowPK (sizePKl 0 zL zA) (fn := Tryd.f44) (p := 2) (q := 3) rfl _ _ (w.heap.size + 1) rfl (HR1.out.row (m := 0) (K := zL) (b := zA))) rfl ⟨by rw [HF.out], ?_⟩
              exact bl_row HBX.out (by omega) _
            · have HTOT := hide (fun w1 (h : ints w1.heap.size w1 u A) => total_cY u A w1 h hlen (fun k hk => by
                have h2 := (allTo_iff _ _ _ _).1 ha
                have h3 := smF_lo (f := fun i => A[i]?.getD 0) (k := k) fun i hi => (h2 i (by omega)).1
                have h4 := smF_hi (f := fun i => A[i]?.getD 0) (c := 30) (k := k) fun i hi => (h2 i (by omega)).2
                unfold smL
                omega))
              have HSM := hide (show smL A A.length = smF (atN A) A.length from rfl)
              have HCPX := hide (fun h3 h4 => HCPW.out ha h3 h4)
              rw [HSM.out] at HTOT
              rw [ha] at HAU
              clear ha
              generalize smF (atN A) A.length = sm at *
              by_cases h30 : sm ≤ 30
              · have h31 : decide (30 < sm) = false := decide_eq_false (by omega)
                by_cases hsy : LnSy (lnK M A.length A.length)
                · rw [lsB_yes hsy] at HAL
                  have HSY := hide hsy
                  clear hsy
                  go_upto_region 13 with (first
                    | (go_at_call 65; refine (HAU.out wr HUW.out).mono ?_; rintro e W1 ⟨rfl, hb1⟩; have hz1 := hb1.size; have HBW1 := hide hb1; have HR1b := hide (HR1.out.below hb1 (by omega)); have HBWb := hide (HBW.out.trans (hb1.mono (by omega))); have HK1 := hide (HK.out.below hb1 (by omega)); have HU1 := hide ((HUW.out.below hb1 (Nat.le_refl _)).mono hb1.size); have k2 := (hb1.cell (p := ⟨w.heap.size, 1, none⟩) (by show w.heap.size < _; omega)).trans k1; clear hb1)
                    | (go_at_call 66; refine (HTOT.out W1 HU1.out).mono ?_; rintro e W2 ⟨rfl, rfl⟩)
                    | (refine wpList_load_csY rowPK (sizePKl A.length (lnK M A.length A.length) zA) rfl (.tmp _) rfl (w.heap.size + 1 + 1) rfl HK1.out ?_)
                    | (go_at_call 67; refine (HAL.out W1).mono ?_; rintro e W3 ⟨rfl, hb3⟩; have hz3 := hb3.size; have HBW3 := hide hb3; have HR3b := hide (HR1b.out.below hb3 (by omega)); have HK3 := hide (HK1.out.below hb3 (by omega)); have HB3b := hide (HBWb.out.trans (hb3.mono (by omega))); have k3 := (hb3.cell (p := ⟨w.heap.size, 1, none⟩) (by show w.heap.size < _; omega)).trans k2; clear hb3))
                  have hp := HCPX.out h30 HSY.out
                  have HLP := hide (lnK_pl hp)
                  have HSA := hide (spl_at A.length (lnK M A.length A.length) A (by omega))
                  have HFIN := hide (show Value.tuple #[.agg (rowV (plR (plN M A) (plL M A) (plA M A))), .bool (cpB M A)] = .tuple #[.agg (rowV (plR A.length (lnK M A.length A.length) (atN A))), .bool true] by
                    rw [HLP.out, plN_yes hp, cpB_iff.2 hp, show plA M A = atN A by funext i; exact plA_yes hp i])
                  clear hp
                  clear k1 k2 c2
                  obtain ⟨adu, uc, hue, hub, husrc⟩ := ints_srcY HUW.out (by omega)
                  subst hue
                  have HUB := hide hub
                  have HUS := hide husrc
                  clear hub husrc
                  refine wp_region_held (S := fun w' => w'.cell? ⟨w.heap.size, 1, none⟩ = some (.slice (some adu) A.length uc)) (by kernel_rfl) ?_
                  have hS0 : Below W3.heap.size W3 { W3 with drawn := W3.drawn + 1 } := (Below.refl _ _).drew
                  have hzV : ({ W3 with drawn := W3.drawn + 1 } : World).heap.size = W3.heap.size := rfl
                  generalize ({ W3 with drawn := W3.drawn + 1 } : World) = V0 at hS0 hzV ⊢
                  have hc0 := (hS0.cell (p := ⟨w.heap.size, 1, none⟩) (by show w.heap.size < _; omega)).trans k3
                  have hK4 : pkAt V0 (w.heap.size + 1 + 1) A.length (lnK M A.length A.length) zA := HK3.out.below hS0 (by omega)
                  have hcp := copyY 55 V0 (w.heap.size + 1 + 1) 26 5 _ A adu A.length uc rfl hK4 (by omega) (by rw [plR_len]; omega) (fun j z hj => ((hS0.cell (by have := HUB.out j; omega)).trans ((HBW3.out.cell (by have := HUB.out j; omega)).trans ((HBW1.out.cell (by have := HUB.out j; omega)).trans (HUS.out j z hj)))))
                  rw [HSA.out] at hcp
                  refine wpAnyH_take (i := 0) (v := .pointer (some ⟨w.heap.size + 1 + 1, 26, none⟩)) rfl (by kernel_rfl) (by kernel_rfl) (by kernel_rfl) (fun _ _ _ h => h) (.inl ⟨rfl, fun w' _ => by go_simp⟩) hc0 ?_
                  simp only [Act.put, List.getElem_toArray, List.getElem_cons_zero, List.getElem_cons_succ, List.setIfInBounds_toArray, List.set_cons_zero, List.set_cons_succ]
                  refine wpAnyH_take (i := 1) (v := .slice (some ⟨w.heap.size + 1 + 1, 26, none⟩) 5 5) rfl (by kernel_rfl) (by kernel_rfl) (by kernel_rfl) (fun _ _ _ h => h) (.inl ⟨rfl, fun w' _ => by go_simp⟩) hc0 ?_
                  simp only [Act.put, List.getElem_toArray, List.getElem_cons_zero, List.getElem_cons_succ, List.setIfInBounds_toArray, List.set_cons_zero, List.set_cons_succ]
                  refine wpAnyH_take (i := 2) (v := .pointer (some ⟨w.heap.size, 1, none⟩)) rfl (by kernel_rfl) (by kernel_rfl) (by kernel_rfl) (fun _ _ _ h => h) (.inl ⟨rfl, fun w' _ => by go_simp⟩) hc0 ?_
                  simp only [Act.put, List.getElem_toArray, List.getElem_cons_zero, List.getElem_cons_succ, List.setIfInBounds_toArray, List.set_cons_zero, List.set_cons_succ]
                  refine wpAnyH_take (i := 3) rfl (by kernel_rfl) (by kernel_rfl) (by kernel_rfl) (fun _ _ _ h => h) (yields_load_cell (show (Tryd.prog.underlying 23).map TypeDesc.isRow = some false by kernel_rfl) rfl (.tmp _) rfl ⟨w.heap.size, 1, none⟩ rfl (.slice (some adu) A.length uc) (fun w' h => h)) hc0 ?_
                  simp only [Act.put, List.getElem_toArray, List.getElem_cons_zero, List.getElem_cons_succ, List.setIfInBounds_toArray, List.set_cons_zero, List.set_cons_succ]
                  refine anyH_op (i := 4) (by kernel_rfl) rfl rfl (.int .i64 (A.length : Int)) (V0.setRow (w.heap.size + 1 + 1) (rowV (plR A.length (lnK M A.length A.length) (atN A)))) (by simp [go_sem, hcp]) ?_ ?_
                  · rw [show (V0.setRow (w.heap.size + 1 + 1) (rowV (plR A.length (lnK M A.length A.length) (atN A)))).cell? ⟨w.heap.size, 1, none⟩ = V0.cell? ⟨w.heap.size, 1, none⟩ by
                      simp only [World.cell?, hp_rowO V0 (w.heap.size + 1 + 1) w.heap.size _ (by omega)]]
                    exact hc0
                  refine wpAnyH_done (by kernel_rfl) ?_ _
                  simp only [Act.put, List.getElem_toArray, List.getElem_cons_zero, List.getElem_cons_succ, List.setIfInBounds_toArray, List.set_cons_zero, List.set_cons_succ]
                  have HK5 := hide (hK4.row (m := A.length) (K := (lnK M A.length A.length)) (b := atN A))
                  have HR5 := hide ((HR3b.out.below hS0 (by omega)).rowO (w.heap.size + 1 + 1) (by omega) (rowV (plR A.length (lnK M A.length A.length) (atN A))))
                  have HB5 := hide (bl_row (HB3b.out.trans (hS0.mono (by omega))) (show w.heap.size ≤ w.heap.size + 1 + 1 by omega) (rowV (plR A.length (lnK M A.length A.length) (atN A))))
                  clear hcp hc0 hK4 hS0 k3
                  generalize V0.setRow (w.heap.size + 1 + 1) (rowV (plR A.length (lnK M A.length A.length) (atN A))) = V1 at *
                  go_wp2_with (first
                    | (refine wpList_load_csY rowPK (sizePKl A.length (lnK M A.length A.length) (atN A)) rfl (.tmp _) rfl (w.heap.size + 1 + 1) rfl HK5.out ?_)
                    | (refine wpList_store_csY (sizePKl A.length (lnK M A.length A.length) (atN A)) rfl (.tmp _) (.tmp _) rfl (w.heap.size + 1) rfl rfl _ HR5.out (by simp [rowV, plR_len]) (rowV_one _) ?_))
                  refine (show bodyPost _ _ _ Exit.ret _ _ from ?_)
                  refine bodyPost_ret (v := .tuple #[.agg (rowV (plR A.length (lnK M A.length A.length) (atN A))), .bool true]) (results_cs2Y rowPK (sizePKl A.length (lnK M A.length A.length) (atN A)) (fn := Tryd.f44) (p := 2) (q := 3) rfl _ _ (w.heap.size + 1) rfl (HR5.out.row (m := A.length) (K := (lnK M A.length A.length)) (b := atN A))) rfl ⟨by rw [HFIN.out], ?_⟩
                  exact bl_row HB5.out (by omega) _
                · have HF := hide (HNO.out (HC3.out hsy))
                  rw [lsB_no hsy] at HAL
                  go_wp2_with (first
                    | (go_at_call 65; refine (HAU.out wr HUW.out).mono ?_; rintro e W1 ⟨rfl, hb1⟩; have hz1 := hb1.size; have HR1b := hide (HR1.out.below hb1 (by omega)); have HBWb := hide (HBW.out.trans (hb1.mono (by omega))); have HK1 := hide (HK.out.below hb1 (by omega)); have HU1 := hide ((HUW.out.below hb1 (Nat.le_refl _)).mono hb1.size); have k2 := (hb1.cell (p := ⟨w.heap.size, 1, none⟩) (by show w.heap.size < _; omega)).trans k1; clear hb1)
                    | (go_at_call 66; refine (HTOT.out W1 HU1.out).mono ?_; rintro e W2 ⟨rfl, rfl⟩)
                    | (refine wpList_load_csY rowPK (sizePKl A.length (lnK M A.length A.length) zA) rfl (.tmp _) rfl (w.heap.size + 1 + 1) rfl HK1.out ?_)
                    | (go_at_call 67; refine (HAL.out W1).mono ?_; rintro e W3 ⟨rfl, hb3⟩; have hz3 := hb3.size; have HR3b := hide (HR1b.out.below hb3 (by omega)); have HB3b := hide (HBWb.out.trans (hb3.mono (by omega))); clear hb3)
                    | (refine wpList_build_pk0 rfl rfl ?_)
                    | (refine wpList_store_csY (sizePKl 0 zL zA) rfl (.tmp _) (.tmp _) rfl (w.heap.size + 1) rfl rfl _ HR3b.out (by simp [rowV, plR_len]) (rowV_one _) ?_))
                  have HBX := HB3b
                  have HR1 := HR3b
                  refine (show bodyPost _ _ _ Exit.ret _ _ from ?_)
                  refine bodyPost_ret (v := .tuple #[.agg (rowV (plR 0 zL zA)), .bool false]) (results_cs2Y rowPK (sizePKl 0 zL zA) (fn := Tryd.f44) (p := 2) (q := 3) rfl _ _ (w.heap.size + 1) rfl (HR1.out.row (m := 0) (K := zL) (b := zA))) rfl ⟨by rw [HF.out], ?_⟩
                  exact bl_row HBX.out (by omega) _
              · have HF := hide (HNO.out (HC2.out h30))
                have h31 : decide (30 < sm) = true := decide_eq_true (by omega)
                go_wp2_with (first
                  | (go_at_call 65; refine (HAU.out wr HUW.out).mono ?_; rintro e W1 ⟨rfl, hb1⟩; have hz1 := hb1.size; have HR1b := hide (HR1.out.below hb1 (by omega)); have HBWb := hide (HBW.out.trans (hb1.mono (by omega))); have HU1 := hide ((HUW.out.below hb1 (Nat.le_refl _)).mono hb1.size); have k2 := (hb1.cell (p := ⟨w.heap.size, 1, none⟩) (by show w.heap.size < _; omega)).trans k1; clear hb1)
                  | (go_at_call 66; refine (HTOT.out W1 HU1.out).mono ?_; rintro e W2 ⟨rfl, rfl⟩)
                  | (refine wpList_build_pk0 rfl rfl ?_)
                  | (refine wpList_store_csY (sizePKl 0 zL zA) rfl (.tmp _) (.tmp _) rfl (w.heap.size + 1) rfl rfl _ HR1b.out (by simp [rowV, plR_len]) (rowV_one _) ?_))
                have HBX := HBWb
                have HR1 := HR1b
                refine (show bodyPost _ _ _ Exit.ret _ _ from ?_)
                refine bodyPost_ret (v := .tuple #[.agg (rowV (plR 0 zL zA)), .bool false]) (results_cs2Y rowPK (sizePKl 0 zL zA) (fn := Tryd.f44) (p := 2) (q := 3) rfl _ _ (w.heap.size + 1) rfl (HR1.out.row (m := 0) (K := zL) (b := zA))) rfl ⟨by rw [HF.out], ?_⟩
                exact bl_row HBX.out (by omega) _
      · have HF := hide (HNO.out (cpB_no.2 fun h => hml h.ml))
        have hmn : ((M.length : Int) != (A.length : Int)) = true := by simp; omega
        go_wp2_with (first
          | (refine wpList_len2 sliceT2 rfl (.tmp _) rfl v rfl w.heap.size M HL0.out ?_)
          | (refine wpList_build_pk0 rfl rfl ?_)
          | (refine wpList_store_csY (sizePKl 0 zL zA) rfl (.tmp _) (.tmp _) rfl (w.heap.size + 1) rfl rfl _ HR0.out (by simp [rowV, plR_len]) (rowV_one _) ?_))
        refine (show bodyPost _ _ _ Exit.ret _ _ from ?_)
        refine bodyPost_ret (v := .tuple #[.agg (rowV (plR 0 zL zA)), .bool false]) (results_cs2Y rowPK (sizePKl 0 zL zA) (fn := Tryd.f44) (p := 2) (q := 3) rfl _ _ (w.heap.size + 1) rfl (HR1.out.row (m := 0) (K := zL) (b := zA))) rfl ⟨by rw [HF.out], ?_⟩
        exact bl_row HBX.out (by omega) _
end Go.Proofs.YtjmhmmenampgbaaDoor
