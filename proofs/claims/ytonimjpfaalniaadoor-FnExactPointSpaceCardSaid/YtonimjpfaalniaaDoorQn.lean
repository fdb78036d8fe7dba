/- Contracts: PointSpace, both. -/
import Derived.Test.YtonimjpfaalniaaDoorQj
namespace Go.Proofs.YtonimjpfaalniaaDoor
open Go.RowKit
set_option maxRecDepth 100000
set_option linter.unusedSimpArgs false
attribute [local irreducible] p2 low memB risB
theorem ps_no {L : List (List Int)} (h : ptB L = false) : psN L = 0 ∧ psS L = [] := by unfold psN psS; rw [h]; exact ⟨rfl, rfl⟩
theorem ps_yes {L : List (List Int)} (h : ptB L = true) : psN L = (L.length : Int) ∧ psS L = setsTo (lvK (noB L) L.length) (p2 L.length) := by unfold psN psS; rw [h]; exact ⟨rfl, rfl⟩
theorem psS_len (L : List (List Int)) : (psS L).length < 1000000000 := by
  unfold psS
  split
  · rename_i h
    have h1 := setsTo_len (lvK (noB L) L.length) (p2 L.length)
    have h2 := p2_le128 L.length (ptB_n h).2
    omega
  · simp
set_option maxHeartbeats 2000000 in
theorem implPointSpace_c (u : Value) (L : List (List Int)) (w : World) (hl : rows w.heap.size w u L) (_hs : small2 L) (hT : tab w) :
    Calls Tryd.prog 59 #[u] w fun e w' => ∃ v', e = .returned (.tuple #[.agg #[.int .i64 (psN L), v'], .bool (ptB L)]) ∧ own 3 w' w.heap.size v' (psS L) ∧ Below w.heap.size w w' := by
  have HT := hide (hT.alloc (.cells #[.int .i64 0, .slice none 0 0] 30))
  have HR0 := hide (hp_last w (.cells #[.int .i64 0, .slice none 0 0] 30))
  have HB0 := hide ((Below.refl w.heap.size w).alloc (Nat.le_refl _) (.cells #[.int .i64 0, .slice none 0 0] 30))
  have HZ0 := hide (show (w.alloc (.cells #[.int .i64 0, .slice none 0 0] 30)).heap.size = w.heap.size + 1 by simp)
  have HRP := hide (readPlane_c u L (w.alloc (.cells #[.int .i64 0, .slice none 0 0] 30)) ((hl.alloc (.cells #[.int .i64 0, .slice none 0 0] 30)).mono (show w.heap.size ≤ (w.alloc (.cells #[.int .i64 0, .slice none 0 0] 30)).heap.size by simp)))
  clear hl hT
  cases hp : ptB L
  · rw [(ps_no hp).1, (ps_no hp).2]
    rw [hp] at HRP
    clear hp
    go_enter Tryd.func59, Tryd.ntmps59
    go_wp2_with (go_at_call 123; refine HRP.out.mono ?_; rintro e w2 ⟨pv, rfl, hpl, hb2⟩; have HB2 := hide (HB0.out.trans (hb2.mono (by rw [HZ0.out]; omega))); have hr2 := (hb2.block w.heap.size (by rw [HZ0.out]; omega)).trans HR0.out; obtain ⟨y0, y1, y2, y3⟩ := zero_slotsN hr2; clear hpl hb2 hr2)
    refine bodyPost_ret (v := .tuple #[.agg #[.int .i64 0, .slice none 0 0], .bool false]) (by simp [results, Tryd.results59, go_sem, y0, y1]) rfl ⟨_, rfl, own_nil _ _ _, ?_⟩
    exact (HB2.out.setCell (by show w.heap.size ≤ w.heap.size; omega) _).setCell (by show w.heap.size ≤ w.heap.size; omega) _
  · have h7 := (ptB_n hp).2
    have HL := hide hp
    rw [(ps_yes hp).1, (ps_yes hp).2]
    rw [ptN_yes hp, hp] at HRP
    have HST := hide (sets_cutN (lvK (noB L) L.length) L.length (p2_le128 L.length h7))
    clear hp
    go_enter Tryd.func59, Tryd.ntmps59
    go_wp2_with (first
      | (go_at_call 123; refine HRP.out.mono ?_; rintro e w2 ⟨pv, rfl, hpl, hb2⟩; obtain ⟨pa, pc1, hpv⟩ := hpl.shape; subst hpv; have HB2 := hide (HB0.out.trans (hb2.mono (by rw [HZ0.out]; omega))); have HR2 := hide ((hb2.block w.heap.size (by rw [HZ0.out]; omega)).trans HR0.out); have HT2 := hide (HT.out.below hb2); have HPL := hide hpl; have hz2 := hb2.size; rw [HZ0.out] at hz2; clear hpl hb2)
      | (go_at_call 124; refine (familyLeaving_c L.length 125 #[_] #[] (noB L) _ h7 ent_noOthers (fun s w5 hs5 hb5 => coversNoOthers_c _ L s w5 HL.out hs5 ((HPL.out.below hb5 (Nat.le_refl _)).mono hb5.size) (HT2.out.below hb5))).mono ?_; rintro e w4 ⟨rfl, hb4⟩; have HB4 := hide (HB2.out.trans (hb4.mono (by omega))); have HR4 := hide ((hb4.block w.heap.size (by omega)).trans HR2.out); have hz4 := hb4.size; clear hb4)
      | (go_at_call 98; refine (space_c (L.length : Int) _ _).mono ?_; rw [HST.out]; rintro e w8 ⟨v8, rfl, ho8, hb8⟩; obtain ⟨ua, uc, huv⟩ := ho8.shape; subst huv; have hr8 := (hb8.block w.heap.size (by omega)).trans HR4.out; obtain ⟨y0, y1, y2, y3⟩ := zero_slotsN hr8; have HB8 := hide (HB4.out.trans (hb8.mono (by omega))); have HO8 := hide ho8; clear hb8 hr8 ho8))
    generalize hSS : setsTo (lvK (noB L) L.length) (p2 L.length) = SS at *
    refine bodyPost_ret (v := .tuple #[.agg #[.int .i64 (L.length : Int), .slice ua SS.length uc], .bool true]) (by simp [results, Tryd.results59, go_sem, y0, y1]) rfl ⟨_, rfl, ?_, ?_⟩
    · have hfin := ((HO8.out.setLow ⟨w.heap.size, 0, none⟩ (show w.heap.size < _ by omega) (.int .i64 (L.length : Int))).setLow ⟨w.heap.size, 1, none⟩ (show w.heap.size < _ by omega) (.slice ua SS.length uc))
      exact hfin.mono (by omega)
    · exact (HB8.out.setCell (by show w.heap.size ≤ w.heap.size; omega) _).setCell (by show w.heap.size ≤ w.heap.size; omega) _
set_option maxHeartbeats 4000000 in
theorem specPointSpace_c (u : Value) (L : List (List Int)) (w : World) (hl : rowsK w.heap.size w u L) (hs : small2 L) (_hT : tab w) :
    Calls Tryd.prog 58 #[u] w fun e w' => ∃ v', e = .returned (.tuple #[.agg #[.int .i64 (psN L), v'], .bool (ptB L)]) ∧ own 3 w' w.heap.size v' (psS L) ∧ Below w.heap.size w w' := by
  have HR0 := hide (hp_last w (.cells #[.int .i64 0, .slice none 0 0] 30))
  have HB0 := hide ((Below.refl w.heap.size w).alloc (Nat.le_refl _) (.cells #[.int .i64 0, .slice none 0 0] 30))
  have HZ0 := hide (show (w.alloc (.cells #[.int .i64 0, .slice none 0 0] 30)).heap.size = w.heap.size + 1 by simp)
  have HL := hide (hl.1.alloc (.cells #[.int .i64 0, .slice none 0 0] 30))
  have HSP := hide (shPoints_c u L (w.alloc (.cells #[.int .i64 0, .slice none 0 0] 30)) ⟨HL.out.mono (by rw [HZ0.out]; omega), hl.2⟩ hs)
  clear hl
  cases hp : ptB L
  · rw [(ps_no hp).1, (ps_no hp).2]
    rw [hp] at HSP
    clear hp
    go_enter Tryd.func58, Tryd.ntmps58
    go_wp2_with (go_at_call 121; refine HSP.out.mono ?_; rintro e w2 ⟨rfl, hb2⟩; have HB2 := hide (HB0.out.trans (hb2.mono (by rw [HZ0.out]; omega))); have hr2 := (hb2.block w.heap.size (by rw [HZ0.out]; omega)).trans HR0.out; obtain ⟨y0, y1, y2, y3⟩ := zero_slotsN hr2; clear hb2 hr2)
    refine bodyPost_ret (v := .tuple #[.agg #[.int .i64 0, .slice none 0 0], .bool false]) (by simp [results, Tryd.results58, go_sem, y0, y1]) rfl ⟨_, rfl, own_nil _ _ _, ?_⟩
    exact (HB2.out.setCell (by show w.heap.size ≤ w.heap.size; omega) _).setCell (by show w.heap.size ≤ w.heap.size; omega) _
  · have h7 := (ptB_n hp).2
    have HLL := hide hp
    rw [(ps_yes hp).1, (ps_yes hp).2]
    rw [hp] at HSP
    clear hp
    have hp1 := wrap_p2 L.length h7
    have hp2 : IntKind.i64.wrap (2 ^ L.length) = (p2 L.length : Int) := by rw [IntWalk.i64_left]; exact hp1
    have hp3 := wrap_low L.length h7
    have hp4 := low_p2 L.length
    have hlo := low_lt L.length h7
    have HLS := hide (show low L.length + 1 = p2 L.length from low_succP L.length)
    go_enter Tryd.func58, Tryd.ntmps58
    go_wp2_with (first
      | (go_at_call 121; refine HSP.out.mono ?_; rintro e w2 ⟨rfl, hb2⟩; have hz2 := hb2.size; rw [HZ0.out] at hz2; have HB2 := hide (HB0.out.trans (hb2.mono (by rw [HZ0.out]; omega))); have HR2 := hide ((hb2.block w.heap.size (by rw [HZ0.out]; omega)).trans HR0.out); have HL2 := hide (HL.out.below hb2 (by rw [HZ0.out]; omega)); have HTX := hide (hp_last w2 (.cells #[.int .i64 (L.length : Int), .slice none 0 0] 30)); have HBT := hide (HB2.out.alloc (show w.heap.size ≤ w2.heap.size by omega) (.cells #[.int .i64 (L.length : Int), .slice none 0 0] 30)); have HZT := hide (show (w2.alloc (.cells #[.int .i64 (L.length : Int), .slice none 0 0] 30)).heap.size = w2.heap.size + 1 by simp); have HRT := hide ((hp_old w2 (.cells #[.int .i64 (L.length : Int), .slice none 0 0] 30) w.heap.size (by omega)).trans HR2.out); have HLT := hide (HL2.out.alloc (.cells #[.int .i64 (L.length : Int), .slice none 0 0] 30)); clear hb2)
      | (refine wpList_len2 sliceT2 rfl (.tmp _) rfl u rfl w.heap.size L HL2.out ?_))
    generalize (w2.alloc (.cells #[.int .i64 (L.length : Int), .slice none 0 0] 30)) = W1 at HTX HBT HZT HRT HLT ⊢
    generalize hBe : w2.heap.size = B at HTX HBT HZT HRT hz2 ⊢
    clear hBe HB2 HL2 HR2 hp1 hp2 hp3 hp4
    go_loopw [6] (fun i w3 => ∃ k : Nat, k ≤ p2 L.length ∧ i = .int .i64 (k : Int) ∧ Hid (∃ sv, own 3 w3 (B + 1) sv (setsTo (lvK (noB L) L.length) k) ∧ w3.heap[B]? = some (.cells #[.int .i64 (L.length : Int), sv] 30)) ∧ Hid (Below B W1 w3)) (fun i _ => p2 L.length - (intOf i).toNat)
    case atStart => exact ⟨0, Nat.zero_le _, rfl, ⟨_, own_nil _ _ _, HTX.out⟩, Below.refl _ _⟩
    case round =>
      obtain ⟨a, ha, rfl, HO, HBB⟩ := hrel
      have hz3 := HBB.out.size
      rw [HZT.out] at hz3
      have HBW := hide (HBT.out.trans (HBB.out.mono (by omega)))
      have HLW := hide ((HLT.out.below HBB.out (by omega)).mono (show w.heap.size ≤ wr.heap.size by omega))
      by_cases hla : a < p2 L.length
      · have hle : ((a : Int) ≤ (low L.length : Int)) := by have := HLS.out; omega
        have hle2 : a ≤ low L.length := by omega
        have HST := hide (show setsTo (lvK (noB L) L.length) (a + 1) = (if lvK (noB L) L.length a then setsTo (lvK (noB L) L.length) a ++ [(a : Int)] else setsTo (lvK (noB L) L.length) a) from rfl)
        have HKD := hide (show lvK (noB L) L.length a = (cvS L (andNot (low L.length) a) == andNot (low L.length) a) from rfl)
        have hs2 := andNot_lt128 (low L.length) a hlo
        have han := i64_andNot (low L.length) a (by omega)
        have HCV := hide (fun w1 h1 => shCover_c u L (andNot (low L.length) a) w1 h1 HLL.out hs2)
        have HLA := hide (setsTo_len (lvK (noB L) L.length) a)
        have hpp := p2_le128 L.length h7
        generalize andNot (low L.length) a = s at *
        generalize setsTo (lvK (noB L) L.length) a = S1 at HO HST HLA
        generalize cvS L s = cv at HCV HKD
        obtain ⟨sv, ho3, ht3⟩ := HO.out
        have HO3 := hide ho3
        have HT3 := hide ht3
        have hl4 := HLA.out
        clear HO ho3 ht3
        rw [HKD.out] at HST
        by_cases hcv : cv = s
        · have hcv' : ((cv : Int) == (s : Int)) = true := by subst hcv; simp
          rw [show (cv == s) = true by subst hcv; simp] at HST
          clear hcv
          obtain ⟨aa, cc, hsv⟩ := HO3.out.shape
          subst hsv
          go_wp2_with (first
            | (go_at_call 122; refine (HCV.out _ HLW.out).mono ?_; rintro e w4 ⟨rfl, hb4⟩; have hz4 := hb4.size; have HB4 := hide (HBB.out.trans (hb4.mono (by omega))); have HO4 : Hid (own 3 w4 (B + 1) (.slice aa S1.length cc) S1) := hide (HO3.out.kept hb4); have HT4 := hide ((hb4.block B (by omega)).trans HT3.out); have hc41 := cells_at1 HT4.out; clear hb4)
            | (at_builtin; refine wpList_append1 sliceT intI rfl _ _ rfl (B + 1) _ _ rfl (HO4.out.alloc _) _ (a : Int) rfl (by simp [go_sem]) (by simp; omega) (by omega) ?_; intro v5 w5 ho5 hb5; obtain ⟨a5, c5, hv5⟩ := ho5.shape; subst hv5; have HB5 := hide (((Below.refl _ _).alloc (by omega) _).trans hb5); have HO5 := hide ho5; clear ho5 hb5; have ht5 := (HB5.out.block B (by omega)).trans HT4.out; have f5 := hp_free ht5 1; have k5 := cells_at1 ht5; have HT5 := hide ht5; clear ht5; have hb6 := HB4.out.trans (HB5.out.mono (by omega)); have HB6 := hide hb6; clear hb6))
          go_roundw
          case rel => exact ⟨a + 1, by omega, by go_num, ⟨_, by have h := HO5.out.setLow ⟨B, 1, none⟩ (by show B < B + 1; omega) (.slice a5 (S1.length + 1) c5); rw [List.length_append, List.length_singleton] at h; rw [HST.out]; (first | rw [if_pos rfl] | rw [if_pos trivial]); exact h, bareS HT5.out _⟩, HB6.out.setCell (by show B ≤ B; omega) _⟩
          case measure => (simp [intOf] <;> omega)
        · have hcv' : ((cv : Int) == (s : Int)) = false := by simp; omega
          rw [show (cv == s) = false by simp; exact hcv] at HST
          clear hcv
          go_wp2_with (go_at_call 122; refine (HCV.out _ HLW.out).mono ?_; rintro e w4 ⟨rfl, hb4⟩; have HB4 := hide (HBB.out.trans (hb4.mono (by omega))); have HO4 : Hid (own 3 w4 (B + 1) sv S1) := hide (HO3.out.kept hb4); have HT4 := hide ((hb4.block B (by omega)).trans HT3.out); clear hb4)
          go_roundw
          case rel => exact ⟨a + 1, by omega, by go_num, ⟨sv, by rw [HST.out]; (first | exact HO4.out | (rw [if_neg (by simp)]; exact HO4.out)), HT4.out⟩, HB4⟩
          case measure => (simp [intOf] <;> omega)
      · have HAE := hide (show a = p2 L.length by omega)
        have hle : ¬ ((a : Int) ≤ (low L.length : Int)) := by have := HLS.out; omega
        have hle2 : ¬ (a ≤ low L.length) := by omega
        obtain ⟨sv, ho3, ht3⟩ := HO.out
        rw [HAE.out] at ho3
        obtain ⟨aa, cc, hsv⟩ := ho3.shape
        subst hsv
        generalize hS : setsTo (lvK (noB L) L.length) (p2 L.length) = S at ho3 ht3 ⊢
        have HO3 := hide ho3
        have hd0 := cells_at0 ht3
        have hd1 := cells_at1 ht3
        have hr3 := (HBB.out.block w.heap.size (by omega)).trans HRT.out
        obtain ⟨y0, y1, y2, y3⟩ := zero_slotsN hr3
        clear HO ho3 ht3 hr3
        go_wp2_with fail
        refine bodyPost_ret (v := .tuple #[.agg #[.int .i64 (L.length : Int), .slice aa S.length cc], .bool true]) (by simp [results, Tryd.results58, go_sem, y0, y1]) rfl ⟨_, rfl, ?_, ?_⟩
        · have hfin := ((HO3.out.setLow ⟨w.heap.size, 0, none⟩ (show w.heap.size < B + 1 by omega) (.int .i64 (L.length : Int))).setLow ⟨w.heap.size, 1, none⟩ (show w.heap.size < B + 1 by omega) (.slice aa S.length cc))
          exact hfin.mono (by omega)
        · exact (HBW.out.setCell (by show w.heap.size ≤ w.heap.size; omega) _).setCell (by show w.heap.size ≤ w.heap.size; omega) _
end Go.Proofs.YtonimjpfaalniaaDoor
