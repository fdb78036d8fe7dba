/- Contracts: TreeSpace, the program's and the specification's. -/
import Derived.Test.YtonimjpfaalniaaDoorNj
namespace Go.Proofs.YtonimjpfaalniaaDoor
open Go.RowKit
set_option maxRecDepth 100000
set_option linter.unusedSimpArgs false
theorem low_succP (m : Nat) : low m + 1 = p2 m := low_succ m
theorem sets_cutN (K : Nat → Bool) (m : Nat) (hm : p2 m ≤ 128) : setsTo (cutAt K (low m + 1)) 128 = setsTo K (p2 m) := by
  have hl : low m + 1 = p2 m := low_succ m
  have h1 : ∀ k, p2 m ≤ k → setsTo (cutAt K (low m + 1)) k = setsTo (cutAt K (low m + 1)) (p2 m) := by
    intro k
    induction k with
    | zero => intro h; have := p2_pos m; unfold p2 at h; omega
    | succ k ih =>
      intro h
      rcases Nat.lt_or_ge k (p2 m) with h1 | h1
      · have : k + 1 = p2 m := by omega
        rw [this]
      · rw [setsTo, ih h1]
        have : cutAt K (low m + 1) k = false := by unfold cutAt; simp; omega
        rw [this]; rfl
  rw [h1 128 hm]
  refine setsTo_congr _ fun x hx => ?_
  unfold cutAt
  rw [decide_eq_true (by omega), Bool.true_and]
def tsL (l : List Int) : List Int := if treB l then setsTo (treK l) (p2 l.length) else []
theorem ts_no {l : List Int} (h : treB l = false) : tfN l = 0 ∧ tsL l = [] ∧ treB l = false := by unfold tfN tsL; rw [h]; exact ⟨rfl, rfl, rfl⟩
theorem ts_yes {l : List Int} (h : treB l = true) : tfN l = l.length ∧ tsL l = setsTo (treK l) (p2 l.length) ∧ treB l = true := by unfold tfN tsL; rw [h]; exact ⟨rfl, rfl, rfl⟩
theorem treB_n {l : List Int} (h : treB l = true) : 1 ≤ l.length ∧ l.length ≤ 7 := by
  unfold treB at h
  rw [Bool.and_eq_true] at h
  exact (neA_in (neB_A h.1)).1
theorem treB_A {l : List Int} (h : treB l = true) : neA l = true := by
  unfold treB at h
  rw [Bool.and_eq_true] at h
  exact neB_A h.1
theorem ts_sets (l : List Int) : setsTo (tfF l) 128 = tsL l := by
  unfold tfF tsL
  split
  · rename_i h
    exact sets_cutN (treK l) l.length (p2_le128 _ (treB_n h).2)
  · exact sets_none.symm
theorem tsL_len (l : List Int) : (tsL l).length < 1000000000 := by
  rw [← ts_sets]
  have := setsTo_len (tfF l) 128
  omega
theorem zero_slotsN {w : World} {b : Nat} {T : TypeId} (h : w.heap[b]? = some (.cells #[.int .i64 0, .slice none 0 0] T)) : w.cell? ⟨b, 0, none⟩ = some (.int .i64 0) ∧ w.cell? ⟨b, 1, none⟩ = some (.slice none 0 0) ∧ w.frozen? ⟨b, 0, none⟩ = false ∧ w.frozen? ⟨b, 1, none⟩ = false :=
  ⟨cells_at0 h, cells_at1 h, hp_free h 0, hp_free h 1⟩
theorem bareS {w : World} {b : Nat} {T : TypeId} {x y : Value} (h : w.heap[b]? = some (.cells #[x, y] T)) (u : Value) : (w.setCell ⟨b, 1, none⟩ u).heap[b]? = some (.cells #[x, u] T) := by
  rw [hp_set w b 1 _ T u h]; rfl
attribute [local irreducible] p2 low memB risB
set_option maxHeartbeats 2000000 in
theorem implTreeSpace_c (v : Value) (l : List Int) (w : World) (hl : ints w.heap.size w v l) (hlen : l.length < 1000000000) (hT : tab w) :
    Calls Tryd.prog 49 #[.agg #[v]] w fun e w' => ∃ v', e = .returned (.tuple #[.agg #[.int .i64 (tfN l), v'], .bool (treB l)]) ∧ own 3 w' w.heap.size v' (tsL l) ∧ Below w.heap.size w w' := by
  have HL := hide hl
  have HT := hide hT
  have HB1 := hide (show Below (w.heap.size + 1) (w.alloc (.cells #[v] 62)) ((w.alloc (.cells #[v] 62)).alloc (.cells #[.int .i64 0, .slice none 0 0] 30)) from (Below.refl _ _).alloc (by simp) _)
  have HR1 := hide (show ((w.alloc (.cells #[v] 62)).alloc (.cells #[.int .i64 0, .slice none 0 0] 30)).heap[w.heap.size + 1]? = some (.cells #[.int .i64 0, .slice none 0 0] 30) by have h := hp_last (w.alloc (.cells #[v] 62)) (.cells #[.int .i64 0, .slice none 0 0] 30); simpa using h)
  have hc1 := bx_cell HB1.out
  have HZ1 := hide (show ((w.alloc (.cells #[v] 62)).alloc (.cells #[.int .i64 0, .slice none 0 0] 30)).heap.size = w.heap.size + 2 by simp)
  have HTS := hide (ts_sets l)
  clear hl hT
  generalize htb : treB l = tb
  generalize htn : tfN l = N
  generalize htf : tfF l = F at HTS
  have HTB := hide (And.intro htb (And.intro htn htf))
  clear htb htn htf
  go_enter Tryd.func49, Tryd.ntmps49
  go_wp2_with (first
    | (go_at_call 110; refine (treeFamily_c v l _ (bx_full HB1.out HL.out) hlen (bx_tab HB1.out HT.out)).mono ?_; rw [HTB.out.1, HTB.out.2.1, HTB.out.2.2]; rintro e w2 ⟨rfl, hb2⟩; have hz2 := hb2.size; rw [HZ1.out] at hz2; have HB2 := hide (bx_to HB1.out hb2); have HR2 := hide ((hb2.block (w.heap.size + 1) (by rw [HZ1.out]; omega)).trans HR1.out); have HF2 := hide (famAt.new 83 w2 0 noSet); clear hb2; have HF3 := hide (HF2.out.row N F); have HR3 := hide (show ((w2.alloc (.cells (fam 0 noSet) 83)).setRow w2.heap.size (fam N F)).heap[w.heap.size + 1]? = some (.cells #[.int .i64 0, .slice none 0 0] 30) from (hp_rowO _ _ _ _ (by omega)).trans ((hp_old _ _ _ (by omega)).trans HR2.out)); have HB3 := hide (bl_row (HB2.out.alloc (by omega) (.cells (fam 0 noSet) 83)) (show w.heap.size + 1 ≤ w2.heap.size by omega) (fam N F)); have HZ3 := hide (show ((w2.alloc (.cells (fam 0 noSet) 83)).setRow w2.heap.size (fam N F)).heap.size = w2.heap.size + 1 by simp [World.setRow]))
    | (refine wpList_alloc_fam zeroT rfl rfl _ (by first | (simp only [World.size_alloc]; rfl) | rfl) ?_)
    | (refine wpList_store_fam sizeT rfl (.tmp _) (.tmp _) rfl _ N F rfl rfl _ _ HF2.out ?_)
    | (refine wpList_load_fam rowT sizeT rfl (.tmp _) rfl _ rfl N F HF3.out ?_)
    | (go_at_call 98; refine (space_c N F _).mono ?_; rintro e w8 ⟨v8, rfl, ho8, hb8⟩; obtain ⟨ua, uc, huv⟩ := ho8.shape; subst huv; have hr8 := (hb8.block (w.heap.size + 1) (by rw [HZ3.out]; omega)).trans HR3.out; obtain ⟨y0, y1, y2, y3⟩ := zero_slotsN hr8; have HB8 := hide (HB3.out.trans (hb8.mono (by rw [HZ3.out]; omega))); have HO8 := hide ho8; clear hb8 hr8 ho8))
  refine bodyPost_ret (v := .tuple #[.agg #[.int .i64 N, .slice ua (setsTo F 128).length uc], .bool tb]) (by simp [results, Tryd.results49, go_sem, y0, y1]) rfl ⟨_, rfl, ?_, ?_⟩
  · rw [← HTS.out]
    have hz3 := HZ3.out
    have hfin := ((HO8.out.setLow ⟨w.heap.size + 1, 0, none⟩ (show w.heap.size + 1 < _ by rw [HZ3.out]; omega) (.int .i64 N)).setLow ⟨w.heap.size + 1, 1, none⟩ (show w.heap.size + 1 < _ by rw [HZ3.out]; omega) (.slice ua (setsTo F 128).length uc))
    exact hfin.mono (by rw [HZ3.out]; omega)
  · exact ((bx_below HB8.out).setCell (by show w.heap.size ≤ w.heap.size + 1; omega) _).setCell (by show w.heap.size ≤ w.heap.size + 1; omega) _

set_option maxHeartbeats 4000000 in
theorem specTreeSpace_c (v : Value) (l : List Int) (w : World) (hl : ints w.heap.size w v l) (hlen : l.length < 1000000000) (_hT : tab w) :
    Calls Tryd.prog 47 #[.agg #[v]] w fun e w' => ∃ v', e = .returned (.tuple #[.agg #[.int .i64 (tfN l), v'], .bool (treB l)]) ∧ own 3 w' w.heap.size v' (tsL l) ∧ Below w.heap.size w w' := by
  have HL := hide hl
  have HB1 := hide (show Below (w.heap.size + 1) (w.alloc (.cells #[v] 62)) ((w.alloc (.cells #[v] 62)).alloc (.cells #[.int .i64 0, .slice none 0 0] 30)) from (Below.refl _ _).alloc (by simp) _)
  have HR1 := hide (show ((w.alloc (.cells #[v] 62)).alloc (.cells #[.int .i64 0, .slice none 0 0] 30)).heap[w.heap.size + 1]? = some (.cells #[.int .i64 0, .slice none 0 0] 30) by have h := hp_last (w.alloc (.cells #[v] 62)) (.cells #[.int .i64 0, .slice none 0 0] 30); simpa using h)
  have hc1 := bx_cell HB1.out
  have HZ1 := hide (show ((w.alloc (.cells #[v] 62)).alloc (.cells #[.int .i64 0, .slice none 0 0] 30)).heap.size = w.heap.size + 2 by simp)
  clear hl
  cases htb : treB l
  · have HTB := hide htb
    obtain ⟨e1, e2, e3⟩ := ts_no htb
    rw [e1, e2]
    clear htb e1 e2 e3
    go_enter Tryd.func47, Tryd.ntmps47
    go_wp2_with (go_at_call 108; refine (shTree_c v l _ (bx_full HB1.out HL.out) hlen).mono ?_; rw [HTB.out]; rintro e w2 ⟨rfl, hb2⟩; have HB2 := hide (bx_to HB1.out hb2); have hr2 := (hb2.block (w.heap.size + 1) (by rw [HZ1.out]; omega)).trans HR1.out; obtain ⟨y0, y1, y2, y3⟩ := zero_slotsN hr2; clear hb2 hr2)
    refine bodyPost_ret (v := .tuple #[.agg #[.int .i64 0, .slice none 0 0], .bool false]) (by simp [results, Tryd.results47, go_sem, y0, y1]) rfl ⟨_, rfl, own_nil _ _ _, ?_⟩
    exact ((bx_below HB2.out).setCell (by show w.heap.size ≤ w.heap.size + 1; omega) _).setCell (by show w.heap.size ≤ w.heap.size + 1; omega) _
  · have HTB := hide htb
    obtain ⟨e1, e2, e3⟩ := ts_yes htb
    have hA := treB_A htb
    have h7 := (treB_n htb).2
    rw [e1, e2]
    clear htb e1 e2 e3
    have hp1 := wrap_p2 l.length h7
    have hp2 : IntKind.i64.wrap (2 ^ l.length) = (p2 l.length : Int) := by rw [IntWalk.i64_left]; exact hp1
    have hp3 := wrap_low l.length h7
    have hp4 := low_p2 l.length
    have hlo := low_lt l.length h7
    have HLS := hide (show low l.length + 1 = p2 l.length from low_succP l.length)
    go_enter Tryd.func47, Tryd.ntmps47
    go_wp2_with (first
      | (go_at_call 108; refine (shTree_c v l _ (bx_full HB1.out HL.out) hlen).mono ?_; rw [HTB.out]; rintro e w2 ⟨rfl, hb2⟩; have hz2 := hb2.size; rw [HZ1.out] at hz2; have HB2 := hide (bx_to HB1.out hb2); have HR2 := hide ((hb2.block (w.heap.size + 1) (by rw [HZ1.out]; omega)).trans HR1.out); have hc2 := bx_cell HB2.out; have HL2 := hide (bx_ints HB2.out HL.out); have HTX := hide (hp_last w2 (.cells #[.int .i64 (l.length : Int), .slice none 0 0] 30)); have HBT := hide (HB2.out.alloc (show w.heap.size + 1 ≤ w2.heap.size by omega) (.cells #[.int .i64 (l.length : Int), .slice none 0 0] 30)); have HZT := hide (show (w2.alloc (.cells #[.int .i64 (l.length : Int), .slice none 0 0] 30)).heap.size = w2.heap.size + 1 by simp); have HRT := hide ((hp_old w2 (.cells #[.int .i64 (l.length : Int), .slice none 0 0] 30) (w.heap.size + 1) (by omega)).trans HR2.out); clear hb2)
      | (refine wpList_len sliceT rfl (.tmp _) rfl v rfl w.heap.size l HL2.out ?_))
    generalize (w2.alloc (.cells #[.int .i64 (l.length : Int), .slice none 0 0] 30)) = W1 at HTX HBT HZT HRT ⊢
    generalize hBe : w2.heap.size = B at HTX HBT HZT HRT hz2 ⊢
    clear hBe HB2 HL2 HR2 hc2 hc1 hp1 hp2 hp3 hp4
    go_loopw [6] (fun i w3 => ∃ k : Nat, k ≤ p2 l.length ∧ i = .int .i64 (k : Int) ∧ Hid (∃ sv, own 3 w3 (B + 1) sv (setsTo (treK l) k) ∧ w3.heap[B]? = some (.cells #[.int .i64 (l.length : Int), sv] 30)) ∧ Hid (Below B W1 w3)) (fun i _ => p2 l.length - (intOf i).toNat)
    case atStart => exact ⟨0, Nat.zero_le _, rfl, ⟨_, own_nil _ _ _, HTX.out⟩, Below.refl _ _⟩
    case round =>
      obtain ⟨a, ha, rfl, HO, HBB⟩ := hrel
      have hz3 := HBB.out.size
      rw [HZT.out] at hz3
      have HBW := hide (HBT.out.trans (HBB.out.mono (by omega)))
      have hcv := bx_cell HBW.out
      by_cases hla : a < p2 l.length
      · have hle : ((a : Int) ≤ (low l.length : Int)) := by have := HLS.out; omega
        have hle2 : a ≤ low l.length := by omega
        have HST := hide (show setsTo (treK l) (a + 1) = (if treK l a then setsTo (treK l) a ++ [(a : Int)] else setsTo (treK l) a) from rfl)
        have HKD := hide (show treK l a = jnB l (andNot (low l.length) a) from rfl)
        have hs2 := andNot_lt (low l.length) a l.length (low_pow _)
        have han := i64_andNot (low l.length) a (by omega)
        have HJN := hide (fun w1 h1 => shJoined_c v l (andNot (low l.length) a) w1 h1 hA hs2)
        have HLA := hide (setsTo_len (treK l) a)
        have hpp := p2_le128 l.length h7
        generalize andNot (low l.length) a = s at *
        generalize setsTo (treK l) a = S1 at HO HST HLA
        obtain ⟨sv, ho3, ht3⟩ := HO.out
        have HO3 := hide ho3
        have HT3 := hide ht3
        have hl4 := HLA.out
        clear HO ho3 ht3
        rw [HKD.out] at HST
        cases hj : jnB l s
        · have HJ := hide hj
          clear hj
          go_wp2_with (go_at_call 109; refine (HJN.out _ (bx_full HBW.out HL.out)).mono ?_; rw [HJ.out]; rintro e w4 ⟨rfl, hb4⟩; have HB4 := hide (HBB.out.trans (hb4.mono (by omega))); have HO4 : Hid (own 3 w4 (B + 1) sv S1) := hide (HO3.out.kept hb4); have HT4 := hide ((hb4.block B (by omega)).trans HT3.out); clear hb4)
          go_roundw
          case rel => exact ⟨a + 1, by omega, by go_num, ⟨sv, by rw [HST.out, HJ.out]; exact HO4.out, HT4.out⟩, HB4⟩
          case measure => (simp [intOf] <;> omega)
        · have HJ := hide hj
          clear hj
          obtain ⟨aa, cc, hsv⟩ := HO3.out.shape
          subst hsv
          go_wp2_with (first
            | (go_at_call 109; refine (HJN.out _ (bx_full HBW.out HL.out)).mono ?_; rw [HJ.out]; rintro e w4 ⟨rfl, hb4⟩; have hz4 := hb4.size; have HB4 := hide (HBB.out.trans (hb4.mono (by omega))); have HO4 : Hid (own 3 w4 (B + 1) (.slice aa S1.length cc) S1) := hide (HO3.out.kept hb4); have HT4 := hide ((hb4.block B (by omega)).trans HT3.out); have hc41 := cells_at1 HT4.out; clear hb4)
            | (at_builtin; refine wpList_append1 sliceT intI rfl _ _ rfl (B + 1) _ _ rfl (HO4.out.alloc _) _ (a : Int) rfl (by simp [go_sem]) (by simp; omega) (by omega) ?_; intro v5 w5 ho5 hb5; obtain ⟨a5, c5, hv5⟩ := ho5.shape; subst hv5; have HB5 := hide (((Below.refl _ _).alloc (by omega) _).trans hb5); have HO5 := hide ho5; clear ho5 hb5; have ht5 := (HB5.out.block B (by omega)).trans HT4.out; have f5 := hp_free ht5 1; have k5 := cells_at1 ht5; have HT5 := hide ht5; clear ht5; have hb6 := HB4.out.trans (HB5.out.mono (by omega)); have HB6 := hide hb6; clear hb6))
          go_roundw
          case rel => exact ⟨a + 1, by omega, by go_num, ⟨_, by have h := HO5.out.setLow ⟨B, 1, none⟩ (by show B < B + 1; omega) (.slice a5 (S1.length + 1) c5); rw [List.length_append, List.length_singleton] at h; rw [HST.out, HJ.out, if_pos rfl]; exact h, bareS HT5.out _⟩, HB6.out.setCell (by show B ≤ B; omega) _⟩
          case measure => (simp [intOf] <;> omega)
      · have HAE := hide (show a = p2 l.length by omega)
        have hle : ¬ ((a : Int) ≤ (low l.length : Int)) := by have := HLS.out; omega
        have hle2 : ¬ (a ≤ low l.length) := by omega
        obtain ⟨sv, ho3, ht3⟩ := HO.out
        rw [HAE.out] at ho3
        obtain ⟨aa, cc, hsv⟩ := ho3.shape
        subst hsv
        generalize hS : setsTo (treK l) (p2 l.length) = S at ho3 ht3 ⊢
        have HO3 := hide ho3
        have hd0 := cells_at0 ht3
        have hd1 := cells_at1 ht3
        have hr3 := (HBB.out.block (w.heap.size + 1) (by omega)).trans HRT.out
        obtain ⟨y0, y1, y2, y3⟩ := zero_slotsN hr3
        clear HO ho3 ht3 hr3
        go_wp2_with fail
        refine bodyPost_ret (v := .tuple #[.agg #[.int .i64 (l.length : Int), .slice aa S.length cc], .bool true]) (by simp [results, Tryd.results47, go_sem, y0, y1]) rfl ⟨_, rfl, ?_, ?_⟩
        · have hfin := ((HO3.out.setLow ⟨w.heap.size + 1, 0, none⟩ (show w.heap.size + 1 < B + 1 by omega) (.int .i64 (l.length : Int))).setLow ⟨w.heap.size + 1, 1, none⟩ (show w.heap.size + 1 < B + 1 by omega) (.slice aa S.length cc))
          exact hfin.mono (by omega)
        · exact ((bx_below HBW.out).setCell (by show w.heap.size ≤ w.heap.size + 1; omega) _).setCell (by show w.heap.size ≤ w.heap.size + 1; omega) _
end Go.Proofs.YtonimjpfaalniaaDoor
