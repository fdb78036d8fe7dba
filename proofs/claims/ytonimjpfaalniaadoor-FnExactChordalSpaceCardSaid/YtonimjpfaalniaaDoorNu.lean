/- Contracts: EliminationOf, both; ChordalSpace, the program's. -/
import Derived.Test.YtonimjpfaalniaaDoorNs
namespace Go.Proofs.YtonimjpfaalniaaDoor
open Go.RowKit
set_option maxRecDepth 100000
set_option linter.unusedSimpArgs false
theorem cf_sets {l : List Int} : setsTo (cfF l) 128 = (if cfB l then setsTo (elF l) 128 else []) := by
  unfold cfF
  split
  · rfl
  · exact sets_none.symm
def csL (l : List Int) : List Int := if cfB l then setsTo (elF l) 128 else []
theorem csL_len (l : List Int) : (csL l).length < 1000000000 := by
  unfold csL
  split
  · have := setsTo_len (elF l) 128; omega
  · simp
theorem cfB_in {l : List Int} (h : cfB l = true) : neB l = true ∧ elF l (low l.length) = true := by
  unfold cfB at h; rw [Bool.and_eq_true] at h; exact h
attribute [local irreducible] p2 low memB risB
set_option maxHeartbeats 1000000 in
theorem specEliminationOf_c (v : Value) (l : List Int) (w : World) (hl : ints w.heap.size w v l) (hlen : l.length < 1000000000) (_hT : tab w) :
    Calls Tryd.prog 54 #[.agg #[v]] w fun e w' => ∃ v', e = .returned (.tuple #[v', .bool (cfB l)]) ∧ own 3 w' w.heap.size v' (eoL l) ∧ Below w.heap.size w w' := by
  have HL := hide hl
  have HB0 := hide (bx_start 62 v w)
  clear hl
  cases hn : neB l
  · have HN := hide hn
    have HC := hide (cfB_no hn)
    have HE := hide (eo_no (cfB_no hn))
    clear hn
    go_enter Tryd.func54, Tryd.ntmps54
    go_wp2_with (go_at_call 116; refine (shGood_c v l _ (bx_full HB0.out HL.out) hlen).mono ?_; rw [HN.out]; rintro e w2 ⟨rfl, hb2⟩; have HB2 := hide (bx_to HB0.out hb2); clear hb2)
    go_ret2
    exact ⟨_, by rw [HC.out]; rfl, by rw [HE.out]; exact own_nil _ _ _, bx_below HB2.out⟩
  · have HN := hide hn
    have HC := hide (cfB_is hn)
    have HE := hide (eo_is hn)
    clear hn
    go_enter Tryd.func54, Tryd.ntmps54
    go_wp2_with (first
      | (go_at_call 116; refine (shGood_c v l _ (bx_full HB0.out HL.out) hlen).mono ?_; rw [HN.out]; rintro e w2 ⟨rfl, hb2⟩; have HB2 := hide (bx_to HB0.out hb2); have hc2 := bx_cell HB2.out; clear hb2)
      | (go_at_call 117; refine (shEliminate_c v l _ (bx_full HB2.out HL.out) HN.out).mono ?_; rintro e w3 ⟨v3, rfl, ho3, hb3⟩; have HO3 := hide (ho3.mono (show w.heap.size ≤ w2.heap.size by have := bx_size HB2.out; omega)); have HB3 := hide (bx_to HB2.out hb3); clear hb3 ho3))
    go_ret2
    exact ⟨_, by rw [HC.out]; rfl, by rw [HE.out]; exact HO3.out, bx_below HB3.out⟩

set_option maxHeartbeats 2000000 in
theorem implEliminationOf_c (v : Value) (l : List Int) (w : World) (hl : ints w.heap.size w v l) (hlen : l.length < 1000000000) (hT : tab w) :
    Calls Tryd.prog 55 #[.agg #[v]] w fun e w' => ∃ v', e = .returned (.tuple #[v', .bool (cfB l)]) ∧ own 3 w' w.heap.size v' (eoL l) ∧ Below w.heap.size w w' := by
  have HL := hide hl
  have HT := hide hT
  have HB0 := hide (bx_start 62 v w)
  clear hl hT
  generalize htn : cfN l = N
  generalize htf : cfF l = F
  cases hc : cfB l
  · have HTB := hide (And.intro hc (And.intro htn htf))
    have HE := hide (eo_no hc)
    clear hc htn htf
    go_enter Tryd.func55, Tryd.ntmps55
    go_wp2_with (first
      | (go_at_call 118; refine (chordalFamily_c v l _ (bx_full HB0.out HL.out) hlen (bx_tab HB0.out HT.out)).mono ?_; rw [HTB.out.1, HTB.out.2.1, HTB.out.2.2]; rintro e w2 ⟨rfl, hb2⟩; have HB2 := hide (bx_to HB0.out hb2); have HF2 := hide (famAt.new 83 w2 0 noSet); clear hb2)
      | (refine wpList_alloc_fam zeroT rfl rfl _ (by first | (simp only [World.size_alloc]; rfl) | rfl) ?_)
      | (refine wpList_store_fam sizeT rfl (.tmp _) (.tmp _) rfl _ N F rfl rfl _ _ HF2.out ?_))
    go_ret2
    exact ⟨_, rfl, by rw [HE.out]; exact own_nil _ _ _, bx_below (bl_row (HB2.out.alloc (bx_size HB2.out) _) (bx_size HB2.out) _)⟩
  · obtain ⟨hN, hF⟩ := cfB_in hc
    have h7 := (neA_in (neB_A hN)).1.2
    obtain ⟨e1, e2, _⟩ := cf_yes hc
    rw [htn] at e1
    rw [htf] at e2
    subst e1 e2
    have HTB := hide (And.intro hc (And.intro htn htf))
    have HE := hide (show eoL l = finL (elF l) l.length (low l.length) 0 by rw [eo_is hN, geL_yes hF])
    have HLD : Hid (∀ w1, tab w1 → Calls Tryd.prog 119 #[.agg (fam (l.length : Int) (elF l)), .slice none 0 0, .int .i64 0, .int .i64 (low l.length : Int)] w1 fun e w' => ∃ v', e = .returned v' ∧ own 3 w' w1.heap.size v' (finL (elF l) l.length (low l.length) 0) ∧ Below w1.heap.size w1 w') := hide fun w1 hT1 => by
      have := leadOn_c (l.length : Int) (elF l) (.slice none 0 0) [] 0 (low l.length) w1 (ints_nil _ _ _ _) (by simp) (by omega) (by omega) (by rw [Int.toNat_natCast]; exact elF_spc h7 hF) (elF_zero h7) hF (by rw [sub_or]; intro i hi; simp at hi) hT1
      rw [Int.toNat_natCast, List.nil_append] at this
      exact this
    have HFU : Hid (∀ (G : Nat → Bool) (w1 : World), Calls Tryd.prog 97 #[.agg (fam (l.length : Int) G)] w1 fun e w' => e = .returned (.int .i64 (low l.length : Int)) ∧ Below w1.heap.size w1 w') := hide fun G w1 => by
      have := full_c (l.length : Int) G w1 (by omega) (by omega)
      rw [Int.toNat_natCast] at this
      exact this
    clear hc htn htf hN hF
    go_enter Tryd.func55, Tryd.ntmps55
    go_wp2_with (first
      | (go_at_call 118; refine (chordalFamily_c v l _ (bx_full HB0.out HL.out) hlen (bx_tab HB0.out HT.out)).mono ?_; rw [HTB.out.1, HTB.out.2.1, HTB.out.2.2]; rintro e w2 ⟨rfl, hb2⟩; have HB2 := hide (bx_to HB0.out hb2); have HF2 := hide (famAt.new 83 w2 0 noSet); clear hb2; have HF3 := hide (HF2.out.row (l.length : Int) (elF l)); have HB3 := hide (bl_row (HB2.out.alloc (bx_size HB2.out) (.cells (fam 0 noSet) 83)) (bx_size HB2.out) (fam (l.length : Int) (elF l))))
      | (refine wpList_alloc_fam zeroT rfl rfl _ (by first | (simp only [World.size_alloc]; rfl) | rfl) ?_)
      | (refine wpList_store_fam sizeT rfl (.tmp _) (.tmp _) rfl _ (l.length : Int) (elF l) rfl rfl _ _ HF2.out ?_))
    generalize ((w2.alloc (.cells (fam 0 noSet) 83)).setRow w2.heap.size (fam (l.length : Int) (elF l))) = W at HF3 HB3 ⊢
    refine wp_region_held (S := Below W.heap.size W) (by kernel_rfl) ?_
    have hS0 : Below W.heap.size W { W with drawn := W.drawn + 1 } := (Below.refl _ _).drew
    generalize ({ W with drawn := W.drawn + 1 } : World) = C0 at hS0 ⊢
    have hz0 : W.heap.size ≤ C0.heap.size := hS0.size
    have hzw := bx_size HB3.out
    refine wpAnyH_take (i := 0) rfl (by kernel_rfl) (by kernel_rfl) (by kernel_rfl) (fun _ _ _ h => h) (yields_load_fam rowT sizeT rfl (.tmp _) rfl _ rfl (l.length : Int) (elF l) (fun w' h => HF3.out.below h HF3.out.lt)) hS0 ?_
    try simp only [Act.put, List.getElem_toArray, List.getElem_cons_zero, List.getElem_cons_succ, List.setIfInBounds_toArray, List.set_cons_zero, List.set_cons_succ]
    refine wpAnyH_take (i := 1) rfl (by kernel_rfl) (by kernel_rfl) (by kernel_rfl) (fun _ _ _ h => h) (yields_load_fam rowT sizeT rfl (.tmp _) rfl _ rfl (l.length : Int) (elF l) (fun w' h => HF3.out.below h HF3.out.lt)) hS0 ?_
    try simp only [Act.put, List.getElem_toArray, List.getElem_cons_zero, List.getElem_cons_succ, List.setIfInBounds_toArray, List.set_cons_zero, List.set_cons_succ]
    refine anyH_call (i := 2) (by kernel_rfl) rfl rfl 97 ent_fullC _ _ rfl #[.agg (fam (l.length : Int) (elF l))] rfl (HFU.out (elF l) C0) ?_
    rintro e C1 ⟨rfl, hb1⟩
    have hz1 := hb1.size
    have hS1 : Below W.heap.size W C1 := hS0.trans (hb1.mono hz0)
    refine ⟨_, rfl, hS1, ?_⟩
    try simp only [Act.put, List.getElem_toArray, List.getElem_cons_zero, List.getElem_cons_succ, List.setIfInBounds_toArray, List.set_cons_zero, List.set_cons_succ]
    refine anyH_call (i := 3) (by kernel_rfl) rfl rfl 119 ent_leadOnE _ _ rfl #[.agg (fam (l.length : Int) (elF l)), .slice none 0 0, .int .i64 0, .int .i64 (low l.length : Int)] rfl (HLD.out C1 (bx_tab (bx_to HB3.out hS1) HT.out)) ?_
    rintro e C2 ⟨v5, rfl, ho5, hb5⟩
    have hS2 : Below W.heap.size W C2 := hS1.trans (hb5.mono (by omega))
    refine ⟨_, rfl, hS2, ?_⟩
    have HO5 := hide (ho5.mono (show w.heap.size ≤ C1.heap.size by omega))
    try simp only [Act.put, List.getElem_toArray, List.getElem_cons_zero, List.getElem_cons_succ, List.setIfInBounds_toArray, List.set_cons_zero, List.set_cons_succ]
    refine anyH_op (i := 4) (by kernel_rfl) rfl rfl v5 C2 ?hq hS2 ?_
    case hq => simp [go_sem, Act.put]
    try simp only [Act.put, List.getElem_toArray, List.getElem_cons_zero, List.getElem_cons_succ, List.setIfInBounds_toArray, List.set_cons_zero, List.set_cons_succ]
    refine anyH_op (i := 5) (by kernel_rfl) rfl rfl (.bool true) C2 ?hq2 hS2 ?_
    case hq2 => simp [go_sem, Act.put]
    try simp only [Act.put, List.getElem_toArray, List.getElem_cons_zero, List.getElem_cons_succ, List.setIfInBounds_toArray, List.set_cons_zero, List.set_cons_succ]
    refine wpAnyH_done (by kernel_rfl) ?_ _
    try simp only [Act.put, List.getElem_toArray, List.getElem_cons_zero, List.getElem_cons_succ, List.setIfInBounds_toArray, List.set_cons_zero, List.set_cons_succ]
    have HB5 := hide (bx_to HB3.out hS2)
    clear ho5 hb5 hS2 hS1 hS0 hb1
    go_wp2
    go_ret2
    exact ⟨_, rfl, by rw [HE.out]; exact HO5.out, bx_below HB5.out⟩

set_option maxHeartbeats 2000000 in
theorem implChordalSpace_c (v : Value) (l : List Int) (w : World) (hl : ints w.heap.size w v l) (hlen : l.length < 1000000000) (hT : tab w) :
    Calls Tryd.prog 57 #[.agg #[v]] w fun e w' => ∃ v', e = .returned (.tuple #[.agg #[.int .i64 (cfN l), v'], .bool (cfB l)]) ∧ own 3 w' w.heap.size v' (csL l) ∧ Below w.heap.size w w' := by
  have HL := hide hl
  have HT := hide hT
  have HB1 := hide (show Below (w.heap.size + 1) (w.alloc (.cells #[v] 62)) ((w.alloc (.cells #[v] 62)).alloc (.cells #[.int .i64 0, .slice none 0 0] 30)) from (Below.refl _ _).alloc (by simp) _)
  have HR1 := hide (show ((w.alloc (.cells #[v] 62)).alloc (.cells #[.int .i64 0, .slice none 0 0] 30)).heap[w.heap.size + 1]? = some (.cells #[.int .i64 0, .slice none 0 0] 30) by have h := hp_last (w.alloc (.cells #[v] 62)) (.cells #[.int .i64 0, .slice none 0 0] 30); simpa using h)
  have hc1 := bx_cell HB1.out
  have HZ1 := hide (show ((w.alloc (.cells #[v] 62)).alloc (.cells #[.int .i64 0, .slice none 0 0] 30)).heap.size = w.heap.size + 2 by simp)
  have HTS := hide (show setsTo (cfF l) 128 = csL l from cf_sets)
  clear hl hT
  generalize htb : cfB l = tb
  generalize htn : cfN l = N
  generalize htf : cfF l = F at HTS
  have HTB := hide (And.intro htb (And.intro htn htf))
  clear htb htn htf
  go_enter Tryd.func57, Tryd.ntmps57
  go_wp2_with (first
    | (go_at_call 118; refine (chordalFamily_c v l _ (bx_full HB1.out HL.out) hlen (bx_tab HB1.out HT.out)).mono ?_; rw [HTB.out.1, HTB.out.2.1, HTB.out.2.2]; rintro e w2 ⟨rfl, hb2⟩; have hz2 := hb2.size; rw [HZ1.out] at hz2; have HB2 := hide (bx_to HB1.out hb2); have HR2 := hide ((hb2.block (w.heap.size + 1) (by rw [HZ1.out]; omega)).trans HR1.out); have HF2 := hide (famAt.new 83 w2 0 noSet); clear hb2; have HF3 := hide (HF2.out.row N F); have HR3 := hide (show ((w2.alloc (.cells (fam 0 noSet) 83)).setRow w2.heap.size (fam N F)).heap[w.heap.size + 1]? = some (.cells #[.int .i64 0, .slice none 0 0] 30) from (hp_rowO _ _ _ _ (by omega)).trans ((hp_old _ _ _ (by omega)).trans HR2.out)); have HB3 := hide (bl_row (HB2.out.alloc (by omega) (.cells (fam 0 noSet) 83)) (show w.heap.size + 1 ≤ w2.heap.size by omega) (fam N F)); have HZ3 := hide (show ((w2.alloc (.cells (fam 0 noSet) 83)).setRow w2.heap.size (fam N F)).heap.size = w2.heap.size + 1 by simp [World.setRow]))
    | (refine wpList_alloc_fam zeroT rfl rfl _ (by first | (simp only [World.size_alloc]; rfl) | rfl) ?_)
    | (refine wpList_store_fam sizeT rfl (.tmp _) (.tmp _) rfl _ N F rfl rfl _ _ HF2.out ?_)
    | (refine wpList_load_fam rowT sizeT rfl (.tmp _) rfl _ rfl N F HF3.out ?_)
    | (go_at_call 98; refine (space_c N F _).mono ?_; rintro e w8 ⟨v8, rfl, ho8, hb8⟩; obtain ⟨ua, uc, huv⟩ := ho8.shape; subst huv; have hr8 := (hb8.block (w.heap.size + 1) (by rw [HZ3.out]; omega)).trans HR3.out; obtain ⟨y0, y1, y2, y3⟩ := zero_slotsN hr8; have HB8 := hide (HB3.out.trans (hb8.mono (by rw [HZ3.out]; omega))); have HO8 := hide ho8; clear hb8 hr8 ho8))
  refine bodyPost_ret (v := .tuple #[.agg #[.int .i64 N, .slice ua (setsTo F 128).length uc], .bool tb]) (by simp [results, Tryd.results57, go_sem, y0, y1]) rfl ⟨_, rfl, ?_, ?_⟩
  · rw [← HTS.out]
    have hfin := ((HO8.out.setLow ⟨w.heap.size + 1, 0, none⟩ (show w.heap.size + 1 < _ by rw [HZ3.out]; omega) (.int .i64 N)).setLow ⟨w.heap.size + 1, 1, none⟩ (show w.heap.size + 1 < _ by rw [HZ3.out]; omega) (.slice ua (setsTo F 128).length uc))
    exact hfin.mono (by rw [HZ3.out]; omega)
  · exact ((bx_below HB8.out).setCell (by show w.heap.size ≤ w.heap.size + 1; omega) _).setCell (by show w.heap.size ≤ w.heap.size + 1; omega) _
end Go.Proofs.YtonimjpfaalniaaDoor
