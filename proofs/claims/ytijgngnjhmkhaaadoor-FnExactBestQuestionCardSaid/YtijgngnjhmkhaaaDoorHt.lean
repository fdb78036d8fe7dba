/- Contracts: HalfQuestion, the program's and the specification's. -/
import Derived.Test.YtijgngnjhmkhaaaDoorHj
import Derived.Test.YtijgngnjhmkhaaaDoorHr
import Derived.Test.YtijgngnjhmkhaaaDoorBx
namespace Go.Proofs.YtijgngnjhmkhaaaDoor
open Go.RowKit
set_option maxRecDepth 100000
set_option linter.unusedSimpArgs false
def hqF (l : List Int) (y z : Int) : Nat → Bool := leF (marksTo l l.length) y.toNat z.toNat
/-- Whether more than one set is left. -/
def hqB (n : Int) (l : List Int) (y z : Int) : Bool := asB n l y z && decide (opN n.toNat (hqF l y z) ≠ 0)
def hqN (n : Int) (l : List Int) (y z : Int) : Int := if hqB n l y z then n else 0
def hqM (n : Int) (l : List Int) (y z : Int) : Nat → Bool := if hqB n l y z then hqF l y z else noSet
def hqR (n : Int) (l : List Int) (y z : Int) : Int := if hqB n l y z then (hfI n.toNat (hqF l y z) : Int) else 0
theorem hqB_no {n : Int} {l : List Int} {y z : Int} (h : asB n l y z = false) : hqB n l y z = false := by unfold hqB; rw [h]; rfl
theorem hqB_is {n : Int} {l : List Int} {y z : Int} (h : asB n l y z = true) : hqB n l y z = decide (opN n.toNat (hqF l y z) ≠ 0) := by unfold hqB; rw [h]; rfl
theorem hq_no {n : Int} {l : List Int} {y z : Int} (h : hqB n l y z = false) : hqN n l y z = 0 ∧ hqM n l y z = noSet ∧ hqR n l y z = 0 := by unfold hqN hqM hqR; rw [h]; exact ⟨rfl, rfl, rfl⟩
theorem hq_yes {n : Int} {l : List Int} {y z : Int} (h : hqB n l y z = true) : hqN n l y z = n ∧ hqM n l y z = hqF l y z ∧ hqR n l y z = (hfI n.toNat (hqF l y z) : Int) := by unfold hqN hqM hqR; rw [h]; exact ⟨rfl, rfl, rfl⟩
theorem famL_hq {n : Int} {l : List Int} {y z : Int} (h : asB n l y z = true) : famL n l y z = .tuple #[.agg (fam n (hqF l y z)), .bool true] := by unfold famL lfN lfM hqF; rw [h]; rfl
theorem famL_hno {n : Int} {l : List Int} {y z : Int} (h : asB n l y z = false) : famL n l y z = .tuple #[.agg (fam 0 noSet), .bool false] := by unfold famL lfN lfM; rw [h]; rfl
attribute [local irreducible] p2 low memB risB famAt own
set_option maxHeartbeats 4000000 in
theorem familyToAsk_c (n : Int) (v : Value) (l : List Int) (y z : Int) (w : World) (hl : ints w.heap.size w v l) (hlen : l.length < 1000000000) :
    Calls Tryd.prog 39 #[.agg #[.int .i64 n, v], .int .i64 y, .int .i64 z] w fun e w' => e = .returned (.tuple #[.agg (fam (hqN n l y z) (hqM n l y z)), .bool (hqB n l y z)]) ∧ Below w.heap.size w w' := by
  have hf1 : famAt 46 ((w.alloc (.cells #[.int .i64 n, v] 28)).alloc (.cells (fam 0 noSet) 46)) (w.heap.size + 1) 0 noSet := by
    have := famAt.new 46 (w.alloc (.cells #[.int .i64 n, v] 28)) 0 noSet
    simpa using this
  have HB0 := hide (((Below.refl w.heap.size w).alloc (Nat.le_refl _) (.cells #[.int .i64 n, v] 28)).alloc (by simp) (.cells (fam 0 noSet) 46))
  have HL := hide (((hl.alloc (.cells #[.int .i64 n, v] 28)).alloc (.cells (fam 0 noSet) 46)).mono (show w.heap.size ≤ ((w.alloc (.cells #[.int .i64 n, v] 28)).alloc (.cells (fam 0 noSet) 46)).heap.size by simp <;> omega))
  have HZ0 := hide (show ((w.alloc (.cells #[.int .i64 n, v] 28)).alloc (.cells (fam 0 noSet) 46)).heap.size = w.heap.size + 2 by simp)
  have HF1 := hide hf1
  clear hl hf1
  cases hok : asB n l y z
  · have HV := hide (famL_hno hok)
    obtain ⟨e1, e2, _⟩ := hq_no (hqB_no hok)
    rw [e1, e2, hqB_no hok]
    clear hok e1 e2
    go_enter Tryd.func39, Tryd.ntmps39
    go_wp2_with (first
      | (refine wpList_alloc_fam zeroT rfl rfl _ (by first | (simp only [World.size_alloc]; rfl) | rfl) ?_)
      | (go_at_call 51; refine (familyLeft_c n v l y z _ HL.out hlen).mono ?_; rw [HV.out]; rintro e w1 ⟨rfl, hb1⟩; rw [HZ0.out] at hb1; have hz1 := hb1.size; rw [HZ0.out] at hz1; have hf2 := (HF1.out.below hb1 (by omega)).alloc (.cells (fam 0 noSet) 46); have HG2 := hide (hf2.rowO w1.heap.size (by omega) (fam 0 noSet)); have HB1 := hide (bl_row ((HB0.out.trans (hb1.mono (by omega))).alloc (by omega) (.cells (fam 0 noSet) 46)) (show w.heap.size ≤ w1.heap.size by omega) (fam 0 noSet)); clear hb1 hf2)
      | (refine wpList_store_fam sizeT rfl (.tmp 8) (.tmp _) rfl w1.heap.size _ _ rfl rfl _ _ (famAt.new _ _ _ _) ?_)
      | (refine wpList_build_fam0 built0 rfl rfl ?_)
      | (refine wpList_store_fam sizeT rfl (.tmp 6) (.tmp _) rfl (w.heap.size + 1) 0 noSet rfl rfl _ _ HG2.out ?_))
    exact bodyPost_ret (v := .tuple #[.agg (fam 0 noSet), .bool false]) (results_fam2 (p := 6) (q := 7) rowT sizeT rfl _ _ (w.heap.size + 1) rfl _ _ (HG2.out.row _ _)) rfl ⟨rfl, bl_row HB1.out (by omega) _⟩
  · have HV := hide (famL_hq hok)
    have hn := okSp_n (asOk_in (asB_ok hok)).1
    obtain ⟨m, rfl⟩ := Int.eq_ofNat_of_zero_le (show 0 ≤ n by omega)
    have hm7 : m ≤ 7 := by omega
    have HOP := hide (fun w1 => open_c m (hqF l y z) w1 hm7)
    have hB := hqB_is hok
    rw [Int.toNat_natCast] at hB
    by_cases h0 : opN m (hqF l y z) = 0
    · rw [h0] at HOP
      have hB2 : hqB (m : Int) l y z = false := by rw [hB, decide_eq_false (by simp [h0])]
      obtain ⟨e1, e2, _⟩ := hq_no hB2
      rw [e1, e2, hB2]
      clear hok e1 e2 hB hB2 h0
      generalize hqF l y z = F at *
      go_enter Tryd.func39, Tryd.ntmps39
      go_wp2_with (first
        | (refine wpList_alloc_fam zeroT rfl rfl _ (by first | (simp only [World.size_alloc]; rfl) | rfl) ?_)
        | (go_at_call 51; refine (familyLeft_c _ v l y z _ HL.out hlen).mono ?_; rw [HV.out]; rintro e w1 ⟨rfl, hb1⟩; rw [HZ0.out] at hb1; have hz1 := hb1.size; rw [HZ0.out] at hz1; have hf2 := (HF1.out.below hb1 (by omega)).alloc (.cells (fam 0 noSet) 46); have HG2 := hide (hf2.rowO w1.heap.size (by omega) (fam (m : Int) F)); have HH2 := hide ((famAt.new 46 w1 0 noSet).row (m : Int) F); have HZ2 := hide (show ((w1.alloc (.cells (fam 0 noSet) 46)).setRow w1.heap.size (fam (m : Int) F)).heap.size = w1.heap.size + 1 by simp [World.setRow]); have HB1 := hide (bl_row ((HB0.out.trans (hb1.mono (by omega))).alloc (by omega) (.cells (fam 0 noSet) 46)) (show w.heap.size ≤ w1.heap.size by omega) (fam (m : Int) F)); clear hb1 hf2)
        | (refine wpList_store_fam sizeT rfl (.tmp 8) (.tmp _) rfl w1.heap.size _ _ rfl rfl _ _ (famAt.new _ _ _ _) ?_)
        | (refine wpList_load_fam rowT sizeT rfl (.tmp 8) rfl w1.heap.size rfl (m : Int) F HH2.out ?_)
        | (go_at_call 60; refine (HOP.out _).mono ?_; rintro e w3 ⟨rfl, hb3⟩; rw [HZ2.out] at hb3; have HG3 := hide (HG2.out.below hb3 (by omega)); have HB3 := hide (HB1.out.trans (hb3.mono (by omega))); clear hb3)
        | (refine wpList_build_fam0 built0 rfl rfl ?_)
        | (refine wpList_store_fam sizeT rfl (.tmp 6) (.tmp _) rfl (w.heap.size + 1) 0 noSet rfl rfl _ _ HG3.out ?_))
      exact bodyPost_ret (v := .tuple #[.agg (fam 0 noSet), .bool false]) (results_fam2 (p := 6) (q := 7) rowT sizeT rfl _ _ (w.heap.size + 1) rfl _ _ (HG3.out.row _ _)) rfl ⟨rfl, bl_row HB3.out (by omega) _⟩
    · have hB2 : hqB (m : Int) l y z = true := by rw [hB, decide_eq_true h0]
      obtain ⟨e1, e2, _⟩ := hq_yes hB2
      have hcz : ¬ ((opN m (hqF l y z) : Int) = 0) := by omega
      have hcb : ((opN m (hqF l y z) : Int) == 0) = false := by simp; omega
      rw [e1, e2, hB2]
      clear hok e1 e2 hB hB2 h0
      generalize hqF l y z = F at *
      generalize opN m F = O at *
      go_enter Tryd.func39, Tryd.ntmps39
      go_wp2_with (first
        | (refine wpList_alloc_fam zeroT rfl rfl _ (by first | (simp only [World.size_alloc]; rfl) | rfl) ?_)
        | (refine wpList_load_fam rowT sizeT rfl (.tmp 8) rfl w1.heap.size rfl (m : Int) F HH3.out ?_)
        | (go_at_call 51; refine (familyLeft_c _ v l y z _ HL.out hlen).mono ?_; rw [HV.out]; rintro e w1 ⟨rfl, hb1⟩; rw [HZ0.out] at hb1; have hz1 := hb1.size; rw [HZ0.out] at hz1; have hf2 := (HF1.out.below hb1 (by omega)).alloc (.cells (fam 0 noSet) 46); have HG2 := hide (hf2.rowO w1.heap.size (by omega) (fam (m : Int) F)); have HH2 := hide ((famAt.new 46 w1 0 noSet).row (m : Int) F); have HZ2 := hide (show ((w1.alloc (.cells (fam 0 noSet) 46)).setRow w1.heap.size (fam (m : Int) F)).heap.size = w1.heap.size + 1 by simp [World.setRow]); have HB1 := hide (bl_row ((HB0.out.trans (hb1.mono (by omega))).alloc (by omega) (.cells (fam 0 noSet) 46)) (show w.heap.size ≤ w1.heap.size by omega) (fam (m : Int) F)); clear hb1 hf2)
        | (refine wpList_store_fam sizeT rfl (.tmp 8) (.tmp _) rfl w1.heap.size _ _ rfl rfl _ _ (famAt.new _ _ _ _) ?_)
        | (refine wpList_load_fam rowT sizeT rfl (.tmp 8) rfl w1.heap.size rfl (m : Int) F HH2.out ?_)
        | (go_at_call 60; refine (HOP.out _).mono ?_; rintro e w3 ⟨rfl, hb3⟩; rw [HZ2.out] at hb3; have HG3 := hide (HG2.out.below hb3 (by omega)); have HH3 := hide (HH2.out.below hb3 (by omega)); have HB3 := hide (HB1.out.trans (hb3.mono (by omega))); clear hb3)
        | (refine wpList_store_fam sizeT rfl (.tmp 6) (.tmp _) rfl (w.heap.size + 1) (m : Int) F rfl rfl _ _ HG3.out ?_))
      exact bodyPost_ret (v := .tuple #[.agg (fam (m : Int) F), .bool true]) (results_fam2 (p := 6) (q := 7) rowT sizeT rfl _ _ (w.heap.size + 1) rfl _ _ (HG3.out.row _ _)) rfl ⟨rfl, bl_row HB3.out (by omega) _⟩
theorem results_csT {P : Program} {T : TypeId} {cs : Array Value} (hT : (P.underlying T).map TypeDesc.isRow = some true) (hS : (P.info? T).map (·.size) = some cs.size) {fn : Func} {p : Tmp} (h : fn.results = #[.cell p T]) (tmps : Array Value) (w : World) (g : Nat)
    (hp : tmps.getD p undef = .pointer (some ⟨g, 0, none⟩)) (hg : w.heap[g]? = some (.cells cs T)) : (results fn tmps).run P w = .ok (.agg cs) w := by
  obtain ⟨d, hu, hd⟩ := rowTy_of hT
  exact results_cell_row h tmps w g T cs (0, 0) d hp hg hu (by cases d <;> first | rfl | (cases hd)) hS
theorem rowSt : (Tryd.prog.underlying 51).map TypeDesc.isRow = some true := by kernel_rfl
theorem sizeSt : (Tryd.prog.info? 51).map (·.size) = some 1 := by kernel_rfl
theorem halfStrategy_c (w : World) : Calls Tryd.prog 40 #[] w fun e w' => e = .returned (.agg #[.func (.func 61) #[] #[]]) ∧ Below w.heap.size w w' := by
  have H0 := hide ((Below.refl w.heap.size w).alloc (Nat.le_refl _) (.cells #[.func (.func 61) #[] #[]] 51))
  go_enter Tryd.func40, Tryd.ntmps40
  go_wp2
  exact bodyPost_ret (v := .agg #[.func (.func 61) #[] #[]]) (results_csT (cs := #[.func (.func 61) #[] #[]]) rowSt sizeSt rfl _ _ w.heap.size rfl (hp_last _ _)) rfl ⟨rfl, H0.out⟩
theorem ent_halfStrategy : enters Tryd.prog 40 := enters_of Tryd.func40 (by kernel_rfl) (by kernel_rfl)
theorem ent_half1 : enters Tryd.prog 61 := enters_of Tryd.func61 (by kernel_rfl) (by kernel_rfl)
set_option maxHeartbeats 4000000 in
theorem implHalfQuestion_c (n : Int) (v : Value) (l : List Int) (y z : Int) (w : World) (hl : ints w.heap.size w v l) (hlen : l.length < 1000000000) (hT : tab w) :
    Calls Tryd.prog 14 #[.agg #[.int .i64 n, v], .int .i64 y, .int .i64 z] w fun e w' => e = .returned (.tuple #[.int .i64 (hqR n l y z), .bool (hqB n l y z)]) ∧ Below w.heap.size w w' := by
  have HT := hide hT
  have HL := hide ((hl.alloc (.cells #[.int .i64 n, v] 28)).mono (show w.heap.size ≤ (w.alloc (.cells #[.int .i64 n, v] 28)).heap.size by simp))
  have H0 := hide ((Below.refl w.heap.size w).alloc (Nat.le_refl _) (.cells #[.int .i64 n, v] 28))
  have HZ := hide (show (w.alloc (.cells #[.int .i64 n, v] 28)).heap.size = w.heap.size + 1 by simp)
  have HTA := hide (fun w1 h => familyToAsk_c n v l y z w1 h hlen)
  have hfd : ∀ w, (Instr.field 51 (.agg #[.func (.func 61) #[] #[]]) 0).run Tryd.prog w = .ok (.func (.func 61) #[] #[]) w := fun _ => by kernel_rfl
  clear hl hT
  cases hB : hqB n l y z
  · obtain ⟨e1, e2, e3⟩ := hq_no hB
    rw [hB, e1, e2] at HTA
    rw [e3]
    clear hB e1 e2 e3
    go_enter Tryd.func14, Tryd.ntmps14
    go_wp2_with (first
      | (go_at_call 39; refine (HTA.out _ HL.out).mono ?_; rintro e w1 ⟨rfl, hb⟩; have hz1 := hb.size; rw [HZ.out] at hz1; have HB := hide (bl_row ((H0.out.trans (hb.mono (by rw [HZ.out]; omega))).alloc (by omega) (.cells (fam 0 noSet) 46)) (show w.heap.size ≤ w1.heap.size by omega) (fam 0 noSet)); clear hb)
      | (refine wpList_alloc_fam zeroT rfl rfl _ (by first | (simp only [World.size_alloc]; rfl) | rfl) ?_)
      | (refine wpList_store_fam sizeT rfl (.tmp _) (.tmp _) rfl w1.heap.size _ _ rfl rfl _ _ (famAt.new _ _ _ _) ?_))
    go_ret2
    exact ⟨rfl, HB.out⟩
  · obtain ⟨e1, e2, e3⟩ := hq_yes hB
    have hasb : asB n l y z = true := by unfold hqB at hB; rw [Bool.and_eq_true] at hB; exact hB.1
    have hsp := (asOk_in (asB_ok hasb)).1
    have hn := okSp_n hsp
    have hop : opN n.toNat (hqF l y z) ≠ 0 := by rw [hqB_is hasb, decide_eq_true_eq] at hB; exact hB
    have HLO := hide (show ∀ x, hqF l y z x = true → x ≤ low n.toNat from fun x hx => marks_low hsp x (leF_in hx))
    obtain ⟨m, rfl⟩ := Int.eq_ofNat_of_zero_le (show 0 ≤ n by omega)
    rw [Int.toNat_natCast] at hop HLO e3
    have hm7 : m ≤ 7 := by omega
    rw [hB, e1, e2] at HTA
    rw [e3]
    clear hB e1 e2 e3 hasb hsp
    generalize hqF l y z = F at *
    have HH1 := hide (fun w1 h => half1_c m F w1 hm7 HLO.out hop h)
    generalize hfI m F = r at *
    go_enter Tryd.func14, Tryd.ntmps14
    go_wp2_with (first
      | (go_at_call 39; refine (HTA.out _ HL.out).mono ?_; rintro e w1 ⟨rfl, hb⟩; have hz1 := hb.size; rw [HZ.out] at hz1; have HH := hide ((famAt.new 46 w1 0 noSet).row (m : Int) F); have HB := hide (bl_row ((H0.out.trans (hb.mono (by rw [HZ.out]; omega))).alloc (by omega) (.cells (fam 0 noSet) 46)) (show w.heap.size ≤ w1.heap.size by omega) (fam (m : Int) F)); clear hb)
      | (refine wpList_alloc_fam zeroT rfl rfl _ (by first | (simp only [World.size_alloc]; rfl) | rfl) ?_)
      | (refine wpList_store_fam sizeT rfl (.tmp _) (.tmp _) rfl w1.heap.size _ _ rfl rfl _ _ (famAt.new _ _ _ _) ?_))
    generalize (w1.alloc (.cells (fam 0 noSet) 46)).setRow w1.heap.size (fam (m : Int) F) = W at *
    refine wp_region_old (by kernel_rfl) (by kernel_rfl) ?_
    refine q_callH rfl 40 ent_halfStrategy _ _ rfl #[] rfl (.agg #[.func (.func 61) #[] #[]]) (fun w' _ => halfStrategy_c w') ?_
    simp only [Act.put, List.setIfInBounds_toArray, List.set_cons_zero, List.set_cons_succ]
    refine q_valH rfl (.func (.func 61) #[] #[]) (fun w' => by simp [execOp, go_sem, hfd]) ?_
    simp only [Act.put, List.setIfInBounds_toArray, List.set_cons_zero, List.set_cons_succ]
    refine q_load_fam rowT sizeT rfl (.tmp _) rfl w1.heap.size rfl (m : Int) F (fun w' h => HH.out.below h HH.out.lt) ?_
    simp only [Act.put, List.setIfInBounds_toArray, List.set_cons_zero, List.set_cons_succ]
    refine q_callF rfl 61 #[] ent_half1 (.tmp _) _ _ rfl rfl #[.agg (fam (m : Int) F)] rfl (.int .i64 (r : Int)) (fun w' h => HH1.out w' ((HT.out.below HB.out).below h)) ?_
    simp only [Act.put, List.setIfInBounds_toArray, List.set_cons_zero, List.set_cons_succ]
    repeat (first | go_big_quiet_skip | go_big_quiet_step ((first | exact fun _ => rfl | exact fun _ => ⟨rfl, rfl⟩)))
    refine wpQuiet_nil ?_
    intro w2 hb2
    have HB2 := hide (HB.out.trans (hb2.mono HB.out.size))
    clear hb2
    go_wp2
    go_ret2
    exact ⟨rfl, HB2.out⟩
set_option maxHeartbeats 4000000 in
theorem specHalfQuestion_c (n : Int) (v : Value) (l : List Int) (y z : Int) (w : World) (hl : ints w.heap.size w v l) (hlen : l.length < 1000000000) :
    Calls Tryd.prog 12 #[.agg #[.int .i64 n, v], .int .i64 y, .int .i64 z] w fun e w' => e = .returned (.tuple #[.int .i64 (hqR n l y z), .bool (hqB n l y z)]) ∧ Below w.heap.size w w' := by
  have HL := hide ((hl.alloc (.cells #[.int .i64 n, v] 28)).mono (show w.heap.size ≤ (w.alloc (.cells #[.int .i64 n, v] 28)).heap.size by simp))
  have H0 := hide ((Below.refl w.heap.size w).alloc (Nat.le_refl _) (.cells #[.int .i64 n, v] 28))
  have HS0 := hide (hp_last w (.cells #[.int .i64 n, v] 28))
  have HZ := hide (show (w.alloc (.cells #[.int .i64 n, v] 28)).heap.size = w.heap.size + 1 by simp)
  have c0 := cells_at0 HS0.out
  have c1 := cells_at1 HS0.out
  have HAG := hide (fun w1 h => asGood_c n v l y z w1 h hlen)
  clear hl
  cases hg : asB n l y z
  · rw [hg] at HAG
    obtain ⟨_, _, e3⟩ := hq_no (hqB_no hg)
    rw [e3, hqB_no hg]
    clear hg e3
    go_enter Tryd.func12, Tryd.ntmps12
    go_wp2_with (first
      | (go_at_call 35; refine (HAG.out _ HL.out).mono ?_; rintro e w1 ⟨rfl, hb1⟩; have HS1 := hide ((hb1.block w.heap.size (by rw [HZ.out]; omega)).trans HS0.out); have d0 := cells_at0 HS1.out; have d1 := cells_at1 HS1.out; have HL1 := hide ((HL.out.below hb1 (Nat.le_refl _)).mono hb1.size); have hz1 := hb1.size; rw [HZ.out] at hz1; have HB1 := hide (H0.out.trans (hb1.mono (by rw [HZ.out]; omega))); clear hb1 c0 c1)
      | (go_at_call 36; refine (HAS.out _ HL1.out).mono ?_; rintro e w2 ⟨v2, rfl, ho2, hb2⟩; have hz2 := hb2.size; have HS2 := hide ((hb2.block w.heap.size (by omega)).trans HS1.out); clear d0 d1; have d0 := cells_at0 HS2.out; have d1 := cells_at1 HS2.out; have HI2 := hide ho2.ints; have HL2 := hide ((HL1.out.below hb2 (Nat.le_refl _)).mono hb2.size); have HB2 := hide (HB1.out.trans (hb2.mono (by omega))); clear ho2 hb2)
      )
    go_ret2
    exact ⟨rfl, HB1.out⟩
  · obtain ⟨hsp, hy, hz, _⟩ := asOk_in (asB_ok hg)
    have HR := hide (sp_r128 hsp)
    have hn := okSp_n hsp
    have hlo := low_lt n.toNat (by omega)
    have hpos := asB_pos hg
    obtain ⟨y, rfl⟩ := Int.eq_ofNat_of_zero_le hy.1
    obtain ⟨z, rfl⟩ := Int.eq_ofNat_of_zero_le hz.1
    have hy8 : y < 128 := by omega
    have hz8 : z < 128 := by omega
    obtain ⟨m, rfl⟩ := Int.eq_ofNat_of_zero_le (show 0 ≤ n by omega)
    have hm7 : m ≤ 7 := by omega
    rw [Int.toNat_natCast, Int.toNat_natCast] at hpos
    have HAS := hide (fun w1 h => asLeft_c (m : Int) v l y z w1 h hlen HR.out hy8 hz8)
    have hLL := lf_sets hsp y z
    have hB := hqB_is hg
    have hFd : hqF l (y : Int) (z : Int) = leF (marksTo l l.length) y z := by unfold hqF; rw [Int.toNat_natCast, Int.toNat_natCast]
    rw [Int.toNat_natCast, hFd] at hB
    have HLO := hide (show ∀ x, leF (marksTo l l.length) y z x = true → x ≤ low m from fun x hx => by have := marks_low hsp x (leF_in hx); rwa [Int.toNat_natCast] at this)
    have hze := opN_zero hm7 HLO.out
    have hcn : cntS (leF (marksTo l l.length) y z) = (lfL l y z).length := by rw [hLL]; rfl
    have hle := lfL_le l y z
    rw [hcn] at hze
    rw [hg] at HAG
    by_cases h0 : opN m (leF (marksTo l l.length) y z) = 0
    · have hB2 : hqB (m : Int) l (y : Int) (z : Int) = false := by rw [hB, decide_eq_false (by simp [h0])]
      obtain ⟨_, _, e3⟩ := hq_no hB2
      rw [e3, hB2]
      have h1 : (lfL l y z).length = 1 := by have := hze.1 h0; omega
      have hb1 : (((lfL l y z).length : Int) == 1) = true := by rw [h1]; rfl
      have hb2 : ((lfL l y z).length : Int) = 1 := by omega
      clear hg e3 hB hB2 hFd hcn hze h0 hLL hy hz
      generalize lfL l y z = L at *
      go_enter Tryd.func12, Tryd.ntmps12
      go_wp2_with (first
        | (go_at_call 35; refine (HAG.out _ HL.out).mono ?_; rintro e w1 ⟨rfl, hb1⟩; have HS1 := hide ((hb1.block w.heap.size (by rw [HZ.out]; omega)).trans HS0.out); have d0 := cells_at0 HS1.out; have d1 := cells_at1 HS1.out; have HL1 := hide ((HL.out.below hb1 (Nat.le_refl _)).mono hb1.size); have hz1 := hb1.size; rw [HZ.out] at hz1; have HB1 := hide (H0.out.trans (hb1.mono (by rw [HZ.out]; omega))); clear hb1 c0 c1)
        | (go_at_call 36; refine (HAS.out _ HL1.out).mono ?_; rintro e w2 ⟨v2, rfl, ho2, hb2⟩; have hz2 := hb2.size; have HS2 := hide ((hb2.block w.heap.size (by omega)).trans HS1.out); clear d0 d1; have d0 := cells_at0 HS2.out; have d1 := cells_at1 HS2.out; have HI2 := hide ho2.ints; have HL2 := hide ((HL1.out.below hb2 (Nat.le_refl _)).mono hb2.size); have HB2 := hide (HB1.out.trans (hb2.mono (by omega))); clear ho2 hb2)
        | (refine wpList_len sliceT rfl (.tmp _) rfl _ rfl w2.heap.size L HI2.out ?_))
      go_ret2
      exact ⟨rfl, HB2.out⟩
    · have hB2 : hqB (m : Int) l (y : Int) (z : Int) = true := by rw [hB, decide_eq_true h0]
      obtain ⟨_, _, e3⟩ := hq_yes hB2
      rw [Int.toNat_natCast, hFd] at e3
      rw [e3, hB2]
      have h1 : (lfL l y z).length ≠ 1 := by intro e; exact h0 (hze.2 (by omega))
      have hb1 : (((lfL l y z).length : Int) == 1) = false := by simp; omega
      have hb2 : ¬ ((lfL l y z).length : Int) = 1 := by omega
      have HAH := hide (fun w1 h => asHalf_c m v l y z w1 h hlen hsp hy8 hz8 h0)
      have HQ := hide (show mnI (difN (leF (marksTo l l.length) y z)) (opN m (leF (marksTo l l.length) y z)) = hfI m (leF (marksTo l l.length) y z) from rfl)
      rw [HQ.out] at HAH
      clear hg e3 hB hB2 hFd hcn hze h0 hLL hy hz HQ
      generalize hfI m (leF (marksTo l l.length) y z) = r at *
      generalize lfL l y z = L at *
      go_enter Tryd.func12, Tryd.ntmps12
      go_wp2_with (first
        | (go_at_call 35; refine (HAG.out _ HL.out).mono ?_; rintro e w1 ⟨rfl, hb1⟩; have HS1 := hide ((hb1.block w.heap.size (by rw [HZ.out]; omega)).trans HS0.out); have d0 := cells_at0 HS1.out; have d1 := cells_at1 HS1.out; have HL1 := hide ((HL.out.below hb1 (Nat.le_refl _)).mono hb1.size); have hz1 := hb1.size; rw [HZ.out] at hz1; have HB1 := hide (H0.out.trans (hb1.mono (by rw [HZ.out]; omega))); clear hb1 c0 c1)
        | (go_at_call 36; refine (HAS.out _ HL1.out).mono ?_; rintro e w2 ⟨v2, rfl, ho2, hb2⟩; have hz2 := hb2.size; have HS2 := hide ((hb2.block w.heap.size (by omega)).trans HS1.out); clear d0 d1; have d0 := cells_at0 HS2.out; have d1 := cells_at1 HS2.out; have HI2 := hide ho2.ints; have HL2 := hide ((HL1.out.below hb2 (Nat.le_refl _)).mono hb2.size); have HB2 := hide (HB1.out.trans (hb2.mono (by omega))); clear ho2 hb2)
        | (refine wpList_len sliceT rfl (.tmp _) rfl _ rfl w2.heap.size L HI2.out ?_)
        | (go_at_call 37; refine (HAH.out _ HL2.out).mono ?_; rintro e w3 ⟨rfl, hb3⟩; have HB3 := hide (HB2.out.trans (hb3.mono HB2.out.size)); clear hb3))
      go_ret2
      exact ⟨rfl, HB3.out⟩
theorem specHalfQuestionD_c (n : Int) (v : Value) (l : List Int) (y z : Int) (w : World) (hl : ints w.heap.size w v l) (hlen : l.length < 1000000000) (_ : tab w) :
    Calls Tryd.prog 12 #[.agg #[.int .i64 n, v], .int .i64 y, .int .i64 z] w fun e w' => e = .returned (.tuple #[.int .i64 (hqR n l y z), .bool (hqB n l y z)]) ∧ Below w.heap.size w w' := specHalfQuestion_c n v l y z w hl hlen
end Go.Proofs.YtijgngnjhmkhaaaDoor
