/- Contracts: the family of the sets that can be taken away one by one. -/
import Derived.Test.YtonimjpfaalniaaDoorNb
import Derived.Test.YtonimjpfaalniaaDoorNo
import Derived.Test.YtonimjpfaalniaaDoorNk
import Derived.Test.YtonimjpfaalniaaDoorTw
import Derived.Test.YtonimjpfaalniaaDoorFi
import Derived.Test.YtonimjpfaalniaaDoorRb
namespace Go.Proofs.YtonimjpfaalniaaDoor
open Go.RowKit
set_option maxRecDepth 100000
set_option linter.unusedSimpArgs false
theorem ent_fullC : enters Tryd.prog 97 := enters_of Tryd.func97 (by kernel_rfl) (by kernel_rfl)
def cfB (l : List Int) : Bool := neB l && elF l (low l.length)
def cfN (l : List Int) : Int := if cfB l then l.length else 0
def cfF (l : List Int) : Nat → Bool := if cfB l then elF l else noSet
theorem cf_yes {l : List Int} (h : cfB l = true) : cfN l = l.length ∧ cfF l = elF l ∧ cfB l = true := by unfold cfN cfF; rw [h]; exact ⟨rfl, rfl, rfl⟩
theorem cf_no {l : List Int} (h : cfB l = false) : cfN l = 0 ∧ cfF l = noSet ∧ cfB l = false := by unfold cfN cfF; rw [h]; exact ⟨rfl, rfl, rfl⟩
theorem cfB_no {l : List Int} (h : neB l = false) : cfB l = false := by unfold cfB; rw [h]; rfl
theorem cfB_is {l : List Int} (h : neB l = true) : cfB l = elF l (low l.length) := by unfold cfB; rw [h]; rfl
/-- What can be taken away next. -/
def elN (l : List Int) (s : Nat) : Nat := simS l (andNot (low l.length) s)
theorem elN_iff {l : List Int} (h7 : l.length ≤ 7) (x : Nat) : RchN (elN l) x ↔ elF l x = true := by
  constructor
  · intro h
    induction h with
    | zero => exact elF_zero h7
    | step a i ha hi ih =>
      unfold elN at hi
      rw [simS_bit, Bool.and_eq_true, Bool.and_eq_true, decide_eq_true_eq, andNot_bit, Bool.and_eq_true, Bool.not_eq_true'] at hi
      exact elF_step h7 ih hi.1 hi.2.1.2 hi.2.2
  · intro h
    refine elF_ind (P := fun x => RchN (elN l) x) h7 .zero ?_ (x + 1) x (by omega) h
    intro s i _ ih hi hb hs
    refine .step s i ih ?_
    unfold elN
    rw [simS_bit, andNot_bit, low_bit, decide_eq_true hi, hb, hs]
    rfl
theorem elN_lt (l : List Int) (a : Nat) : elN l a < 2 ^ l.length := itemsOf_lt _ _
theorem elN_fam {l : List Int} (h7 : l.length ≤ 7) : fam (l.length : Int) (rbOut (elN l) (2 ^ l.length)) = fam (l.length : Int) (elF l) :=
  fam_congr _ fun x _ => by
    rw [Bool.eq_iff_iff, rb_iff h7 (fun a _ => elN_lt l a), elN_iff h7]
attribute [local irreducible] p2 low memB risB elN
theorem ent_chordal1 : enters Tryd.prog 162 := enters_of Tryd.func162 (by kernel_rfl) (by kernel_rfl)
theorem chordal1_c (v : Value) (l : List Int) (s : Nat) (g1 g2 : Nat) (w : World) (hl : ints w.heap.size w v l) (hA : neA l = true) (hT : tab w) (hc1 : w.cell? ⟨g1, 0, none⟩ = some v) (hc2 : w.cell? ⟨g2, 0, none⟩ = some (.int .i64 (low l.length : Int))) :
    Calls Tryd.prog 162 #[.int .i64 (s : Int), .pointer (some ⟨g1, 0, none⟩), .pointer (some ⟨g2, 0, none⟩)] w fun e w' => e = .returned (.int .i64 (elN l s : Int)) ∧ Below w.heap.size w w' := by
  have h7 := (neA_in hA).1.2
  have hlo := low_lt l.length h7
  have han := i64_andNot (low l.length) s (by omega)
  have hr8 := andNot_lt128 (low l.length) s hlo
  have HSI := hide (fun w1 h1 hT1 => simplicial_c v l (andNot (low l.length) s) w1 h1 hA hr8 hT1)
  have HE := hide (show elN l s = simS l (andNot (low l.length) s) by unfold elN; rfl)
  obtain ⟨sa, sc, hv⟩ := hl.shape
  subst hv
  have HL := hide hl
  have HT := hide hT
  rw [HE.out]
  clear hl hT HE
  generalize andNot (low l.length) s = r at *
  generalize simS l r = x at *
  go_enter Tryd.func162, Tryd.ntmps162
  go_wp2_with (go_at_call 163; refine (HSI.out _ HL.out HT.out).mono ?_; rintro e w6 ⟨rfl, hb6⟩)
  go_ret
  exact ⟨rfl, hb6⟩
set_option maxHeartbeats 4000000 in
theorem chordalFamily_c (v : Value) (l : List Int) (w : World) (hl : ints w.heap.size w v l) (hlen : l.length < 1000000000) (hT : tab w) :
    Calls Tryd.prog 118 #[.agg #[v]] w fun e w' => e = .returned (.tuple #[.agg (fam (cfN l) (cfF l)), .bool (cfB l)]) ∧ Below w.heap.size w w' := by
  obtain ⟨sa, sc, hv⟩ := hl.shape
  subst hv
  have HL := hide hl
  have HT := hide hT
  have HB1 := hide (show Below (w.heap.size + 1) (w.alloc (.cells #[.slice sa l.length sc] 62)) ((w.alloc (.cells #[.slice sa l.length sc] 62)).alloc (.cells (fam 0 noSet) 83)) from (Below.refl _ _).alloc (by simp) _)
  have HF1 := hide (show famAt 83 ((w.alloc (.cells #[.slice sa l.length sc] 62)).alloc (.cells (fam 0 noSet) 83)) (w.heap.size + 1) 0 noSet by have h := famAt.new 83 (w.alloc (.cells #[.slice sa l.length sc] 62)) 0 noSet; simpa using h)
  have hc1 := bx_cell HB1.out
  have HZ1 := hide (show ((w.alloc (.cells #[.slice sa l.length sc] 62)).alloc (.cells (fam 0 noSet) 83)).heap.size = w.heap.size + 2 by simp)
  clear hl hT
  cases hn : neB l
  · have HN := hide hn
    obtain ⟨e1, e2, e3⟩ := cf_no (cfB_no hn)
    rw [e1, e2, e3]
    clear hn e1 e2 e3
    go_enter Tryd.func118, Tryd.ntmps118
    go_wp2_with (first
      | (refine wpList_alloc_fam zeroT rfl rfl _ (by first | (simp only [World.size_alloc]; rfl) | rfl) ?_)
      | (refine wpList_build_fam0 built0 rfl rfl ?_)
      | (go_at_call 156; refine (isNet_c _ l _ (bx_full HB1.out HL.out) hlen (bx_tab HB1.out HT.out)).mono ?_; rw [HN.out]; rintro e w2 ⟨rfl, hb2⟩; have hz2 := hb2.size; rw [HZ1.out] at hz2; have HB2 := hide (bx_to HB1.out hb2); have HF2 := hide (HF1.out.below hb2 HF1.out.lt); clear hb2)
      | (refine wpList_store_fam sizeT rfl (.tmp _) (.tmp _) rfl _ 0 noSet rfl rfl _ _ HF2.out ?_))
    refine bodyPost_ret (v := .tuple #[.agg (fam 0 noSet), .bool false]) (results_fam2 (p := 2) (q := 3) rowT sizeT rfl _ _ (w.heap.size + 1) rfl _ _ (HF2.out.row _ _)) rfl ⟨rfl, bl_row (bx_below HB2.out) (by omega) _⟩
  · have HN := hide hn
    have HA := hide (neB_A hn)
    have h7 := (neA_in (neB_A hn)).1.2
    have hlo := low_lt l.length h7
    have HFA := hide (elN_fam h7)
    have HFU : Hid (∀ (G : Nat → Bool) (w1 : World), Calls Tryd.prog 97 #[.agg (fam (l.length : Int) G)] w1 fun e w' => e = .returned (.int .i64 (low l.length : Int)) ∧ Below w1.heap.size w1 w') := hide fun G w1 => by
      have := full_c (l.length : Int) G w1 (by omega) (by omega)
      rw [Int.toNat_natCast] at this
      exact this
    have HCB := hide (cfB_is hn)
    have hfd : ∀ w1 : World, (Instr.field 163 (.agg #[.slice sa l.length sc, .int .i64 (low l.length : Int)]) 1).run Tryd.prog w1 = .ok (.int .i64 (low l.length : Int)) w1 := fun _ => by kernel_rfl
    clear hn
    cases hfu : elF l (low l.length)
    · have HGU := hide hfu
      obtain ⟨e1, e2, e3⟩ := cf_no (l := l) (by rw [HCB.out]; exact hfu)
      rw [e1, e2, e3]
      clear hfu e1 e2 e3
      go_enter Tryd.func118, Tryd.ntmps118
      go_wp2_with (first
        | (refine wpList_alloc_fam zeroT rfl rfl _ (by first | (simp only [World.size_alloc]; rfl) | rfl) ?_)
        | (go_at_call 156; refine (isNet_c _ l _ (bx_full HB1.out HL.out) hlen (bx_tab HB1.out HT.out)).mono ?_; rw [HN.out]; rintro e w2 ⟨rfl, hb2⟩; have hz2 := hb2.size; rw [HZ1.out] at hz2; have HB2 := hide (bx_to HB1.out hb2); have HF2 := hide (HF1.out.below hb2 HF1.out.lt); have hc2 := bx_cell HB2.out; clear hb2)
        | (go_at_call 161; refine (wholeOf_c _ l _ (bx_full HB2.out HL.out) h7).mono ?_; rintro e w3 ⟨rfl, hb3⟩; have hz3 := hb3.size; have HB3 := hide (bx_to HB2.out hb3); have hx3 := hp_last w3 (.cells #[.int .i64 (low l.length : Int)] 95); have HX3 := hide hx3; have HB4 := hide (HB3.out.alloc (bx_size HB3.out) (.cells #[.int .i64 (low l.length : Int)] 95)); have HF4 := hide ((HF2.out.below hb3 HF2.out.lt).alloc (.cells #[.int .i64 (low l.length : Int)] 95)); have hc4 := bx_cell HB4.out; have HL4 := hide (bx_ints HB4.out HL.out); have hz4 : (w3.alloc (.cells #[.int .i64 (low l.length : Int)] 95)).heap.size = w3.heap.size + 1 := (by simp); have HZ4 := hide hz4; clear hb3 hc2 hx3 hz4)
        | (refine wpList_len sliceT rfl (.tmp _) rfl _ rfl w.heap.size l HL4.out ?_)
        | (go_at_call 94; refine (reachedBy_c l.length 162 #[] #[.pointer (some ⟨w.heap.size, 0, none⟩), .pointer (some ⟨w3.heap.size, 0, none⟩)] (elN l) _ h7 ent_chordal1 (bx_tab HB4.out HT.out) (fun a _ => elN_lt l a) (fun s w5 hs5 _ hb5 => chordal1_c _ l s w.heap.size w3.heap.size w5 (bx_full (bx_to HB4.out hb5) HL.out) HA.out (bx_tab (bx_to HB4.out hb5) HT.out) (bx_cell (bx_to HB4.out hb5)) (by rw [hb5.cell (p := ⟨w3.heap.size, 0, none⟩) (by show w3.heap.size < _; rw [HZ4.out]; omega), hp_cell HX3.out]; rfl))).mono ?_; rw [HFA.out]; rintro e w6 ⟨rfl, hb6⟩; rw [HZ4.out] at hb6; have hz6 := hb6.size; rw [HZ4.out] at hz6; have HB6 := hide (HB4.out.trans (hb6.mono (by have := bx_size HB3.out; omega))); have HF6 := hide (HF4.out.below hb6 (by omega)); have HG7 := hide ((famAt.new 83 w6 0 noSet).row (l.length : Int) (elF l)); have HR7 := hide ((HF6.out.alloc (.cells (fam 0 noSet) 83)).rowO w6.heap.size (by omega) (fam (l.length : Int) (elF l))); have HB7 := hide (bl_row (HB6.out.alloc (bx_size HB6.out) (.cells (fam 0 noSet) 83)) (bx_size HB6.out) (fam (l.length : Int) (elF l))); have HZ7 := hide (show ((w6.alloc (.cells (fam 0 noSet) 83)).setRow w6.heap.size (fam (l.length : Int) (elF l))).heap.size = w6.heap.size + 1 by simp [World.setRow]); clear hb6 hc4)
        | (refine wpList_store_fam sizeT rfl (.tmp 5) (.tmp _) rfl w6.heap.size (l.length : Int) (elF l) rfl rfl _ _ (famAt.new _ _ _ _) ?_)
        | (refine wpList_load_fam rowT sizeT rfl (.tmp _) rfl w6.heap.size rfl (l.length : Int) _ HG7.out ?_)
        | (go_at_call 97; refine (HFU.out _ _).mono ?_; rintro e w8 ⟨rfl, hb8⟩; rw [HZ7.out] at hb8; have hf8 := HG7.out.below hb8 (by omega); have c8 := hf8.get (low l.length) hlo; rw [HGU.out] at c8; have HG8 := hide hf8; have HR8 := hide (HR7.out.below hb8 (by omega)); have HB8 := hide (HB7.out.trans (hb8.mono (by have := bx_size HB6.out; omega))); clear hb8 hf8)
        | (refine wpList_load_fam rowT sizeT rfl (.tmp _) rfl w6.heap.size rfl (l.length : Int) _ HG8.out ?_)
        | (refine wpList_build_fam0 built0 rfl rfl ?_)
        | (refine wpList_store_fam sizeT rfl (.tmp _) (.tmp _) rfl (w.heap.size + 1) 0 noSet rfl rfl _ _ HR8.out ?_))
      exact bodyPost_ret (v := .tuple #[.agg (fam 0 noSet), .bool false]) (results_fam2 (p := 2) (q := 3) rowT sizeT rfl _ _ (w.heap.size + 1) rfl _ _ (HR8.out.row _ _)) rfl ⟨rfl, bl_row (bx_below HB8.out) (by omega) _⟩
    · have HGU := hide hfu
      obtain ⟨e1, e2, e3⟩ := cf_yes (l := l) (by rw [HCB.out]; exact hfu)
      rw [e1, e2, e3]
      clear hfu e1 e2 e3
      go_enter Tryd.func118, Tryd.ntmps118
      go_wp2_with (first
        | (refine wpList_alloc_fam zeroT rfl rfl _ (by first | (simp only [World.size_alloc]; rfl) | rfl) ?_)
        | (go_at_call 156; refine (isNet_c _ l _ (bx_full HB1.out HL.out) hlen (bx_tab HB1.out HT.out)).mono ?_; rw [HN.out]; rintro e w2 ⟨rfl, hb2⟩; have hz2 := hb2.size; rw [HZ1.out] at hz2; have HB2 := hide (bx_to HB1.out hb2); have HF2 := hide (HF1.out.below hb2 HF1.out.lt); have hc2 := bx_cell HB2.out; clear hb2)
        | (go_at_call 161; refine (wholeOf_c _ l _ (bx_full HB2.out HL.out) h7).mono ?_; rintro e w3 ⟨rfl, hb3⟩; have hz3 := hb3.size; have HB3 := hide (bx_to HB2.out hb3); have hx3 := hp_last w3 (.cells #[.int .i64 (low l.length : Int)] 95); have HX3 := hide hx3; have HB4 := hide (HB3.out.alloc (bx_size HB3.out) (.cells #[.int .i64 (low l.length : Int)] 95)); have HF4 := hide ((HF2.out.below hb3 HF2.out.lt).alloc (.cells #[.int .i64 (low l.length : Int)] 95)); have hc4 := bx_cell HB4.out; have HL4 := hide (bx_ints HB4.out HL.out); have hz4 : (w3.alloc (.cells #[.int .i64 (low l.length : Int)] 95)).heap.size = w3.heap.size + 1 := (by simp); have HZ4 := hide hz4; clear hb3 hc2 hx3 hz4)
        | (refine wpList_len sliceT rfl (.tmp _) rfl _ rfl w.heap.size l HL4.out ?_)
        | (go_at_call 94; refine (reachedBy_c l.length 162 #[] #[.pointer (some ⟨w.heap.size, 0, none⟩), .pointer (some ⟨w3.heap.size, 0, none⟩)] (elN l) _ h7 ent_chordal1 (bx_tab HB4.out HT.out) (fun a _ => elN_lt l a) (fun s w5 hs5 _ hb5 => chordal1_c _ l s w.heap.size w3.heap.size w5 (bx_full (bx_to HB4.out hb5) HL.out) HA.out (bx_tab (bx_to HB4.out hb5) HT.out) (bx_cell (bx_to HB4.out hb5)) (by rw [hb5.cell (p := ⟨w3.heap.size, 0, none⟩) (by show w3.heap.size < _; rw [HZ4.out]; omega), hp_cell HX3.out]; rfl))).mono ?_; rw [HFA.out]; rintro e w6 ⟨rfl, hb6⟩; rw [HZ4.out] at hb6; have hz6 := hb6.size; rw [HZ4.out] at hz6; have HB6 := hide (HB4.out.trans (hb6.mono (by have := bx_size HB3.out; omega))); have HF6 := hide (HF4.out.below hb6 (by omega)); have HG7 := hide ((famAt.new 83 w6 0 noSet).row (l.length : Int) (elF l)); have HR7 := hide ((HF6.out.alloc (.cells (fam 0 noSet) 83)).rowO w6.heap.size (by omega) (fam (l.length : Int) (elF l))); have HB7 := hide (bl_row (HB6.out.alloc (bx_size HB6.out) (.cells (fam 0 noSet) 83)) (bx_size HB6.out) (fam (l.length : Int) (elF l))); have HZ7 := hide (show ((w6.alloc (.cells (fam 0 noSet) 83)).setRow w6.heap.size (fam (l.length : Int) (elF l))).heap.size = w6.heap.size + 1 by simp [World.setRow]); clear hb6 hc4)
        | (refine wpList_store_fam sizeT rfl (.tmp 5) (.tmp _) rfl w6.heap.size (l.length : Int) (elF l) rfl rfl _ _ (famAt.new _ _ _ _) ?_)
        | (refine wpList_load_fam rowT sizeT rfl (.tmp _) rfl w6.heap.size rfl (l.length : Int) _ HG7.out ?_)
        | (go_at_call 97; refine (HFU.out _ _).mono ?_; rintro e w8 ⟨rfl, hb8⟩; rw [HZ7.out] at hb8; have hf8 := HG7.out.below hb8 (by omega); have c8 := hf8.get (low l.length) hlo; rw [HGU.out] at c8; have HG8 := hide hf8; have HR8 := hide (HR7.out.below hb8 (by omega)); have HB8 := hide (HB7.out.trans (hb8.mono (by have := bx_size HB6.out; omega))); clear hb8 hf8)
        | (refine wpList_load_fam rowT sizeT rfl (.tmp _) rfl w6.heap.size rfl (l.length : Int) _ HG8.out ?_)
        | (refine wpList_store_fam sizeT rfl (.tmp _) (.tmp _) rfl (w.heap.size + 1) (l.length : Int) (elF l) rfl rfl _ _ HR8.out ?_))
      exact bodyPost_ret (v := .tuple #[.agg (fam (l.length : Int) (elF l)), .bool true]) (results_fam2 (p := 2) (q := 3) rowT sizeT rfl _ _ (w.heap.size + 1) rfl _ _ (HR8.out.row _ _)) rfl ⟨rfl, bl_row (bx_below HB8.out) (by omega) _⟩
end Go.Proofs.YtonimjpfaalniaaDoor
/- Contracts: the first elimination, the specification's; EliminationOf, both. -/
namespace Go.Proofs.YtonimjpfaalniaaDoor
open Go.RowKit
set_option maxRecDepth 100000
set_option linter.unusedSimpArgs false
theorem ent_leadOnE : enters Tryd.prog 119 := enters_of Tryd.func119 (by kernel_rfl) (by kernel_rfl)
def geL (l : List Int) : List Int := if elF l (low l.length) then finL (elF l) l.length (low l.length) 0 else []
theorem geL_yes {l : List Int} (h : elF l (low l.length) = true) : geL l = finL (elF l) l.length (low l.length) 0 := by unfold geL; rw [h]; rfl
theorem geL_no {l : List Int} (h : elF l (low l.length) = false) : geL l = [] := by unfold geL; rw [h]; rfl
def eoL (l : List Int) : List Int := if cfB l then geL l else []
theorem eo_no {l : List Int} (h : cfB l = false) : eoL l = [] := by unfold eoL; rw [h]; rfl
theorem eo_is {l : List Int} (h : neB l = true) : eoL l = geL l := by
  unfold eoL
  rw [cfB_is h]
  cases e : elF l (low l.length)
  · rw [geL_no e]; rfl
  · rfl
theorem geL_len (l : List Int) : (geL l).length ≤ 7 := by
  unfold geL
  split
  · exact finL_len _ _ _ _
  · simp
theorem eoL_len (l : List Int) : (eoL l).length < 1000000000 := by
  unfold eoL
  split
  · have := geL_len l; omega
  · simp
/-- The orders on the way: s is what was taken away, acc the points in their order. -/
def GeIn (l : List Int) (s r : Nat) (acc : List Int) : Prop := elF l s = true ∧ r = andNot (low l.length) s ∧ (elF l (low l.length) = true → acc ++ finL (elF l) l.length (low l.length) s = finL (elF l) l.length (low l.length) 0) ∧ acc.length + pc r ≤ 7
theorem an_low0 (n : Nat) : andNot (low n) 0 = low n := by
  apply Nat.eq_of_testBit_eq
  intro i
  rw [andNot_bit, Nat.zero_testBit]; simp
theorem GeIn.start {l : List Int} (h7 : l.length ≤ 7) : GeIn l 0 (low l.length) [] := ⟨elF_zero h7, (an_low0 _).symm, fun _ => rfl, by have := pc_le (low l.length); simp; omega⟩
theorem GeIn.full {l : List Int} {s : Nat} {acc : List Int} (h : GeIn l s 0 acc) : s = low l.length := by
  have h1 := h.2.1.symm
  rw [sub_or] at h1
  exact sub.anti (fun i hi => by rw [low_bit]; exact decide_eq_true (elF_bit h.1 hi)) h1
theorem GeIn.done {l : List Int} {s : Nat} {acc : List Int} (h : GeIn l s 0 acc) : elF l (low l.length) = true ∧ geL l = acc := by
  have e := h.full
  have hF : elF l (low l.length) = true := by rw [← e]; exact h.1
  refine ⟨hF, ?_⟩
  rw [geL_yes hF, ← h.2.2.1 hF, e, finL_done, List.append_nil]
theorem GeIn.stuck {l : List Int} {s r : Nat} {acc : List Int} (h7 : l.length ≤ 7) (h : GeIn l s r acc) (hr : r ≠ 0) (h0 : simS l r = 0) : elF l (low l.length) = false := by
  refine elF_stuck h7 h.1 (fun e => hr ?_) (by rw [← h.2.1]; exact h0)
  rw [h.2.1, e, sub_or]
  exact fun _ h => h
theorem GeIn.next {l : List Int} {s r i : Nat} {acc : List Int} (h7 : l.length ≤ 7) (h : GeIn l s r acc) (hb : (simS l r).testBit i = true) (hl : ∀ j, j < i → (simS l r).testBit j = false) : GeIn l (s ||| p2 i) (andNot r (p2 i)) (acc ++ [(i : Int)]) := by
  obtain ⟨h1, h2, h3, h4⟩ := h
  have hr8 : r < 128 := by rw [h2]; exact andNot_lt128 _ _ (low_lt _ h7)
  have hS8 := simS_lt (l := l) h7 r
  have hb2 := hb
  rw [simS_bit, Bool.and_eq_true, Bool.and_eq_true, decide_eq_true_eq] at hb2
  obtain ⟨hi, hri, hsi⟩ := hb2
  have hsb : s.testBit i = false := by
    rw [h2, andNot_bit, Bool.and_eq_true, Bool.not_eq_true'] at hri
    exact hri.2
  have hS0 : simS l r ≠ 0 := fun e => by rw [e] at hb; simp at hb
  have htz : tzN (simS l r) = i := by
    have e1 := tzN_least _ hS8 i (by omega) hb
    have e2 := tzN_bit _ hS8 hS0
    rcases Nat.lt_or_ge (tzN (simS l r)) i with h' | h'
    · rw [hl _ h'] at e2; cases e2
    · omega
  refine ⟨elF_step h7 h1 hi hsb (by rw [← h2]; exact hsi), ?_, fun hF => ?_, ?_⟩
  · rw [h2, andNot_andNot, Nat.or_comm]
  · have hnx := elF_nxt h7 h1
    rw [← h2] at hnx
    have hne : s ≠ low l.length := fun e => by rw [e, low_bit, decide_eq_true hi] at hsb; cases hsb
    have hin : andNot s (low l.length) = 0 := by
      rw [sub_or]
      intro j hj
      rw [low_bit]; exact decide_eq_true (elF_bit h1 hj)
    obtain ⟨_, _, _, _, _, _, hfin, _⟩ := fin_next (elF_spc h7 hF) h7 hF h1 hin hne
    rw [hnx, htz] at hfin
    rw [← h3 hF, hfin, List.append_assoc]; rfl
  · have := pc_drop r hr8 i (by omega) hri
    rw [List.length_append, List.length_singleton]; omega
theorem bit_none {x n : Nat} (hx : x < 2 ^ n) (h : ∀ j, j < n → x.testBit j = false) : x = 0 := by
  apply Nat.eq_of_testBit_eq
  intro i
  rw [Nat.zero_testBit]
  rcases Nat.lt_or_ge i n with h' | h'
  · exact h i h'
  · exact Nat.testBit_lt_two_pow (Nat.lt_of_lt_of_le hx (p2_le n i h'))
theorem simS_pow (l : List Int) (r : Nat) : simS l r < 2 ^ l.length := itemsOf_lt _ _
theorem an_drop {r i : Nat} (h : r.testBit i = true) : andNot r (p2 i) < r := andNot_less h
attribute [local irreducible] p2 low memB risB
set_option maxHeartbeats 4000000 in
theorem shEliminate_c (v : Value) (l : List Int) (w : World) (hl : ints w.heap.size w v l) (hN : neB l = true) :
    Calls Tryd.prog 117 #[.agg #[v]] w fun e w' => ∃ v', e = .returned (.tuple #[v', .bool (elF l (low l.length))]) ∧ own 3 w' w.heap.size v' (geL l) ∧ Below w.heap.size w w' := by
  have hA := neB_A hN
  have h7 := (neA_in hA).1.2
  have HL := hide hl
  have HA := hide hA
  have HB0 := hide (bx_start 62 v w)
  have HL0 := hide (bx_ints HB0.out hl)
  have HG0 := hide (GeIn.start (l := l) h7)
  have hp1 := wrap_p2 l.length h7
  have hp2 : IntKind.i64.wrap (2 ^ l.length) = (p2 l.length : Int) := by rw [IntWalk.i64_left]; exact hp1
  have hp3 := wrap_low l.length h7
  have hp4 := low_p2 l.length
  have hlo := low_lt l.length h7
  clear hl hN hA
  go_enter Tryd.func117, Tryd.ntmps117
  go_wp2_with (refine wpList_len sliceT rfl (.tmp _) rfl v rfl w.heap.size l HL0.out ?_)
  clear hp1 hp2 hp3 hp4
  go_loopw [4, 5] (fun ov rv wr => ∃ r : Nat, rv = .int .i64 (r : Int) ∧ r < 128 ∧ Hid (∃ acc s, own 3 wr (w.heap.size + 1) ov acc ∧ GeIn l s r acc) ∧ Hid (Below (w.heap.size + 1) (w.alloc (.cells #[v] 62)) wr)) (fun _ rv _ => (intOf rv).toNat)
  case atStart => exact ⟨low l.length, rfl, hlo, ⟨[], 0, own_nil _ _ _, HG0.out⟩, HB0⟩
  case round =>
    obtain ⟨r, rfl, hr8, HO, HB⟩ := hrel
    obtain ⟨acc, s, ho, hge⟩ := HO.out
    have HOO := hide ho
    have HGE := hide hge
    have hacc := hge.2.2.2
    have hcell := bx_cell HB.out
    clear ho hge HO
    by_cases hr0 : r = 0
    · subst hr0
      have HD := hide (HGE.out.done)
      go_wp2
      go_ret2
      exact ⟨_, by rw [HD.out.1]; rfl, by rw [HD.out.2]; exact HOO.out.mono (by omega), bx_below HB.out⟩
    · have hgt : ((r : Int) > 0) := by omega
      have hgt2 : (0 < r) := by omega
      have HR0 := hide hr0
      have hS8 := simS_lt (l := l) h7 r
      clear hr0
      go_wp2_with fail
      clear hcell
      go_loopw [6] (fun iv ws => ∃ i : Nat, iv = .int .i64 (i : Int) ∧ i ≤ l.length ∧ Hid (∀ j, j < i → (simS l r).testBit j = false) ∧ Hid (own 3 ws (w.heap.size + 1) u4 acc) ∧ Hid (Below (w.heap.size + 1) (w.alloc (.cells #[v] 62)) ws)) (fun iv _ => l.length - (intOf iv).toNat)
      case atStart => exact ⟨0, rfl, Nat.zero_le _, fun j hj => by omega, HOO, HB⟩
      case round =>
        obtain ⟨i, rfl, hi, HJ, HOI, HBI⟩ := hrel
        have hcell := bx_cell HBI.out
        have HLI := hide (bx_ints HBI.out HL.out)
        by_cases hlt : i < l.length
        · have hi7 : i < 7 := by omega
          have HSB := hide (simS_bit l r i)
          have HSI := hide (fun w1 h1 => shSimplicial_c v l i r w1 h1 HA.out hlt hr8)
          have hd := decide_eq_true hlt
          have hni : ((i : Int) == (l.length : Int)) = false := by rw [beq_eq_false_iff_ne]; omega
          have HNO := hide (fun (h : (simS l r).testBit i = false) j (hj : j < i + 1) => show (simS l r).testBit j = false by
            rcases Nat.lt_or_ge j i with h' | h'
            · exact HJ.out j h'
            · rw [show j = i by omega]; exact h)
          have HYES := hide (fun (h : (simS l r).testBit i = true) => GeIn.next h7 HGE.out h HJ.out)
          have hp1 := wrap_p2 i (by omega)
          have hp2 : IntKind.i64.wrap (2 ^ i) = (p2 i : Int) := by rw [IntWalk.i64_left]; exact hp1
          have han := i64_andNot r (p2 i) (Nat.lt_trans hr8 (by decide))
          cases hb : r.testBit i
          · have HBT := hide hb
            have HN := hide (HNO.out (by rw [HSB.out, hb]; simp))
            clear hb
            go_wp2_with (first
              | (refine wpList_len sliceT rfl (.tmp _) rfl v rfl w.heap.size l HLI.out ?_)
              | (go_at_call 100; refine (spIn_c _ _ _ (by omega) (by omega) (by omega) (by omega)).mono ?_; rw [Int.toNat_natCast, Int.toNat_natCast, HBT.out]; rintro e w8 ⟨rfl, rfl⟩))
            go_roundw
            case rel => exact ⟨i + 1, by go_num, by omega, HN, HOI, HBI⟩
            case measure => simp [intOf]; omega
          · have HBT := hide hb
            have hdr := an_drop hb
            have hr28 : andNot r (p2 i) < 128 := by omega
            have HS2 := hide (show (simS l r).testBit i = simB l r i by rw [HSB.out, hb, decide_eq_true hlt]; rfl)
            clear hb
            generalize simB l r i = q at *
            cases q
            · have HN := hide (HNO.out HS2.out)
              go_wp2_with (first
                | (refine wpList_len sliceT rfl (.tmp _) rfl v rfl w.heap.size l HLI.out ?_)
                | (go_at_call 100; refine (spIn_c _ _ _ (by omega) (by omega) (by omega) (by omega)).mono ?_; rw [Int.toNat_natCast, Int.toNat_natCast, HBT.out]; rintro e w8 ⟨rfl, rfl⟩)
                | (go_at_call 120; refine (HSI.out _ (bx_full HBI.out HL.out)).mono ?_; rintro e w9 ⟨rfl, hb9⟩; have HO9 : Hid (own 3 w9 (w.heap.size + 1) u4 acc) := hide (HOI.out.kept hb9); have HB9 := hide (bx_to HBI.out hb9); clear hb9))
              go_roundw
              case rel => exact ⟨i + 1, by go_num, by omega, HN, HO9, HB9⟩
              case measure => simp [intOf]; omega
            · have HN := hide (HYES.out HS2.out)
              have hbz := bx_size HBI.out
              go_wp2_with (first
                | (refine wpList_len sliceT rfl (.tmp 16) rfl v rfl w.heap.size l HLI.out ?_)
                | (refine wpList_len sliceT rfl (.tmp 36) rfl v rfl w.heap.size l HL9.out ?_)
                | (go_at_call 100; refine (spIn_c _ _ _ (by omega) (by omega) (by omega) (by omega)).mono ?_; rw [Int.toNat_natCast, Int.toNat_natCast, HBT.out]; rintro e w8 ⟨rfl, rfl⟩)
                | (go_at_call 120; refine (HSI.out _ (bx_full HBI.out HL.out)).mono ?_; rintro e w9 ⟨rfl, hb9⟩; have hz9 := hb9.size; have HO9 : Hid (own 3 w9 (w.heap.size + 1) u4 acc) := hide (HOI.out.kept hb9); have HB9 := hide (bx_to HBI.out hb9); have hc9 := bx_cell HB9.out; have HL9 := hide (bx_ints HB9.out HL.out); clear hb9)
                | (at_builtin; refine wpList_append1 sliceT intI rfl _ _ rfl (w.heap.size + 1) _ _ rfl (HO9.out.alloc _) _ (i : Int) rfl (by simp [go_sem]) (by simp; omega) (by omega) ?_; intro v5 w5 ho5 hb5; have HO5 := hide ho5; have HB5 := hide ((HB9.out.alloc (bx_size HB9.out) _).trans hb5); clear ho5 hb5))
              go_roundw
              case rel => exact ⟨andNot r (p2 i), rfl, hr28, ⟨_, _, HO5.out, HN.out⟩, HB5⟩
              case measure => simp [intOf]; omega
        · have HST := hide (HGE.out.stuck h7 HR0.out (bit_none (simS_pow l r) (by rw [← show i = l.length by omega]; exact HJ.out)))
          have HGN := hide (geL_no HST.out)
          have hlt' : ¬ ((i : Int) < (l.length : Int)) := by omega
          have hni : ((i : Int) == (l.length : Int)) = true := by rw [beq_iff_eq]; omega
          go_wp2_with (refine wpList_len sliceT rfl (.tmp _) rfl v rfl w.heap.size l HLI.out ?_)
          go_ret2
          exact ⟨_, by rw [HST.out]; rfl, by rw [HGN.out]; exact own_nil _ _ _, bx_below HBI.out⟩
end Go.Proofs.YtonimjpfaalniaaDoor
