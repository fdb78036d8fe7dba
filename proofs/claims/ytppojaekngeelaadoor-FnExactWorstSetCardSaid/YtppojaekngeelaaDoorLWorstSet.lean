import Derived.Test.YtppojaekngeelaaDoorIi
import Derived.Test.YtppojaekngeelaaDoorHv
import Derived.Test.YtppojaekngeelaaDoorIs
import Derived.Test.YtppojaekngeelaaDoorRows
import Derived.Test.YtppojaekngeelaaDoorTie
import Derived.Test.YtppojaekngeelaaDoorCards
import Derived.LaidMore
import Derived.Stop.Joined
import Derived.Stop.LaidErr
import Derived.Lib.LaidTab
import Derived.SevenTiedAt
import Derived.Test.YtppojaekngeelaaDoorHar
import Derived.ProofKit
import Derived.OpenShut
import Derived.Lib.SmallJoins
/- Contracts: AskRun and WorstSet, the program's. -/
namespace Go.Proofs.YtppojaekngeelaaDoor
open Go.RowKit
set_option maxRecDepth 100000
set_option linter.unusedSimpArgs false
theorem mapPl.same {w w' : World} {b n : Nat} {D : DataW Unit} (h : mapPl w b n D) (hb : w'.heap[b]? = w.heap[b]?) : mapPl w' b n D := by
  obtain ⟨es, clock, h1, h2⟩ := h.own
  exact mapPl.mk ⟨es, clock, hb.trans h1, h2⟩
/-- What the best strategy keeps behind k questions. -/
def plJ (m b c k : Nat) (w : World) : Prop := ∃ n D, mapPl w b n D ∧ planOk m D ∧ n ≤ k * 113 ^ 7 ∧ w.cell? ⟨c, 0, none⟩ = some (.map (some b)) ∧ c < w.heap.size ∧ tab w
theorem plJ.below {m b c k B : Nat} {w0 w1 w2 : World} (h : plJ m b c k w1) (h0 : tab w0) (hB0 : w0.heap.size ≤ B) (hb : Below B w1 w2) (hB : b < B) (hC : c < B) : plJ m b c k w2 := by
  obtain ⟨n, D, q1, q2, q3, q4, q5, q6⟩ := h
  exact ⟨n, D, q1.same (hb.block b hB), q2, q3, (hb.cell (p := ⟨c, 0, none⟩) hC).trans q4, Nat.lt_of_lt_of_le q5 hb.size, q6.belowB h0 hb hB0⟩
theorem plJ.more {m b c k : Nat} {w : World} (h : plJ m b c k w) : plJ m b c (k + 1) w := by
  obtain ⟨n, D, q1, q2, q3, q4, q5, q6⟩ := h
  exact ⟨n, D, q1, q2, Nat.le_trans q3 (Nat.mul_le_mul_right _ (Nat.le_succ k)), q4, q5, q6⟩
theorem b113k {k n : Nat} (hk : k < 16384) (hn : n ≤ k * 113 ^ 7) : n + 113 ^ 7 < maxLen := by
  have h1 : k * 113 ^ 7 ≤ 16384 * 113 ^ 7 := Nat.mul_le_mul_right _ (by omega)
  have h2 : 16384 * 113 ^ 7 + 113 ^ 7 < maxLen := by decide +kernel
  exact Nat.lt_of_le_of_lt (Nat.add_le_add_right (Nat.le_trans hn h1) _) h2
theorem plJ.ask {m b c k : Nat} {F : Nat → Bool} {w : World} (h : plJ m b c k w) (hk : k < 16384) (hm7 : m ≤ 7) (hgb : 3 ≠ b) (hbc : c ≠ b) (hF : ∀ x, F x = true → x ≤ low m) :
    Calls Tryd.prog 49 #[.agg (fam (m : Int) F), .pointer (some ⟨c, 0, none⟩)] w fun e w' => e = .returned (.int .i64 (viN gW m F : Int)) ∧ plJ m b c (k + 1) w' ∧ Blx (some b) w.heap.size w w' := by
  obtain ⟨n, D, q1, q2, q3, q4, q5, q6⟩ := h
  refine (best1_c m b c n F D w hm7 hgb hF q4 q5 q1 q2 (b113k hk q3) q6).mono ?_
  rintro e w' ⟨n', D', he, r1, r2, r3, hb⟩
  refine ⟨he, ⟨n', D', r1, r2, ?_, ?_, Nat.lt_of_lt_of_le q5 hb.size, ?_⟩, hb⟩
  · have : (k + 1) * 113 ^ 7 = k * 113 ^ 7 + 113 ^ 7 := Nat.succ_mul _ _
    rw [this]
    exact Nat.le_trans r3 (Nat.add_le_add_right q3 _)
  · exact (World.cell?_of_block (a := ⟨c, 0, none⟩) (hb.block c q5 (fun e => hbc (Option.some.inj e)))).trans q4
  · exact q6.blx hb hgb
theorem vi_bit {m : Nat} {F : Nat → Bool} (hm7 : m ≤ 7) (hF : ∀ x, F x = true → x ≤ low m) (h0 : opN m F ≠ 0) : (opN m F).testBit (viN gW m F) = true := (vmN_next (g := gW) hm7 hF h0).1
theorem bestRun_c (m : Nat) (F0 : Nat → Bool) (S b c : Nat) (w : World) (hm7 : m ≤ 7) (hF0 : ∀ x, F0 x = true → x ≤ low m) (hS : S < 128) (hgb : 3 ≠ b) (hbc : c ≠ b) (hJ : plJ m b c 0 w) :
    Calls Tryd.prog 32 #[.agg #[.func (.func 49) #[] #[.pointer (some ⟨c, 0, none⟩)]], .agg (fam (m : Int) F0), .int .i64 (S : Int)] w fun e w' => ∃ v, e = .returned v ∧ own 3 w' w.heap.size v (rnL m (viN gW m) S 128 F0) ∧ Blx (some b) w.heap.size w w' := by
  obtain ⟨n0, D0, p1, _, _, _, p5, p6⟩ := id hJ
  have hbw := p1.lt
  refine (run_c m F0 S 49 #[] #[.pointer (some ⟨c, 0, none⟩)] (viN gW m) (plJ m b c) 0 (some b) w hm7 hF0 hS ent_best1 (fun x h => by cases h; exact hbw) hJ (fun _ w1 w2 h1 h2 => h1.below p6 (Nat.le_refl _) h2 hbw p5) (fun _ _ h => h.more) (fun k F w1 hk h1 _ h3 _ => h3.ask (by omega) hm7 hgb hbc h1) (fun F h1 h2 => vi_bit hm7 h1 h2)).mono ?_
  rintro e w' ⟨v, rfl, ho, _, hb⟩
  exact ⟨v, rfl, ho, hb⟩
theorem bestWorst_c (m : Nat) (F0 : Nat → Bool) (b c : Nat) (w : World) (hm7 : m ≤ 7) (hF0 : ∀ x, F0 x = true → x ≤ low m) (hgb : 3 ≠ b) (hbc : c ≠ b) (hJ : plJ m b c 0 w) :
    Calls Tryd.prog 33 #[.agg #[.func (.func 49) #[] #[.pointer (some ⟨c, 0, none⟩)]], .agg (fam (m : Int) F0)] w fun e w' => e = .returned (.tuple #[.int .i64 (wsTo (ruN m (viN gW) F0) (setsTo F0 128) (setsTo F0 128).length).1, .int .i64 ((wsTo (ruN m (viN gW) F0) (setsTo F0 128) (setsTo F0 128).length).2 : Int)]) ∧ Blx (some b) w.heap.size w w' := by
  obtain ⟨n0, D0, p1, _, _, _, p5, p6⟩ := id hJ
  have hbw := p1.lt
  refine (worst_c m F0 49 #[] #[.pointer (some ⟨c, 0, none⟩)] (viN gW) (plJ m b c) (some b) w hm7 hF0 ent_best1 (fun x h => by cases h; exact hbw) hJ (fun _ w1 w2 h1 h2 => h1.below p6 (Nat.le_refl _) h2 hbw p5) (fun _ _ h => h.more) (fun k F w1 hk h1 _ h3 _ => h3.ask (by omega) hm7 hgb hbc h1) (fun F h1 h2 => vi_bit hm7 h1 h2)).mono ?_
  rintro e w' ⟨he, _, hb⟩
  exact ⟨he, hb⟩
theorem Blx.over {b B : Nat} {w w' : World} (h : Blx (some b) w.heap.size w w') (hB : B ≤ w.heap.size) (hb : B ≤ b) : Below B w w' := ⟨h.os, h.tape, h.output, h.size, fun k hk => h.block k (by omega) (fun e => by have := Option.some.inj e; omega)⟩
attribute [local irreducible] p2 low memB risB famAt own mapAt mapPl
set_option maxHeartbeats 4000000 in
theorem implAskRun_c (n : Int) (v : Value) (l : List Int) (x : Int) (w : World) (hl : ints w.heap.size w v l) (hlen : l.length < 1000000000) (hT : tab w) :
    Calls Tryd.prog 12 #[.agg #[.int .i64 n, v], .int .i64 x] w fun e w' => ∃ v', e = .returned (.tuple #[v', .bool (okOne n l x)]) ∧ own 3 w' w.heap.size v' (ruL (viN gW) n l x) ∧ Below w.heap.size w w' := by
  have HT := hide hT
  have HL := hide ((hl.alloc (.cells #[.int .i64 n, v] 28)).mono (show w.heap.size ≤ (w.alloc (.cells #[.int .i64 n, v] 28)).heap.size by simp))
  have H0 := hide ((Below.refl w.heap.size w).alloc (Nat.le_refl _) (.cells #[.int .i64 n, v] 28))
  have HZ := hide (show (w.alloc (.cells #[.int .i64 n, v] 28)).heap.size = w.heap.size + 1 by simp)
  obtain ⟨N, F, S, b, hv, hN, hS, hb, hr, hF⟩ := ru_prog (viN gW) n l x
  have HV := hide hv
  have HRU := hide (fun b c w1 h1 h2 h3 => bestRun_c N F S b c w1 hN hF hS h1 h2 h3)
  have htl := hT.1
  rw [hb, hr]
  clear hl hv hb hr hT
  generalize rnL N (viN gW N) S 128 F = R at *
  go_enter Tryd.func12, Tryd.ntmps12
  go_wp2_with (first
    | (go_at_call 30; refine (familyAndOwnSet_c n v l x _ HL.out hlen).mono ?_; rw [HV.out]; rintro e w1 ⟨rfl, hb⟩; have hz1 := hb.size; rw [HZ.out] at hz1; have HH := hide ((famAt.new 45 w1 0 noSet).row (N : Int) F); have HB := hide (bl_row ((H0.out.trans (hb.mono (by rw [HZ.out]; omega))).alloc (by omega) (.cells (fam 0 noSet) 45)) (show w.heap.size ≤ w1.heap.size by omega) (fam (N : Int) F)); clear hb)
    | (refine wpList_alloc_fam zeroT rfl rfl _ (by first | (simp only [World.size_alloc]; rfl) | rfl) ?_)
    | (refine wpList_store_fam sizeT rfl (.tmp _) (.tmp _) rfl w1.heap.size _ _ rfl rfl _ _ (famAt.new _ _ _ _) ?_))
  generalize (w1.alloc (.cells (fam 0 noSet) 45)).setRow w1.heap.size (fam (N : Int) F) = W at *
  have hzW := HB.out.size
  refine wp_region_held (S := Below W.heap.size W) (by kernel_rfl) ?_
  have hS0 : Below W.heap.size W { W with drawn := W.drawn + 1 } := (Below.refl _ _).drew
  refine wpAnyH_take (i := 1) rfl (by kernel_rfl) (by kernel_rfl) (by kernel_rfl) (fun _ _ _ h => h) (yields_load_fam rowT sizeT rfl (.tmp _) rfl _ rfl (N : Int) F (fun w' h => HH.out.below h HH.out.lt)) hS0 ?_
  refine wpAnyH_take (i := 2) (v := .int .i64 (S : Int)) rfl (by kernel_rfl) (by kernel_rfl) (by kernel_rfl) (fun _ _ _ h => h) (.inl ⟨rfl, fun w' _ => by go_simp⟩) hS0 ?_
  refine wpAnyH_take (i := 4) (v := .bool b) rfl (by kernel_rfl) (by kernel_rfl) (by kernel_rfl) (fun _ _ _ h => h) (.inl ⟨rfl, fun w' _ => by go_simp⟩) hS0 ?_
  simp only [Act.put, List.getElem_toArray, List.getElem_cons_zero, List.getElem_cons_succ, List.setIfInBounds_toArray, List.set_cons_zero, List.set_cons_succ]
  have hzz : ({ W with drawn := W.drawn + 1 } : World).heap.size = W.heap.size := rfl
  generalize ({ W with drawn := W.drawn + 1 } : World) = V0 at hS0 hzz ⊢
  refine anyH_call (i := 0) (by kernel_rfl) rfl rfl 31 ent_bestStrategy _ _ rfl #[] rfl (bestStrategy_c V0) ?_
  rintro e V1 ⟨he1, hc1, hm1, hzs1, hb1⟩
  rw [hzz] at he1 hc1 hm1 hzs1 hb1
  subst he1
  have hS1 := hS0.trans hb1
  refine ⟨_, rfl, hS1, ?_⟩
  simp only [Act.put, List.getElem_toArray, List.getElem_cons_zero, List.getElem_cons_succ, List.setIfInBounds_toArray, List.set_cons_zero, List.set_cons_succ]
  refine anyH_call (i := 3) (by kernel_rfl) rfl rfl 32 ent_run _ _ rfl #[.agg #[.func (.func 49) #[] #[.pointer (some ⟨W.heap.size + 2, 0, none⟩)]], .agg (fam (N : Int) F), .int .i64 (S : Int)] rfl (HRU.out (W.heap.size + 1) (W.heap.size + 2) V1 (by omega) (by omega) ⟨0, _, hm1, planOk_new N, by omega, hc1, by omega, (HT.out.below HB.out).below hS1⟩) ?_
  rintro e w3 ⟨v3, rfl, ho3, hb3⟩
  have hS3 : Below W.heap.size W w3 := hS1.trans (hb3.over (by omega) (by omega))
  refine ⟨_, rfl, hS3, ?_⟩
  simp only [Act.put, List.getElem_toArray, List.getElem_cons_zero, List.getElem_cons_succ, List.setIfInBounds_toArray, List.set_cons_zero, List.set_cons_succ]
  refine anyH_op (i := 5) (by kernel_rfl) rfl rfl v3 w3 (by simp [go_sem]) hS3 ?_
  refine anyH_op (i := 6) (by kernel_rfl) rfl rfl (.bool b) w3 (by simp [go_sem]) hS3 ?_
  refine wpAnyH_done (by kernel_rfl) ?_ _
  simp only [Act.put, List.getElem_toArray, List.getElem_cons_zero, List.getElem_cons_succ, List.setIfInBounds_toArray, List.set_cons_zero, List.set_cons_succ]
  have HB3 := hide (HB.out.trans (hS3.mono hzW))
  have HO3 := hide (show own 3 w3 w.heap.size v3 _ from ho3.mono (by omega))
  clear hS0 hS3 hb3 ho3 hS1 hb1 hm1 hc1
  go_wp2
  go_ret2
  exact ⟨_, rfl, HO3.out, HB3.out⟩
def awR (n : Int) (l : List Int) : Int := (wrP (viN gW) n l).1
set_option maxHeartbeats 4000000 in
theorem implWorstSet_c (n : Int) (v : Value) (l : List Int) (w : World) (hl : ints w.heap.size w v l) (hlen : l.length < 1000000000) (hT : tab w) :
    Calls Tryd.prog 18 #[.agg #[.int .i64 n, v]] w fun e w' => e = .returned (.tuple #[.int .i64 (awR n l), .bool (okSp n l)]) ∧ Below w.heap.size w w' := by
  have HT := hide hT
  have HL := hide ((hl.alloc (.cells #[.int .i64 n, v] 28)).mono (show w.heap.size ≤ (w.alloc (.cells #[.int .i64 n, v] 28)).heap.size by simp))
  have H0 := hide ((Below.refl w.heap.size w).alloc (Nat.le_refl _) (.cells #[.int .i64 n, v] 28))
  have HZ := hide (show (w.alloc (.cells #[.int .i64 n, v] 28)).heap.size = w.heap.size + 1 by simp)
  obtain ⟨N, F, b, hv, hN, hb, hr, hF⟩ := wr_prog (viN gW) n l
  have HV := hide hv
  have HWO := hide (fun b c w1 h1 h2 h3 => bestWorst_c N F b c w1 hN hF h1 h2 h3)
  have htl := hT.1
  have hwr : awR n l = (wsTo (ruN N (viN gW) F) (setsTo F 128) (setsTo F 128).length).1 := by unfold awR; rw [hr]
  rw [hb, hwr]
  clear hl hv hb hr hT hwr
  generalize (wsTo (ruN N (viN gW) F) (setsTo F 128) (setsTo F 128).length) = R at *
  obtain ⟨Ra, Rb⟩ := R
  go_enter Tryd.func18, Tryd.ntmps18
  go_wp2_with (first
    | (go_at_call 23; refine (familyOf_c n v l _ HL.out hlen).mono ?_; rw [HV.out]; rintro e w1 ⟨rfl, hb⟩; have hz1 := hb.size; rw [HZ.out] at hz1; have HH := hide ((famAt.new 45 w1 0 noSet).row (N : Int) F); have HB := hide (bl_row ((H0.out.trans (hb.mono (by rw [HZ.out]; omega))).alloc (by omega) (.cells (fam 0 noSet) 45)) (show w.heap.size ≤ w1.heap.size by omega) (fam (N : Int) F)); clear hb)
    | (refine wpList_alloc_fam zeroT rfl rfl _ (by first | (simp only [World.size_alloc]; rfl) | rfl) ?_)
    | (refine wpList_store_fam sizeT rfl (.tmp _) (.tmp _) rfl w1.heap.size _ _ rfl rfl _ _ (famAt.new _ _ _ _) ?_))
  generalize (w1.alloc (.cells (fam 0 noSet) 45)).setRow w1.heap.size (fam (N : Int) F) = W at *
  have hzW := HB.out.size
  refine wp_region_held (S := Below W.heap.size W) (by kernel_rfl) ?_
  have hS0 : Below W.heap.size W { W with drawn := W.drawn + 1 } := (Below.refl _ _).drew
  have hzz : ({ W with drawn := W.drawn + 1 } : World).heap.size = W.heap.size := rfl
  generalize ({ W with drawn := W.drawn + 1 } : World) = V0 at hS0 hzz ⊢
  refine wpAnyH_take (i := 1) rfl (by kernel_rfl) (by kernel_rfl) (by kernel_rfl) (fun _ _ _ h => h) (yields_load_fam rowT sizeT rfl (.tmp _) rfl _ rfl (N : Int) F (fun w' h => HH.out.below h HH.out.lt)) hS0 ?_
  simp only [Act.put, List.getElem_toArray, List.getElem_cons_zero, List.getElem_cons_succ, List.setIfInBounds_toArray, List.set_cons_zero, List.set_cons_succ]
  refine anyH_call (i := 0) (by kernel_rfl) rfl rfl 31 ent_bestStrategy _ _ rfl #[] rfl (bestStrategy_c V0) ?_
  rintro e V1 ⟨he1, hc1, hm1, hzs1, hb1⟩
  rw [hzz] at he1 hc1 hm1 hzs1 hb1
  subst he1
  have hS1 := hS0.trans hb1
  refine ⟨_, rfl, hS1, ?_⟩
  simp only [Act.put, List.getElem_toArray, List.getElem_cons_zero, List.getElem_cons_succ, List.setIfInBounds_toArray, List.set_cons_zero, List.set_cons_succ]
  refine anyH_call (i := 2) (by kernel_rfl) rfl rfl 33 ent_worst _ _ rfl #[.agg #[.func (.func 49) #[] #[.pointer (some ⟨W.heap.size + 2, 0, none⟩)]], .agg (fam (N : Int) F)] rfl (HWO.out (W.heap.size + 1) (W.heap.size + 2) V1 (by omega) (by omega) ⟨0, _, hm1, planOk_new N, by omega, hc1, by omega, (HT.out.below HB.out).below hS1⟩) ?_
  rintro e w3 ⟨rfl, hb3⟩
  have hS3 : Below W.heap.size W w3 := hS1.trans (hb3.over (by omega) (by omega))
  refine ⟨_, rfl, hS3, ?_⟩
  simp only [Act.put, List.getElem_toArray, List.getElem_cons_zero, List.getElem_cons_succ, List.setIfInBounds_toArray, List.set_cons_zero, List.set_cons_succ]
  refine wpAnyH_take (i := 3) (v := .tuple #[.int .i64 Ra, .int .i64 (Rb : Int)]) rfl (by kernel_rfl) (by kernel_rfl) (by kernel_rfl) (fun _ _ _ h => h) (.inl ⟨rfl, fun w' _ => by go_simp⟩) hS3 ?_
  simp only [Act.put, List.getElem_toArray, List.getElem_cons_zero, List.getElem_cons_succ, List.setIfInBounds_toArray, List.set_cons_zero, List.set_cons_succ]
  refine wpAnyH_take (i := 4) (v := .int .i64 Ra) rfl (by kernel_rfl) (by kernel_rfl) (by kernel_rfl) (fun _ _ _ h => h) (.inl ⟨rfl, fun w' _ => by go_simp⟩) hS3 ?_
  simp only [Act.put, List.getElem_toArray, List.getElem_cons_zero, List.getElem_cons_succ, List.setIfInBounds_toArray, List.set_cons_zero, List.set_cons_succ]
  refine wpAnyH_take (i := 5) (v := .int .i64 (Rb : Int)) rfl (by kernel_rfl) (by kernel_rfl) (by kernel_rfl) (fun _ _ _ h => h) (.inl ⟨rfl, fun w' _ => by go_simp⟩) hS3 ?_
  simp only [Act.put, List.getElem_toArray, List.getElem_cons_zero, List.getElem_cons_succ, List.setIfInBounds_toArray, List.set_cons_zero, List.set_cons_succ]
  refine anyH_op (i := 6) (by kernel_rfl) rfl rfl (.int .i64 Ra) w3 (by simp [go_sem]) hS3 ?_
  simp only [Act.put, List.getElem_toArray, List.getElem_cons_zero, List.getElem_cons_succ, List.setIfInBounds_toArray, List.set_cons_zero, List.set_cons_succ]
  refine anyH_op (i := 7) (by kernel_rfl) rfl rfl (.int .i64 (Rb : Int)) w3 (by simp [go_sem]) hS3 ?_
  refine wpAnyH_done (by kernel_rfl) ?_ _
  simp only [Act.put, List.getElem_toArray, List.getElem_cons_zero, List.getElem_cons_succ, List.setIfInBounds_toArray, List.set_cons_zero, List.set_cons_succ]
  have HB3 := hide (HB.out.trans (hS3.mono hzW))
  clear hS0 hS3 hb3 hS1 hb1 hm1 hc1
  go_wp2
  go_ret2
  exact ⟨rfl, HB3.out⟩
end Go.Proofs.YtppojaekngeelaaDoor
/- Contracts: AskRun and WorstSet, the specification's. -/
namespace Go.Proofs.YtppojaekngeelaaDoor
open Go.RowKit
set_option maxRecDepth 100000
set_option linter.unusedSimpArgs false
theorem own.blz {I : TypeId} {w w' : World} {base b1 b2 : Nat} {v : Value} {l : List Int} (h : own I w base v l) (hb : Blz b1 b2 w.heap.size w w') (h1 : b1 < base) (h2 : b2 < base) : own I w' base v l := by
  obtain ⟨q1, q2⟩ := h
  refine ⟨q1, ?_⟩
  rcases q2 with q2 | ⟨g, cap, cur, e, hg, hh, r⟩
  · exact .inl q2
  · exact .inr ⟨g, cap, cur, e, hg, (hb.block g (hp_lt hh) (by omega) (by omega)).trans hh, r⟩
attribute [local irreducible] p2 low memB risB famAt own blk tbA
set_option maxHeartbeats 8000000 in
theorem asRunB_c (m : Nat) (v : Value) (l : List Int) (S : Nat) (g0 b1 b2 B : Nat) (w : World) (W Q : List Int) (hlB : ints B w v l) (hBs : B ≤ w.heap.size) (hlen : l.length < 1000000000) (hok : okSp (m : Int) l = true) (hS : S < 128) (h12 : b1 ≠ b2) (hg1 : g0 ≠ b1) (hg2 : g0 ≠ b2) (hB1 : B ≤ b1) (hB2 : B ≤ b2)
    (ht : tbA 76 w g0 (m : Int) v b1 b2 (2 ^ (2 * m))) (hW : blk 3 w b1 W) (hQ : blk 3 w b2 Q) (htb : tbOk m (marksTo l l.length) W Q) :
    Calls Tryd.prog 28 #[.agg #[.int .i64 (m : Int), v], .pointer (some ⟨g0, 0, none⟩), .int .i64 (S : Int), .bool false] w fun e w' => ∃ v' W' Q', e = .returned v' ∧ own 3 w' w.heap.size v' (rnL m (viN gW m) S 128 (marksTo l l.length)) ∧ blk 3 w' b1 W' ∧ blk 3 w' b2 Q' ∧ tbOk m (marksTo l l.length) W' Q' ∧ Blz b1 b2 w.heap.size w w' := by
  have hl := hlB.mono hBs
  have HL := hide hlB
  have htl := ht.lt
  have hwl := hW.lt
  have hql := hQ.lt
  have HT := hide ht
  have HW0 := hide (blkA hW (.cells #[.int .i64 (m : Int), v] 28))
  have HQ0 := hide (blkA hQ (.cells #[.int .i64 (m : Int), v] 28))
  have HTB0 := hide htb
  have HLI := hide hl
  have H0 := hide (Blz.of (b1 := b1) (b2 := b2) ((Below.refl w.heap.size w).alloc (Nat.le_refl _) (.cells #[.int .i64 (m : Int), v] 28)))
  have HS0 := hide (hp_last w (.cells #[.int .i64 (m : Int), v] 28))
  have HZ := hide (show (w.alloc (.cells #[.int .i64 (m : Int), v] 28)).heap.size = w.heap.size + 1 by simp)
  have hm := okSp_n hok
  have hm7 : m ≤ 7 := by omega
  have HOK := hide hok
  have HR := hide (sp_r128 hok)
  have HLO := hide (show ∀ x, marksTo l l.length x = true → x ≤ low m from fun x hx => by have := marks_low hok x hx; rwa [Int.toNat_natCast] at this)
  have HZR := hide (leF_zero (marksTo l l.length))
  have HASQ := hide (fun (y z : Nat) (hy : y < 128) (hz : z < 128) w1 (h : ints w1.heap.size w1 v l) => by have h2 := asLeft_c (m : Int) v l y z w1 h hlen HR.out hy hz; rw [lf_sets hok y z] at h2; exact h2)
  have HAHQ := hide (fun (y z : Nat) (hy : y < 2 ^ m) (hz : z < 2 ^ m) (h1 : 1 ≤ cntS (leF (marksTo l l.length) y z)) (hn : opN m (leF (marksTo l l.length) y z) ≠ 0) w1 W1 Q1 => best_c m v l g0 b1 b2 B hok hlen h12 hg1 hg2 hB1 hB2 y z w1 W1 Q1 h1 hn hy hz)
  have hp2 : 2 ^ m ≤ 128 := by have := p2_le m 7 hm7; omega
  have hpp : 0 < 2 ^ m := Nat.pow_pos (by omega)
  clear hl hok ht hW hQ htb hlB
  generalize marksTo l l.length = F0 at *
  go_enter Tryd.func28, Tryd.ntmps28
  go_wp2_with fail
  generalize (w.alloc (.cells #[.int .i64 (m : Int), v] 28)) = W0 at *
  go_loopw [9, 10, 11] (fun o a b wr => ∃ (A : List Int) (y z g : Nat) (W2 Q2 : List Int), y < 2 ^ m ∧ z < 2 ^ m ∧ a = .int .i64 (y : Int) ∧ b = .int .i64 (z : Int) ∧ Hid (A ++ rnL m (viN gW m) S g (leF F0 y z) = rnL m (viN gW m) S 128 F0) ∧ A.length + g ≤ 128 ∧ Hid (cntS (leF F0 y z) ≤ g) ∧ Hid (own 3 wr (w.heap.size + 1) o A) ∧ Hid (w.heap.size + 1 ≤ wr.heap.size) ∧ Hid (wr.heap[w.heap.size]? = some (.cells #[.int .i64 (m : Int), v] 28)) ∧ Hid (blk 3 wr b1 W2) ∧ Hid (blk 3 wr b2 Q2) ∧ Hid (tbOk m F0 W2 Q2) ∧ Hid (Blz b1 b2 w.heap.size w wr)) (fun o _ _ _ => 128 - lenV o)
  case atStart => exact ⟨[], 0, 0, 128, W, Q, hpp, hpp, rfl, rfl, by rw [HZR.out]; rfl, by simp, cntS_le _, own_nil _ _ _, by rw [HZ.out]; exact Nat.le_refl _, HS0, HW0, HQ0, HTB0, H0⟩
  case round =>
    obtain ⟨A, y, z, g, W2, Q2, hyM, hzM, rfl, rfl, HRN, hAg, HC, HO, HSZ, HSW, HWr, HQr, HTB, HB⟩ := hrel
    have hy : y < 128 := by omega
    have hz : z < 128 := by omega
    have HTr := hide (HT.out.blz HB.out HT.out.lt hg1 hg2)
    have hsz := HB.out.size
    have hs1 := HSZ.out
    have HLW := hide ((HL.out.below (HB.out.to hBs hB1 hB2) (Nat.le_refl _)).mono hBs)
    have c0 := cells_at0 HSW.out
    have c1 := cells_at1 HSW.out
    have hLV := hide HO.out.lenV
    have HFL := hide (show ∀ x, leF F0 y z x = true → x ≤ low m from fun x hx => HLO.out x (leF_in hx))
    have HAS := hide (HASQ.out y z hy hz)
    have hcn : cntS (leF F0 y z) = (setsTo (leF F0 y z) 128).length := rfl
    have hze := opN_zero hm7 HFL.out
    rw [hcn] at hze
    by_cases h0 : opN m (leF F0 y z) = 0
    · have hle := hze.1 h0
      have HE := hide (show A = rnL m (viN gW m) S 128 F0 by have := HRN.out; rw [rnL_end h0, List.append_nil] at this; exact this)
      have hle2 : ¬ ((1 : Int) < ((setsTo (leF F0 y z) 128).length : Int)) := by omega
      clear h0 hze hcn HAS
      have HAS := hide (HASQ.out y z hy hz)
      generalize setsTo (leF F0 y z) 128 = L at *
      go_wp2_with (first
        | (go_at_call 44; refine (HAS.out _ (HLW.out.mono hsz)).mono ?_; rintro e w2 ⟨v2, rfl, ho2, hb2⟩; have hz2 := hb2.size; have HI2 := hide ho2.ints; have HO2 := hide (HO.out.kept hb2); have HS2 := hide ((hb2.block w.heap.size (by omega)).trans HSW.out); have d0 := cells_at0 HS2.out; have d1 := cells_at1 HS2.out; have HL2 := hide ((HLW.out.below hb2 hsz).mono (show w.heap.size ≤ w2.heap.size by omega)); have HB2 := hide (HB.out.trans (Blz.of (hb2.mono hsz))); have HT2 := hide (tbB HTr.out hb2 HTr.out.lt); have HW2 := hide (blkB HWr.out hb2 HWr.out.lt); have HQ2 := hide (blkB HQr.out hb2 HQr.out.lt); clear ho2 hb2 c0 c1)
        | (refine wpList_len sliceT rfl (.tmp _) rfl _ rfl w2.heap.size L HI2.out ?_)
        )
      go_ret
      exact ⟨_, W2, Q2, rfl, by rw [← HE.out]; exact HO2.out.mono (by omega), HW2.out, HQ2.out, HTB.out, HB2.out⟩
    · have hgt : (1 : Int) < ((setsTo (leF F0 y z) 128).length : Int) := by
        rcases Nat.lt_or_ge 1 (setsTo (leF F0 y z) 128).length with h | h
        · omega
        · exact absurd (hze.2 h) h0
      have HBE := hide (HAHQ.out y z hyM hzM (by rw [hcn]; omega) h0)
      have hb := vi_bit hm7 HFL.out h0
      have hi7 := open_lt7 hb hm7
      have hp8 := p2_lt128 _ hi7
      obtain ⟨g', rfl, hgo⟩ := rnL_go (q := viN gW m) (s := S) h0 HFL.out hm7 HC.out
      have HR2 := hide (show (A ++ [(viN gW m (leF F0 y z) : Int)]) ++ rnL m (viN gW m) S g' (ptF (leF F0 y z) (viN gW m (leF F0 y z)) (S.testBit (viN gW m (leF F0 y z)))) = rnL m (viN gW m) S 128 F0 by have := HRN.out; rw [hgo] at this; rw [← this]; simp)
      have HC2 := hide (show cntS (ptF (leF F0 y z) (viN gW m (leF F0 y z)) (S.testBit (viN gW m (leF F0 y z)))) ≤ g' by have h1 := part_less hb (S.testBit (viN gW m (leF F0 y z))); have := HC.out; omega)
      have him : viN gW m (leF F0 y z) < m := ((opN_bit m _ _).1 hb).1
      have HYS := hide (ptF_yes F0 y z (viN gW m (leF F0 y z)))
      have HNS := hide (ptF_no F0 y z (viN gW m (leF F0 y z)))
      clear h0 hze hcn hgo hb
      generalize setsTo (leF F0 y z) 128 = L at *
      generalize viN gW m (leF F0 y z) = i at *
      have HSB := hide (fun w1 => by have h := spIn_c (S : Int) (i : Int) w1 (by omega) (by omega) (by omega) (by omega); rw [Int.toNat_natCast, Int.toNat_natCast] at h; exact h)
      have ho1 := i64_or y (p2 i) (Nat.lt_trans hy (by decide)) (Nat.lt_trans hp8 (by decide))
      have ho2 := i64_or z (p2 i) (Nat.lt_trans hz (by decide)) (Nat.lt_trans hp8 (by decide))
      have hyy : y ||| p2 i < 2 ^ m := orP hyM him
      have hzz : z ||| p2 i < 2 ^ m := orP hzM him
      have hq1 := wrap_p2 i (by omega)
      have hq2 : IntKind.i64.wrap (2 ^ i) = (p2 i : Int) := by rw [IntWalk.i64_left]; exact hq1
      cases hbt : S.testBit i
      · rw [hbt, HNS.out] at HR2 HC2
        rw [hbt] at HSB
        clear hbt hyy ho1
        generalize p2 i = P at *
        generalize (z ||| P) = z1 at *
        go_wp2_with (first
          | (go_at_call 44; refine (HAS.out _ (HLW.out.mono hsz)).mono ?_; rintro e w2 ⟨v2, rfl, ho2, hb2⟩; have hz2 := hb2.size; have HI2 := hide ho2.ints; have HO2 := hide (HO.out.kept hb2); have HS2 := hide ((hb2.block w.heap.size (by omega)).trans HSW.out); have d0 := cells_at0 HS2.out; have d1 := cells_at1 HS2.out; have HL2 := hide ((HLW.out.below hb2 hsz).mono (show w.heap.size ≤ w2.heap.size by omega)); have HB2 := hide (HB.out.trans (Blz.of (hb2.mono hsz))); have HT2 := hide (tbB HTr.out hb2 HTr.out.lt); have HW2 := hide (blkB HWr.out hb2 HWr.out.lt); have HQ2 := hide (blkB HQr.out hb2 HQr.out.lt); clear ho2 hb2 c0 c1)
          | (refine wpList_len sliceT rfl (.tmp _) rfl _ rfl w2.heap.size L HI2.out ?_)
          | (go_at_call 46; refine (HBE.out w2 W2 Q2 HT2.out HW2.out HQ2.out HTB.out (HL.out.below (HB2.out.to hBs hB1 hB2) (Nat.le_refl _)) (by omega)).mono ?_; rintro e w3 ⟨W3, Q3, rfl, hw3, hq3, htb3, hb3⟩; have hz3 := hb3.size; have HW3 := hide hw3; have HQ3 := hide hq3; have HTB3 := hide htb3; have HO3 := hide (HO2.out.blz hb3 (by omega) (by omega)); have HS3 := hide ((hb3.block w.heap.size (by omega) (by omega) (by omega)).trans HS2.out); have HB3 := hide (HB2.out.trans (hb3.mono (by omega))); clear hb3 hw3 hq3 htb3 d0 d1)
          | (at_builtin; refine wpList_append1 sliceT intI rfl _ _ rfl (w.heap.size + 1) _ _ rfl (HO3.out.alloc _) _ (i : Int) rfl (by simp [go_sem]) (by simp; omega) (by omega) ?_; intro v4 w4 ho4 hb4; have hb5 := ((Below.refl (w.heap.size + 1) w3).alloc (by omega) _).trans hb4; have hz4 := hb5.size; have HO4 := hide ho4; have HS4 := hide ((hb5.block w.heap.size (by omega)).trans HS3.out); have HB4 := hide (HB3.out.trans (Blz.of (hb5.mono (by omega)))); have HW4 := hide (blkB HW3.out hb5 (by omega)); have HQ4 := hide (blkB HQ3.out hb5 (by omega)); clear ho4 hb4 hb5)
          | (go_at_call 47; refine (HSB.out _).mono ?_; rintro e w' ⟨rfl, rfl⟩)
          )
        go_roundw
        case rel => exact ⟨A ++ [(i : Int)], y, z1, g', W3, Q3, hyM, hzz, rfl, rfl, HR2, by simp; omega, HC2, HO4, hide (by omega), HS4, HW4, HQ4, HTB3, HB4⟩
        case measure =>
          have h1 := HO4.out.lenV
          have h2 := hLV.out
          simp at h1
          omega
      · rw [hbt, HYS.out] at HR2 HC2
        rw [hbt] at HSB
        clear hbt hzz ho2
        generalize p2 i = P at *
        generalize (y ||| P) = y1 at *
        go_wp2_with (first
          | (go_at_call 44; refine (HAS.out _ (HLW.out.mono hsz)).mono ?_; rintro e w2 ⟨v2, rfl, ho2, hb2⟩; have hz2 := hb2.size; have HI2 := hide ho2.ints; have HO2 := hide (HO.out.kept hb2); have HS2 := hide ((hb2.block w.heap.size (by omega)).trans HSW.out); have d0 := cells_at0 HS2.out; have d1 := cells_at1 HS2.out; have HL2 := hide ((HLW.out.below hb2 hsz).mono (show w.heap.size ≤ w2.heap.size by omega)); have HB2 := hide (HB.out.trans (Blz.of (hb2.mono hsz))); have HT2 := hide (tbB HTr.out hb2 HTr.out.lt); have HW2 := hide (blkB HWr.out hb2 HWr.out.lt); have HQ2 := hide (blkB HQr.out hb2 HQr.out.lt); clear ho2 hb2 c0 c1)
          | (refine wpList_len sliceT rfl (.tmp _) rfl _ rfl w2.heap.size L HI2.out ?_)
          | (go_at_call 46; refine (HBE.out w2 W2 Q2 HT2.out HW2.out HQ2.out HTB.out (HL.out.below (HB2.out.to hBs hB1 hB2) (Nat.le_refl _)) (by omega)).mono ?_; rintro e w3 ⟨W3, Q3, rfl, hw3, hq3, htb3, hb3⟩; have hz3 := hb3.size; have HW3 := hide hw3; have HQ3 := hide hq3; have HTB3 := hide htb3; have HO3 := hide (HO2.out.blz hb3 (by omega) (by omega)); have HS3 := hide ((hb3.block w.heap.size (by omega) (by omega) (by omega)).trans HS2.out); have HB3 := hide (HB2.out.trans (hb3.mono (by omega))); clear hb3 hw3 hq3 htb3 d0 d1)
          | (at_builtin; refine wpList_append1 sliceT intI rfl _ _ rfl (w.heap.size + 1) _ _ rfl (HO3.out.alloc _) _ (i : Int) rfl (by simp [go_sem]) (by simp; omega) (by omega) ?_; intro v4 w4 ho4 hb4; have hb5 := ((Below.refl (w.heap.size + 1) w3).alloc (by omega) _).trans hb4; have hz4 := hb5.size; have HO4 := hide ho4; have HS4 := hide ((hb5.block w.heap.size (by omega)).trans HS3.out); have HB4 := hide (HB3.out.trans (Blz.of (hb5.mono (by omega)))); have HW4 := hide (blkB HW3.out hb5 (by omega)); have HQ4 := hide (blkB HQ3.out hb5 (by omega)); clear ho4 hb4 hb5)
          | (go_at_call 47; refine (HSB.out _).mono ?_; rintro e w' ⟨rfl, rfl⟩)
          )
        go_roundw
        case rel => exact ⟨A ++ [(i : Int)], y1, z, g', W3, Q3, hyy, hzM, rfl, rfl, HR2, by simp; omega, HC2, HO4, hide (by omega), HS4, HW4, HQ4, HTB3, HB4⟩
        case measure =>
          have h1 := HO4.out.lenV
          have h2 := hLV.out
          simp at h1
          omega
set_option maxHeartbeats 4000000 in
theorem specAskRunD_c (n : Int) (v : Value) (l : List Int) (x : Int) (w : World) (hl : ints w.heap.size w v l) (hlen : l.length < 1000000000) (_ : tab w) :
    Calls Tryd.prog 11 #[.agg #[.int .i64 n, v], .int .i64 x] w fun e w' => ∃ v', e = .returned (.tuple #[v', .bool (okOne n l x)]) ∧ own 3 w' w.heap.size v' (ruL (viN gW) n l x) ∧ Below w.heap.size w w' := by
  have HL := hide ((hl.alloc (.cells #[.int .i64 n, v] 28)).mono (show w.heap.size ≤ (w.alloc (.cells #[.int .i64 n, v] 28)).heap.size by simp))
  have H0 := hide ((Below.refl w.heap.size w).alloc (Nat.le_refl _) (.cells #[.int .i64 n, v] 28))
  have HS0 := hide (hp_last w (.cells #[.int .i64 n, v] 28))
  have HZ := hide (show (w.alloc (.cells #[.int .i64 n, v] 28)).heap.size = w.heap.size + 1 by simp)
  have HL0 := hide hl
  clear hl
  cases hok : okOne n l x
  · have HG := hide hok
    have hr : ruL (viN gW) n l x = [] := by unfold ruL; rw [hok]; rfl
    rw [hr]
    clear hok hr
    go_enter Tryd.func11, Tryd.ntmps11
    go_wp2_with (go_at_call 27; refine (spOne_c n v l x _ HL.out hlen).mono ?_; rw [HG.out]; rintro e w1 ⟨rfl, hb1⟩; have HB1 := hide (H0.out.trans (hb1.mono (by rw [HZ.out]; omega))); clear hb1)
    go_ret2
    exact ⟨_, rfl, own_nil _ _ _, HB1.out⟩
  · have HG := hide hok
    have hsp := okOne_sp hok
    obtain ⟨hi0, hi1⟩ := okSet_in (okOne_set hok)
    obtain ⟨hn1, hn2⟩ := okSp_n hsp
    have hlo := low_lt n.toNat (by omega)
    obtain ⟨N, rfl⟩ := Int.eq_ofNat_of_zero_le (show 0 ≤ n by omega)
    obtain ⟨S, rfl⟩ := Int.eq_ofNat_of_zero_le hi0
    rw [Int.toNat_natCast] at hlo hi1
    have hr : ruL (viN gW) (N : Int) l (S : Int) = rnL N (viN gW N) S 128 (marksTo l l.length) := by unfold ruL; rw [if_pos hok, Int.toNat_natCast, Int.toNat_natCast]
    have HRU := hide (fun g b1 b2 B w1 W Q h hBs => asRunB_c N v l S g b1 b2 B w1 W Q h hBs hlen hsp (by omega))
    have hN7 : N ≤ 7 := by omega
    have HTN := hide (tbOk_new N (marksTo l l.length))
    rw [hr]
    clear hok hr hi0 hsp
    generalize rnL N (viN gW N) S 128 (marksTo l l.length) = R at *
    generalize marksTo l l.length = F at *
    go_enter Tryd.func11, Tryd.ntmps11
    go_wp2_with (first
      | (go_at_call 27; refine (spOne_c _ v l _ _ HL.out hlen).mono ?_; rw [HG.out]; rintro e w1 ⟨rfl, hb1⟩; have HS1 := hide ((hb1.block w.heap.size (by rw [HZ.out]; omega)).trans HS0.out); have d0 := cells_at0 HS1.out; have d1 := cells_at1 HS1.out; have HL1 := hide ((HL.out.below hb1 (Nat.le_refl _)).mono hb1.size); have hz1 := hb1.size; rw [HZ.out] at hz1; have HB1 := hide (H0.out.trans (hb1.mono (by rw [HZ.out]; omega))); clear hb1)
      )
    have hz1' := hz1
    have htl1 : w.heap.size < w1.heap.size := by omega
    refine wp_region_held (S := Below w1.heap.size w1) (by kernel_rfl) ?_
    have hS0 : Below w1.heap.size w1 { w1 with drawn := w1.drawn + 1 } := (Below.refl _ _).drew
    have hzz : ({ w1 with drawn := w1.drawn + 1 } : World).heap.size = w1.heap.size := rfl
    generalize ({ w1 with drawn := w1.drawn + 1 } : World) = V0 at hS0 hzz ⊢
    refine wpAnyH_take (i := 0) rfl (by kernel_rfl) (by kernel_rfl) (by kernel_rfl) (fun _ _ _ h => h) (yields_load_two rowSp sizeSp rfl (.tmp _) rfl w.heap.size rfl (.int .i64 (N : Int)) v (fun w' h => (h.cell (p := ⟨w.heap.size, 0, none⟩) htl1).trans d0) (fun w' h => (h.cell (p := ⟨w.heap.size, 1, none⟩) htl1).trans d1)) hS0 ?_
    simp only [Act.put, List.getElem_toArray, List.getElem_cons_zero, List.getElem_cons_succ, List.setIfInBounds_toArray, List.set_cons_zero, List.set_cons_succ]
    refine wpAnyH_take (i := 1) rfl (by kernel_rfl) (by kernel_rfl) (by kernel_rfl) (fun _ _ _ h => h) (yields_load_two rowSp sizeSp rfl (.tmp _) rfl w.heap.size rfl (.int .i64 (N : Int)) v (fun w' h => (h.cell (p := ⟨w.heap.size, 0, none⟩) htl1).trans d0) (fun w' h => (h.cell (p := ⟨w.heap.size, 1, none⟩) htl1).trans d1)) hS0 ?_
    simp only [Act.put, List.getElem_toArray, List.getElem_cons_zero, List.getElem_cons_succ, List.setIfInBounds_toArray, List.set_cons_zero, List.set_cons_succ]
    refine wpAnyH_take (i := 3) (v := .int .i64 (S : Int)) rfl (by kernel_rfl) (by kernel_rfl) (by kernel_rfl) (fun _ _ _ h => h) (.inl ⟨rfl, fun w' _ => by go_simp⟩) hS0 ?_
    simp only [Act.put, List.getElem_toArray, List.getElem_cons_zero, List.getElem_cons_succ, List.setIfInBounds_toArray, List.set_cons_zero, List.set_cons_succ]
    refine anyH_call (i := 2) (by kernel_rfl) rfl rfl 29 (enters_of Tryd.func29 (by kernel_rfl) (by kernel_rfl)) _ _ rfl #[.agg #[.int .i64 (N : Int), v]] rfl (asNew_c N v V0 hN7) ?_
    rintro e V1 ⟨g, b1, b2, rfl, q1, q2, q3, q4, q5, q6, q7, q8, q9, hb3⟩
    have hz3 := hb3.size
    have hS1 : Below w1.heap.size w1 V1 := hS0.trans (hb3.mono (by omega))
    have hlb : ints w.heap.size V1 v l := HL0.out.below (HB1.out.trans (hS1.mono (by omega))) (Nat.le_refl _)
    refine ⟨_, rfl, hS1, ?_⟩
    simp only [Act.put, List.getElem_toArray, List.getElem_cons_zero, List.getElem_cons_succ, List.setIfInBounds_toArray, List.set_cons_zero, List.set_cons_succ]
    refine anyH_call (i := 4) (by kernel_rfl) rfl rfl 28 (enters_of Tryd.func28 (by kernel_rfl) (by kernel_rfl)) _ _ rfl #[.agg #[.int .i64 (N : Int), v], .pointer (some ⟨g, 0, none⟩), .int .i64 (S : Int), .bool false] rfl (HRU.out g b1 b2 w.heap.size V1 _ _ hlb (by omega) q4 q5 q6 (by omega) (by omega) q7 q8 q9 HTN.out) ?_
    rintro e V2 ⟨v3, W4, Q4, rfl, ho4, _, _, _, hb4⟩
    have hS2 : Below w1.heap.size w1 V2 := hS1.trans (hb4.to (by omega) (by omega) (by omega))
    refine ⟨_, rfl, hS2, ?_⟩
    simp only [Act.put, List.getElem_toArray, List.getElem_cons_zero, List.getElem_cons_succ, List.setIfInBounds_toArray, List.set_cons_zero, List.set_cons_succ]
    refine anyH_op (i := 5) (by kernel_rfl) rfl rfl v3 V2 (by simp [go_sem]) hS2 ?_
    simp only [Act.put, List.getElem_toArray, List.getElem_cons_zero, List.getElem_cons_succ, List.setIfInBounds_toArray, List.set_cons_zero, List.set_cons_succ]
    refine anyH_op (i := 6) (by kernel_rfl) rfl rfl (.bool true) V2 (by simp [go_sem]) hS2 ?_
    refine wpAnyH_done (by kernel_rfl) ?_ _
    simp only [Act.put, List.getElem_toArray, List.getElem_cons_zero, List.getElem_cons_succ, List.setIfInBounds_toArray, List.set_cons_zero, List.set_cons_succ]
    have HB4 := hide (HB1.out.trans (hS2.mono (by omega)))
    have HO4 := hide (show own 3 V2 w.heap.size v3 _ from ho4.mono (by omega))
    clear hS0 hS1 hS2 hb3 hb4 ho4 q7 q8 q9 hlb
    go_wp2
    go_ret2
    exact ⟨_, rfl, HO4.out, HB4.out⟩
theorem first0 {n : Int} {l : List Int} (h : okSp n l = true) : l[0]?.getD 0 = 0 := by
  obtain ⟨j, hj, he⟩ := (okSp_has h 0).1 (okSp_spc h).zero
  have h1 := okSp_pos h j hj
  have h2 := nth_cast h j hj
  rw [he] at h2
  rcases Nat.eq_zero_or_pos j with e | e
  · rw [e] at h2; exact h2
  · have h3 := okSp_inc h 0 j e hj
    have h4 := okSp_pos h 0 (by omega)
    omega
/-- Of the first k sets, the first one with the longest run, told with -1 for none. -/
def wqTo (f : Nat → Nat) (L : List Int) (k : Nat) : Int × Int := if k = 0 then (0, -1) else ((wsTo f L k).1, ((wsTo f L k).2 : Int))
theorem wq_yes {f : Nat → Nat} {L : List Int} {k : Nat} (h0 : L[0]?.getD 0 = 0) (h : (wqTo f L k).2 < (f (nth L k) : Int)) : wqTo f L (k + 1) = (L[k]?.getD 0, (f (nth L k) : Int)) := by
  cases k with
  | zero =>
    show ((wsTo f L 1).1, ((wsTo f L 1).2 : Int)) = _
    by_cases hf : (wsTo f L 0).2 < f (nth L 0)
    · rw [ws_yes hf]
    · rw [ws_no hf]
      simp only [wsTo] at hf ⊢
      rw [h0, show f (nth L 0) = 0 by omega]
  | succ k =>
    have h2 : (wsTo f L (k + 1)).2 < f (nth L (k + 1)) := by have : ((wsTo f L (k + 1)).2 : Int) < (f (nth L (k + 1)) : Int) := h; omega
    show ((wsTo f L (k + 2)).1, ((wsTo f L (k + 2)).2 : Int)) = _
    rw [ws_yes h2]
theorem wq_no {f : Nat → Nat} {L : List Int} {k : Nat} (h : ¬ (wqTo f L k).2 < (f (nth L k) : Int)) : wqTo f L (k + 1) = wqTo f L k := by
  cases k with
  | zero => exact absurd (show (-1 : Int) < _ by omega) h
  | succ k =>
    have h2 : ¬ (wsTo f L (k + 1)).2 < f (nth L (k + 1)) := by intro e; exact h (show ((wsTo f L (k + 1)).2 : Int) < (f (nth L (k + 1)) : Int) by omega)
    show ((wsTo f L (k + 2)).1, ((wsTo f L (k + 2)).2 : Int)) = ((wsTo f L (k + 1)).1, ((wsTo f L (k + 1)).2 : Int))
    rw [ws_no h2]
set_option maxHeartbeats 8000000 in
theorem specWorstSetD_c (n : Int) (v : Value) (l : List Int) (w : World) (hl : ints w.heap.size w v l) (hlen : l.length < 1000000000) (_ : tab w) :
    Calls Tryd.prog 17 #[.agg #[.int .i64 n, v]] w fun e w' => e = .returned (.tuple #[.int .i64 (awR n l), .bool (okSp n l)]) ∧ Below w.heap.size w w' := by
  have HL := hide ((hl.alloc (.cells #[.int .i64 n, v] 28)).mono (show w.heap.size ≤ (w.alloc (.cells #[.int .i64 n, v] 28)).heap.size by simp))
  have H0 := hide ((Below.refl w.heap.size w).alloc (Nat.le_refl _) (.cells #[.int .i64 n, v] 28))
  have HS0 := hide (hp_last w (.cells #[.int .i64 n, v] 28))
  have HZ := hide (show (w.alloc (.cells #[.int .i64 n, v] 28)).heap.size = w.heap.size + 1 by simp)
  have HL0 := hide hl
  clear hl
  cases hok : okSp n l
  · have HG := hide (show goodB n l = false by rw [← ok_good]; exact hok)
    have hr : awR n l = 0 := by unfold awR wrP; rw [hok]; rfl
    rw [hr]
    clear hok hr
    go_enter Tryd.func17, Tryd.ntmps17
    go_wp2_with (go_at_call 20; refine (spGood_c n v l _ HL.out hlen).mono ?_; rw [HG.out]; rintro e w1 ⟨rfl, hb1⟩; have HB1 := hide (H0.out.trans (hb1.mono (by rw [HZ.out]; omega))); clear hb1)
    go_ret2
    exact ⟨rfl, HB1.out⟩
  · have HG := hide (show goodB n l = true by rw [← ok_good]; exact hok)
    obtain ⟨hn1, hn2⟩ := okSp_n hok
    obtain ⟨N, rfl⟩ := Int.eq_ofNat_of_zero_le (show 0 ≤ n by omega)
    have hr : awR (N : Int) l = (wsTo (ruN N (viN gW) (marksTo l l.length)) l l.length).1 := by unfold awR wrP; rw [if_pos hok, Int.toNat_natCast]
    have h00 := first0 hok
    have hl0 : 0 < l.length := by obtain ⟨j, hj, _⟩ := (okSp_has hok 0).1 (okSp_spc hok).zero; omega
    have hN7 : N ≤ 7 := by omega
    have HRU := hide (fun S (hS : S < 128) g b1 b2 w1 W Q h hBs => asRunB_c N v l S g b1 b2 w.heap.size w1 W Q h hBs hlen hok hS)
    have HRG := hide (sp_r128 hok)
    have HTN := hide (tbOk_new N (marksTo l l.length))
    have HFN := hide (fun s => show (rnL N (viN gW N) s 128 (marksTo l l.length)).length = ruN N (viN gW) (marksTo l l.length) s from rfl)
    have HFL := hide (fun s => ruN_le N (viN gW) (marksTo l l.length) s)
    rw [hr]
    clear hok hr
    generalize marksTo l l.length = F at *
    have HWY := hide (fun k => wq_yes (f := ruN N (viN gW) F) (k := k) h00)
    have HWN := hide (fun k => show (((ruN N (viN gW) F) (nth l k) : Nat) : Int) ≤ (wqTo (ruN N (viN gW) F) l k).2 → wqTo (ruN N (viN gW) F) l (k + 1) = wqTo (ruN N (viN gW) F) l k from fun h => wq_no (f := (ruN N (viN gW) F)) (L := l) (k := k) (Int.not_lt.2 h))
    generalize ruN N (viN gW) F = f at *
    clear h00
    go_enter Tryd.func17, Tryd.ntmps17
    go_wp2_with (first
      | (go_at_call 20; refine (spGood_c _ v l _ HL.out hlen).mono ?_; rw [HG.out]; rintro e w1 ⟨rfl, hb1⟩; have HS1 := hide ((hb1.block w.heap.size (by rw [HZ.out]; omega)).trans HS0.out); have d0 := cells_at0 HS1.out; have d1 := cells_at1 HS1.out; have hz1 := hb1.size; rw [HZ.out] at hz1; have HB1 := hide (H0.out.trans (hb1.mono (by rw [HZ.out]; omega))); clear hb1)
      | (go_at_call 29; refine (asNew_c N v _ hN7).mono ?_; rintro e w2 ⟨g, b1, b2, rfl, q1, q2, q3, q4, q5, q6, q7, q8, q9, hb3⟩; have hz2 := hb3.size; have HT2 := hide q7; have HW2 := hide q8; have HQ2 := hide q9; have HS2 := hide ((hb3.block w.heap.size (by omega)).trans HS1.out); have e1 := cells_at1 HS2.out; have HB2 := hide (HB1.out.trans (hb3.mono (by omega))); have HL2 := hide (HL0.out.below HB2.out (Nat.le_refl _)); clear hb3 q7 q8 q9 d0 d1)
      | (refine wpList_len sliceT rfl (.tmp _) rfl _ rfl w.heap.size l HL2.out ?_))
    clear e1
    go_loopw [5, 6, 18] (fun x y i wr => ∃ (k : Nat) (W2 Q2 : List Int), k ≤ l.length ∧ i = .int .i64 (k : Int) ∧ x = .int .i64 (wqTo f l k).1 ∧ y = .int .i64 (wqTo f l k).2 ∧ Hid (blk 3 wr b1 W2) ∧ Hid (blk 3 wr b2 Q2) ∧ Hid (tbOk N F W2 Q2) ∧ Hid (Blz b1 b2 w2.heap.size w2 wr)) (fun _ _ i _ => l.length - (intOf i).toNat)
    case atStart => exact ⟨0, _, _, Nat.zero_le _, rfl, rfl, rfl, HW2, HQ2, HTN, Blz.refl _ _ _ _⟩
    case round =>
      obtain ⟨k, W3, Q3, hk, rfl, rfl, rfl, HW, HQ, HTB, HB⟩ := hrel
      have hsz := HB.out.size
      have HLW := hide (HL2.out.below (HB.out.to (B' := w.heap.size) (by omega) (by omega) (by omega)) (Nat.le_refl _))
      have HTr := hide (HT2.out.blz HB.out HT2.out.lt q5 q6)
      have htl := HT2.out.lt
      by_cases hlt : k < l.length
      · have hr := HRG.out k hlt
        have hx : l[k]?.getD 0 = (nth l k : Int) := by unfold nth; rw [Int.toNat_of_nonneg hr.1]
        have HX := hide hx
        have hx8 : nth l k < 128 := by omega
        have HSW := hide ((HB.out.block w.heap.size (by omega) (by omega) (by omega)).trans HS2.out)
        have c0 := cells_at0 HSW.out
        have c1 := cells_at1 HSW.out
        have HRS := hide (HRU.out (nth l k) hx8)
        have HFS := hide (HFN.out (nth l k))
        have hfl := HFL.out (nth l k)
        have HY := hide (HWY.out k)
        have HN := hide (HWN.out k)
        rw [hx] at HY
        rw [← HFS.out] at HY HN hfl
        clear hx hr HFS
        generalize rnL N (viN gW N) (nth l k) 128 F = R at *
        generalize nth l k = s at *
        by_cases hc : (wqTo f l k).2 < (R.length : Int)
        · have HE := hide (HY.out hc)
          generalize hX1 : wqTo f l (k + 1) = X1 at HE
          generalize wqTo f l k = X at *
          have HX1 := hide hX1
          clear hX1 HY HN
          obtain ⟨Xa, Xb⟩ := X
          go_wp2_with (first
            | (refine wpList_at sliceT intS rfl (.tmp _) (.tmp _) rfl _ rfl k rfl w.heap.size l HLW.out hlt ?_; intro ad hcell hblk; rw [HX.out] at hcell)
            | (go_at_call 28; refine (HRS.out g b1 b2 _ _ _ HLW.out (by omega) q4 q5 q6 (by omega) (by omega) HTr.out HW.out HQ.out HTB.out).mono ?_; rintro e w4 ⟨v4, W4, Q4, rfl, ho4, hw4, hq4, htb4, hb4⟩; have HI4 := hide ho4.ints; have HW4 := hide hw4; have HQ4 := hide hq4; have HTB4 := hide htb4; have HB4 := hide (HB.out.trans (hb4.mono hsz)); clear ho4 hw4 hq4 htb4 hb4)
            | (refine wpList_len sliceT rfl (.tmp _) rfl _ rfl w4.heap.size R HI4.out ?_)
            )
          go_roundw
          case rel => exact ⟨k + 1, W4, Q4, by omega, by go_num, by rw [HX1.out, HE.out], by rw [HX1.out, HE.out], HW4, HQ4, HTB4, HB4⟩
          case measure => (simp [intOf] <;> omega)
        · have HE := hide (HN.out (Int.not_lt.1 hc))
          generalize hX1 : wqTo f l (k + 1) = X1 at HE
          generalize wqTo f l k = X at *
          have HX1 := hide hX1
          clear hX1 HY HN
          obtain ⟨Xa, Xb⟩ := X
          go_wp2_with (first
            | (refine wpList_at sliceT intS rfl (.tmp _) (.tmp _) rfl _ rfl k rfl w.heap.size l HLW.out hlt ?_; intro ad hcell hblk; rw [HX.out] at hcell)
            | (go_at_call 28; refine (HRS.out g b1 b2 _ _ _ HLW.out (by omega) q4 q5 q6 (by omega) (by omega) HTr.out HW.out HQ.out HTB.out).mono ?_; rintro e w4 ⟨v4, W4, Q4, rfl, ho4, hw4, hq4, htb4, hb4⟩; have HI4 := hide ho4.ints; have HW4 := hide hw4; have HQ4 := hide hq4; have HTB4 := hide htb4; have HB4 := hide (HB.out.trans (hb4.mono hsz)); clear ho4 hw4 hq4 htb4 hb4)
            | (refine wpList_len sliceT rfl (.tmp _) rfl _ rfl w4.heap.size R HI4.out ?_)
            )
          go_roundw
          case rel => exact ⟨k + 1, W4, Q4, by omega, by go_num, by rw [HX1.out, HE.out], by rw [HX1.out, HE.out], HW4, HQ4, HTB4, HB4⟩
          case measure => (simp [intOf] <;> omega)
      · have HJ := hide (show k = l.length by omega)
        have hlt' : ¬ ((k : Int) < (l.length : Int)) := by omega
        have HE := hide (show (wqTo f l l.length).1 = (wsTo f l l.length).1 by unfold wqTo; rw [if_neg (by omega)])
        go_wp2
        go_ret2
        exact ⟨by rw [← HE.out, ← HJ.out]; rfl, HB2.out.trans (HB.out.to (by omega) (by omega) (by omega))⟩
end Go.Proofs.YtppojaekngeelaaDoor
/- The program's WorstSet answers as the specification's does, at every argument, leaves its arguments as they are, and its answer owns its memory: no condition. -/
namespace Go.Proofs.YtppojaekngeelaaDoor.FWorstSet
open Go.ChangeShapes Go.WideShapes Go.ChangeAt Go.RowKit Go.Joins
set_option linter.unusedVariables false
set_option linter.unusedSimpArgs false
set_option maxRecDepth 100000

set_option maxHeartbeats 4000000 in
theorem law_c (n0 : Int) (v0 : Value) (l0 : List Int) (w : World) (h0 : ints w.heap.size w v0 l0) (hlen0 : l0.length ≤ 9223372036854775807) (hT : tab w) :
    Calls Tryd.prog 5 #[.agg #[.int .i64 n0, v0]] w fun e w' => e = .returned (.bool true) ∧ Below w.heap.size w w' := by
  have HT := hide hT
  clear hT
  generalize hR : (awR n0 l0) = R
  generalize hO : (okSp n0 l0) = ok
  have HR := hide hR
  have HO := hide hO
  clear hR hO
  have F1 := hide (((Below.refl w.heap.size w).alloc (Nat.le_refl _) (.cells #[.int .i64 n0, v0] 24)))
  have F2 := hide ((h0.alloc (.cells #[.int .i64 n0, v0] 24)))
  have F3 := hide (show (w.alloc (.cells #[.int .i64 n0, v0] 24)).heap[w.heap.size]? = some (.cells #[.int .i64 n0, v0] 24) from (by have := hp_last w (.cells #[.int .i64 n0, v0] 24); simpa using this))
  have HZ0 := hide (show (w.alloc (.cells #[.int .i64 n0, v0] 24)).heap.size = w.heap.size + 1 by simp)
  clear h0
  have hsz0 : szOf 1048576 l0.length = -1 ∨ (0 ≤ szOf 1048576 l0.length ∧ szOf 1048576 l0.length ≤ 1048576 ∧ l0.length ≤ 1048576) := by unfold szOf; split <;> omega
  generalize hq0 : szOf 1048576 l0.length = q0 at hsz0
  have HQ0 := hide hq0
  clear hq0
  rcases hsz0 with hbig0 | ⟨hq0a, hq0b, hq0c⟩
  · have HBIG := hide hbig0
    have hneg : q0 < 0 := by omega
    clear hbig0
    go_enter Tryd.func5, Tryd.ntmps5
    go_wp2_with fail
    generalize hX : (w.alloc (.cells #[.int .i64 n0, v0] 24)) = W0 at F1 F2 F3 HZ0 ⊢
    have hz0 := Nat.le_of_eq HZ0.out.symm
    clear hX HZ0
    refine (szSpace_c n0 v0 l0 (1048576) W0 (F2.out.mono (by omega)) hlen0 (by omega) (by omega)).mono ?_
    rw [HQ0.out]
    rintro e W1 ⟨rfl, hb4⟩
    have hz5 := hb4.size
    have F6 := hide (F1.out.trans (hb4.mono (by omega)))
    have F7 := hide (F2.out.below hb4 (by omega))
    have F8 := hide ((hb4.block (w.heap.size) (by omega)).trans F3.out)
    clear hb4 F1 F2 F3
    go_wp2
    go_ret
    exact ⟨rfl, F6.out⟩
  have hneg0 : ¬ q0 < 0 := by omega
  go_enter Tryd.func5, Tryd.ntmps5
  go_wp2_with fail
  generalize hX : (w.alloc (.cells #[.int .i64 n0, v0] 24)) = W0 at F1 F2 F3 HZ0 ⊢
  have hz0 := Nat.le_of_eq HZ0.out.symm
  clear hX HZ0
  refine (szSpace_c n0 v0 l0 (1048576) W0 (F2.out.mono (by omega)) hlen0 (by omega) (by omega)).mono ?_
  rw [HQ0.out]
  rintro e W1 ⟨rfl, hb4⟩
  have hz5 := hb4.size
  have F6 := hide (F1.out.trans (hb4.mono (by omega)))
  have F7 := hide (F2.out.below hb4 (by omega))
  have F8 := hide ((hb4.block (w.heap.size) (by omega)).trans F3.out)
  clear hb4 F1 F2 F3
  have p9 := cells_at0 F8.out
  have p10 := cells_at1 F8.out
  go_wp2_with fail
  clear p9 p10
  refine (toSpace_c n0 v0 l0 W1 (F7.out.mono (by omega)) (by omega)).mono ?_
  rintro e W2 ⟨g11, rfl, hg12, hk13, hb14⟩
  have hz15 := hb14.size
  have F16 := hide (F6.out.trans (hb14.mono (by omega)))
  have F17 := hide (F7.out.below hb14 (by omega))
  have F18 := hide ((hb14.block (w.heap.size) (by omega)).trans F8.out)
  have F19 := hide (hk13.own hg12 (by unfold maxLen; omega))
  have B20 := hide (F19.out.base)
  have L21 := hide (F19.out.blockLt)
  clear hb14 F6 F7 F8 hk13 hg12
  have p22 := cells_at0 F18.out
  have p23 := cells_at1 F18.out
  go_wp2_with fail
  clear p22 p23
  refine (specWorstSetD_c n0 _ l0 W2 F19.out.ints (by omega) (HT.out.belowB HT.out F16.out (Nat.le_refl _))).mono ?_
  rw [HR.out, HO.out]
  rintro e W3 ⟨rfl, hb24⟩
  have hz25 := hb24.size
  have F26 := hide (F16.out.trans (hb24.mono (by omega)))
  have F27 := hide (F17.out.below hb24 (by omega))
  have F28 := hide ((hb24.block (w.heap.size) (by omega)).trans F18.out)
  have F29 := hide (F19.out.kept hb24)
  clear hb24 F16 F17 F18 F19
  clear F29
  clear B20 L21
  have p30 := cells_at0 F28.out
  have p31 := cells_at1 F28.out
  go_wp2_with fail
  clear p30 p31
  refine (toSpace_c n0 v0 l0 W3 (F27.out.mono (by omega)) (by omega)).mono ?_
  rintro e W4 ⟨g32, rfl, hg33, hk34, hb35⟩
  have hz36 := hb35.size
  have F37 := hide (F26.out.trans (hb35.mono (by omega)))
  have F38 := hide (F27.out.below hb35 (by omega))
  have F39 := hide ((hb35.block (w.heap.size) (by omega)).trans F28.out)
  have F40 := hide (hk34.own hg33 (by unfold maxLen; omega))
  have B41 := hide (F40.out.base)
  have L42 := hide (F40.out.blockLt)
  clear hb35 F26 F27 F28 hk34 hg33
  have F43 := hide (F37.out.alloc (by omega) (.cells #[.int .i64 n0, .slice (some ⟨g32, 0, none⟩) l0.length l0.length] 28))
  have F44 := hide (F38.out.alloc (.cells #[.int .i64 n0, .slice (some ⟨g32, 0, none⟩) l0.length l0.length] 28))
  have F45 := hide ((hp_old W4 (.cells #[.int .i64 n0, .slice (some ⟨g32, 0, none⟩) l0.length l0.length] 28) (w.heap.size) (by omega)).trans F39.out)
  have F46 := hide (F40.out.alloc (.cells #[.int .i64 n0, .slice (some ⟨g32, 0, none⟩) l0.length l0.length] 28))
  have F47 := hide (hp_last W4 (.cells #[.int .i64 n0, .slice (some ⟨g32, 0, none⟩) l0.length l0.length] 28))
  have HZ48 := hide (show (W4.alloc (.cells #[.int .i64 n0, .slice (some ⟨g32, 0, none⟩) l0.length l0.length] 28)).heap.size = W4.heap.size + 1 by simp)
  clear F37 F38 F39 F40
  have p49 := cells_at0 F45.out
  have p50 := cells_at1 F45.out
  have p51 := cells_at0 F47.out
  have p52 := cells_at1 F47.out
  go_wp2_with fail
  clear p49 p50 p51 p52
  generalize hX : W4.alloc (.cells #[.int .i64 n0, .slice (some ⟨g32, 0, none⟩) l0.length l0.length] 28) = W5 at F43 F44 F45 F46 F47 HZ48 ⊢
  have hz53 := Nat.le_of_eq HZ48.out.symm
  clear hX HZ48
  refine (implWorstSet_c n0 _ l0 W5 F46.out.ints (by omega) (HT.out.belowB HT.out F43.out (Nat.le_refl _))).mono ?_
  rw [HR.out, HO.out]
  rintro e W6 ⟨rfl, hb54⟩
  have hz55 := hb54.size
  have F56 := hide (F43.out.trans (hb54.mono (by omega)))
  have F57 := hide (F44.out.below hb54 (by omega))
  have F58 := hide ((hb54.block (w.heap.size) (by omega)).trans F45.out)
  have F59 := hide (F46.out.kept hb54)
  have F60 := hide ((hb54.block (W4.heap.size) (by omega)).trans F47.out)
  clear hb54 F43 F44 F45 F46 F47
  have p61 := cells_at0 F58.out
  have p62 := cells_at1 F58.out
  have p63 := cells_at0 F60.out
  have p64 := cells_at1 F60.out
  go_wp2
  clear p61 p62 p63 p64
  refine wp_region_held (S := Below W6.heap.size W6) (by kernel_rfl) ?_
  have hS : Below W6.heap.size W6 { W6 with drawn := W6.drawn + 1 } := (Below.refl _ _).drew
  refine wpAnyH_take (i := 0) rfl (by kernel_rfl) (by kernel_rfl) (by kernel_rfl) (fun _ _ _ h => h) (yields_load_two rowSp sizeSp rfl (.tmp _) rfl _ rfl _ _ (fun w' h => (h.cell (p := ⟨W4.heap.size, 0, none⟩) (by show W4.heap.size < _; omega)).trans (cells_at0 F60.out)) (fun w' h => (h.cell (p := ⟨W4.heap.size, 1, none⟩) (by show W4.heap.size < _; omega)).trans (cells_at1 F60.out))) hS ?_
  refine wpAnyH_take (i := 1) rfl (by kernel_rfl) (by kernel_rfl) (by kernel_rfl) (fun _ _ _ h => h) (yields_load_two rowSl sizeSl rfl (.tmp _) rfl _ rfl _ _ (fun w' h => (h.cell (p := ⟨w.heap.size, 0, none⟩) (by show w.heap.size < _; omega)).trans (cells_at0 F58.out)) (fun w' h => (h.cell (p := ⟨w.heap.size, 1, none⟩) (by show w.heap.size < _; omega)).trans (cells_at1 F58.out))) hS ?_
  refine anyH_call (i := 2) (by kernel_rfl) rfl rfl 8 ent_toSpace _ _ rfl #[.agg #[.int .i64 n0, v0]] rfl (toSpace_c n0 v0 l0 _ ((F57.out.below hS (by omega)).mono (show w.heap.size ≤ W6.heap.size by omega)) (by omega)) ?_
  rintro e W7 ⟨g65, rfl, hgr, hkr, hbr⟩
  have hzr : W6.heap.size ≤ W7.heap.size := hbr.size
  have hS6 : Below W6.heap.size W6 W7 := hS.trans hbr
  refine ⟨_, rfl, hS6, ?_⟩
  refine anyH_call (i := 3) (by kernel_rfl) rfl rfl 10 ent_eqSpace _ _ rfl #[.agg #[.int .i64 n0, .slice (some ⟨g32, 0, none⟩) l0.length l0.length], .agg #[.int .i64 n0, .slice (some ⟨g65, 0, none⟩) l0.length l0.length]] rfl (eqSpace_same_c n0 _ _ l0 W7 ((F59.out.kept hS6).ints) (hkr.ints _) (by omega)) ?_
  rintro e W8 ⟨rfl, hbs⟩
  have hS7 : Below W6.heap.size W6 W8 := hS6.trans (hbs.mono hzr)
  refine ⟨_, rfl, hS7, ?_⟩
  refine anyH_op (i := 4) (by kernel_rfl) rfl rfl (.bool false) W8 ?hq hS7 ?_
  case hq => simp [go_sem, Act.put]
  refine wpAnyH_done (by kernel_rfl) ?_ _
  simp only [Act.put, List.getElem_toArray, List.getElem_cons_zero, List.getElem_cons_succ, List.setIfInBounds_toArray, List.set_cons_zero, List.set_cons_succ]
  have hz66 : W6.heap.size ≤ W8.heap.size := hS7.size
  have F67 := hide (F56.out.trans (hS7.mono (by omega)))
  have F68 := hide (F57.out.below hS7 (by omega))
  have F69 := hide ((hS7.block (w.heap.size) (by omega)).trans F58.out)
  have F70 := hide (F59.out.kept hS7)
  have F71 := hide ((hS7.block (W4.heap.size) (by omega)).trans F60.out)
  clear hS hS6 hS7 hbr hbs hkr hgr hzr F56 F57 F58 F59 F60
  have p72 := cells_at0 F69.out
  have p73 := cells_at1 F69.out
  have p74 := cells_at0 F71.out
  have p75 := cells_at1 F71.out
  go_wp2
  go_ret
  exact ⟨rfl, F67.out⟩

theorem ownK : ownKnob Tryd.prog.godebug = none := by kernel_rfl
theorem laidOut : laidOutB Tryd.prog = true := by kernel_rfl

/-- What a slice of int is, as it comes in. -/
theorem list_open {W : World} {v : Value} {l : List Int} (h : (v = .slice none 0 0 ∧ l = []) ∨ ∃ (a : Addr) (len c : Nat) (zs : List Int), v = .slice (some a) len c ∧ len ≤ zs.length ∧ len ≤ maxLen ∧ (∀ i, i < zs.length → W.cell? (a.add i) = some (.int .i64 (zs.getD i 0))) ∧ l = zs.take len) : ints W.heap.size W v l ∧ l.length ≤ 9223372036854775807 := by
  rcases h with ⟨rfl, rfl⟩ | ⟨x, len, c, zs, rfl, hlt, hm, hcell, rfl⟩
  · exact ⟨.inl ⟨rfl, none, 0, rfl⟩, by simp⟩
  · have htk : (zs.take len).length = len := by simp; omega
    refine ⟨?_, by unfold maxLen at hm; omega⟩
    rcases Nat.eq_zero_or_pos len with h0 | h0
    · subst h0
      exact .inl ⟨by simp, some x, c, rfl⟩
    · obtain ⟨b, off, rfl, hc⟩ := ints_at hcell (by omega)
      have hbl := block_lt_of_cell (hc 0 (by omega))
      refine .inr ⟨b, off, c, by rw [htk], hbl, hbl, fun j hj => ?_⟩
      rw [htk] at hj
      rw [hc j (by omega), List.getElem?_take, if_pos hj]
      rfl

/-- What a struct of an int and a slice of int is, as it comes in. -/
theorem space_open {H : Type} {enc : TypeId × Value → H} {W : World} {b0 : Nat} {v : Value} {d : DataW H} {p : List MemPlace}
    (hv : Value.okWide Tryd.prog W .any b0 24 v) (h : DataW.Trod enc Tryd.prog W 0 (fun _ => true) true 24 v d p) :
    ∃ (n : Int) (u : Value) (l : List Int), v = .agg #[.int .i64 n, u] ∧ ints W.heap.size W u l ∧ l.length ≤ 9223372036854775807 := by
  obtain ⟨v0, v1, y0, y1, m, rfl, rfl, rfl, hy0, hy1⟩ := open_agg2 Tryd.underlying24 (by kernel_rfl) (by kernel_rfl) hv h
  obtain ⟨n, e0, _, _⟩ := DataW.trod_int Tryd.underlying3 hy0
  simp at e0
  subst e0
  rcases open_ints Tryd.underlying22 Tryd.underlying3 (by kernel_rfl) hy1 with ⟨hcs, _⟩ | ⟨x, len, c, zs, hcs, _, hl, hm, hz, _, hcell, hwz⟩
  · simp at hcs
    subst hcs
    exact ⟨n, _, [], rfl, list_open (.inl ⟨rfl, rfl⟩)⟩
  · simp at hcs
    subst hcs
    have hz' : zs.length = c := by simpa using hz
    exact ⟨n, _, zs.take len, rfl, list_open (.inr ⟨x, len, c, zs, rfl, by omega, by unfold maxLen at hm ⊢; omega, hcell, rfl⟩)⟩


/-- What the card's condition gives: the table's cells. -/
theorem tab_of {W : World} (h : laidMetH Tryd.prog Rows.fnExactWorstSetRow.laid W) : tab W := by
  rw [MakeChecks.laidMetH_plain _ _ _ (by kernel_rfl)] at h
  have h2 := h.tail
  have e : (Rows.laid_math_bits_deBruijn64tab : DataW Unit) = Lib.tabData .u8 (Lib.deBruijn64tab.map fun n : Nat => (n : Int)) := by kernel_rfl
  rw [e] at h2
  have hT := Lib.tabIs_of_head (g := 3) (t := 134) (e := 5) (n := 64) (by kernel_rfl) (by kernel_rfl) (by kernel_rfl) (by kernel_rfl) (by kernel_rfl) (by kernel_rfl) h2
  have hc : ∀ j, j < 64 → W.cell? ⟨3, j, none⟩ = some (.int .u8 (Lib.deBruijn64tab.getD j 0)) := by
    intro j hj
    have h3 := hT.cell (g := 3) (by kernel_rfl) j (by rw [show (Lib.deBruijn64tab.map fun n : Nat => (n : Int)).length = 64 by decide +kernel]; exact hj)
    rw [h3]
    have h4 : ∀ j, j < 64 → (Lib.deBruijn64tab.map fun n : Nat => (n : Int)).getD j 0 = (Lib.deBruijn64tab.getD j 0 : Int) := by decide +kernel
    rw [h4 j hj]
  exact ⟨block_lt_of_cell (hc 0 (by omega)), hc⟩
theorem door_met (os : Os) (args : Array Value) : laidMetH Tryd.prog Rows.fnExactWorstSetRow.laid ((World.doorLaid Tryd.prog 400 os).forCall (fun _ _ => 0) ⟨#[], args, []⟩).memory :=
  laidMetH_of_parts3 (fuel := 8) (laidMet_of_run' 8 (by kernel_rfl) (by kernel_rfl)) (by kernel_rfl) (by kernel_rfl)

theorem lifted (os : Os) (started : os.Started) (H : Type) (enc : TypeId × Value → H) :
    ReturnsInHanded {} Tryd.checked os 5 .any (fun w args => (Rows.fnExactWorstSetSpec.pre enc Tryd.prog Tryd.f5 [] false w args ∧ laidMetH Tryd.prog Rows.fnExactWorstSetRow.laid w) ∧ sizedMet enc Tryd.prog Tryd.f5 (OpenSpec.ofChange Rows.fnExactWorstSetSpec) false w args)
      (Rows.fnExactWorstSetSpec.post enc Tryd.prog Tryd.f5 false true false false) := by
  refine returnsInHanded_of_change_and (C := Tryd.checked) (X := fun w _ => laidMetH Tryd.prog Rows.fnExactWorstSetRow.laid w) (fun _ _ _ hh h => h.of_heap hh) ownK started (by kernel_rfl) Tryd.func5
    (ChangeSpec.witness_shaped (enc := enc) (C := Tryd.checked) (os := os) (X := fun w _ => laidMetH Tryd.prog Rows.fnExactWorstSetRow.laid w) false (World.doorLaid Tryd.prog 400 os) #[.agg #[.int .i64 0, .slice none 0 0]] 8 rfl (World.shaped_of_RefB (by kernel_rfl) (by kernel_rfl)) (by kernel_rfl) (by kernel_rfl) (by kernel_rfl) (door_met os _)) ?_
  intro W base args ds gs before hval0 hW _ _ hL _
  have hTab := tab_of hL
  have hval : ∀ (j : Nat) t v, Tryd.f5.params[j]? = some t → args[j]? = some v → Value.okWide Tryd.prog W .any base t v := hval0
  have hW' := hW
  obtain ⟨p, q, hA0, hV, rfl, hfz, hnd⟩ := hW
  have hA : DataW.TrodAll enc Tryd.prog W 0 (fun _ => true) true Tryd.f5.params.toList args.toList ds p := hA0
  rw [Tryd.params5] at hA hval
  obtain ⟨v0, vs0, d0, ds0, p0, q0, hargs, rfl, rfl, t0, r0⟩ := trodAll_cons hA
  obtain ⟨rfl, rfl, rfl⟩ := trodAll_nil r0
  obtain rfl : args = #[v0] := by cases args; simp_all
  obtain ⟨rfl, rfl⟩ := trodVars_none hV
  have k0 := t0
  have lt0 : ∀ x ∈ p0, x.block < W.heap.size := by obtain ⟨m, hm⟩ := k0; exact DataW.trod_lt m _ _ _ hm
  obtain ⟨n0, u0, l0, rfl, i0, e0⟩ := space_open (hval 0 24 v0 rfl rfl) t0
  clear hA0 hval0
  refine (law_c n0 u0 l0 W i0 e0 hTab).mono fun e W' ⟨he, bel⟩ => ?_
  subst he
  exact ⟨_, rfl, _, _, _, [], _, [], hW', trodAll_mk1 (shut_bool Tryd.underlying4 _), (trodAll_cons_mk (Below.trod laidOut (by kernel_rfl) (of_decide_eq_true (by kernel_rfl)) k0 bel lt0) trodAll_mk0), rfl, bel.frame _, fun h => by cases h⟩

set_option maxHeartbeats 4000000 in
theorem over : Rows.fnExactWorstSetRow.holds Tryd.pinned (OpenSpec.ofChange Rows.fnExactWorstSetSpec) :=
  OpenClaim.holds_of_wide 5 Tryd.f5 rfl rfl rfl rfl rfl rfl rfl ⟨rfl, rfl, rfl, rfl, rfl⟩ rfl rfl rfl rfl rfl (by as_aux_lemma => kernel_rfl) Tryd.func5 (by as_aux_lemma => kernel_rfl)
    (of_decide_eq_true (by as_aux_lemma => kernel_rfl)) (by unfold Func.isWrapper; first | (rw [if_pos (by decide +kernel)]; kernel_rfl) | (rw [if_neg (by decide +kernel)]; exact ⟨rfl, rfl⟩))
    (fun os started H enc _ => lifted os started H enc)

set_option maxHeartbeats 8000000 in
theorem proved : Rows.FnExactWorstSetCardSaid :=
  Claim7.holds_tied_plain_at .later [] [.data, .data] true _ false
    over (fun _ h => by cases h) (by as_aux_lemma => kernel_rfl) (fun _ h => by cases h) fnExactWorstSet_row_tie rfl ⟨rfl, rfl⟩ (by as_aux_lemma => kernel_rfl) rfl
    (fun f fn hf hfn => by
      obtain rfl : f = 5 := Option.some.inj ((show Tryd.prog.funcNamed "loop.example/g01137/laws.FnExactWorstSet" = some 5 by as_aux_lemma => kernel_rfl).symm.trans hf) |>.symm
      obtain rfl : fn = Tryd.f5 := (Option.some.inj (Tryd.func5.symm.trans hfn)).symm
      exact ⟨by as_aux_lemma => kernel_rfl, fun j t ht => by
        rw [Tryd.params5] at ht
        have hm : t ∈ [24] := by simpa using Array.mem_of_getElem? ht
        have hall : ([24].all fun u => !Tryd.prog.wantsStandIn u) = true := by as_aux_lemma => kernel_rfl
        exact (show Tryd.prog.wantsStandIn t = false by simpa using List.all_eq_true.1 hall t hm)⟩)
    (by as_aux_lemma => kernel_rfl)
#print axioms proved
end Go.Proofs.YtppojaekngeelaaDoor.FWorstSet
