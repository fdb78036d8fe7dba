/- IsSpace: the program's function, the specification's, and the law that holds one against the other. -/
import Derived.Test.YtbfaleekeofhfaaLawA
namespace Go.Proofs.Ytbfaleekeofhfaa
open Go.RowKit
set_option maxRecDepth 100000

theorem specIsSpace_c (n : Int) (v : Value) (l : List Int) (w : World) (hl : ints w.heap.size w v l) (hlen : l.length < 1000000000) :
    Calls Try.prog 5 #[.agg #[.int .i64 n, v]] w fun e w' => e = .returned (.bool (goodB n l)) ∧ Below w.heap.size w w' := by
  have HL := hide ((hl.alloc (.cells #[.int .i64 n, v] 27)).mono (show w.heap.size ≤ (w.alloc (.cells #[.int .i64 n, v] 27)).heap.size by simp))
  clear hl
  go_enter Try.func5, Try.ntmps5
  go_wp2_with (go_at_call 10; refine (spGood_c n v l _ HL.out hlen).mono ?_; rintro e w' ⟨rfl, hb⟩)
  go_ret
  exact ⟨rfl, ((Below.refl _ _).alloc (Nat.le_refl _) _).trans (hb.mono (by simp))⟩

theorem implIsSpace_c (n : Int) (v : Value) (l : List Int) (w : World) (hl : ints w.heap.size w v l) (hlen : l.length < 1000000000) :
    Calls Try.prog 7 #[.agg #[.int .i64 n, v]] w fun e w' => e = .returned (.bool (okSp n l)) ∧ Below w.heap.size w w' := by
  have HL := hide ((hl.alloc (.cells #[.int .i64 n, v] 27)).mono (show w.heap.size ≤ (w.alloc (.cells #[.int .i64 n, v] 27)).heap.size by simp))
  clear hl
  go_enter Try.func7, Try.ntmps7
  go_wp2_with (first
    | (go_at_call 12; refine (familyOf_c n v l _ HL.out hlen).mono ?_; unfold famVal; rintro e w1 ⟨rfl, hb⟩)
    | (refine wpList_alloc_fam zeroT rfl rfl _ (by first | (simp only [World.size_alloc]; rfl) | rfl) ?_)
    | (refine wpList_store_fam sizeT rfl (.tmp _) (.tmp _) rfl _ _ _ rfl rfl _ _ (famAt.new _ _ _ _) ?_))
  go_ret
  have hsz := hb.size
  simp at hsz
  exact ⟨rfl, bl_row ((((Below.refl _ _).alloc (Nat.le_refl _) _).trans (hb.mono (by simp))).alloc (by omega) _) (by omega) _⟩

theorem rowSp : (Try.prog.underlying 27).map TypeDesc.isRow = some true := by kernel_rfl
theorem rowSl : (Try.prog.underlying 24).map TypeDesc.isRow = some true := by kernel_rfl
theorem sizeSp : (Try.prog.info? 27).map (·.size) = some 2 := by kernel_rfl
theorem sizeSl : (Try.prog.info? 24).map (·.size) = some 2 := by kernel_rfl
theorem ent_toSpace : enters Try.prog 6 := enters_of Try.func6 (by kernel_rfl) (by kernel_rfl)
theorem ent_eqSpace : enters Try.prog 8 := enters_of Try.func8 (by kernel_rfl) (by kernel_rfl)

theorem yields_load_two {ops : Array Oper} {S : World → Prop} {a : Act} {ty : TypeId} (hT : (Try.prog.underlying ty).map TypeDesc.isRow = some true) (hZ : (Try.prog.info? ty).map (·.size) = some 2) {o : Oper} (hw : Region.wanted o (yielded ops a.tmps) = true) (x : Operand) (ho : o.op = .load ty x)
    (g : Nat) (hx : a.eval x = .pointer (some ⟨g, 0, none⟩)) (u v : Value) (h0 : ∀ w, S w → w.cell? ⟨g, 0, none⟩ = some u) (h1 : ∀ w, S w → w.cell? ⟨g, 1, none⟩ = some v) : YieldsIf Try.prog ops S o (.agg #[u, v]) a := by
  obtain ⟨d, hu, hd⟩ := rowTy_of hT
  exact yieldsIf_load_mid hw ty x ho g 0 hx [u, v] d (fun w hS j y hy => by
    match j, hy with
    | 0, hy => simp at hy; subst hy; exact h0 w hS
    | 1, hy => simp at hy; subst hy; exact h1 w hS
    | j + 2, hy => simp at hy) hu hd (by rw [hZ]; rfl)

set_option maxHeartbeats 1000000 in
/-- The law, where the program's answer is the specification's. -/
theorem lawIsSpace_c (n : Int) (v : Value) (l : List Int) (w : World) (hl : ints w.heap.size w v l) (hlen : l.length ≤ 9223372036854775807) (hsame : ∀ n l, okSp n l = goodB n l) :
    Calls Try.prog 3 #[.agg #[.int .i64 n, v]] w fun e w' => e = .returned (.bool true) ∧ Below w.heap.size w w' := by
  have HL := hide ((hl.alloc (.cells #[.int .i64 n, v] 24)).mono (show w.heap.size ≤ (w.alloc (.cells #[.int .i64 n, v] 24)).heap.size by simp))
  have HL0 := hide hl
  have HS := hide hsame
  have HB0 := hide ((Below.refl w.heap.size w).alloc (Nat.le_refl _) (.cells #[.int .i64 n, v] 24))
  clear hl hsame
  by_cases hbig : (1048576 : Int) < (l.length : Int)
  · have hz : szOf 1048576 l.length = -1 := by unfold szOf; simp; omega
    go_enter Try.func3, Try.ntmps3
    go_wp2_with (go_at_call 4; refine (szSpace_c n v l _ _ HL.out hlen (by omega) (by omega)).mono ?_; rw [hz]; rintro e w1 ⟨rfl, hb1⟩)
    go_ret
    exact ⟨rfl, HB0.out.trans (hb1.mono (by simp))⟩
  · have hz : ¬ szOf 1048576 l.length < 0 := by unfold szOf; simp; omega
    generalize hq : szOf 1048576 l.length = q at hz
    have HQ := hide hq
    clear hq
    go_enter Try.func3, Try.ntmps3
    go_wp2_with fail
    refine (szSpace_c n v l _ _ HL.out hlen (by omega) (by omega)).mono ?_
    rw [HQ.out]
    rintro e w1 ⟨rfl, hb1⟩
    have hz1 := hb1.size
    simp at hz1
    have c0 : w1.cell? ⟨w.heap.size, 0, none⟩ = some (.int .i64 n) := by rw [hb1.cell (p := ⟨w.heap.size, 0, none⟩) (by simp)]; simp
    have c1 : w1.cell? ⟨w.heap.size, 1, none⟩ = some v := by rw [hb1.cell (p := ⟨w.heap.size, 1, none⟩) (by simp)]; simp
    have HB1 := hide (HB0.out.trans (hb1.mono (by simp)))
    clear hb1 HB0 HL
    go_wp2_with fail
    refine (toSpace_c n v l w1 ((HL0.out.below HB1.out (Nat.le_refl _)).mono (by omega)) (by omega)).mono ?_
    rintro e w2 ⟨g2, rfl, hg2, hk2, hb2⟩
    have hz2 := hb2.size
    have d0 : w2.cell? ⟨w.heap.size, 0, none⟩ = some (.int .i64 n) := (hb2.cell (p := ⟨w.heap.size, 0, none⟩) (by show w.heap.size < _; omega)).trans c0
    have d1 : w2.cell? ⟨w.heap.size, 1, none⟩ = some v := (hb2.cell (p := ⟨w.heap.size, 1, none⟩) (by show w.heap.size < _; omega)).trans c1
    have HB2 := hide (HB1.out.trans (hb2.mono (by omega)))
    have HK2 := hide hk2
    clear hb2 hk2 c0 c1 HB1
    go_wp2_with fail
    refine (specIsSpace_c n _ l w2 (HK2.out.ints _) (by omega)).mono ?_
    rintro e w3 ⟨rfl, hb3⟩
    have hz3 := hb3.size
    have e0 : w3.cell? ⟨w.heap.size, 0, none⟩ = some (.int .i64 n) := (hb3.cell (p := ⟨w.heap.size, 0, none⟩) (by show w.heap.size < _; omega)).trans d0
    have e1 : w3.cell? ⟨w.heap.size, 1, none⟩ = some v := (hb3.cell (p := ⟨w.heap.size, 1, none⟩) (by show w.heap.size < _; omega)).trans d1
    have HB3 := hide (HB2.out.trans (hb3.mono (by omega)))
    clear hb3 d0 d1 HB2 HK2
    go_wp2_with fail
    refine (toSpace_c n v l w3 ((HL0.out.below HB3.out (Nat.le_refl _)).mono (by omega)) (by omega)).mono ?_
    rintro e w4 ⟨g4, rfl, hg4, hk4, hb4⟩
    have hz4 := hb4.size
    have f0 : w4.cell? ⟨w.heap.size, 0, none⟩ = some (.int .i64 n) := (hb4.cell (p := ⟨w.heap.size, 0, none⟩) (by show w.heap.size < _; omega)).trans e0
    have f1 : w4.cell? ⟨w.heap.size, 1, none⟩ = some v := (hb4.cell (p := ⟨w.heap.size, 1, none⟩) (by show w.heap.size < _; omega)).trans e1
    have HB4 := hide (HB3.out.trans (hb4.mono (by omega)))
    have HK4 := hide hk4
    clear hb4 hk4 e0 e1 HB3
    go_wp2_with fail
    have hk4' := HK4.out.below ((Below.refl w4.heap.size w4).alloc (Nat.le_refl _) (.cells #[.int .i64 n, .slice (some ⟨g4, 0, none⟩) l.length l.length] 27)) HK4.out.lt
    refine (implIsSpace_c n _ l _ (hk4'.ints _) (by omega)).mono ?_
    rw [HS.out n l]
    rintro e w5 ⟨rfl, hb5⟩
    have hz5 := hb5.size
    simp at hz5
    have hg4' := HK4.out.lt
    have x0 : w5.cell? ⟨w4.heap.size, 0, none⟩ = some (.int .i64 n) := by rw [hb5.cell (p := ⟨w4.heap.size, 0, none⟩) (by simp)]; simp
    have x1 : w5.cell? ⟨w4.heap.size, 1, none⟩ = some (.slice (some ⟨g4, 0, none⟩) l.length l.length) := by rw [hb5.cell (p := ⟨w4.heap.size, 1, none⟩) (by simp)]; simp
    have y0 : w5.cell? ⟨w.heap.size, 0, none⟩ = some (.int .i64 n) := by rw [hb5.cell (p := ⟨w.heap.size, 0, none⟩) (by simp; omega), World.cell?_alloc_past _ _ _ (by omega)]; exact f0
    have y1 : w5.cell? ⟨w.heap.size, 1, none⟩ = some v := by rw [hb5.cell (p := ⟨w.heap.size, 1, none⟩) (by simp; omega), World.cell?_alloc_past _ _ _ (by omega)]; exact f1
    have HK5 := hide (hk4'.below hb5 (by simp; omega))
    have HB5 := hide ((HB4.out.alloc (by omega) (.cells #[.int .i64 n, .slice (some ⟨g4, 0, none⟩) l.length l.length] 27)).trans (hb5.mono (by simp; omega)))
    clear hb5 hk4' f0 f1 HB4 HK4
    go_wp2
    refine wp_region_held (S := Below w5.heap.size w5) (by kernel_rfl) ?_
    have hS : Below w5.heap.size w5 { w5 with drawn := w5.drawn + 1 } := (Below.refl _ _).drew
    refine wpAnyH_take (i := 0) rfl (by kernel_rfl) (by kernel_rfl) (by kernel_rfl) (fun _ _ _ h => h) (yields_load_two rowSp sizeSp rfl (.tmp _) rfl _ rfl _ _ (fun w' h => (h.cell (p := ⟨w4.heap.size, 0, none⟩) (by show w4.heap.size < _; omega)).trans x0) (fun w' h => (h.cell (p := ⟨w4.heap.size, 1, none⟩) (by show w4.heap.size < _; omega)).trans x1)) hS ?_
    refine wpAnyH_take (i := 1) rfl (by kernel_rfl) (by kernel_rfl) (by kernel_rfl) (fun _ _ _ h => h) (yields_load_two rowSl sizeSl rfl (.tmp _) rfl _ rfl _ _ (fun w' h => (h.cell (p := ⟨w.heap.size, 0, none⟩) (by show w.heap.size < _; omega)).trans y0) (fun w' h => (h.cell (p := ⟨w.heap.size, 1, none⟩) (by show w.heap.size < _; omega)).trans y1)) hS ?_
    have HB5' := HB5.out.trans (hS.mono (by omega))
    refine anyH_call (i := 2) (by kernel_rfl) rfl rfl 6 ent_toSpace _ _ rfl #[.agg #[.int .i64 n, v]] rfl (toSpace_c n v l _ ((HL0.out.below HB5' (Nat.le_refl _)).mono (show w.heap.size ≤ w5.heap.size by omega)) (by omega)) ?_
    rintro e w6 ⟨g6, rfl, hg6, hk6, hb6⟩
    have hz6 : w5.heap.size ≤ w6.heap.size := hb6.size
    have hS6 : Below w5.heap.size w5 w6 := hS.trans hb6
    refine ⟨_, rfl, hS6, ?_⟩
    refine anyH_call (i := 3) (by kernel_rfl) rfl rfl 8 ent_eqSpace _ _ rfl #[.agg #[.int .i64 n, .slice (some ⟨g4, 0, none⟩) l.length l.length], .agg #[.int .i64 n, .slice (some ⟨g6, 0, none⟩) l.length l.length]] rfl (eqSpace_c n n _ _ l l w6 ((HK5.out.below hS6 HK5.out.lt).ints _) (hk6.ints _) (by omega)) ?_
    rintro e w7 ⟨rfl, hb7⟩
    have hS7 : Below w5.heap.size w5 w7 := hS6.trans (hb7.mono hz6)
    refine ⟨_, rfl, hS7, ?_⟩
    refine anyH_op (i := 4) (by kernel_rfl) rfl rfl (.bool false) w7 ?hq hS7 ?_
    case hq => simp [go_sem, Act.put]
    refine wpAnyH_done (by kernel_rfl) ?_ _
    simp only [Act.put, List.getElem_toArray, List.getElem_cons_zero, List.getElem_cons_succ, List.setIfInBounds_toArray, List.set_cons_zero, List.set_cons_succ]
    have HF := hide (HB5.out.trans (hS7.mono (by omega)))
    clear hS hS6 hS7 hb6 hb7 hk6 x0 x1 y0 y1 HB5'
    go_wp2
    go_ret
    exact ⟨rfl, HF.out⟩
end Go.Proofs.Ytbfaleekeofhfaa
