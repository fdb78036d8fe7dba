/- Contracts: the families of two spaces. -/
import Derived.Test.YtonimjpfaalniaaDoorRs
namespace Go.Proofs.YtonimjpfaalniaaDoor
open Go.RowKit
set_option maxRecDepth 100000
set_option linter.unusedSimpArgs false
def fbB (n : Int) (la : List Int) (m : Int) (lb : List Int) : Bool := okSp n la && okSp m lb
def fbN (b : Bool) (n : Int) : Int := if b then n else 0
def fbM (b : Bool) (l : List Int) : Nat → Bool := if b then marksTo l l.length else noSet
theorem fbB_yes {n m : Int} {la lb : List Int} (h : okSp n la = true) (h2 : okSp m lb = true) : fbB n la m lb = true := by unfold fbB; rw [h, h2]; rfl
theorem fbB_no1 {n m : Int} {la lb : List Int} (h : okSp n la = false) : fbB n la m lb = false := by unfold fbB; rw [h]; rfl
theorem fbB_no2 {n m : Int} {la lb : List Int} (h : okSp m lb = false) : fbB n la m lb = false := by unfold fbB; rw [h, Bool.and_false]
theorem fbB_in {n m : Int} {la lb : List Int} (h : fbB n la m lb = true) : okSp n la = true ∧ okSp m lb = true := by unfold fbB at h; rw [Bool.and_eq_true] at h; exact h
attribute [local irreducible] p2 low memB risB fbB
section
variable {P : Program}
/-- Three results, the first two families. -/
theorem results_fam22 {T : TypeId} (hT : (P.underlying T).map TypeDesc.isRow = some true) (hS : (P.info? T).map (·.size) = some 129) {fn : Func} {p q r : Tmp} (h : fn.results = #[.cell p T, .cell q T, .tmp r]) (tmps : Array Value) (w : World) (g g2 : Nat)
    (hp : tmps.getD p undef = .pointer (some ⟨g, 0, none⟩)) (hq : tmps.getD q undef = .pointer (some ⟨g2, 0, none⟩)) (n : Int) (F : Nat → Bool) (m : Int) (G : Nat → Bool) (hg : famAt T w g n F) (hg2 : famAt T w g2 m G) : (results fn tmps).run P w = .ok (.tuple #[.agg (fam n F), .agg (fam m G), tmps.getD r undef]) w := by
  obtain ⟨d, hu, hd⟩ := rowTy_of hT
  have hp' : tmps[p]?.getD undef = .pointer (some ⟨g, 0, none⟩) := by simpa using hp
  have hq' : tmps[q]?.getD undef = .pointer (some ⟨g2, 0, none⟩) := by simpa using hq
  have hl := run_loadVar_row (P := P) w g T T (fam n F) (0, 0) d hg hu (by cases d <;> first | rfl | (cases hd)) (by rw [hS, fam_size])
  have hl2 := run_loadVar_row (P := P) w g2 T T (fam m G) (0, 0) d hg2 hu (by cases d <;> first | rfl | (cases hd)) (by rw [hS, fam_size])
  simp [results, h, hp', hq', asAddr, hl, hl2]
end
set_option maxHeartbeats 3000000 in
theorem familiesOf_c (n : Int) (v : Value) (la : List Int) (m : Int) (u : Value) (lb : List Int) (w : World) (hl : ints w.heap.size w v la) (hlen : la.length < 1000000000) (hm : ints w.heap.size w u lb) (hml : lb.length < 1000000000) :
    Calls Tryd.prog 93 #[.agg #[.int .i64 n, v], .agg #[.int .i64 m, u]] w fun e w' => e = .returned (.tuple #[.agg (fam (fbN (fbB n la m lb) n) (fbM (fbB n la m lb) la)), .agg (fam (fbN (fbB n la m lb) m) (fbM (fbB n la m lb) lb)), .bool (fbB n la m lb)]) ∧ Below w.heap.size w w' := by
  have ha0 : ((((w.alloc (.cells #[.int .i64 n, v] 30)).alloc (.cells #[.int .i64 m, u] 30)).alloc (.cells (fam 0 noSet) 83)).alloc (.cells (fam 0 noSet) 83)).heap[w.heap.size]? = some (.cells #[.int .i64 n, v] 30) := (hp_old _ _ _ (by simp; omega)).trans ((hp_old _ _ _ (by simp; omega)).trans ((hp_old _ _ _ (by simp)).trans (hp_last _ _)))
  have hb0 : ((((w.alloc (.cells #[.int .i64 n, v] 30)).alloc (.cells #[.int .i64 m, u] 30)).alloc (.cells (fam 0 noSet) 83)).alloc (.cells (fam 0 noSet) 83)).heap[w.heap.size + 1]? = some (.cells #[.int .i64 m, u] 30) := (hp_old _ _ _ (by simp; try omega)).trans ((hp_old _ _ _ (by simp; try omega)).trans (by have := hp_last (w.alloc (.cells #[.int .i64 n, v] 30)) (.cells #[.int .i64 m, u] 30); simpa using this))
  have hr0 : famAt 83 ((((w.alloc (.cells #[.int .i64 n, v] 30)).alloc (.cells #[.int .i64 m, u] 30)).alloc (.cells (fam 0 noSet) 83)).alloc (.cells (fam 0 noSet) 83)) (w.heap.size + 2) 0 noSet := by have := (famAt.new 83 ((w.alloc (.cells #[.int .i64 n, v] 30)).alloc (.cells #[.int .i64 m, u] 30)) 0 noSet).alloc (.cells (fam 0 noSet) 83); simpa using this
  have hs0 : famAt 83 ((((w.alloc (.cells #[.int .i64 n, v] 30)).alloc (.cells #[.int .i64 m, u] 30)).alloc (.cells (fam 0 noSet) 83)).alloc (.cells (fam 0 noSet) 83)) (w.heap.size + 3) 0 noSet := by have := famAt.new 83 (((w.alloc (.cells #[.int .i64 n, v] 30)).alloc (.cells #[.int .i64 m, u] 30)).alloc (.cells (fam 0 noSet) 83)) 0 noSet; simpa using this
  have H0 := hide (((((Below.refl w.heap.size w).alloc (Nat.le_refl _) (.cells #[.int .i64 n, v] 30)).alloc (by simp) (.cells #[.int .i64 m, u] 30)).alloc (by simp; omega) (.cells (fam 0 noSet) 83)).alloc (by simp; omega) (.cells (fam 0 noSet) 83))
  have HL0 := hide ((((hl.alloc (.cells #[.int .i64 n, v] 30)).alloc (.cells #[.int .i64 m, u] 30)).alloc (.cells (fam 0 noSet) 83)).alloc (.cells (fam 0 noSet) 83))
  have HM0 := hide ((((hm.alloc (.cells #[.int .i64 n, v] 30)).alloc (.cells #[.int .i64 m, u] 30)).alloc (.cells (fam 0 noSet) 83)).alloc (.cells (fam 0 noSet) 83))
  have HZ0 := hide (show ((((w.alloc (.cells #[.int .i64 n, v] 30)).alloc (.cells #[.int .i64 m, u] 30)).alloc (.cells (fam 0 noSet) 83)).alloc (.cells (fam 0 noSet) 83)).heap.size = w.heap.size + 4 by simp)
  have a0 := cells_at0 ha0
  have a1 := cells_at1 ha0
  have HBX0 := hide hb0
  have HR0 := hide hr0
  have HS0 := hide hs0
  clear hl hm ha0 hb0 hr0 hs0
  have hFA : famVal n la = .tuple #[.agg (fam (famN n la) (famM n la)), .bool (okSp n la)] := rfl
  have hFB : famVal m lb = .tuple #[.agg (fam (famN m lb) (famM m lb)), .bool (okSp m lb)] := rfl
  have HNA := hide (fun (h : okSp n la = true) => show famN n la = n ∧ famM n la = marksTo la la.length from ⟨by simp [famN, h], by simp [famM, h]⟩)
  have HNB := hide (fun (h : okSp m lb = true) => show famN m lb = m ∧ famM m lb = marksTo lb lb.length from ⟨by simp [famN, h], by simp [famM, h]⟩)
  generalize famN n la = N1 at hFA HNA
  generalize famM n la = M1 at hFA HNA
  generalize famN m lb = N2 at hFB HNB
  generalize famM m lb = M2 at hFB HNB
  have HFA := hide hFA
  have HFB := hide hFB
  clear hFA hFB
  cases hA : okSp n la
  · have HA := hide hA
    rw [fbB_no1 hA]
    clear hA
    cases hB : okSp m lb
    · have HBB := hide hB
      clear hB
      go_enter Tryd.func93, Tryd.ntmps93
      go_wp2_with (refine wpList_alloc_fam zeroT rfl rfl _ (by first | (simp only [World.size_alloc]; rfl) | rfl) ?_)
      refine (familyOf_c n v la _ (HL0.out.mono (by rw [HZ0.out]; omega)) hlen).mono ?_
      rw [HFA.out, HA.out]
      rintro e w1 ⟨rfl, hb1⟩
      have hz1 : w.heap.size + 4 ≤ w1.heap.size := by have := hb1.size; rw [HZ0.out] at this; exact this
      have hn1 : w1.heap.size ≠ w.heap.size + 1 := by omega
      have hbx1 : ((w1.alloc (.cells (fam 0 noSet) 83)).setRow w1.heap.size (fam N1 M1)).heap[w.heap.size + 1]? = some (.cells #[.int .i64 m, u] 30) := (hp_rowO _ _ _ _ (by omega)).trans ((hp_old _ _ _ (by omega)).trans ((hb1.block (w.heap.size + 1) (by rw [HZ0.out]; omega)).trans HBX0.out))
      have hr1 : famAt 83 ((w1.alloc (.cells (fam 0 noSet) 83)).setRow w1.heap.size (fam N1 M1)) (w.heap.size + 2) 0 noSet := (hp_rowO _ _ _ _ (by omega)).trans ((hp_old _ _ _ (by omega)).trans ((hb1.block (w.heap.size + 2) (by rw [HZ0.out]; omega)).trans HR0.out))
      have hs1 : famAt 83 ((w1.alloc (.cells (fam 0 noSet) 83)).setRow w1.heap.size (fam N1 M1)) (w.heap.size + 3) 0 noSet := (hp_rowO _ _ _ _ (by omega)).trans ((hp_old _ _ _ (by omega)).trans ((hb1.block (w.heap.size + 3) (by rw [HZ0.out]; omega)).trans HS0.out))
      have b0 := cells_at0 hbx1
      have b1 := cells_at1 hbx1
      have HR1 := hide hr1
      have HS1 := hide hs1
      have HFA1 := hide ((famAt.new 83 w1 0 noSet).row N1 M1)
      have HZA := hide (show ((w1.alloc (.cells (fam 0 noSet) 83)).setRow w1.heap.size (fam N1 M1)).heap.size = w1.heap.size + 1 by simp [World.setRow])
      have HB1 := hide (bl_row ((H0.out.trans (hb1.mono (by rw [HZ0.out]; omega))).alloc (by omega) (.cells (fam 0 noSet) 83)) (show w.heap.size ≤ w1.heap.size by omega) (fam N1 M1))
      have HM1 := hide ((HM0.out.below hb1 (by rw [HZ0.out]; omega)).below (bl_row ((Below.refl w1.heap.size w1).alloc (Nat.le_refl _) (.cells (fam 0 noSet) 83)) (Nat.le_refl _) (fam N1 M1)) (by omega))
      have HZ1 := hide hz1
      clear hb1 hbx1 hr1 hs1 hn1 a0 a1
      go_wp2_with (first
        | (refine wpList_alloc_fam zeroT rfl rfl _ (by first | (simp only [World.size_alloc]; rfl) | rfl) ?_)
        | (refine wpList_store_fam sizeT rfl (.tmp _) (.tmp _) rfl _ _ _ rfl rfl _ _ (famAt.new _ _ _ _) ?_))
      refine (familyOf_c m u lb _ (HM1.out.mono (by rw [HZA.out]; have := HZ1.out; omega)) hml).mono ?_
      rw [HFB.out, HBB.out]
      rintro e w2 ⟨rfl, hb2⟩
      have hz2 : w1.heap.size + 1 ≤ w2.heap.size := by have := hb2.size; rw [HZA.out] at this; exact this
      have HR2 := hide (show famAt 83 ((w2.alloc (.cells (fam 0 noSet) 83)).setRow w2.heap.size (fam N2 M2)) (w.heap.size + 2) 0 noSet from (hp_rowO _ _ _ _ (by omega)).trans ((hp_old _ _ _ (by omega)).trans ((hb2.block (w.heap.size + 2) (by rw [HZA.out]; omega)).trans HR1.out)))
      have HS2 := hide (show famAt 83 ((w2.alloc (.cells (fam 0 noSet) 83)).setRow w2.heap.size (fam N2 M2)) (w.heap.size + 3) 0 noSet from (hp_rowO _ _ _ _ (by omega)).trans ((hp_old _ _ _ (by omega)).trans ((hb2.block (w.heap.size + 3) (by rw [HZA.out]; omega)).trans HS1.out)))
      have HFA4 := hide (show famAt 83 ((w2.alloc (.cells (fam 0 noSet) 83)).setRow w2.heap.size (fam N2 M2)) w1.heap.size N1 M1 from (hp_rowO _ _ _ _ (by omega)).trans ((hp_old _ _ _ (by omega)).trans ((hb2.block w1.heap.size (by rw [HZA.out]; omega)).trans HFA1.out)))
      have HFB4 := hide (show famAt 83 ((w2.alloc (.cells (fam 0 noSet) 83)).setRow w2.heap.size (fam N2 M2)) w2.heap.size N2 M2 from (famAt.new 83 w2 0 noSet).row N2 M2)
      have HB4 := hide (bl_row ((HB1.out.trans (hb2.mono (by rw [HZA.out]; omega))).alloc (by omega) (.cells (fam 0 noSet) 83)) (show w.heap.size ≤ w2.heap.size by omega) (fam N2 M2))
      have HZ4 := hide (show w.heap.size + 4 ≤ w1.heap.size ∧ w1.heap.size + 1 ≤ w2.heap.size by omega)
      have HS3 := hide (HS2.out.rowO (w.heap.size + 2) (by omega) (fam 0 noSet))
      clear hb2 hz2 hz1 b0 b1
      go_wp2_with (first
        | (refine wpList_alloc_fam zeroT rfl rfl _ (by first | (simp only [World.size_alloc]; rfl) | rfl) ?_)
        | (refine wpList_store_fam sizeT rfl (.tmp 9) (.tmp _) rfl _ _ _ rfl rfl _ _ (famAt.new _ _ _ _) ?_)
        | (refine wpList_build_fam0 built0 rfl rfl ?_)
        | (refine wpList_store_fam sizeT rfl (.tmp 4) (.tmp 27) rfl (w.heap.size + 1 + 1) 0 noSet rfl rfl _ _ HR2.out ?_)
        | (refine wpList_store_fam sizeT rfl (.tmp 5) (.tmp 28) rfl (w.heap.size + 1 + 1 + 1) 0 noSet rfl rfl _ _ HS3.out ?_))
      obtain ⟨hz4, hz5⟩ := HZ4.out
      exact bodyPost_ret (v := .tuple #[.agg (fam 0 noSet), .agg (fam 0 noSet), .bool false]) (results_fam22 (p := 4) (q := 5) (r := 6) rowT sizeT rfl _ _ (w.heap.size + 2) (w.heap.size + 3) rfl rfl _ _ _ _ ((HR2.out.row _ _).rowO (w.heap.size + 3) (by omega) _) (HS3.out.row _ _)) rfl ⟨rfl, bl_row (bl_row HB4.out (by omega) _) (by omega) _⟩
    · have HBB := hide hB
      clear hB
      go_enter Tryd.func93, Tryd.ntmps93
      go_wp2_with (refine wpList_alloc_fam zeroT rfl rfl _ (by first | (simp only [World.size_alloc]; rfl) | rfl) ?_)
      refine (familyOf_c n v la _ (HL0.out.mono (by rw [HZ0.out]; omega)) hlen).mono ?_
      rw [HFA.out, HA.out]
      rintro e w1 ⟨rfl, hb1⟩
      have hz1 : w.heap.size + 4 ≤ w1.heap.size := by have := hb1.size; rw [HZ0.out] at this; exact this
      have hn1 : w1.heap.size ≠ w.heap.size + 1 := by omega
      have hbx1 : ((w1.alloc (.cells (fam 0 noSet) 83)).setRow w1.heap.size (fam N1 M1)).heap[w.heap.size + 1]? = some (.cells #[.int .i64 m, u] 30) := (hp_rowO _ _ _ _ (by omega)).trans ((hp_old _ _ _ (by omega)).trans ((hb1.block (w.heap.size + 1) (by rw [HZ0.out]; omega)).trans HBX0.out))
      have hr1 : famAt 83 ((w1.alloc (.cells (fam 0 noSet) 83)).setRow w1.heap.size (fam N1 M1)) (w.heap.size + 2) 0 noSet := (hp_rowO _ _ _ _ (by omega)).trans ((hp_old _ _ _ (by omega)).trans ((hb1.block (w.heap.size + 2) (by rw [HZ0.out]; omega)).trans HR0.out))
      have hs1 : famAt 83 ((w1.alloc (.cells (fam 0 noSet) 83)).setRow w1.heap.size (fam N1 M1)) (w.heap.size + 3) 0 noSet := (hp_rowO _ _ _ _ (by omega)).trans ((hp_old _ _ _ (by omega)).trans ((hb1.block (w.heap.size + 3) (by rw [HZ0.out]; omega)).trans HS0.out))
      have b0 := cells_at0 hbx1
      have b1 := cells_at1 hbx1
      have HR1 := hide hr1
      have HS1 := hide hs1
      have HFA1 := hide ((famAt.new 83 w1 0 noSet).row N1 M1)
      have HZA := hide (show ((w1.alloc (.cells (fam 0 noSet) 83)).setRow w1.heap.size (fam N1 M1)).heap.size = w1.heap.size + 1 by simp [World.setRow])
      have HB1 := hide (bl_row ((H0.out.trans (hb1.mono (by rw [HZ0.out]; omega))).alloc (by omega) (.cells (fam 0 noSet) 83)) (show w.heap.size ≤ w1.heap.size by omega) (fam N1 M1))
      have HM1 := hide ((HM0.out.below hb1 (by rw [HZ0.out]; omega)).below (bl_row ((Below.refl w1.heap.size w1).alloc (Nat.le_refl _) (.cells (fam 0 noSet) 83)) (Nat.le_refl _) (fam N1 M1)) (by omega))
      have HZ1 := hide hz1
      clear hb1 hbx1 hr1 hs1 hn1 a0 a1
      go_wp2_with (first
        | (refine wpList_alloc_fam zeroT rfl rfl _ (by first | (simp only [World.size_alloc]; rfl) | rfl) ?_)
        | (refine wpList_store_fam sizeT rfl (.tmp _) (.tmp _) rfl _ _ _ rfl rfl _ _ (famAt.new _ _ _ _) ?_))
      refine (familyOf_c m u lb _ (HM1.out.mono (by rw [HZA.out]; have := HZ1.out; omega)) hml).mono ?_
      rw [HFB.out, HBB.out]
      rintro e w2 ⟨rfl, hb2⟩
      have hz2 : w1.heap.size + 1 ≤ w2.heap.size := by have := hb2.size; rw [HZA.out] at this; exact this
      have HR2 := hide (show famAt 83 ((w2.alloc (.cells (fam 0 noSet) 83)).setRow w2.heap.size (fam N2 M2)) (w.heap.size + 2) 0 noSet from (hp_rowO _ _ _ _ (by omega)).trans ((hp_old _ _ _ (by omega)).trans ((hb2.block (w.heap.size + 2) (by rw [HZA.out]; omega)).trans HR1.out)))
      have HS2 := hide (show famAt 83 ((w2.alloc (.cells (fam 0 noSet) 83)).setRow w2.heap.size (fam N2 M2)) (w.heap.size + 3) 0 noSet from (hp_rowO _ _ _ _ (by omega)).trans ((hp_old _ _ _ (by omega)).trans ((hb2.block (w.heap.size + 3) (by rw [HZA.out]; omega)).trans HS1.out)))
      have HFA4 := hide (show famAt 83 ((w2.alloc (.cells (fam 0 noSet) 83)).setRow w2.heap.size (fam N2 M2)) w1.heap.size N1 M1 from (hp_rowO _ _ _ _ (by omega)).trans ((hp_old _ _ _ (by omega)).trans ((hb2.block w1.heap.size (by rw [HZA.out]; omega)).trans HFA1.out)))
      have HFB4 := hide (show famAt 83 ((w2.alloc (.cells (fam 0 noSet) 83)).setRow w2.heap.size (fam N2 M2)) w2.heap.size N2 M2 from (famAt.new 83 w2 0 noSet).row N2 M2)
      have HB4 := hide (bl_row ((HB1.out.trans (hb2.mono (by rw [HZA.out]; omega))).alloc (by omega) (.cells (fam 0 noSet) 83)) (show w.heap.size ≤ w2.heap.size by omega) (fam N2 M2))
      have HZ4 := hide (show w.heap.size + 4 ≤ w1.heap.size ∧ w1.heap.size + 1 ≤ w2.heap.size by omega)
      have HS3 := hide (HS2.out.rowO (w.heap.size + 2) (by omega) (fam 0 noSet))
      clear hb2 hz2 hz1 b0 b1
      go_wp2_with (first
        | (refine wpList_alloc_fam zeroT rfl rfl _ (by first | (simp only [World.size_alloc]; rfl) | rfl) ?_)
        | (refine wpList_store_fam sizeT rfl (.tmp 9) (.tmp _) rfl _ _ _ rfl rfl _ _ (famAt.new _ _ _ _) ?_)
        | (refine wpList_build_fam0 built0 rfl rfl ?_)
        | (refine wpList_store_fam sizeT rfl (.tmp 4) (.tmp 27) rfl (w.heap.size + 1 + 1) 0 noSet rfl rfl _ _ HR2.out ?_)
        | (refine wpList_store_fam sizeT rfl (.tmp 5) (.tmp 28) rfl (w.heap.size + 1 + 1 + 1) 0 noSet rfl rfl _ _ HS3.out ?_))
      obtain ⟨hz4, hz5⟩ := HZ4.out
      exact bodyPost_ret (v := .tuple #[.agg (fam 0 noSet), .agg (fam 0 noSet), .bool false]) (results_fam22 (p := 4) (q := 5) (r := 6) rowT sizeT rfl _ _ (w.heap.size + 2) (w.heap.size + 3) rfl rfl _ _ _ _ ((HR2.out.row _ _).rowO (w.heap.size + 3) (by omega) _) (HS3.out.row _ _)) rfl ⟨rfl, bl_row (bl_row HB4.out (by omega) _) (by omega) _⟩
  · have HA := hide hA
    cases hB : okSp m lb
    · have HBB := hide hB
      rw [fbB_no2 hB]
      clear hA hB
      go_enter Tryd.func93, Tryd.ntmps93
      go_wp2_with (refine wpList_alloc_fam zeroT rfl rfl _ (by first | (simp only [World.size_alloc]; rfl) | rfl) ?_)
      refine (familyOf_c n v la _ (HL0.out.mono (by rw [HZ0.out]; omega)) hlen).mono ?_
      rw [HFA.out, HA.out]
      rintro e w1 ⟨rfl, hb1⟩
      have hz1 : w.heap.size + 4 ≤ w1.heap.size := by have := hb1.size; rw [HZ0.out] at this; exact this
      have hn1 : w1.heap.size ≠ w.heap.size + 1 := by omega
      have hbx1 : ((w1.alloc (.cells (fam 0 noSet) 83)).setRow w1.heap.size (fam N1 M1)).heap[w.heap.size + 1]? = some (.cells #[.int .i64 m, u] 30) := (hp_rowO _ _ _ _ (by omega)).trans ((hp_old _ _ _ (by omega)).trans ((hb1.block (w.heap.size + 1) (by rw [HZ0.out]; omega)).trans HBX0.out))
      have hr1 : famAt 83 ((w1.alloc (.cells (fam 0 noSet) 83)).setRow w1.heap.size (fam N1 M1)) (w.heap.size + 2) 0 noSet := (hp_rowO _ _ _ _ (by omega)).trans ((hp_old _ _ _ (by omega)).trans ((hb1.block (w.heap.size + 2) (by rw [HZ0.out]; omega)).trans HR0.out))
      have hs1 : famAt 83 ((w1.alloc (.cells (fam 0 noSet) 83)).setRow w1.heap.size (fam N1 M1)) (w.heap.size + 3) 0 noSet := (hp_rowO _ _ _ _ (by omega)).trans ((hp_old _ _ _ (by omega)).trans ((hb1.block (w.heap.size + 3) (by rw [HZ0.out]; omega)).trans HS0.out))
      have b0 := cells_at0 hbx1
      have b1 := cells_at1 hbx1
      have HR1 := hide hr1
      have HS1 := hide hs1
      have HFA1 := hide ((famAt.new 83 w1 0 noSet).row N1 M1)
      have HZA := hide (show ((w1.alloc (.cells (fam 0 noSet) 83)).setRow w1.heap.size (fam N1 M1)).heap.size = w1.heap.size + 1 by simp [World.setRow])
      have HB1 := hide (bl_row ((H0.out.trans (hb1.mono (by rw [HZ0.out]; omega))).alloc (by omega) (.cells (fam 0 noSet) 83)) (show w.heap.size ≤ w1.heap.size by omega) (fam N1 M1))
      have HM1 := hide ((HM0.out.below hb1 (by rw [HZ0.out]; omega)).below (bl_row ((Below.refl w1.heap.size w1).alloc (Nat.le_refl _) (.cells (fam 0 noSet) 83)) (Nat.le_refl _) (fam N1 M1)) (by omega))
      have HZ1 := hide hz1
      clear hb1 hbx1 hr1 hs1 hn1 a0 a1
      go_wp2_with (first
        | (refine wpList_alloc_fam zeroT rfl rfl _ (by first | (simp only [World.size_alloc]; rfl) | rfl) ?_)
        | (refine wpList_store_fam sizeT rfl (.tmp _) (.tmp _) rfl _ _ _ rfl rfl _ _ (famAt.new _ _ _ _) ?_))
      refine (familyOf_c m u lb _ (HM1.out.mono (by rw [HZA.out]; have := HZ1.out; omega)) hml).mono ?_
      rw [HFB.out, HBB.out]
      rintro e w2 ⟨rfl, hb2⟩
      have hz2 : w1.heap.size + 1 ≤ w2.heap.size := by have := hb2.size; rw [HZA.out] at this; exact this
      have HR2 := hide (show famAt 83 ((w2.alloc (.cells (fam 0 noSet) 83)).setRow w2.heap.size (fam N2 M2)) (w.heap.size + 2) 0 noSet from (hp_rowO _ _ _ _ (by omega)).trans ((hp_old _ _ _ (by omega)).trans ((hb2.block (w.heap.size + 2) (by rw [HZA.out]; omega)).trans HR1.out)))
      have HS2 := hide (show famAt 83 ((w2.alloc (.cells (fam 0 noSet) 83)).setRow w2.heap.size (fam N2 M2)) (w.heap.size + 3) 0 noSet from (hp_rowO _ _ _ _ (by omega)).trans ((hp_old _ _ _ (by omega)).trans ((hb2.block (w.heap.size + 3) (by rw [HZA.out]; omega)).trans HS1.out)))
      have HFA4 := hide (show famAt 83 ((w2.alloc (.cells (fam 0 noSet) 83)).setRow w2.heap.size (fam N2 M2)) w1.heap.size N1 M1 from (hp_rowO _ _ _ _ (by omega)).trans ((hp_old _ _ _ (by omega)).trans ((hb2.block w1.heap.size (by rw [HZA.out]; omega)).trans HFA1.out)))
      have HFB4 := hide (show famAt 83 ((w2.alloc (.cells (fam 0 noSet) 83)).setRow w2.heap.size (fam N2 M2)) w2.heap.size N2 M2 from (famAt.new 83 w2 0 noSet).row N2 M2)
      have HB4 := hide (bl_row ((HB1.out.trans (hb2.mono (by rw [HZA.out]; omega))).alloc (by omega) (.cells (fam 0 noSet) 83)) (show w.heap.size ≤ w2.heap.size by omega) (fam N2 M2))
      have HZ4 := hide (show w.heap.size + 4 ≤ w1.heap.size ∧ w1.heap.size + 1 ≤ w2.heap.size by omega)
      have HS3 := hide (HS2.out.rowO (w.heap.size + 2) (by omega) (fam 0 noSet))
      clear hb2 hz2 hz1 b0 b1
      go_wp2_with (first
        | (refine wpList_alloc_fam zeroT rfl rfl _ (by first | (simp only [World.size_alloc]; rfl) | rfl) ?_)
        | (refine wpList_store_fam sizeT rfl (.tmp 9) (.tmp _) rfl _ _ _ rfl rfl _ _ (famAt.new _ _ _ _) ?_)
        | (refine wpList_build_fam0 built0 rfl rfl ?_)
        | (refine wpList_store_fam sizeT rfl (.tmp 4) (.tmp 27) rfl (w.heap.size + 1 + 1) 0 noSet rfl rfl _ _ HR2.out ?_)
        | (refine wpList_store_fam sizeT rfl (.tmp 5) (.tmp 28) rfl (w.heap.size + 1 + 1 + 1) 0 noSet rfl rfl _ _ HS3.out ?_))
      obtain ⟨hz4, hz5⟩ := HZ4.out
      exact bodyPost_ret (v := .tuple #[.agg (fam 0 noSet), .agg (fam 0 noSet), .bool false]) (results_fam22 (p := 4) (q := 5) (r := 6) rowT sizeT rfl _ _ (w.heap.size + 2) (w.heap.size + 3) rfl rfl _ _ _ _ ((HR2.out.row _ _).rowO (w.heap.size + 3) (by omega) _) (HS3.out.row _ _)) rfl ⟨rfl, bl_row (bl_row HB4.out (by omega) _) (by omega) _⟩
    · have HBB := hide hB
      rw [fbB_yes hA hB, show fbN true n = N1 from (HNA.out hA).1.symm, show fbM true la = M1 from (HNA.out hA).2.symm, show fbN true m = N2 from (HNB.out hB).1.symm, show fbM true lb = M2 from (HNB.out hB).2.symm]
      clear hA hB HNA HNB
      go_enter Tryd.func93, Tryd.ntmps93
      go_wp2_with (refine wpList_alloc_fam zeroT rfl rfl _ (by first | (simp only [World.size_alloc]; rfl) | rfl) ?_)
      refine (familyOf_c n v la _ (HL0.out.mono (by rw [HZ0.out]; omega)) hlen).mono ?_
      rw [HFA.out, HA.out]
      rintro e w1 ⟨rfl, hb1⟩
      have hz1 : w.heap.size + 4 ≤ w1.heap.size := by have := hb1.size; rw [HZ0.out] at this; exact this
      have hn1 : w1.heap.size ≠ w.heap.size + 1 := by omega
      have hbx1 : ((w1.alloc (.cells (fam 0 noSet) 83)).setRow w1.heap.size (fam N1 M1)).heap[w.heap.size + 1]? = some (.cells #[.int .i64 m, u] 30) := (hp_rowO _ _ _ _ (by omega)).trans ((hp_old _ _ _ (by omega)).trans ((hb1.block (w.heap.size + 1) (by rw [HZ0.out]; omega)).trans HBX0.out))
      have hr1 : famAt 83 ((w1.alloc (.cells (fam 0 noSet) 83)).setRow w1.heap.size (fam N1 M1)) (w.heap.size + 2) 0 noSet := (hp_rowO _ _ _ _ (by omega)).trans ((hp_old _ _ _ (by omega)).trans ((hb1.block (w.heap.size + 2) (by rw [HZ0.out]; omega)).trans HR0.out))
      have hs1 : famAt 83 ((w1.alloc (.cells (fam 0 noSet) 83)).setRow w1.heap.size (fam N1 M1)) (w.heap.size + 3) 0 noSet := (hp_rowO _ _ _ _ (by omega)).trans ((hp_old _ _ _ (by omega)).trans ((hb1.block (w.heap.size + 3) (by rw [HZ0.out]; omega)).trans HS0.out))
      have b0 := cells_at0 hbx1
      have b1 := cells_at1 hbx1
      have HR1 := hide hr1
      have HS1 := hide hs1
      have HFA1 := hide ((famAt.new 83 w1 0 noSet).row N1 M1)
      have HZA := hide (show ((w1.alloc (.cells (fam 0 noSet) 83)).setRow w1.heap.size (fam N1 M1)).heap.size = w1.heap.size + 1 by simp [World.setRow])
      have HB1 := hide (bl_row ((H0.out.trans (hb1.mono (by rw [HZ0.out]; omega))).alloc (by omega) (.cells (fam 0 noSet) 83)) (show w.heap.size ≤ w1.heap.size by omega) (fam N1 M1))
      have HM1 := hide ((HM0.out.below hb1 (by rw [HZ0.out]; omega)).below (bl_row ((Below.refl w1.heap.size w1).alloc (Nat.le_refl _) (.cells (fam 0 noSet) 83)) (Nat.le_refl _) (fam N1 M1)) (by omega))
      have HZ1 := hide hz1
      clear hb1 hbx1 hr1 hs1 hn1 a0 a1
      go_wp2_with (first
        | (refine wpList_alloc_fam zeroT rfl rfl _ (by first | (simp only [World.size_alloc]; rfl) | rfl) ?_)
        | (refine wpList_store_fam sizeT rfl (.tmp _) (.tmp _) rfl _ _ _ rfl rfl _ _ (famAt.new _ _ _ _) ?_))
      refine (familyOf_c m u lb _ (HM1.out.mono (by rw [HZA.out]; have := HZ1.out; omega)) hml).mono ?_
      rw [HFB.out, HBB.out]
      rintro e w2 ⟨rfl, hb2⟩
      have hz2 : w1.heap.size + 1 ≤ w2.heap.size := by have := hb2.size; rw [HZA.out] at this; exact this
      have HR2 := hide (show famAt 83 ((w2.alloc (.cells (fam 0 noSet) 83)).setRow w2.heap.size (fam N2 M2)) (w.heap.size + 2) 0 noSet from (hp_rowO _ _ _ _ (by omega)).trans ((hp_old _ _ _ (by omega)).trans ((hb2.block (w.heap.size + 2) (by rw [HZA.out]; omega)).trans HR1.out)))
      have HS2 := hide (show famAt 83 ((w2.alloc (.cells (fam 0 noSet) 83)).setRow w2.heap.size (fam N2 M2)) (w.heap.size + 3) 0 noSet from (hp_rowO _ _ _ _ (by omega)).trans ((hp_old _ _ _ (by omega)).trans ((hb2.block (w.heap.size + 3) (by rw [HZA.out]; omega)).trans HS1.out)))
      have HFA4 := hide (show famAt 83 ((w2.alloc (.cells (fam 0 noSet) 83)).setRow w2.heap.size (fam N2 M2)) w1.heap.size N1 M1 from (hp_rowO _ _ _ _ (by omega)).trans ((hp_old _ _ _ (by omega)).trans ((hb2.block w1.heap.size (by rw [HZA.out]; omega)).trans HFA1.out)))
      have HFB4 := hide (show famAt 83 ((w2.alloc (.cells (fam 0 noSet) 83)).setRow w2.heap.size (fam N2 M2)) w2.heap.size N2 M2 from (famAt.new 83 w2 0 noSet).row N2 M2)
      have HB4 := hide (bl_row ((HB1.out.trans (hb2.mono (by rw [HZA.out]; omega))).alloc (by omega) (.cells (fam 0 noSet) 83)) (show w.heap.size ≤ w2.heap.size by omega) (fam N2 M2))
      have HZ4 := hide (show w.heap.size + 4 ≤ w1.heap.size ∧ w1.heap.size + 1 ≤ w2.heap.size by omega)
      have HS3 := hide (HS2.out.rowO (w.heap.size + 2) (by omega) (fam 0 noSet))
      clear hb2 hz2 hz1 b0 b1
      go_wp2_with (first
        | (refine wpList_alloc_fam zeroT rfl rfl _ (by first | (simp only [World.size_alloc]; rfl) | rfl) ?_)
        | (refine wpList_store_fam sizeT rfl (.tmp 9) (.tmp _) rfl _ _ _ rfl rfl _ _ (famAt.new _ _ _ _) ?_)
        | (refine wpList_build_fam0 built0 rfl rfl ?_)
        | (refine wpList_store_fam sizeT rfl (.tmp 4) (.tmp 27) rfl (w.heap.size + 1 + 1) 0 noSet rfl rfl _ _ HR2.out ?_)
        | (refine wpList_store_fam sizeT rfl (.tmp 5) (.tmp 28) rfl (w.heap.size + 1 + 1 + 1) 0 noSet rfl rfl _ _ HS3.out ?_))
      generalize ((w2.alloc (.cells (fam 0 noSet) 83)).setRow w2.heap.size (fam N2 M2)) = C at HR2 HS2 HFA4 HFB4 HB4 ⊢
      obtain ⟨hz4, hz5⟩ := HZ4.out
      refine wp_region_held (S := fun w' => famAt 83 w' w1.heap.size N1 M1 ∧ famAt 83 w' w2.heap.size N2 M2) (by kernel_rfl) ?_
      have hS : famAt 83 C.drew w1.heap.size N1 M1 ∧ famAt 83 C.drew w2.heap.size N2 M2 := ⟨HFA4.out, HFB4.out⟩
      refine wpAnyH_take (i := 0) rfl (by kernel_rfl) (by kernel_rfl) (by kernel_rfl) (fun _ _ _ h => h) (yields_load_fam rowT sizeT rfl (.tmp _) rfl _ rfl N1 M1 (fun w' h => h.1)) hS ?_
      refine wpAnyH_take (i := 1) rfl (by kernel_rfl) (by kernel_rfl) (by kernel_rfl) (fun _ _ _ h => h) (yields_load_fam rowT sizeT rfl (.tmp _) rfl _ rfl N2 M2 (fun w' h => h.2)) hS ?_
      simp only [Act.put, List.getElem_toArray, List.getElem_cons_zero, List.getElem_cons_succ, List.setIfInBounds_toArray, List.set_cons_zero, List.set_cons_succ]
      have hr1 : famAt 83 C.drew (w.heap.size + 2) 0 noSet := HR2.out
      have hs1 : famAt 83 C.drew (w.heap.size + 3) 0 noSet := HS2.out
      refine anyH_store_fam sizeT (i := 2) (by kernel_rfl) rfl rfl (.tmp _) (.tmp _) rfl (w.heap.size + 2) N1 M1 rfl rfl 0 noSet hr1 ⟨hS.1.rowO (w.heap.size + 2) (by omega) (fam N1 M1), hS.2.rowO (w.heap.size + 2) (by omega) (fam N1 M1)⟩ ?_
      simp only [Act.put, List.getElem_toArray, List.getElem_cons_zero, List.getElem_cons_succ, List.setIfInBounds_toArray, List.set_cons_zero, List.set_cons_succ]
      refine anyH_store_fam sizeT (i := 3) (by kernel_rfl) rfl rfl (.tmp _) (.tmp _) rfl (w.heap.size + 3) N2 M2 rfl rfl 0 noSet (hs1.rowO (w.heap.size + 2) (by omega) (fam N1 M1)) ⟨(hS.1.rowO (w.heap.size + 2) (by omega) (fam N1 M1)).rowO (w.heap.size + 3) (by omega) (fam N2 M2), (hS.2.rowO (w.heap.size + 2) (by omega) (fam N1 M1)).rowO (w.heap.size + 3) (by omega) (fam N2 M2)⟩ ?_
      simp only [Act.put, List.getElem_toArray, List.getElem_cons_zero, List.getElem_cons_succ, List.setIfInBounds_toArray, List.set_cons_zero, List.set_cons_succ]
      refine anyH_op (i := 4) (by kernel_rfl) rfl rfl (.bool true) _ ?hq3 ⟨(hS.1.rowO (w.heap.size + 2) (by omega) (fam N1 M1)).rowO (w.heap.size + 3) (by omega) (fam N2 M2), (hS.2.rowO (w.heap.size + 2) (by omega) (fam N1 M1)).rowO (w.heap.size + 3) (by omega) (fam N2 M2)⟩ ?_
      case hq3 => simp [go_sem]
      refine wpAnyH_done (by kernel_rfl) ?_ _
      simp only [Act.put, List.getElem_toArray, List.getElem_cons_zero, List.getElem_cons_succ, List.setIfInBounds_toArray, List.set_cons_zero, List.set_cons_succ]
      go_wp2
      exact bodyPost_ret (v := .tuple #[.agg (fam N1 M1), .agg (fam N2 M2), .bool true]) (results_fam22 (p := 4) (q := 5) (r := 6) rowT sizeT rfl _ _ (w.heap.size + 2) (w.heap.size + 3) rfl rfl _ _ _ _ ((hr1.row _ _).rowO (w.heap.size + 3) (by omega) (fam N2 M2)) ((hs1.rowO (w.heap.size + 2) (by omega) (fam N1 M1)).row _ _)) rfl ⟨rfl, bl_row (bl_row HB4.out.drew (by omega) _) (by omega) _⟩
end Go.Proofs.YtonimjpfaalniaaDoor
