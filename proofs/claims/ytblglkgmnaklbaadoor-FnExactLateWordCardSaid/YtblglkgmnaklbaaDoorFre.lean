/- Contracts: the space of an order, where the pairs are told by what the tests answer; the space of all sets. -/
import Derived.Test.YtblglkgmnaklbaaDoorFwh
import Derived.Test.YtblglkgmnaklbaaDoorHar
namespace Go.Proofs.YtblglkgmnaklbaaDoor
open Go.RowKit
set_option maxRecDepth 100000
attribute [local irreducible] p2 low memB risB

def ordOk (n : Int) (A : Bool) (K : Nat → Bool) : Bool := decide (1 ≤ n ∧ n ≤ 7) && (A && spaceB (cutAt K (low n.toNat + 1)) n.toNat)
def ordN (n : Int) (A : Bool) (K : Nat → Bool) : Int := if ordOk n A K then n else 0
def ordL (n : Int) (A : Bool) (K : Nat → Bool) : List Int := if ordOk n A K then setsTo (cutAt K (low n.toNat + 1)) 128 else []
theorem ordN_no {n : Int} {A : Bool} {K : Nat → Bool} (h : ordOk n A K = false) : ordN n A K = 0 := by simp [ordN, h]
theorem ordL_no {n : Int} {A : Bool} {K : Nat → Bool} (h : ordOk n A K = false) : ordL n A K = [] := by simp [ordL, h]
theorem ordN_yes {n : Int} {A : Bool} {K : Nat → Bool} (h : ordOk n A K = true) : ordN n A K = n := by simp [ordN, h]
theorem ordL_yes {n : Int} {A : Bool} {K : Nat → Bool} (h : ordOk n A K = true) : ordL n A K = setsTo (cutAt K (low n.toNat + 1)) 128 := by simp [ordL, h]

theorem ent_order1 : enters Tryd.prog 92 := enters_of Tryd.func92 (by kernel_rfl) (by kernel_rfl)
theorem orderSpace1_c (s : Int) (pv : Value) (b : Bool) (g : Nat) (w : World) (hc : w.cell? ⟨g, 0, none⟩ = some pv)
    (hk : Calls Tryd.prog 93 #[.int .i64 s, pv] w fun e w' => e = .returned (.bool b) ∧ Below w.heap.size w w') :
    Calls Tryd.prog 92 #[.int .i64 s, .pointer (some ⟨g, 0, none⟩)] w fun e w' => e = .returned (.bool b) ∧ Below w.heap.size w w' := by
  have HK := hide hk
  clear hk
  go_enter Tryd.func92, Tryd.ntmps92
  go_wp2_with fail
  refine HK.out.mono ?_
  rintro e w2 ⟨rfl, hb2⟩
  go_wp2
  go_ret
  exact ⟨rfl, hb2⟩
set_option maxHeartbeats 2000000 in
theorem orderSpace_c (n : Int) (pa : Option Addr) (pl pc : Nat) (A : Bool) (K : Nat → Bool) (w : World)
    (hA : ∀ w', Below w.heap.size w w' → Calls Tryd.prog 55 #[.slice pa pl pc, .int .i64 n] w' fun e w'' => e = .returned (.bool A) ∧ Below w'.heap.size w' w'')
    (hK : A = true → n ≤ 7 → ∀ s : Nat, s < 128 → ∀ w', Below w.heap.size w w' → Calls Tryd.prog 93 #[.int .i64 (s : Int), .slice pa pl pc] w' fun e w'' => e = .returned (.bool (K s)) ∧ Below w'.heap.size w' w'') :
    Calls Tryd.prog 56 #[.int .i64 n, .slice pa pl pc] w fun e w' => ∃ v, e = .returned (.tuple #[.agg #[.int .i64 (ordN n A K), v], .bool (ordOk n A K)]) ∧ own 3 w' w.heap.size v (ordL n A K) ∧ Below w.heap.size w w' := by
  have HA := hide hA
  have HK := hide hK
  have HB0 := hide (show Below (w.heap.size + 1) (w.alloc (.cells #[.slice pa pl pc] 26)) ((w.alloc (.cells #[.slice pa pl pc] 26)).alloc (.cells #[.int .i64 0, .slice none 0 0] 29)) from (Below.refl _ _).alloc (by simp) _)
  have hc0 := bx_cell HB0.out
  have hs0 : ((w.alloc (.cells #[.slice pa pl pc] 26)).alloc (.cells #[.int .i64 0, .slice none 0 0] 29)).heap[w.heap.size + 1]? = some (.cells #[.int .i64 0, .slice none 0 0] 29) := by have h := hp_last (w.alloc (.cells #[.slice pa pl pc] 26)) (.cells #[.int .i64 0, .slice none 0 0] 29); simpa using h
  have HS0 := hide hs0
  have HZ0 := hide (show ((w.alloc (.cells #[.slice pa pl pc] 26)).alloc (.cells #[.int .i64 0, .slice none 0 0] 29)).heap.size = w.heap.size + 2 by simp)
  have c0 := cells_at0 hs0
  have c1 := cells_at1 hs0
  have f0 := hp_free hs0 0
  have f1 := hp_free hs0 1
  clear hA hK hs0
  by_cases hn : 1 ≤ n ∧ n ≤ 7
  · obtain ⟨m, rfl⟩ := Int.eq_ofNat_of_zero_le (show 0 ≤ n by omega)
    have HN := hide hn
    have hm7 : m ≤ 7 := by omega
    have hlo := low_lt m hm7
    clear hn
    cases A
    · have HO := hide (show ordOk (m : Int) false K = false by simp [ordOk])
      go_enter Tryd.func56, Tryd.ntmps56
      go_wp2_with (first
        | (go_at_call 67; refine (isItemCount_c _ _).mono ?_; rw [decide_eq_true HN.out]; rintro e w1 ⟨rfl, rfl⟩)
        | (go_at_call 55; refine (HA.out _ (bx_below HB0.out)).mono ?_; rintro e w1 ⟨rfl, hb1⟩; have hs1 := (hb1.block (w.heap.size + 1) (by rw [HZ0.out]; omega)).trans HS0.out; clear c0 c1 f0 f1; have c0 := cells_at0 hs1; have c1 := cells_at1 hs1; have f0 := hp_free hs1 0; have f1 := hp_free hs1 1; have HB1 := hide (bx_below (bx_to HB0.out hb1)); clear hb1 hs1))
      refine bodyPost_ret (v := .tuple #[.agg #[.int .i64 0, .slice none 0 0], .bool false]) (by simp [results, Tryd.results56, go_sem, c0, c1]) rfl ⟨_, by rw [ordN_no HO.out, HO.out], ?_, ?_⟩
      · rw [ordL_no HO.out]; exact own_nil _ _ _
      · exact (HB1.out.setCell (by show w.heap.size ≤ w.heap.size + 1; omega) _).setCell (by show w.heap.size ≤ w.heap.size + 1; omega) _
    · have HLS := hide (low_succ m)
      go_enter Tryd.func56, Tryd.ntmps56
      go_wp2_with (first
        | (go_at_call 67; refine (isItemCount_c _ _).mono ?_; rw [decide_eq_true HN.out]; rintro e w1 ⟨rfl, rfl⟩)
        | (go_at_call 55; refine (HA.out _ (bx_below HB0.out)).mono ?_; rintro e w1 ⟨rfl, hb1⟩; have hz1 := hb1.size; rw [HZ0.out] at hz1; have HS1 := hide ((hb1.block (w.heap.size + 1) (by rw [HZ0.out]; omega)).trans HS0.out); have HB1 := hide (bx_to HB0.out hb1); clear hb1 c0 c1 f0 f1 hc0)
        | (go_at_call 91; refine (familyWhere_c m 92 #[] #[.pointer (some ⟨w.heap.size, 0, none⟩)] K w1 hm7 ent_order1 (fun s w5 hs5 hb5 => orderSpace1_c s _ (K s) w.heap.size w5 (bx_cell (bx_to HB1.out hb5)) (HK.out (by first | rfl | trivial) HN.out.2 s (by have := HLS.out; omega) w5 (bx_below (bx_to HB1.out hb5))))).mono ?_; rintro e w2 ⟨rfl, hb2⟩; have hz2 := hb2.size; have HB2 := hide (bx_to HB1.out hb2); have HS2 := hide ((hb2.block (w.heap.size + 1) (by omega)).trans HS1.out); have HF3 := hide ((famAt.new 57 w2 0 noSet).row (m : Int) (cutAt K (low m + 1))); have HS3 := hide ((hp_rowO (w2.alloc (.cells (fam 0 noSet) 57)) w2.heap.size (w.heap.size + 1) (fam (m : Int) (cutAt K (low m + 1))) (by omega)).trans ((hp_old w2 (.cells (fam 0 noSet) 57) (w.heap.size + 1) (by omega)).trans HS2.out)); have HB3 := hide (bl_row (HB2.out.alloc (bx_size HB2.out) (.cells (fam 0 noSet) 57)) (bx_size HB2.out) (fam (m : Int) (cutAt K (low m + 1)))); have HZ3 := hide (show ((w2.alloc (.cells (fam 0 noSet) 57)).setRow w2.heap.size (fam (m : Int) (cutAt K (low m + 1)))).heap.size = w2.heap.size + 1 by simp [World.setRow]); clear hb2)
        | (refine wpList_alloc_fam zeroT rfl rfl _ (by first | (simp only [World.size_alloc]; rfl) | rfl) ?_)
        | (refine wpList_store_fam sizeT rfl (.tmp _) (.tmp _) rfl _ (m : Int) (cutAt K (low m + 1)) rfl rfl _ _ (famAt.new _ _ _ _) ?_)
        | (refine wpList_load_fam rowT sizeT rfl (.tmp _) rfl _ rfl (m : Int) _ HF3.out ?_))
      cases hsp : spaceB (cutAt K (low m + 1)) m
      · have HSP := hide hsp
        have HO := hide (show ordOk (m : Int) true K = false by simp [ordOk, hsp])
        clear hsp
        refine (isSpace_c _ _ _ (by omega) (by omega)).mono ?_
        rw [Int.toNat_natCast, HSP.out]
        rintro e w4 ⟨rfl, hb4⟩
        rw [HZ3.out] at hb4
        have hs4 := (hb4.block (w.heap.size + 1) (by omega)).trans HS3.out
        have c0 := cells_at0 hs4
        have c1 := cells_at1 hs4
        have f0 := hp_free hs4 0
        have f1 := hp_free hs4 1
        have HB4 := hide (bx_below (HB3.out.trans (hb4.mono (by have := bx_size HB2.out; omega))))
        clear hb4 hs4
        go_wp2
        refine bodyPost_ret (v := .tuple #[.agg #[.int .i64 0, .slice none 0 0], .bool false]) (by simp [results, Tryd.results56, go_sem, c0, c1]) rfl ⟨_, by rw [ordN_no HO.out, HO.out], ?_, ?_⟩
        · rw [ordL_no HO.out]; exact own_nil _ _ _
        · exact (HB4.out.setCell (by show w.heap.size ≤ w.heap.size + 1; omega) _).setCell (by show w.heap.size ≤ w.heap.size + 1; omega) _
      · have HSP := hide hsp
        have HO := hide (show ordOk (m : Int) true K = true by simp only [ordOk, Int.toNat_natCast, hsp, decide_eq_true HN.out]; rfl)
        clear hsp
        refine (isSpace_c _ _ _ (by omega) (by omega)).mono ?_
        rw [Int.toNat_natCast, HSP.out]
        rintro e w4 ⟨rfl, hb4⟩
        rw [HZ3.out] at hb4
        have hz4 := hb4.size
        rw [HZ3.out] at hz4
        have HF4 := hide (HF3.out.below hb4 (by omega))
        have HS4 := hide ((hb4.block (w.heap.size + 1) (by omega)).trans HS3.out)
        have HB4 := hide (HB3.out.trans (hb4.mono (by have := bx_size HB2.out; omega)))
        clear hb4
        go_wp2_with (first
          | (refine wpList_load_fam rowT sizeT rfl (.tmp _) rfl _ rfl (m : Int) _ HF4.out ?_)
          | (go_at_call 94; refine (space_c _ _ _).mono ?_; rintro e w5 ⟨v, rfl, ho5, hb5⟩; obtain ⟨aa, cc, hv⟩ := ho5.shape; have hs5 := (hb5.block (w.heap.size + 1) (by omega)).trans HS4.out; have c0 := cells_at0 hs5; have c1 := cells_at1 hs5; have f0 := hp_free hs5 0; have f1 := hp_free hs5 1; have HB5 := hide (bx_below (bx_to HB4.out hb5)); have HO5 := hide ho5; clear hb5 hs5 ho5; subst hv))
        refine bodyPost_ret (v := .tuple #[.agg #[.int .i64 (m : Int), .slice aa (setsTo (cutAt K (low m + 1)) 128).length cc], .bool true]) (by simp [results, Tryd.results56, go_sem, c0, c1]) rfl ⟨_, by rw [ordN_yes HO.out, HO.out], ?_, ?_⟩
        · rw [ordL_yes HO.out, Int.toNat_natCast]; exact ((HO5.out.setLow _ (by show w.heap.size + 1 < w4.heap.size; omega) _).setLow _ (by show w.heap.size + 1 < w4.heap.size; omega) _).mono (by omega)
        · exact (HB5.out.setCell (by show w.heap.size ≤ w.heap.size + 1; omega) _).setCell (by show w.heap.size ≤ w.heap.size + 1; omega) _
  · have HN := hide hn
    have HO := hide (show ordOk n A K = false by simp only [ordOk, decide_eq_false hn, Bool.false_and])
    clear hn
    go_enter Tryd.func56, Tryd.ntmps56
    go_wp2_with (first
      | (go_at_call 67; refine (isItemCount_c _ _).mono ?_; rw [decide_eq_false HN.out]; rintro e w1 ⟨rfl, rfl⟩))
    refine bodyPost_ret (v := .tuple #[.agg #[.int .i64 0, .slice none 0 0], .bool false]) (by simp [results, Tryd.results56, go_sem, c0, c1]) rfl ⟨_, by rw [ordN_no HO.out, HO.out], ?_, ?_⟩
    · rw [ordL_no HO.out]; exact own_nil _ _ _
    · first | exact bx_below HB0.out | exact ((bx_below HB0.out).setCell (by show w.heap.size ≤ w.heap.size + 1; omega) _).setCell (by show w.heap.size ≤ w.heap.size + 1; omega) _
end Go.Proofs.YtblglkgmnaklbaaDoor
