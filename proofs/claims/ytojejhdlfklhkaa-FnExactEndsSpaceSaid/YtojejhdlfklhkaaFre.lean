/- Contracts: the space of an order, where the pairs are told by what the tests answer; the space of all sets. -/
import Derived.Test.YtojejhdlfklhkaaSpc
namespace Go.Proofs.Ytojejhdlfklhkaa
open Go.RowKit
set_option maxRecDepth 100000
attribute [local irreducible] p2 low memB risB

def cutAt (K : Nat → Bool) (k s : Nat) : Bool := decide (s < k) && K s
theorem cutAt_step (K : Nat → Bool) (k : Nat) (b : Bool) (h : K k = b) : upd (cutAt K k) k b = cutAt K (k + 1) := by
  funext s
  unfold upd cutAt
  split
  · rename_i e; subst e; simp [h]
  · have : (s < k + 1) ↔ (s < k) := by omega
    simp [this]
theorem cutAt_zero (K : Nat → Bool) : cutAt K 0 = noSet := by
  funext s; simp [cutAt, noSet]

def ordOk (n : Int) (A : Bool) (K : Nat → Bool) : Bool := decide (1 ≤ n ∧ n ≤ 7) && (A && spaceB (cutAt K (low n.toNat + 1)) n.toNat)
def ordN (n : Int) (A : Bool) (K : Nat → Bool) : Int := if ordOk n A K then n else 0
def ordL (n : Int) (A : Bool) (K : Nat → Bool) : List Int := if ordOk n A K then setsTo (cutAt K (low n.toNat + 1)) 128 else []
theorem ordN_no {n : Int} {A : Bool} {K : Nat → Bool} (h : ordOk n A K = false) : ordN n A K = 0 := by simp [ordN, h]
theorem ordL_no {n : Int} {A : Bool} {K : Nat → Bool} (h : ordOk n A K = false) : ordL n A K = [] := by simp [ordL, h]
theorem ordN_yes {n : Int} {A : Bool} {K : Nat → Bool} (h : ordOk n A K = true) : ordN n A K = n := by simp [ordN, h]
theorem ordL_yes {n : Int} {A : Bool} {K : Nat → Bool} (h : ordOk n A K = true) : ordL n A K = setsTo (cutAt K (low n.toNat + 1)) 128 := by simp [ordL, h]

set_option maxHeartbeats 2000000 in
theorem orderSpace_c (n : Int) (pv : Value) (A : Bool) (K : Nat → Bool) (w : World)
    (hA : ∀ w', Below w.heap.size w w' → Calls Try.prog 24 #[pv, .int .i64 n] w' fun e w'' => e = .returned (.bool A) ∧ Below w'.heap.size w' w'')
    (hK : A = true → n ≤ 7 → ∀ s : Nat, s < 128 → ∀ w', Below w.heap.size w w' → Calls Try.prog 37 #[.int .i64 (s : Int), pv] w' fun e w'' => e = .returned (.bool (K s)) ∧ Below w'.heap.size w' w'') :
    Calls Try.prog 25 #[.int .i64 n, pv] w fun e w' => ∃ v, e = .returned (.tuple #[.agg #[.int .i64 (ordN n A K), v], .bool (ordOk n A K)]) ∧ own 3 w' w.heap.size v (ordL n A K) ∧ Below w.heap.size w w' := by
  have H0 := hide ((Below.refl w.heap.size w).alloc (Nat.le_refl _) (.cells #[.int .i64 0, .slice none 0 0] 29))
  have HA := hide hA
  have HK := hide hK
  have hs0 : (w.alloc (.cells #[.int .i64 0, .slice none 0 0] 29)).heap[w.heap.size]? = some (.cells #[.int .i64 0, .slice none 0 0] 29) := hp_last _ _
  have HS0 := hide hs0
  clear hA hK hs0
  by_cases hn : 1 ≤ n ∧ n ≤ 7
  · obtain ⟨m, rfl⟩ := Int.eq_ofNat_of_zero_le (show 0 ≤ n by omega)
    have HN := hide hn
    have hm7 : m ≤ 7 := by omega
    have hlo := low_lt m hm7
    clear hn
    cases A
    · have HO := hide (show ordOk (m : Int) false K = false by simp [ordOk])
      go_enter Try.func25, Try.ntmps25
      go_wp2_with (first
        | (go_at_call 31; refine (isItemCount_c _ _).mono ?_; rw [decide_eq_true HN.out]; rintro e w1 ⟨rfl, rfl⟩)
        | (go_at_call 24; refine (HA.out _ H0.out).mono ?_; rintro e w1 ⟨rfl, hb1⟩; have hs1 := (hb1.block w.heap.size (by simp)).trans HS0.out; have c0 : w1.cell? ⟨w.heap.size, 0, none⟩ = some (.int .i64 0) := (by rw [hp_cell hs1]; rfl); have c1 : w1.cell? ⟨w.heap.size, 1, none⟩ = some (.slice none 0 0) := (by rw [hp_cell hs1]; rfl); have f0 := hp_free hs1 0; have f1 := hp_free hs1 1; have HB1 := hide (H0.out.trans (hb1.mono (by simp))); clear hb1 hs1))
      refine bodyPost_ret (v := .tuple #[.agg #[.int .i64 0, .slice none 0 0], .bool false]) (by simp [results, Try.results25, go_sem, c0, c1]) rfl ⟨_, by rw [ordN_no HO.out, HO.out], ?_, ?_⟩
      · rw [ordL_no HO.out]; exact own_nil _ _ _
      · exact (HB1.out.setCell (Nat.le_refl _) _).setCell (Nat.le_refl _) _
    · go_enter Try.func25, Try.ntmps25
      go_wp2_with (first
        | (go_at_call 31; refine (isItemCount_c _ _).mono ?_; rw [decide_eq_true HN.out]; rintro e w1 ⟨rfl, rfl⟩)
        | (go_at_call 24; refine (HA.out _ H0.out).mono ?_; rintro e w1 ⟨rfl, hb1⟩; have hs1 := (hb1.block w.heap.size (by simp)).trans HS0.out; have hz1 := hb1.size; simp at hz1; have HS1 := hide hs1; have hh := (famAt.new 53 w1 0 noSet).row (m : Int) noSet; have HB1 := hide (H0.out.trans (hb1.mono (by simp))); clear hb1 hs1)
        | (refine wpList_alloc_fam zeroT rfl rfl _ (by first | (simp only [World.size_alloc]; rfl) | rfl) ?_)
        | (refine wpList_build_fam builtT rfl _ rfl _ rfl ?_)
        | (refine wpList_store_fam sizeT rfl (.tmp _) (.tmp _) rfl _ (m : Int) noSet rfl rfl _ _ (famAt.new _ _ _ _) ?_)
        | (refine wpList_load_fam rowT sizeT rfl (.tmp _) rfl _ rfl (m : Int) _ hh ?_)
        | (go_at_call 36; refine (full_c _ _ _ (by omega) (by omega)).mono ?_; rw [Int.toNat_natCast]; rintro e w2 ⟨rfl, hb2⟩; have hz2 := hb2.size; simp [World.setRow] at hz2; have hf2 := hh.below hb2 hh.lt; have HF2 := hide hf2; have HS2 := hide ((hb2.block w.heap.size (by simp [World.setRow]; omega)).trans ((hp_rowO _ _ _ _ (by omega)).trans ((hp_old _ _ _ (by omega)).trans HS1.out))); have HB2 := hide ((bl_row (HB1.out.alloc (by omega) (.cells (fam 0 noSet) 53)) (show w.heap.size ≤ w1.heap.size by omega) (fam (m : Int) noSet)).trans (hb2.mono (by simp [World.setRow]; omega))); clear hb2 hh hf2))
      have HZ := hide (show w.heap.size + 1 ≤ w1.heap.size ∧ w1.heap.size + 1 ≤ w2.heap.size by omega)
      clear HS1 HB1 hz1 hz2
      go_loopw [23] (fun i wr => ∃ k : Nat, k ≤ low m + 1 ∧ i = .int .i64 k ∧ Hid (famAt 53 wr w1.heap.size (m : Int) (cutAt K k)) ∧ Hid (wr.heap[w.heap.size]? = some (.cells #[.int .i64 0, .slice none 0 0] 29)) ∧ Hid (Below w.heap.size w wr)) (fun i _ => low m + 1 - (intOf i).toNat)
      case atStart => exact ⟨0, by omega, rfl, by rw [cutAt_zero]; exact HF2, HS2, HB2⟩
      case round =>
        obtain ⟨k, hk, rfl, HF, HS, HB⟩ := hrel
        clear HF2 HS2 HB2
        obtain ⟨hz1, hz2⟩ := HZ.out
        have hlf := HF.out.lt
        by_cases hlt : k < low m + 1
        · have hk128 : k < 128 := by omega
          have hlt' : ((k : Int) < (low m : Int) + 1) := by omega
          have hlt2 : k ≤ low m := by omega
          generalize hb : K k = b
          have HKK := hide hb
          clear hb
          go_wp2_with fail
          refine (HK.out (by first | rfl | trivial) HN.out.2 k hk128 _ HB.out).mono ?_
          rw [HKK.out]
          rintro e w3 ⟨rfl, hb3⟩
          have hz3 := hb3.size
          have hf3 := HF.out.below hb3 HF.out.lt
          have c3 := hf3.get k hk128
          have f3 := hf3.free (1 + k)
          have HF3 := hide hf3
          have HS3 := hide ((hb3.block w.heap.size (by omega)).trans HS.out)
          have HB3 := hide (HB.out.trans (hb3.mono (by omega)))
          clear hb3 hf3
          go_wp2
          go_roundw
          case rel => exact ⟨k + 1, by omega, by go_num, by rw [← cutAt_step K k b HKK.out]; exact HF3.out.set k hk128 b, (hp_setO _ _ _ _ (by show w.heap.size ≠ w1.heap.size; omega)).trans HS3.out, HB3.out.setCell (by show w.heap.size ≤ w1.heap.size; omega) _⟩
          case measure => simp [intOf]; omega
        · have hke : k = low m + 1 := by omega
          subst hke
          clear hlt hk
          have hf := HF.out
          have hsl := hf.lt
          cases hsp : spaceB (cutAt K (low m + 1)) m
          · have HSP := hide hsp
            have HO := hide (show ordOk (m : Int) true K = false by simp [ordOk, hsp])
            clear hsp
            go_wp2_with (first
              | (refine wpList_load_fam rowT sizeT rfl (.tmp _) rfl _ rfl (m : Int) _ (by assumption) ?_)
              | (go_at_call 38; refine (isSpace_c _ _ _ (by omega) (by omega)).mono ?_; rw [Int.toNat_natCast, HSP.out]; rintro e w4 ⟨rfl, hb4⟩; have hs4 := (hb4.block w.heap.size (by omega)).trans HS.out; have c0 : w4.cell? ⟨w.heap.size, 0, none⟩ = some (.int .i64 0) := (by rw [hp_cell hs4]; rfl); have c1 : w4.cell? ⟨w.heap.size, 1, none⟩ = some (.slice none 0 0) := (by rw [hp_cell hs4]; rfl); have f0 := hp_free hs4 0; have f1 := hp_free hs4 1; have HB4 := hide (HB.out.trans (hb4.mono (by omega))); clear hb4 hs4))
            refine bodyPost_ret (v := .tuple #[.agg #[.int .i64 0, .slice none 0 0], .bool false]) (by simp [results, Try.results25, go_sem, c0, c1]) rfl ⟨_, by rw [ordN_no HO.out, HO.out], ?_, ?_⟩
            · rw [ordL_no HO.out]; exact own_nil _ _ _
            · exact (HB4.out.setCell (Nat.le_refl _) _).setCell (Nat.le_refl _) _
          · have HSP := hide hsp
            have HO := hide (show ordOk (m : Int) true K = true by simp only [ordOk, Int.toNat_natCast, hsp, decide_eq_true HN.out]; rfl)
            clear hsp
            go_wp2_with (first
              | (refine wpList_load_fam rowT sizeT rfl (.tmp _) rfl _ rfl (m : Int) _ (by assumption) ?_)
              | (go_at_call 38; refine (isSpace_c _ _ _ (by omega) (by omega)).mono ?_; rw [Int.toNat_natCast, HSP.out]; rintro e w4 ⟨rfl, hb4⟩; have hf4 := hf.below hb4 hsl; have hz4 := hb4.size; have HS4 := hide ((hb4.block w.heap.size (by omega)).trans HS.out); have HB4 := hide (HB.out.trans (hb4.mono (by omega))); clear hb4 hf)
              | (go_at_call 39; refine (space_c _ _ _).mono ?_; rintro e w5 ⟨v, rfl, ho5, hb5⟩; obtain ⟨aa, cc, hv⟩ := ho5.shape; have hs5 := (hb5.block w.heap.size (by omega)).trans HS4.out; have c0 : w5.cell? ⟨w.heap.size, 0, none⟩ = some (.int .i64 0) := (by rw [hp_cell hs5]; rfl); have c1 : w5.cell? ⟨w.heap.size, 1, none⟩ = some (.slice none 0 0) := (by rw [hp_cell hs5]; rfl); have f0 := hp_free hs5 0; have f1 := hp_free hs5 1; have HB5 := hide (HB4.out.trans (hb5.mono (by omega))); have HO5 := hide ho5; clear hb5 hs5 ho5; subst hv))
            refine bodyPost_ret (v := .tuple #[.agg #[.int .i64 (m : Int), .slice aa (setsTo (cutAt K (low m + 1)) 128).length cc], .bool true]) (by simp [results, Try.results25, go_sem, c0, c1]) rfl ⟨_, by rw [ordN_yes HO.out, HO.out], ?_, ?_⟩
            · rw [ordL_yes HO.out, Int.toNat_natCast]; exact ((HO5.out.setLow _ (by show w.heap.size < w4.heap.size; omega) _).setLow _ (by show w.heap.size < w4.heap.size; omega) _).mono (by omega)
            · exact (HB5.out.setCell (Nat.le_refl _) _).setCell (Nat.le_refl _) _
  · have HN := hide hn
    have HO := hide (show ordOk n A K = false by simp only [ordOk, decide_eq_false hn, Bool.false_and])
    clear hn
    go_enter Try.func25, Try.ntmps25
    go_wp2_with (first
      | (go_at_call 31; refine (isItemCount_c _ _).mono ?_; rw [decide_eq_false HN.out]; rintro e w1 ⟨rfl, rfl⟩))
    refine bodyPost_ret (v := .tuple #[.agg #[.int .i64 0, .slice none 0 0], .bool false]) (by simp [results, Try.results25, go_sem]) rfl ⟨_, by rw [ordN_no HO.out, HO.out], ?_, ?_⟩
    · rw [ordL_no HO.out]; exact own_nil _ _ _
    · first | exact H0.out | exact (H0.out.setCell (Nat.le_refl _) _).setCell (Nat.le_refl _) _
end Go.Proofs.Ytojejhdlfklhkaa
