/- Contracts: the space of all sets outside of a stretch, the program's and the specification's. -/
import Derived.Test.YtdihjonfhedciaaPs
import Derived.Test.YtdihjonfhedciaaHar
namespace Go.Proofs.Ytdihjonfhedciaa
open Go.RowKit
set_option maxRecDepth 100000
def lnV (m j i : Nat) : Nat := andNot (low m) (andNot (low j) (low i))
def lnIn (m j : Nat) (F : Nat → Bool) : Nat → (Nat → Bool)
  | 0 => F
  | i + 1 => upd (lnIn m j F i) (lnV m j i) true
def lnOut (m : Nat) : Nat → (Nat → Bool)
  | 0 => noSet
  | j + 1 => lnIn m j (lnOut m j) (j + 1)
def lsV (m j i : Nat) : Nat := andNot (low m) (p2 j - p2 i)
def lsIn (m i : Nat) (F : Nat → Bool) : Nat → (Nat → Bool)
  | 0 => F
  | d + 1 => upd (lsIn m i F d) (lsV m (i + d) i) true
def lsOut (m : Nat) : Nat → (Nat → Bool)
  | 0 => noSet
  | i + 1 => lsIn m i (lsOut m i) (m + 1 - i)
theorem line_same (m : Nat) (h1 : 1 ≤ m) (h7 : m ≤ 7) : setsTo (lsOut m (m + 1)) 128 = setsTo (lnOut m (m + 1)) 128 := by
  have : m = 1 ∨ m = 2 ∨ m = 3 ∨ m = 4 ∨ m = 5 ∨ m = 6 ∨ m = 7 := by omega
  rcases this with rfl | rfl | rfl | rfl | rfl | rfl | rfl <;> decide +kernel
theorem lnV_lt (m j i : Nat) (h7 : m ≤ 7) : lnV m j i < 128 := andNot_lt128 _ _ (low_lt m h7)
theorem lsV_lt (m j i : Nat) (h7 : m ≤ 7) : lsV m j i < 128 := andNot_lt128 _ _ (low_lt m h7)
theorem p2_mono (i j : Nat) (h : i ≤ j) : p2 i ≤ p2 j := p2_le i j h
def liN (n : Int) : Int := if 1 ≤ n ∧ n ≤ 7 then n else 0
def liL (n : Int) : List Int := if 1 ≤ n ∧ n ≤ 7 then setsTo (lnOut n.toNat (n.toNat + 1)) 128 else []
def liB (n : Int) : Bool := decide (1 ≤ n ∧ n ≤ 7)
theorem liL_len (n : Int) : (liL n).length < 1000000000 := by
  unfold liL
  split
  · have := setsTo_len (lnOut n.toNat (n.toNat + 1)) 128; omega
  · simp
attribute [local irreducible] p2 low memB risB lnV lsV

set_option maxHeartbeats 2000000 in
theorem implLineSpace_c (n : Int) (w : World) :
    Calls Try.prog 5 #[.int .i64 n] w fun e w' => ∃ v, e = .returned (.tuple #[.agg #[.int .i64 (liN n), v], .bool (liB n)]) ∧ own 3 w' w.heap.size v (liL n) ∧ Below w.heap.size w w' := by
  have H0 := hide ((Below.refl w.heap.size w).alloc (Nat.le_refl _) (.cells #[.int .i64 0, .slice none 0 0] 24))
  have hs0 : (w.alloc (.cells #[.int .i64 0, .slice none 0 0] 24)).heap[w.heap.size]? = some (.cells #[.int .i64 0, .slice none 0 0] 24) := hp_last _ _
  have HS0 := hide hs0
  clear hs0
  by_cases hn : 1 ≤ n ∧ n ≤ 7
  · have HE := hide (show liB n = true ∧ liN n = n ∧ liL n = setsTo (lnOut n.toNat (n.toNat + 1)) 128 from ⟨by rw [liB, decide_eq_true hn], by rw [liN, if_pos hn], by rw [liL, if_pos hn]⟩)
    obtain ⟨m, rfl⟩ := Int.eq_ofNat_of_zero_le (show 0 ≤ n by omega)
    have HN := hide hn
    have hm7 : m ≤ 7 := by omega
    clear hn
    rw [HE.out.1, HE.out.2.1, HE.out.2.2, Int.toNat_natCast]
    have hlo := low_lt m hm7
    have HF0 := hide (show famAt 33 (((w.alloc (.cells #[.int .i64 0, .slice none 0 0] 24)).alloc (.cells (fam 0 noSet) 33)).setRow (w.heap.size + 1) (fam (m : Int) noSet)) (w.heap.size + 1) (m : Int) noSet by
      have := (famAt.new 33 (w.alloc (.cells #[.int .i64 0, .slice none 0 0] 24)) 0 noSet).row (m : Int) noSet
      simpa using this)
    have HS1 := hide (show (((w.alloc (.cells #[.int .i64 0, .slice none 0 0] 24)).alloc (.cells (fam 0 noSet) 33)).setRow (w.heap.size + 1) (fam (m : Int) noSet)).heap[w.heap.size]? = some (.cells #[.int .i64 0, .slice none 0 0] 24) from
      (hp_rowO _ _ _ _ (by omega)).trans ((hp_old _ _ _ (by simp)).trans HS0.out))
    have HB1 := hide (bl_row ((H0.out.alloc (by simp) (.cells (fam 0 noSet) 33))) (show w.heap.size ≤ w.heap.size + 1 by omega) (fam (m : Int) noSet))
    go_enter Try.func5, Try.ntmps5
    go_wp2_with (first
      | (refine wpList_alloc_fam zeroT rfl rfl _ (by first | (simp only [World.size_alloc]; rfl) | rfl) ?_)
      | (refine wpList_build_fam builtT rfl _ rfl _ rfl ?_)
      | (refine wpList_store_fam sizeT rfl (.tmp _) (.tmp _) rfl (w.heap.size + 1) (m : Int) noSet rfl rfl _ _ (by have := famAt.new 33 (w.alloc (.cells #[.int .i64 0, .slice none 0 0] 24)) 0 noSet; simpa using this) ?_)
      | (go_at_call 11; refine (isItemCount_c _ _).mono ?_; rw [decide_eq_true HN.out]; rintro e w1 ⟨rfl, rfl⟩))
    go_loopw [16] (fun jv wr => ∃ j : Nat, j ≤ m + 1 ∧ jv = .int .i64 j ∧ Hid (famAt 33 wr (w.heap.size + 1) (m : Int) (lnOut m j)) ∧ Hid (wr.heap[w.heap.size]? = some (.cells #[.int .i64 0, .slice none 0 0] 24)) ∧ Hid (Below w.heap.size w wr)) (fun jv _ => m + 1 - (intOf jv).toNat)
    case atStart => exact ⟨0, by omega, rfl, HF0, HS1, HB1⟩
    case round =>
      obtain ⟨j, hj, rfl, HF, HS, HB⟩ := hrel
      clear HF0 HS1 HB1
      by_cases hlt : j < m + 1
      · have hlt2 : ((j : Int) < (m : Int) + 1) := by omega
        have hlt3 : j ≤ m := by omega
        have HOU := hide (show lnOut m (j + 1) = lnIn m j (lnOut m j) (j + 1) from rfl)
        have HI0 := hide (show lnIn m j (lnOut m j) 0 = lnOut m j from rfl)
        go_wp2_with fail
        go_loopw [21] (fun iv wr => ∃ i : Nat, i ≤ j + 1 ∧ iv = .int .i64 i ∧ Hid (famAt 33 wr (w.heap.size + 1) (m : Int) (lnIn m j (lnOut m j) i)) ∧ Hid (wr.heap[w.heap.size]? = some (.cells #[.int .i64 0, .slice none 0 0] 24)) ∧ Hid (Below w.heap.size w wr)) (fun iv _ => j + 1 - (intOf iv).toNat)
        case atStart => exact ⟨0, by omega, rfl, by rw [HI0.out]; exact HF, HS, HB⟩
        case round =>
          obtain ⟨i, hi, rfl, HF2, HS2, HB2⟩ := hrel
          clear HF HS HB HI0
          by_cases hlti : i < j + 1
          · have hlti2 : ((i : Int) < (j : Int) + 1) := by omega
            have hlti3 : i ≤ j := by omega
            have hv := lnV_lt m j i hm7
            have HIN := hide (show lnIn m j (lnOut m j) (i + 1) = upd (lnIn m j (lnOut m j) i) (lnV m j i) true from rfl)
            have hlj := low_lt j (by omega)
            have hli := low_lt i (by omega)
            have ha1 := i64_andNot (low j) (low i) (by omega)
            have ha2 : bits .andNot .i64 (low m : Int) ((andNot (low j) (low i) : Nat) : Int) = (lnV m j i : Int) := by rw [i64_andNot _ _ (by omega)]; unfold lnV; rfl
            have hf2 := HF2.out
            have hfl := hf2.lt
            generalize lnV m j i = x at hv HIN ha2
            generalize lnIn m j (lnOut m j) i = G at hf2 HF2 HIN
            go_wp2_with (first
              | (go_at_call 12; first | (refine (below_c (j : Int) _ (by omega) (by omega)).mono ?_; rw [Int.toNat_natCast]; rintro e w1 ⟨rfl, rfl⟩) | (refine (below_c (i : Int) _ (by omega) (by omega)).mono ?_; rw [Int.toNat_natCast]; rintro e w1 ⟨rfl, rfl⟩))
              | (refine wpList_load_fam rowT sizeT rfl (.tmp _) rfl _ rfl (m : Int) _ (by assumption) ?_)
              | (go_at_call 13; refine (full_c _ _ _ (by omega) (by omega)).mono ?_; rw [Int.toNat_natCast]; rintro e w3 ⟨rfl, hb3⟩; have hf3 := hf2.below hb3 hfl; have hg := hf3.get x hv; have hfz := hf3.free (1 + x); have HF3 := hide hf3; have HS3 := hide ((hb3.block w.heap.size (by omega)).trans HS2.out); have HB3 := hide (HB2.out.trans (hb3.mono (by omega))); clear hb3 hf3))
            go_roundw
            case rel => exact ⟨i + 1, by omega, by go_num, by rw [HIN.out]; exact HF3.out.set x hv true, (hp_setO _ _ _ _ (by show w.heap.size ≠ w.heap.size + 1; omega)).trans HS3.out, HB3.out.setCell (by show w.heap.size ≤ w.heap.size + 1; omega) _⟩
            case measure => simp [intOf]; omega
          · have HK := hide (show i = j + 1 by omega)
            have hlti2 : ¬ ((i : Int) < (j : Int) + 1) := by omega
            have hlti3 : ¬ i ≤ j := by omega
            clear hi hlti
            go_wp2
            go_roundw
            case rel => exact ⟨j + 1, by omega, by go_num, by rw [HOU.out, ← HK.out]; exact HF2, HS2, HB2⟩
            case measure => simp [intOf]; omega
      · have HKE := hide (show j = m + 1 by omega)
        have hlt2 : ¬ ((j : Int) < (m : Int) + 1) := by omega
        have hlt3 : ¬ j ≤ m := by omega
        have hf := HF.out
        have hfl := hf.lt
        clear hj hlt
        go_wp2_with (first
          | (refine wpList_load_fam rowT sizeT rfl (.tmp _) rfl _ rfl (m : Int) _ (by assumption) ?_)
          | (go_at_call 14; refine (space_c _ _ _).mono ?_; rintro e w5 ⟨v1, rfl, ho5, hb5⟩; obtain ⟨aa, cc, hv⟩ := ho5.shape; have hs5 := (hb5.block w.heap.size (by omega)).trans HS.out; have c0 : w5.cell? ⟨w.heap.size, 0, none⟩ = some (.int .i64 0) := (by rw [hp_cell hs5]; rfl); have c1 : w5.cell? ⟨w.heap.size, 1, none⟩ = some (.slice none 0 0) := (by rw [hp_cell hs5]; rfl); have f0 := hp_free hs5 0; have f1 := hp_free hs5 1; have HB5 := hide (HB.out.trans (hb5.mono (by omega))); have HO5 := hide ho5; clear hb5 hs5 ho5; subst hv))
        refine bodyPost_ret (v := .tuple #[.agg #[.int .i64 (m : Int), .slice aa (setsTo (lnOut m j) 128).length cc], .bool true]) (by simp [results, Try.results5, go_sem, c0, c1]) rfl ⟨_, rfl, ?_, ?_⟩
        · rw [← HKE.out]
          exact ((HO5.out.setLow _ (by show w.heap.size < wr.heap.size; omega) _).setLow _ (by show w.heap.size < wr.heap.size; omega) _).mono (by omega)
        · exact (HB5.out.setCell (Nat.le_refl _) _).setCell (Nat.le_refl _) _
  · have HN := hide hn
    have HE := hide (show liB n = false ∧ liN n = 0 ∧ liL n = [] from ⟨by rw [liB, decide_eq_false hn], by rw [liN, if_neg hn], by rw [liL, if_neg hn]⟩)
    clear hn
    rw [HE.out.1, HE.out.2.1, HE.out.2.2]
    go_enter Try.func5, Try.ntmps5
    go_wp2_with (first
      | (go_at_call 11; refine (isItemCount_c _ _).mono ?_; rw [decide_eq_false HN.out]; rintro e w1 ⟨rfl, rfl⟩))
    refine bodyPost_ret (v := .tuple #[.agg #[.int .i64 0, .slice none 0 0], .bool false]) (by simp [results, Try.results5, go_sem]) rfl ⟨_, rfl, own_nil _ _ _, ?_⟩
    first | exact H0.out | exact (H0.out.setCell (Nat.le_refl _) _).setCell (Nat.le_refl _) _

theorem ent_spPut : enters Try.prog 10 := enters_of Try.func10 (by kernel_rfl) (by kernel_rfl)
theorem bare {w : World} {b : Nat} {T : TypeId} {x y : Value} (h : w.heap[b]? = some (.cells #[x, y] T)) (u : Value) : (w.setCell ⟨b, 1, none⟩ u).heap[b]? = some (.cells #[x, u] T) := by
  rw [hp_set _ _ _ _ _ _ h]; rfl

set_option maxHeartbeats 2000000 in
theorem specLineSpace_c (n : Int) (w : World) :
    Calls Try.prog 4 #[.int .i64 n] w fun e w' => ∃ v, e = .returned (.tuple #[.agg #[.int .i64 (liN n), v], .bool (liB n)]) ∧ own 3 w' w.heap.size v (liL n) ∧ Below w.heap.size w w' := by
  have H0 := hide ((Below.refl w.heap.size w).alloc (Nat.le_refl _) (.cells #[.int .i64 0, .slice none 0 0] 24))
  have hs0 : (w.alloc (.cells #[.int .i64 0, .slice none 0 0] 24)).heap[w.heap.size]? = some (.cells #[.int .i64 0, .slice none 0 0] 24) := hp_last _ _
  have HS0 := hide hs0
  clear hs0
  by_cases hn : 1 ≤ n ∧ n ≤ 7
  · have HE := hide (show liB n = true ∧ liN n = n ∧ liL n = setsTo (lnOut n.toNat (n.toNat + 1)) 128 from ⟨by rw [liB, decide_eq_true hn], by rw [liN, if_pos hn], by rw [liL, if_pos hn]⟩)
    obtain ⟨m, rfl⟩ := Int.eq_ofNat_of_zero_le (show 0 ≤ n by omega)
    have HN := hide hn
    have hm7 : m ≤ 7 := by omega
    have HSAME := hide (line_same m (by omega) hm7)
    clear hn
    rw [HE.out.1, HE.out.2.1, HE.out.2.2, Int.toNat_natCast, ← HSAME.out]
    have hlo := low_lt m hm7
    have hp1 := wrap_p2 m (by omega)
    have hp2 : IntKind.i64.wrap (2 ^ m) = (p2 m : Int) := by rw [IntWalk.i64_left]; exact hp1
    have hp3 := wrap_low m (by omega)
    have HS1 := hide (show ((w.alloc (.cells #[.int .i64 0, .slice none 0 0] 24)).alloc (.cells #[.int .i64 (m : Int), .slice none 0 0] 24)).heap[w.heap.size]? = some (.cells #[.int .i64 0, .slice none 0 0] 24) from (hp_old _ _ _ (by simp)).trans HS0.out)
    have HT1 := hide (show ((w.alloc (.cells #[.int .i64 0, .slice none 0 0] 24)).alloc (.cells #[.int .i64 (m : Int), .slice none 0 0] 24)).heap[w.heap.size + 1]? = some (.cells #[.int .i64 (m : Int), .slice none 0 0] 24) by
      have := hp_last (w.alloc (.cells #[.int .i64 0, .slice none 0 0] 24)) (.cells #[.int .i64 (m : Int), .slice none 0 0] 24)
      simpa using this)
    have HB1 := hide (H0.out.alloc (by simp) (.cells #[.int .i64 (m : Int), .slice none 0 0] 24))
    have HZ1 := hide (show w.heap.size + 2 ≤ ((w.alloc (.cells #[.int .i64 0, .slice none 0 0] 24)).alloc (.cells #[.int .i64 (m : Int), .slice none 0 0] 24)).heap.size by simp)
    go_enter Try.func4, Try.ntmps4
    go_wp2_with (first
      | (go_at_call 9; refine (spItems_c _ _).mono ?_; rw [decide_eq_true HN.out]; rintro e w1 ⟨rfl, rfl⟩))
    go_loopw [6] (fun iv wr => ∃ i : Nat, i ≤ m + 1 ∧ iv = .int .i64 i ∧ Hid (∃ sv, own 3 wr (w.heap.size + 2) sv (setsTo (lsOut m i) 128) ∧ wr.heap[w.heap.size + 1]? = some (.cells #[.int .i64 (m : Int), sv] 24)) ∧ Hid (wr.heap[w.heap.size]? = some (.cells #[.int .i64 0, .slice none 0 0] 24)) ∧ Hid (Below w.heap.size w wr) ∧ w.heap.size + 2 ≤ wr.heap.size) (fun iv _ => m + 1 - (intOf iv).toNat)
    case atStart => exact ⟨0, by omega, rfl, ⟨_, by rw [show lsOut m 0 = noSet from rfl, ← sets_none]; exact own_nil _ _ _, HT1.out⟩, HS1, HB1, HZ1.out⟩
    case round =>
      obtain ⟨i, hi, rfl, HO, HS, HB, hsz⟩ := hrel
      clear HS1 HT1 HB1 HZ1
      by_cases hlt : i < m + 1
      · have hlt2 : ((i : Int) ≤ (m : Int)) := by omega
        have hlt3 : i ≤ m := by omega
        have HOU := hide (show lsOut m (i + 1) = lsIn m i (lsOut m i) (m + 1 - i) from rfl)
        have HI0 := hide (show lsIn m i (lsOut m i) 0 = lsOut m i from rfl)
        go_wp2_with fail
        go_loopw [7] (fun jv wr => ∃ d : Nat, i + d ≤ m + 1 ∧ jv = .int .i64 ((i + d : Nat) : Int) ∧ Hid (∃ sv, own 3 wr (w.heap.size + 2) sv (setsTo (lsIn m i (lsOut m i) d) 128) ∧ wr.heap[w.heap.size + 1]? = some (.cells #[.int .i64 (m : Int), sv] 24)) ∧ Hid (wr.heap[w.heap.size]? = some (.cells #[.int .i64 0, .slice none 0 0] 24)) ∧ Hid (Below w.heap.size w wr) ∧ w.heap.size + 2 ≤ wr.heap.size) (fun jv _ => m + 1 - (intOf jv).toNat)
        case atStart => exact ⟨0, by omega, by simp, by rw [HI0.out]; exact HO, HS, HB, by omega⟩
        case round =>
          obtain ⟨d, hd, rfl, HO2, HS2, HB2, hsz2⟩ := hrel
          clear HO HS HB HI0
          have HIN := hide (show lsIn m i (lsOut m i) (d + 1) = upd (lsIn m i (lsOut m i) d) (lsV m (i + d) i) true from rfl)
          have HJ := hide (show i + (d + 1) = i + d + 1 by omega)
          have hij : i ≤ i + d := by omega
          generalize hj : i + d = j at HIN HJ hd hij
          have HJE := hide hj
          clear hj
          by_cases hltj : j < m + 1
          · have hltj2 : ((j : Int) ≤ (m : Int)) := by omega
            have hltj3 : j ≤ m := by omega
            have hv := lsV_lt m j i hm7
            have hpj := wrap_p2 j (by omega)
            have hpj2 : IntKind.i64.wrap (2 ^ j) = (p2 j : Int) := by rw [IntWalk.i64_left]; exact hpj
            have hpi := wrap_p2 i (by omega)
            have hpi2 : IntKind.i64.wrap (2 ^ i) = (p2 i : Int) := by rw [IntWalk.i64_left]; exact hpi
            have hmo := p2_mono i j hij
            have hj128 := p2_le128 j (by omega)
            have hsub : IntKind.i64.wrap ((p2 j : Int) - (p2 i : Int)) = ((p2 j - p2 i : Nat) : Int) := by rw [IntWalk.i64_in _ (by omega)]; omega
            have hand : bits .andNot .i64 (low m : Int) ((p2 j - p2 i : Nat) : Int) = (lsV m j i : Int) := by rw [i64_andNot _ _ (by omega)]; unfold lsV; rfl
            generalize hx : lsV m j i = x at hv HIN hand
            generalize lsIn m i (lsOut m i) d = G at HO2 HIN
            obtain ⟨sv, ho2, ht2⟩ := HO2.out
            have HOO := hide ho2
            have HTT := hide ht2
            clear ho2 ht2 HO2
            go_wp2_with fail
            refine wp_region_held (S := fun _ => True) (by kernel_rfl) ?_
            refine wpAnyH_take (i := 0) (v := .pointer (some ⟨w.heap.size + 1, 1, none⟩)) rfl (by kernel_rfl) (by kernel_rfl) (by kernel_rfl) (fun _ _ _ h => h) (.inl ⟨rfl, fun w' _ => by go_simp⟩) trivial ?_
            refine wpAnyH_take (i := 2) (v := .int .i64 (low m : Int)) rfl (by kernel_rfl) (by kernel_rfl) (by kernel_rfl) (fun _ _ _ h => h) (.inl ⟨rfl, fun w' _ => by go_simp⟩) trivial ?_
            refine wpAnyH_take (i := 3) (v := .int .i64 (j : Int)) rfl (by kernel_rfl) (by kernel_rfl) (by kernel_rfl) (fun _ _ _ h => h) (.inl ⟨rfl, fun w' _ => by go_simp⟩) trivial ?_
            refine wpAnyH_take (i := 4) (v := .int .i64 (p2 j : Int)) rfl (by kernel_rfl) (by kernel_rfl) (by kernel_rfl) (fun _ _ _ h => h) (.inl ⟨rfl, fun w' _ => by simp [go_sem, Act.put, hpj2]⟩) trivial ?_
            refine wpAnyH_take (i := 5) (v := .int .i64 (i : Int)) rfl (by kernel_rfl) (by kernel_rfl) (by kernel_rfl) (fun _ _ _ h => h) (.inl ⟨rfl, fun w' _ => by go_simp⟩) trivial ?_
            refine wpAnyH_take (i := 6) (v := .int .i64 (p2 i : Int)) rfl (by kernel_rfl) (by kernel_rfl) (by kernel_rfl) (fun _ _ _ h => h) (.inl ⟨rfl, fun w' _ => by simp [go_sem, Act.put, hpi2]⟩) trivial ?_
            refine wpAnyH_take (i := 7) (v := .int .i64 ((p2 j - p2 i : Nat) : Int)) rfl (by kernel_rfl) (by kernel_rfl) (by kernel_rfl) (fun _ _ _ h => h) (.inl ⟨rfl, fun w' _ => by simp [go_sem, Act.put, hsub]⟩) trivial ?_
            refine wpAnyH_take (i := 8) (v := .int .i64 (x : Int)) rfl (by kernel_rfl) (by kernel_rfl) (by kernel_rfl) (fun _ _ _ h => h) (.inl ⟨rfl, fun w' _ => by simp [go_sem, Act.put, hand]⟩) trivial ?_
            have hcv : wr.cell? ⟨w.heap.size + 1, 1, none⟩ = some sv := cells_at1 HTT.out
            obtain ⟨aa, cc, hsv⟩ := HOO.out.shape
            simp only [Act.put, List.getElem_toArray, List.getElem_cons_zero, List.getElem_cons_succ, List.setIfInBounds_toArray, List.set_cons_zero, List.set_cons_succ]
            refine anyH_op (i := 1) (by kernel_rfl) rfl rfl sv wr.drew ?hq trivial ?_
            case hq => subst hsv; simp [go_sem, hcv]
            have hoo : own 3 wr.drew (w.heap.size + 2) sv (setsTo G 128) := HOO.out
            have hsz3 : w.heap.size + 2 ≤ wr.drew.heap.size := hsz2
            have hcall := spPut_c sv G x wr.drew (w.heap.size + 2) hv hoo hsz3
            simp only [Act.put, List.getElem_toArray, List.getElem_cons_zero, List.getElem_cons_succ, List.setIfInBounds_toArray, List.set_cons_zero, List.set_cons_succ]
            refine anyH_call (i := 9) (by kernel_rfl) rfl rfl 10 ent_spPut _ _ rfl #[sv, .int .i64 (x : Int)] rfl hcall ?_
            rintro e w1 ⟨v1, rfl, ho1, hb1⟩
            have hz1 : wr.heap.size ≤ w1.heap.size := hb1.size
            have ht1 : w1.heap[w.heap.size + 1]? = some (.cells #[.int .i64 (m : Int), sv] 24) := (hb1.block (w.heap.size + 1) (by show _ < wr.heap.size; omega)).trans HTT.out
            have hs1 : w1.heap[w.heap.size]? = some (.cells #[.int .i64 0, .slice none 0 0] 24) := (hb1.block w.heap.size (by show _ < wr.heap.size; omega)).trans HS2.out
            have hbb : Below w.heap.size w w1 := HB2.out.trans ((Below.refl _ _).drew.trans (hb1.mono (by show w.heap.size ≤ wr.heap.size; omega)))
            have c1 := cells_at1 ht1
            have f1 := hp_free ht1 1
            refine ⟨v1, rfl, trivial, ?_⟩
            simp only [Act.put, List.getElem_toArray, List.getElem_cons_zero, List.getElem_cons_succ, List.setIfInBounds_toArray, List.set_cons_zero, List.set_cons_succ]
            refine anyH_op (i := 10) (by kernel_rfl) rfl rfl (.pointer (some ⟨w.heap.size + 1, 1, none⟩)) w1 ?hq2 trivial ?_
            case hq2 => go_simp
            simp only [Act.put, List.getElem_toArray, List.getElem_cons_zero, List.getElem_cons_succ, List.setIfInBounds_toArray, List.set_cons_zero, List.set_cons_succ]
            refine anyH_skip (i := 11) (by kernel_rfl) rfl rfl (w1.setCell ⟨w.heap.size + 1, 1, none⟩ v1) ?hq3 trivial ?_
            case hq3 =>
              obtain ⟨aa2, cc2, hv1⟩ := ho1.shape
              subst hv1
              subst hsv
              simp [go_sem, c1, f1]
            refine wpAnyH_done (by kernel_rfl) ?_ _
            simp only [Act.put, List.getElem_toArray, List.getElem_cons_zero, List.getElem_cons_succ]
            have HO3 := hide (ho1.setLow ⟨w.heap.size + 1, 1, none⟩ (by show w.heap.size + 1 < _; omega) v1)
            have HT3 := hide (bare ht1 v1)
            have HS3 := hide ((hp_setO w1 ⟨w.heap.size + 1, 1, none⟩ w.heap.size v1 (by show w.heap.size ≠ w.heap.size + 1; omega)).trans hs1)
            have HB3 := hide (hbb.setCell (p := ⟨w.heap.size + 1, 1, none⟩) (by show w.heap.size ≤ w.heap.size + 1; omega) v1)
            clear hoo ho1 hb1 ht1 hs1 hbb c1 f1 hcv
            go_wp2
            go_roundw
            case rel => have hje := HJE.out; exact ⟨d + 1, by omega, by rw [show i + (d + 1) = j + 1 by omega]; go_num, ⟨v1, by rw [HIN.out]; exact HO3.out, HT3.out⟩, HS3, HB3, by show w.heap.size + 2 ≤ _; simp [World.setCell]; omega⟩
            case measure => simp [intOf]; omega
          · have hltj2 : ¬ ((j : Int) ≤ (m : Int)) := by omega
            have hltj3 : ¬ j ≤ m := by omega
            have HD := hide (show d = m + 1 - i by have := HJE.out; omega)
            clear hd hltj
            go_wp2
            go_roundw
            case rel => exact ⟨i + 1, by omega, by go_num, by rw [HOU.out, ← HD.out]; exact HO2, HS2, HB2, hsz2⟩
            case measure => simp [intOf]; omega
      · have HKE := hide (show i = m + 1 by omega)
        have hlt2 : ¬ ((i : Int) ≤ (m : Int)) := by omega
        have hlt3 : ¬ i ≤ m := by omega
        obtain ⟨sv, ho, ht⟩ := HO.out
        obtain ⟨aa, cc, hsv⟩ := ho.shape
        subst hsv
        have c0 := cells_at0 HS.out
        have c1 := cells_at1 HS.out
        have f0 := hp_free HS.out 0
        have f1 := hp_free HS.out 1
        have d0 := cells_at0 ht
        have d1 := cells_at1 ht
        have HO5 := hide ho
        clear hi hlt ho ht
        go_wp2
        refine bodyPost_ret (v := .tuple #[.agg #[.int .i64 (m : Int), .slice aa (setsTo (lsOut m i) 128).length cc], .bool true]) (by simp [results, Try.results4, go_sem, c0, c1]) rfl ⟨_, rfl, ?_, ?_⟩
        · rw [← HKE.out]
          exact ((HO5.out.setLow _ (by show w.heap.size < _; omega) _).setLow _ (by show w.heap.size < _; omega) _).mono (by omega)
        · exact (HB.out.setCell (Nat.le_refl _) _).setCell (Nat.le_refl _) _
  · have HN := hide hn
    have HE := hide (show liB n = false ∧ liN n = 0 ∧ liL n = [] from ⟨by rw [liB, decide_eq_false hn], by rw [liN, if_neg hn], by rw [liL, if_neg hn]⟩)
    clear hn
    rw [HE.out.1, HE.out.2.1, HE.out.2.2]
    go_enter Try.func4, Try.ntmps4
    go_wp2_with (first
      | (go_at_call 9; refine (spItems_c _ _).mono ?_; rw [decide_eq_false HN.out]; rintro e w1 ⟨rfl, rfl⟩))
    refine bodyPost_ret (v := .tuple #[.agg #[.int .i64 0, .slice none 0 0], .bool false]) (by simp [results, Try.results4, go_sem]) rfl ⟨_, rfl, own_nil _ _ _, ?_⟩
    first | exact H0.out | exact (H0.out.setCell (Nat.le_refl _) _).setCell (Nat.le_refl _) _
end Go.Proofs.Ytdihjonfhedciaa
