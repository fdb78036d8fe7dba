/- Contracts: LeastAbove, the specification's and the program's. -/
import Derived.Test.YtfmegbpoohiepaaLeM
import Derived.Test.YtfmegbpoohiepaaWi
namespace Go.Proofs.Ytfmegbpoohiepaa
open Go.RowKit
set_option maxRecDepth 100000
attribute [local irreducible] p2 low memB risB pc

def leastR (n : Int) (l : List Int) (x : Int) : Int := if okSet n l x then (fewTo l x.toNat (low n.toNat) l.length : Int) else 0
theorem leastR_no {n : Int} {l : List Int} {x : Int} (h : okSet n l x = false) : leastR n l x = 0 := by simp [leastR, h]
theorem leastR_yes {n : Int} {l : List Int} {x : Int} (h : okSet n l x = true) : leastR n l x = (fewTo l x.toNat (low n.toNat) l.length : Int) := by simp [leastR, h]
theorem few_lt (l : List Int) (s b : Nat) (hb : b < 128) (hl : ∀ j, j < l.length → nth l j < 128) : ∀ m, m ≤ l.length → fewTo l s b m < 128
  | 0, _ => hb
  | m + 1, hm => by
    unfold fewTo
    split
    · exact hl _ (by omega)
    · exact few_lt l s b hb hl m (by omega)

set_option maxHeartbeats 1200000 in
theorem specLeastAbove_c (n : Int) (v : Value) (l : List Int) (x : Int) (w : World) (hl : ints w.heap.size w v l) (hlen : l.length < 1000000000) :
    Calls Try.prog 5 #[.agg #[.int .i64 n, v], .int .i64 x] w fun e w' => e = .returned (.tuple #[.int .i64 (leastR n l x), .bool (okSet n l x)]) ∧ Below w.heap.size w w' := by
  have HL := hide ((hl.alloc (.cells #[.int .i64 n, v] 28)).mono (show w.heap.size ≤ (w.alloc (.cells #[.int .i64 n, v] 28)).heap.size by simp))
  clear hl
  cases hok : okSet n l x
  · have HR := hide (leastR_no hok)
    have HK := hide hok
    clear hok
    go_enter Try.func5, Try.ntmps5
    go_wp2_with (go_at_call 10; refine (spSet_c n v l x _ HL.out hlen).mono ?_; rw [HK.out]; rintro e w' ⟨rfl, hb⟩)
    go_ret2
    exact ⟨by rw [HR.out]; rfl, ((Below.refl _ _).alloc (Nat.le_refl _) _).trans (hb.mono (by simp))⟩
  · obtain ⟨hi0, hi1⟩ := okSet_in hok
    obtain ⟨hn1, hn2⟩ := okSp_n (okSet_sp hok)
    obtain ⟨m, rfl⟩ := Int.eq_ofNat_of_zero_le (show (0 : Int) ≤ n by omega)
    obtain ⟨s, rfl⟩ := Int.eq_ofNat_of_zero_le hi0
    have hlo := low_lt m (by omega)
    have hs128 : s < 128 := by simp at hi1; omega
    have hp1 := wrap_p2 m (by omega)
    have hpl := low_succ m
    have hpp := p2_pos m
    have hp2 : p2 m = 2 ^ m := by unfold p2; rfl
    have HP := hide (fun j (hj : j < l.length) => show 0 ≤ l[j]?.getD 0 ∧ l[j]?.getD 0 < 128 by have := okSp_pos (okSet_sp hok) j hj; simp at this; omega)
    have HQ := hide (fun k (hk : k ≤ l.length) => few_lt l s (low m) (by omega) (fun j hj => by have := HP.out j hj; unfold nth; omega) k hk)
    have HR := hide (show leastR (m : Int) l (s : Int) = (fewTo l s (low m) l.length : Int) by rw [leastR_yes hok]; rfl)
    have HK := hide hok
    have HPL := hide hpl
    clear hok hpl
    go_enter Try.func5, Try.ntmps5
    go_wp2_with (first
      | (go_at_call 10; refine (spSet_c m v l s _ HL.out hlen).mono ?_; rw [HK.out]; rintro e w1 ⟨rfl, hb⟩; have c0 : w1.cell? ⟨w.heap.size, 0, none⟩ = some (.int .i64 (m : Int)) := (by (rw [hb.cell (p := ⟨w.heap.size, 0, none⟩) (by simp)]; simp)); have c1 : w1.cell? ⟨w.heap.size, 1, none⟩ = some v := (by (rw [hb.cell (p := ⟨w.heap.size, 1, none⟩) (by simp)]; simp)); have HL1 := hide ((HL.out.below hb (Nat.le_refl _)).mono hb.size); have HB := hide (((Below.refl w.heap.size w).alloc (Nat.le_refl _) (.cells #[.int .i64 (m : Int), v] 28)).trans (hb.mono (by simp))); clear hb)
      | (refine wpList_len sliceT rfl (.tmp _) rfl v rfl w1.heap.size l HL1.out ?_))
    go_loop [6, 7] (fun o i => ∃ k : Nat, k ≤ l.length ∧ i = .int .i64 ((k : Int) - 1) ∧ o = .int .i64 (fewTo l s (low m) (l.length - k) : Int)) (fun _ i => (intOf i + 1).toNat)
    case atStart => exact ⟨l.length, Nat.le_refl _, by go_num, by rw [Nat.sub_self, fewTo]; have hlo1 := HPL.out; have h3 : ((2 : Int) ^ m - 1) = (low m : Int) := (by rw [p2_cast]; omega); have hw : wrap64 ((2 : Int) ^ m - 1) = (low m : Int) := (by rw [h3]; exact IntWalk.wrap64_in _ (by omega)); first | (rw [hw]) | (simp only [hw]) | (simp [hw])⟩
    case round =>
      obtain ⟨k, hk, rfl, rfl⟩ := hrel
      have hq := HQ.out (l.length - k) (by omega)
      have HE := hide (show k = 0 → fewTo l s (low m) l.length = fewTo l s (low m) (l.length - k) from fun h => by rw [h, Nat.sub_zero])
      by_cases hlt : 0 < k
      · obtain ⟨k, rfl⟩ : ∃ j, k = j + 1 := ⟨k - 1, by omega⟩
        have hrk := HP.out k (by omega)
        obtain ⟨a, ha⟩ := Int.eq_ofNat_of_zero_le hrk.1
        have ha128 : a < 128 := by omega
        have hn : nth l k = a := by unfold nth; rw [ha]; rfl
        have HG := hide (show fewTo l s (low m) (l.length - k) = if andNot s a == 0 && decide (pc a ≤ pc (fewTo l s (low m) (l.length - (k + 1)))) then a else fewTo l s (low m) (l.length - (k + 1)) by
          have e : l.length - k = (l.length - (k + 1)) + 1 := by omega
          rw [e, fewTo, show l.length - 1 - (l.length - (k + 1)) = k by omega, hn])
        have HA := hide ha
        clear ha hrk hn
        generalize fewTo l s (low m) (l.length - (k + 1)) = q at hq HG HE ⊢
        have hx := i64_andNot s a (by omega)
        cases hz : (andNot s a == 0)
        · have hz' : ((andNot s a : Int) == 0) = false := by rw [Bool.eq_false_iff] at hz ⊢; simp at hz ⊢; exact hz
          have HZ := hide hz
          clear hz
          go_wp2_with (first | (refine wpList_atI sliceT intS rfl (.tmp _) (.tmp _) rfl v rfl _ rfl k (by omega) w1.heap.size l HL1.out (by omega) ?_; intro ad hcell hblk; rw [HA.out] at hcell) | go_big_quiet_skip)
          go_round
          case rel => exact ⟨k, by omega, by go_num, by rw [HG.out, HZ.out]; rfl⟩
          case measure => simp [intOf] <;> omega
        · have hz' : ((andNot s a : Int) == 0) = true := by simp at hz ⊢; exact hz
          have HZ := hide hz
          clear hz
          by_cases hp : pc a ≤ pc q
          all_goals
            go_wp2_with (first
              | (refine wpList_atI sliceT intS rfl (.tmp _) (.tmp _) rfl v rfl _ rfl k (by omega) w1.heap.size l HL1.out (by omega) ?_; intro ad hcell hblk; rw [HA.out] at hcell)
              | (go_at_call 11; refine (spCount_c _ _ (by omega) (by omega)).mono ?_; rw [Int.toNat_natCast]; rintro e w' ⟨rfl, rfl⟩))
            go_round
            case rel => exact ⟨k, by omega, by go_num, by rw [HG.out, HZ.out]; simp [hp]⟩
            case measure => simp [intOf] <;> omega
      · have HK0 := hide (show k = 0 by omega)
        have hlt' : ¬ (0 ≤ (k : Int) - 1) := by omega
        go_wp2
        go_ret2
        exact ⟨by rw [HR.out, HE.out HK0.out]; rfl, HB.out⟩

theorem implLeastAbove_c (n : Int) (v : Value) (l : List Int) (x : Int) (w : World) (hl : ints w.heap.size w v l) (hlen : l.length < 1000000000) :
    Calls Try.prog 7 #[.agg #[.int .i64 n, v], .int .i64 x] w fun e w' => e = .returned (.tuple #[.int .i64 (leastR n l x), .bool (okSet n l x)]) ∧ Below w.heap.size w w' := by
  have HL := hide ((hl.alloc (.cells #[.int .i64 n, v] 28)).mono (show w.heap.size ≤ (w.alloc (.cells #[.int .i64 n, v] 28)).heap.size by simp))
  clear hl
  have H0 := hide ((Below.refl w.heap.size w).alloc (Nat.le_refl _) (.cells #[.int .i64 n, v] 28))
  have key : ∀ (N : Int) (F : Nat → Bool) (S : Int) (b : Bool), famVal2 n l x = .tuple #[.agg (fam N F), .int .i64 S, .bool b] → 0 ≤ N → N ≤ 7 → 0 ≤ S → S < 128 → leastR n l x = (bestTo F S.toNat (low N.toNat) 128 : Int) → okSet n l x = b →
      Calls Try.prog 7 #[.agg #[.int .i64 n, v], .int .i64 x] w fun e w' => e = .returned (.tuple #[.int .i64 (leastR n l x), .bool (okSet n l x)]) ∧ Below w.heap.size w w' := by
    intro N F S b hv hN0 hN7 hS0 hS7 hr hb0
    have HV := hide hv
    have HR := hide hr
    have HO := hide hb0
    clear hv hr hb0
    go_enter Try.func7, Try.ntmps7
    go_wp2_with (first
      | (go_at_call 13; refine (familyAndSet_c n v l x _ HL.out hlen).mono ?_; rw [HV.out]; rintro e w1 ⟨rfl, hb⟩; have hz := hb.size; simp at hz; have hh := (famAt.new 38 w1 0 noSet).row N F; have HB := hide (bl_row ((H0.out.trans (hb.mono (by simp))).alloc (by omega) (.cells (fam 0 noSet) 38)) (show w.heap.size ≤ w1.heap.size by omega) (fam N F)); clear hb)
      | (refine wpList_alloc_fam zeroT rfl rfl _ (by first | (simp only [World.size_alloc]; rfl) | rfl) ?_)
      | (refine wpList_store_fam sizeT rfl (.tmp _) (.tmp _) rfl _ _ _ rfl rfl _ _ (famAt.new _ _ _ _) ?_)
      | (refine wpList_load_fam rowT sizeT rfl (.tmp _) rfl _ rfl N F hh ?_)
      | (go_at_call 14; refine (leastAbove_c N F S _ hN0 hN7 hS0 hS7).mono ?_; rintro e w3 ⟨rfl, hb3⟩))
    go_ret2
    exact ⟨by rw [HR.out, HO.out]; rfl, HB.out.trans (hb3.mono (by simp [World.setRow]; omega))⟩
  cases hok : okSet n l x
  · rw [← hok]
    exact key 0 noSet 0 false (famVal2_no n l x hok) (by omega) (by omega) (by omega) (by omega) (by rw [leastR_no hok, bestTo_no]; show (0 : Int) = ((low 0 : Nat) : Int); have := low_succ 0; omega) hok
  · obtain ⟨hi0, hi1⟩ := okSet_in hok
    obtain ⟨hn1, hn2⟩ := okSp_n (okSet_sp hok)
    have hlo := low_lt n.toNat (by omega)
    rw [← hok]
    exact key n _ x true (famVal2_yes n l x hok) (by omega) (by omega) hi0 (by omega) (by rw [leastR_yes hok, least_same (okSet_sp hok)]) hok
end Go.Proofs.Ytfmegbpoohiepaa
