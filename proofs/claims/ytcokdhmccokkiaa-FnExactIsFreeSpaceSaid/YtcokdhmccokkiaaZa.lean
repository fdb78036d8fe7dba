/- Mathematics and contracts: free sets. -/
import Derived.Test.YtcokdhmccokkiaaEx
import Derived.Test.YtcokdhmccokkiaaFwh
import Derived.Test.YtcokdhmccokkiaaRn
namespace Go.Proofs.Ytcokdhmccokkiaa
open Go.RowKit
set_option maxRecDepth 100000
set_option linter.unusedSimpArgs false
/-! ### Free sets -/
def frB (F : Nat → Bool) (m s : Nat) : Bool := F (andNot (low m) s) && (itemsOf (exP F m s) m == s)
theorem or_neZ (s i : Nat) : ((s ||| p2 i) != s) = !s.testBit i := by
  rw [Bool.eq_iff_iff]
  simp only [bne_iff_ne, ne_eq, Bool.not_eq_true']
  constructor
  · intro h
    cases hb : s.testBit i
    · rfl
    · exfalso
      apply h
      apply Nat.eq_of_testBit_eq
      intro j
      rw [Nat.testBit_or, p2_bit]
      by_cases hj : i = j
      · subst hj; simp [hb]
      · simp [hj]
  · intro h e
    have := congrArg (fun z => z.testBit i) e
    simp [p2_bit, h] at this
theorem outer_bitZ (F : Nat → Bool) (n s i : Nat) : (outerOf F n s).testBit i = (decide (i < n) && (!s.testBit i && F (s ||| p2 i))) := by
  unfold outerOf
  rw [itemsOf_bit, or_neZ]
theorem an0Z {a b : Nat} : andNot a b = 0 ↔ ∀ i, a.testBit i = true → b.testBit i = true := by
  constructor
  · intro h i hi
    have := congrArg (fun z => z.testBit i) h
    simp only [andNot_bit, Nat.zero_testBit, hi, Bool.true_and, Bool.not_eq_false'] at this
    exact this
  · intro h
    apply Nat.eq_of_testBit_eq
    intro i
    rw [andNot_bit, Nat.zero_testBit]
    cases e : a.testBit i
    · rfl
    · rw [h i e]; rfl
theorem low_bitZ {n i : Nat} : (low n).testBit i = decide (i < n) := low_bit n i
/-- The greatest set within: it is a set, and holds all sets within. -/
theorem within_bit (F : Nat → Bool) (n lim b : Nat) : (withinOf F n lim).testBit b = true ↔ ∃ s, s < 2 ^ n ∧ F s = true ∧ andNot s lim = 0 ∧ s.testBit b = true := by
  unfold withinOf
  rw [orTo_bit, decide_eq_true_eq]
  constructor
  · rintro ⟨i, hi, h⟩
    unfold pickIn at h
    split at h
    · rename_i h2
      rw [Bool.and_eq_true, beq_iff_eq] at h2
      exact ⟨i, hi, h2.1, h2.2, h⟩
    · rw [Nat.zero_testBit] at h; cases h
  · rintro ⟨s, hs, hF, h0, hb⟩
    refine ⟨s, hs, ?_⟩
    unfold pickIn
    rw [if_pos (by rw [hF, h0]; rfl)]
    exact hb
theorem within_has {F : Nat → Bool} {n : Nat} (h : Spc F n) (lim : Nat) : F (withinOf F n lim) = true := by
  have : ∀ k, F (orTo (pickIn F lim) k) = true := by
    intro k
    induction k with
    | zero => exact h.zero
    | succ k ih =>
      refine h.uni _ _ ih ?_
      unfold pickIn
      split
      · rename_i h2
        rw [Bool.and_eq_true] at h2
        exact h2.1
      · exact h.zero
  exact this _
/-- Behind a set, its complement's extreme items are those that come next. -/
theorem free_same {F : Nat → Bool} {n : Nat} (h : Spc F n) {s : Nat} (hs : s < 2 ^ n) (hc : F (andNot (low n) s) = true) : itemsOf (exP F n s) n = outerOf F n (andNot (low n) s) := by
  have hsn : ∀ i, s.testBit i = true → i < n := fun i hi => by
    apply Classical.byContradiction
    intro hge
    rw [Nat.testBit_lt_two_pow (Nat.lt_of_lt_of_le hs (Nat.pow_le_pow_right (by omega) (show n ≤ i by omega)))] at hi
    cases hi
  apply Nat.eq_of_testBit_eq
  intro i
  rw [itemsOf_bit, outer_bitZ]
  by_cases hi : i < n
  · rw [decide_eq_true hi, Bool.true_and, Bool.true_and, andNot_bit, low_bitZ, decide_eq_true hi, Bool.true_and, Bool.not_not]
    unfold exP
    cases hsi : s.testBit i
    · rfl
    · rw [Bool.true_and, Bool.true_and]
      unfold hullOf
      rw [andNot_bit, low_bitZ, decide_eq_true hi, Bool.true_and, Bool.not_not]
      have hlim : andNot (low n) (andNot s (p2 i)) = (andNot (low n) s ||| p2 i) := by
        apply Nat.eq_of_testBit_eq
        intro j
        rw [andNot_bit, andNot_bit, Nat.testBit_or, andNot_bit, p2_bit, low_bitZ]
        by_cases hj : j < n
        · rw [decide_eq_true hj]
          by_cases hij : i = j
          · subst hij; simp [hsi]
          · simp [hij]
        · rw [decide_eq_false hj]
          have : i ≠ j := by omega
          simp [this]
      rw [hlim, Bool.eq_iff_iff]
      constructor
      · intro hb
        have hW := within_has h (andNot (low n) s ||| p2 i)
        have hWe : withinOf F n (andNot (low n) s ||| p2 i) = (andNot (low n) s ||| p2 i) := by
          apply Nat.eq_of_testBit_eq
          intro j
          rw [Bool.eq_iff_iff]
          constructor
          · intro hj
            obtain ⟨t, _, _, h0, htb⟩ := (within_bit F n _ j).1 hj
            exact an0Z.1 h0 j htb
          · intro hj
            rw [Nat.testBit_or, Bool.or_eq_true] at hj
            rcases hj with hj | hj
            · exact (within_bit F n _ j).2 ⟨andNot (low n) s, h.lt _ hc, hc, an0Z.2 fun k hk => by rw [Nat.testBit_or, hk]; rfl, hj⟩
            · rw [p2_bit, decide_eq_true_eq] at hj
              subst hj; exact hb
        rw [hWe] at hW
        exact hW
      · intro hF
        refine (within_bit F n _ i).2 ⟨andNot (low n) s ||| p2 i, h.lt _ hF, hF, an0Z.2 fun k hk => hk, ?_⟩
        rw [Nat.testBit_or, p2_bit]
        simp
  · rw [decide_eq_false hi]; rfl
attribute [local irreducible] p2 low memB risB
theorem fr_low (F : Nat → Bool) (m s : Nat) (hm7 : m ≤ 7) : itemsOf (exP F m s) m < 128 := by
  have h1 : itemsOf (exP F m s) m < 2 ^ m := itemsOf_lt _ m
  have h2 := p2_le m 7 hm7
  omega
set_option maxHeartbeats 1000000 in
theorem isFree_c (m : Nat) (F : Nat → Bool) (s : Nat) (w : World) (hm7 : m ≤ 7) (hs : s < 128) :
    Calls Try.prog 66 #[.agg (fam (m : Int) F), .int .i64 (s : Int)] w fun e w' => e = .returned (.bool (frB F m s)) ∧ Below w.heap.size w w' := by
  have HB := hide ((Below.refl w.heap.size w).alloc (Nat.le_refl _) (.cells (fam (m : Int) F) 58))
  have HF := hide (famAt.new 58 w (m : Int) F)
  have hlo := low_lt m hm7
  have ha := andNot_lt128 (low m) s hlo
  have han := i64_andNot (low m) s (by omega)
  have hc := HF.out.get (andNot (low m) s) ha
  have HFU := hide (fun (w1 : World) => by have := full_c (m : Int) F w1 (by omega) (by omega); rw [Int.toNat_natCast] at this; exact this)
  have HEX := hide (fun (w1 : World) => extreme_c m F s w1 hm7 hs)
  have hex := fr_low F m s hm7
  have HQ := hide (show frB F m s = (F (andNot (low m) s) && (itemsOf (exP F m s) m == s)) from rfl)
  generalize itemsOf (exP F m s) m = E at hex HEX HQ
  generalize frB F m s = R at HQ ⊢
  generalize andNot (low m) s = C at ha han hc HQ
  generalize low m = L at *
  cases hF : F C
  · rw [hF] at hc
    have HV := hide hF
    clear hF
    go_enter Try.func66, Try.ntmps66
    go_wp2_with (first
      | (refine wpList_load_fam rowT sizeT rfl (.tmp _) rfl _ rfl (m : Int) F HF.out ?_)
      | (go_at_call 67; refine (HFU.out _).mono ?_; rintro e w1 ⟨rfl, hb1⟩; have HB1 := hide (HB.out.trans (hb1.mono (by simp))); have hc1 := (hb1.cell (p := ⟨w.heap.size, 1 + C, none⟩) (by simp)).trans hc; clear hb1))
    go_ret
    exact ⟨ret_b (by simp [HQ.out, HV.out]), HB1.out⟩
  · rw [hF] at hc
    have HV := hide hF
    clear hF
    go_enter Try.func66, Try.ntmps66
    go_wp2_with (first
      | (refine wpList_load_fam rowT sizeT rfl (.tmp _) rfl _ rfl (m : Int) F HF.out ?_)
      | (refine wpList_load_fam rowT sizeT rfl (.tmp _) rfl _ rfl (m : Int) F HF1.out ?_)
      | (go_at_call 67; refine (HFU.out _).mono ?_; rintro e w1 ⟨rfl, hb1⟩; have hz1 := hb1.size; have HF1 := hide (HF.out.below hb1 HF.out.lt); have HB1 := hide (HB.out.trans (hb1.mono (by simp))); have hc1 := (hb1.cell (p := ⟨w.heap.size, 1 + C, none⟩) (by simp)).trans hc; clear hb1)
      | (go_at_call 88; refine (HEX.out _).mono ?_; rintro e w2 ⟨rfl, hb2⟩; have HB2 := hide (HB1.out.trans (hb2.mono (by simp at hz1; omega))); clear hb2))
    go_ret
    exact ⟨ret_b (by rw [HQ.out, HV.out, Bool.eq_iff_iff]; simp; try omega), HB2.out⟩
theorem ent_isFree : enters Try.prog 66 := enters_of Try.func66 (by kernel_rfl) (by kernel_rfl)
set_option maxHeartbeats 1000000 in
theorem freeSets_c (m : Nat) (F : Nat → Bool) (w : World) (hm7 : m ≤ 7) :
    Calls Try.prog 61 #[.agg (fam (m : Int) F)] w fun e w' => e = .returned (.agg (fam (m : Int) (cutAt (frB F m) (low m + 1)))) ∧ Below w.heap.size w w' := by
  have HB := hide (((Below.refl w.heap.size w).alloc (Nat.le_refl _) (.cells (fam (m : Int) F) 58)).alloc (by simp) (.cells (fam 0 noSet) 58))
  have HF := hide ((famAt.new 58 w (m : Int) F).alloc (.cells (fam 0 noSet) 58))
  have HR := hide (show famAt 58 ((w.alloc (.cells (fam (m : Int) F) 58)).alloc (.cells (fam 0 noSet) 58)) (w.heap.size + 1) 0 noSet by have h := famAt.new 58 (w.alloc (.cells (fam (m : Int) F) 58)) 0 noSet; simpa using h)
  have HZ := hide (show ((w.alloc (.cells (fam (m : Int) F) 58)).alloc (.cells (fam 0 noSet) 58)).heap.size = w.heap.size + 2 by simp)
  have h00 := HF.out.get0
  have hp7 := p2_le m 7 hm7
  have HFW := hide (fun (w1 : World) => familyWhere_c m 66 #[.agg (fam (m : Int) F)] #[] (frB F m) w1 hm7 ent_isFree (fun s w2 hs hb => isFree_c m F s w2 hm7 (by omega)))
  go_enter Try.func61, Try.ntmps61
  go_wp2_with (first
    | (refine wpList_alloc_fam zeroT rfl rfl _ (by first | (simp only [World.size_alloc]; rfl) | rfl) ?_)
    | (refine wpList_load_fam rowT sizeT rfl (.tmp _) rfl _ rfl (m : Int) F HF.out ?_)
    | (go_at_call 86; refine (HFW.out _).mono ?_; rintro e w1 ⟨rfl, hb1⟩; have HR1 := hide (HR.out.below hb1 (by rw [HZ.out]; omega)); have HB1 := hide (HB.out.trans (hb1.mono (by rw [HZ.out]; omega))); clear hb1)
    | (refine wpList_store_fam sizeT rfl (.tmp _) (.tmp _) rfl (w.heap.size + 1) _ _ rfl rfl _ _ HR1.out ?_))
  exact bodyPost_ret (v := .agg (fam (m : Int) (cutAt (frB F m) (low m + 1)))) (results_fam rowT sizeT rfl _ _ (w.heap.size + 1) rfl _ _ (HR1.out.row _ _)) rfl ⟨rfl, bl_row HB1.out (by omega) _⟩
end Go.Proofs.Ytcokdhmccokkiaa
