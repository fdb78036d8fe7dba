/- Contracts: IsAntichain, the program's and the specification's. -/
import Derived.Test.YtblglkgmnaklbaaFo
import Derived.Test.YtblglkgmnaklbaaCh
namespace Go.Proofs.Ytblglkgmnaklbaa
open Go.RowKit
set_option maxRecDepth 100000
set_option linter.unusedSimpArgs false
/-- Whether a number is one of the family's sets. -/
def ownB (n : Nat) (F : Nat → Bool) (x : Int) : Bool := decide (0 ≤ x ∧ x ≤ (low n : Int)) && F x.toNat
theorem ownB_in {n : Nat} {F : Nat → Bool} {x : Int} (h7 : n ≤ 7) (h : ownB n F x = true) : (0 ≤ x ∧ x < 128) ∧ F x.toNat = true := by
  unfold ownB at h
  rw [Bool.and_eq_true, decide_eq_true_eq] at h
  have := low_lt n h7
  exact ⟨by omega, h.2⟩
theorem own_mem {n : Int} {l : List Int} (h : okSp n l = true) (x : Int) : ownB n.toNat (marksTo l l.length) x = memB l x := by
  unfold ownB
  by_cases hx : 0 ≤ x ∧ x ≤ (low n.toNat : Int)
  · rw [decide_eq_true hx, Bool.true_and, okSp_marks h, Int.toNat_of_nonneg hx.1]
  · rw [decide_eq_false hx, Bool.false_and]
    cases e : memB l x
    · rfl
    · obtain ⟨j, hj, e2⟩ := (mem_iff l x).1 e
      have := okSp_pos h j hj
      rw [e2] at this
      exact absurd this hx
/-- Whether the first k numbers are different sets. -/
def dfTo (n : Nat) (F : Nat → Bool) (q : List Int) : Nat → Bool
  | 0 => true
  | k + 1 => dfTo n F q k && (ownB n F (q[k]?.getD 0) && !memB (q.take k) (q[k]?.getD 0))
theorem dfTo_iff (n : Nat) (F : Nat → Bool) (q : List Int) : ∀ K, dfTo n F q K = true ↔ ∀ k, k < K → ownB n F (q[k]?.getD 0) = true ∧ memB (q.take k) (q[k]?.getD 0) = false
  | 0 => by simp [dfTo]
  | K + 1 => by
    rw [dfTo, Bool.and_eq_true, Bool.and_eq_true, Bool.not_eq_true', dfTo_iff n F q K]
    constructor
    · rintro ⟨h1, h2⟩ k hk
      rcases Nat.lt_or_ge k K with h | h
      · exact h1 k h
      · have : k = K := by omega
        subst this; exact h2
    · intro h
      exact ⟨fun k hk => h k (by omega), h K (by omega)⟩
theorem dfTo_no {n : Nat} {F : Nat → Bool} {q : List Int} {k : Nat} (h : (ownB n F (q[k]?.getD 0) && !memB (q.take k) (q[k]?.getD 0)) = false) (m : Nat) (hm : k < m) : dfTo n F q m = false := by
  rw [← Bool.not_eq_true, dfTo_iff]
  intro h2
  obtain ⟨h3, h4⟩ := h2 k hm
  rw [h3, h4] at h
  cases h
theorem dfTo_diff {n : Nat} {F : Nat → Bool} {q : List Int} (h : dfTo n F q q.length = true) : ∀ i j, i < q.length → j < q.length → q[i]?.getD 0 = q[j]?.getD 0 → i = j := by
  intro i j hi hj e
  have key : ∀ a b, a < b → b < q.length → q[a]?.getD 0 ≠ q[b]?.getD 0 := by
    intro a b hab hb e
    have h1 := ((dfTo_iff n F q q.length).1 h b hb).2
    rw [(take_mem q b (by omega) _).2 ⟨a, hab, e⟩] at h1
    cases h1
  rcases Nat.lt_trichotomy i j with h1 | h1 | h1
  · exact absurd e (key i j h1 hj)
  · exact h1
  · exact absurd e.symm (key j i h1 hi)
/-- Whether none of the sets has all items of another one. -/
def acB (q : List Int) : Bool := decide (∀ i, i < q.length → ∀ j, j < q.length → i ≠ j → andNot (nth q i) (nth q j) ≠ 0)
theorem acB_iff (q : List Int) : acB q = true ↔ ∀ i, i < q.length → ∀ j, j < q.length → i ≠ j → andNot (nth q i) (nth q j) ≠ 0 := by unfold acB; rw [decide_eq_true_eq]
theorem acB_no {q : List Int} {i j : Nat} (hi : i < q.length) (hj : j < q.length) (hij : i ≠ j) (h : andNot (nth q i) (nth q j) = 0) : acB q = false := by
  rw [← Bool.not_eq_true, acB_iff]
  intro h2
  exact h2 i hi j hj hij h
def iaOk (n : Int) (l q : List Int) : Bool := okSp n l && (decide (q.length ≤ 40) && dfTo n.toNat (marksTo l l.length) q q.length)
def iaB (n : Int) (l q : List Int) : Bool := iaOk n l q && acB q
theorem ia_no {n : Int} {l q : List Int} (h : iaOk n l q = false) : iaB n l q = false := by unfold iaB; rw [h]; rfl
theorem ia_yes {n : Int} {l q : List Int} (h : iaOk n l q = true) : iaB n l q = acB q := by unfold iaB; rw [h]; rfl
theorem iaOk_no1 {n : Int} {l q : List Int} (h : okSp n l = false) : iaOk n l q = false := by unfold iaOk; rw [h]; rfl
theorem iaOk_no2 {n : Int} {l q : List Int} (h : 40 < q.length) : iaOk n l q = false := by unfold iaOk; rw [decide_eq_false (by omega)]; simp
theorem iaOk_is {n : Int} {l q : List Int} (h : okSp n l = true) (h2 : ¬ 40 < q.length) : iaOk n l q = dfTo n.toNat (marksTo l l.length) q q.length := by unfold iaOk; rw [h, decide_eq_true (by omega)]; rfl
theorem nth_int {q : List Int} {k : Nat} (h : 0 ≤ q[k]?.getD 0) : q[k]?.getD 0 = (nth q k : Int) := by unfold nth; rw [Int.toNat_of_nonneg h]
attribute [local irreducible] p2 low memB risB acB dfTo
theorem cnParts_c (x y : Nat) (w : World) (hx : x < 128) : Calls Try.prog 63 #[.int .i64 (x : Int), .int .i64 (y : Int)] w fun e w' => e = .returned (.bool (andNot x y == 0)) ∧ w = w' := by
  have h := i64_andNot x y (by omega)
  generalize andNot x y = c at h
  by_cases hc : c = 0
  · subst hc
    go_enter Try.func63, Try.ntmps63
    go_wp2
    go_ret
    exact ⟨by simp, rfl⟩
  · have hb0 : ((c : Int) == 0) = false := by simp; omega
    go_enter Try.func63, Try.ntmps63
    go_wp2
    go_ret
    exact ⟨by simp [hc], rfl⟩
set_option maxHeartbeats 2000000 in
theorem cnAntichain_c (u : Value) (q : List Int) (w : World) (hq : ints w.heap.size w u q) (hlen : q.length < 1000000000) (hr : ∀ j, j < q.length → 0 ≤ q[j]?.getD 0 ∧ q[j]?.getD 0 < 128) :
    Calls Try.prog 51 #[u] w fun e w' => e = .returned (.bool (acB q)) ∧ Below w.heap.size w w' := by
  obtain ⟨ua, uc, hu⟩ := hq.shape
  subst hu
  have HQ := hide hq
  have HR := hide hr
  have HNO := hide (fun i j hi hj hij h => acB_no (q := q) (i := i) (j := j) hi hj hij h)
  have HYES := hide ((acB_iff q).2)
  clear hq hr
  go_enter Try.func51, Try.ntmps51
  go_wp2_with fail
  go_loopw [9] (fun i wr => ∃ a : Nat, a ≤ q.length ∧ i = .int .i64 (a : Int) ∧ Hid (∀ i', i' < a → ∀ j, j < q.length → i' ≠ j → andNot (nth q i') (nth q j) ≠ 0) ∧ Hid (Below w.heap.size w wr)) (fun i _ => q.length - (intOf i).toNat)
  case atStart => exact ⟨0, Nat.zero_le _, rfl, fun i' h => by omega, Below.refl _ _⟩
  case round =>
    obtain ⟨a, ha, rfl, HJ, HB⟩ := hrel
    have HQW := hide (HQ.out.below HB.out (Nat.le_refl _))
    by_cases hla : a < q.length
    · have hla' : (a : Int) < (q.length : Int) := by omega
      have HX := hide (nth_int (HR.out a hla).1)
      have hx8 : nth q a < 128 := by have h1 := (HR.out a hla).2; have h2 := HX.out; omega
      generalize hxx : nth q a = x at HX hx8
      have HXX := hide hxx
      clear hxx
      go_wp2_with (first
        | (refine wpList_at sliceT intS rfl (.tmp _) (.tmp _) rfl _ rfl a rfl w.heap.size q HQW.out hla ?_; intro ad hcell hblk; rw [HX.out] at hcell))
      go_loopw [16] (fun i wr => ∃ b : Nat, b ≤ q.length ∧ i = .int .i64 (b : Int) ∧ Hid (∀ j, j < b → a ≠ j → andNot x (nth q j) ≠ 0) ∧ Hid (Below w.heap.size w wr)) (fun i _ => q.length - (intOf i).toNat)
      case atStart => exact ⟨0, Nat.zero_le _, rfl, fun j h => by omega, HB⟩
      case round =>
        clear HB HQW hcell
        obtain ⟨b, hb, rfl, HI, HB⟩ := hrel
        have HQW := hide (HQ.out.below HB.out (Nat.le_refl _))
        have hsz := HB.out.size
        by_cases hlb : b < q.length
        · have hlb' : (b : Int) < (q.length : Int) := by omega
          have HY := hide (nth_int (HR.out b hlb).1)
          have hy8 : nth q b < 128 := by have h1 := (HR.out b hlb).2; have h2 := HY.out; omega
          generalize hyy : nth q b = y at HY hy8
          have HYY := hide hyy
          clear hyy
          have HNX := hide (fun (h : a ≠ b → andNot x y ≠ 0) => show ∀ j, j < b + 1 → a ≠ j → andNot x (nth q j) ≠ 0 from fun j hj hne => by
            rcases Nat.lt_or_ge j b with h1 | h1
            · exact HI.out j h1 hne
            · have : j = b := by omega
              subst this
              rw [HYY.out]; exact h hne)
          by_cases hab : a = b
          · have hb1 : ((a : Int) != (b : Int)) = false := by rw [hab]; simp
            have HEN := hide (HNX.out (fun h => absurd hab h))
            clear hab
            go_wp2_with (first
              | (refine wpList_at sliceT intS rfl (.tmp _) (.tmp _) rfl _ rfl b rfl w.heap.size q HQW.out hlb ?_; intro ad2 hcell2 hblk2; rw [HY.out] at hcell2))
            go_roundw
            case rel => exact ⟨b + 1, by omega, by go_num, HEN, HB⟩
            case measure => (simp [intOf] <;> omega)
          · have hb1 : ((a : Int) != (b : Int)) = true := by simp; omega
            cases hw : (andNot x y == 0)
            · have HW := hide hw
              have HEN := hide (HNX.out (fun _ => by simpa using hw))
              clear hw hab
              go_wp2_with (first
                | (refine wpList_at sliceT intS rfl (.tmp _) (.tmp _) rfl _ rfl b rfl w.heap.size q HQW.out hlb ?_; intro ad2 hcell2 hblk2; rw [HY.out] at hcell2)
                | (go_at_call 63; refine (cnParts_c x y _ hx8).mono ?_; rw [HW.out]; rintro e w3 ⟨rfl, rfl⟩))
              go_roundw
              case rel => exact ⟨b + 1, by omega, by go_num, HEN, HB⟩
              case measure => (simp [intOf] <;> omega)
            · have HW := hide hw
              have HEN := hide (HNO.out a b hla hlb hab (by rw [HXX.out, HYY.out]; simpa using hw))
              clear hw hab
              go_wp2_with (first
                | (refine wpList_at sliceT intS rfl (.tmp _) (.tmp _) rfl _ rfl b rfl w.heap.size q HQW.out hlb ?_; intro ad2 hcell2 hblk2; rw [HY.out] at hcell2)
                | (go_at_call 63; refine (cnParts_c x y _ hx8).mono ?_; rw [HW.out]; rintro e w3 ⟨rfl, rfl⟩))
              go_ret
              exact ⟨ret_b HEN.out.symm, HB.out⟩
        · have hlb' : ¬ ((b : Int) < (q.length : Int)) := by omega
          have HNX := hide (show ∀ i', i' < a + 1 → ∀ j, j < q.length → i' ≠ j → andNot (nth q i') (nth q j) ≠ 0 from fun i' hi' j hj hne => by
            rcases Nat.lt_or_ge i' a with h1 | h1
            · exact HJ.out i' h1 j hj hne
            · have : i' = a := by omega
              subst this
              rw [HXX.out]; exact HI.out j (by omega) hne)
          go_wp2
          go_roundw
          case rel => exact ⟨a + 1, by omega, by go_num, HNX, HB⟩
          case measure => (simp [intOf] <;> omega)
    · have hla' : ¬ ((a : Int) < (q.length : Int)) := by omega
      have HEN := hide (HYES.out (fun i hi j hj hne => HJ.out i (by omega) j hj hne))
      go_wp2
      go_ret
      exact ⟨ret_b HEN.out.symm, HB.out⟩
end Go.Proofs.Ytblglkgmnaklbaa
