/- Contracts: the space of all sets, the program's and the specification's. -/
import Derived.Test.YtcokdhmccokkiaaDoorFre
namespace Go.Proofs.YtcokdhmccokkiaaDoor
open Go.RowKit
set_option maxRecDepth 100000
theorem lt_two_pow_bit {s n i : Nat} (h : s < 2 ^ n) (hb : s.testBit i = true) : i < n := by
  rcases Nat.lt_or_ge i n with h1 | h1
  · exact h1
  · rw [Nat.testBit_lt_two_pow (Nat.lt_of_lt_of_le h (Nat.pow_le_pow_right (by omega) h1))] at hb; cases hb
theorem some_bit {s : Nat} (h : s ≠ 0) : ∃ i, s.testBit i = true := by
  rcases Classical.em (∃ i, s.testBit i = true) with h1 | h1
  · exact h1
  · exfalso
    apply h
    apply Nat.eq_of_testBit_eq
    intro i
    rw [Nat.zero_testBit]
    cases hb : s.testBit i
    · rfl
    · exact absurd ⟨i, hb⟩ h1
theorem free_space (n : Nat) (_ : 1 ≤ n) (h7 : n ≤ 7) : spaceB (cutAt (fun _ => true) (low n + 1)) n = true := by
  have hl : low n + 1 = 2 ^ n := low_succ n
  have h128 := p2_le n 7 h7
  have hF : ∀ x, cutAt (fun _ => true) (low n + 1) x = decide (x < 2 ^ n) := by intro x; simp [cutAt, hl]
  have hp := Nat.two_pow_pos n
  unfold spaceB
  rw [hF, hF, decide_eq_true hp, decide_eq_true (show low n < 2 ^ n by omega)]
  simp only [Bool.true_and, Bool.and_eq_true]
  constructor
  · rw [graded_iff]
    intro s _ hs h0 he
    rw [hF, decide_eq_true_eq] at hs
    obtain ⟨i, hi⟩ := some_bit h0
    have hin := lt_two_pow_bit hs hi
    have h2 := itemsOf_bit (fun i => andNot s (p2 i) != s && cutAt (fun _ => true) (low n + 1) (andNot s (p2 i))) n i
    have h3 : innerOf (cutAt (fun _ => true) (low n + 1)) n s = itemsOf (fun i => andNot s (p2 i) != s && cutAt (fun _ => true) (low n + 1) (andNot s (p2 i))) n := rfl
    rw [← h3, he, Nat.zero_testBit, decide_eq_true hin, hF, decide_eq_true (andNot_lt s (p2 i) n hs)] at h2
    have h4 : andNot s (p2 i) ≠ s := by
      intro e
      have := congrArg (fun z => z.testBit i) e
      simp [andNot_bit, p2_bit, hi] at this
    simp [h4] at h2
  · rw [closed_iff _ (by rw [hF]; simpa using hp) (by intro x hx; rw [hF, decide_eq_true_eq] at hx; omega)]
    intro a b ha hb
    rw [hF, decide_eq_true_eq] at ha hb ⊢
    exact Nat.or_lt_two_pow ha hb

/-- 0, 1, .., k - 1. -/
def upTo (k : Nat) : List Int := (List.range k).map fun j : Nat => (j : Int)
theorem upTo_len (k : Nat) : (upTo k).length = k := by simp [upTo]
theorem upTo_succ (k : Nat) : upTo (k + 1) = upTo k ++ [(k : Int)] := by simp [upTo, List.range_succ]
theorem setsTo_cut (N : Nat) : ∀ k, setsTo (cutAt (fun _ => true) N) k = upTo (min k N)
  | 0 => by simp [setsTo, upTo]
  | k + 1 => by
    rw [setsTo, setsTo_cut N k]
    rcases Nat.lt_or_ge k N with h | h
    · rw [if_pos (by simp [cutAt, h]), show min k N = k by omega, show min (k + 1) N = k + 1 by omega, upTo_succ]
    · rw [if_neg (by simp [cutAt]; omega), show min k N = N by omega, show min (k + 1) N = N by omega]
def frN (n : Int) : Int := if 1 ≤ n ∧ n ≤ 7 then n else 0
def frL (n : Int) : List Int := if 1 ≤ n ∧ n ≤ 7 then upTo (p2 n.toNat) else []
def frB (n : Int) : Bool := decide (1 ≤ n ∧ n ≤ 7)
theorem frL_len (n : Int) : (frL n).length < 1000000000 := by
  unfold frL
  split
  · rename_i h
    rw [upTo_len]
    have : p2 n.toNat ≤ 128 := p2_le n.toNat 7 (by omega)
    omega
  · simp
theorem ord_free (n : Int) : ordOk n true (fun _ => true) = frB n ∧ ordN n true (fun _ => true) = frN n ∧ ordL n true (fun _ => true) = frL n := by
  by_cases h : 1 ≤ n ∧ n ≤ 7
  · have h1 : ordOk n true (fun _ => true) = true := by
      unfold ordOk
      rw [decide_eq_true h, free_space n.toNat (by omega) (by omega)]; rfl
    have hp := p2_le n.toNat 7 (by omega)
    refine ⟨by rw [h1, frB, decide_eq_true h], by rw [ordN_yes h1, frN, if_pos h], ?_⟩
    rw [ordL_yes h1, setsTo_cut, frL, if_pos h, low_succ, show p2 n.toNat = 2 ^ n.toNat from rfl]
    congr 1
    omega
  · have h1 : ordOk n true (fun _ => true) = false := by
      unfold ordOk
      rw [decide_eq_false h]; rfl
    exact ⟨by rw [h1, frB, decide_eq_false h], by rw [ordN_no h1, frN, if_neg h], by rw [ordL_no h1, frL, if_neg h]⟩
attribute [local irreducible] p2 low memB risB

theorem arePairsNil_c (n : Int) (w : World) : Calls Tryd.prog 97 #[.slice none 0 0, .int .i64 n] w fun e w' => e = .returned (.bool true) ∧ Below w.heap.size w w' := by
  go_enter Tryd.func97, Tryd.ntmps97
  go_wp2
  go_loop [12] (fun i => i = .int .i64 0) (fun _ => 0)
  case atStart => rfl
  case round =>
    obtain rfl := hrel
    go_wp2
    go_ret
    exact ⟨rfl, Below.refl _ _⟩
theorem keepsPairsNil_c (s : Int) (w : World) : Calls Tryd.prog 100 #[.int .i64 s, .slice none 0 0] w fun e w' => e = .returned (.bool true) ∧ Below w.heap.size w w' := by
  go_enter Tryd.func100, Tryd.ntmps100
  go_wp2
  go_loop [9] (fun i => i = .int .i64 0) (fun _ => 0)
  case atStart => rfl
  case round =>
    obtain rfl := hrel
    go_wp2
    go_ret
    exact ⟨rfl, Below.refl _ _⟩

theorem implFreeSpace_c (n : Int) (w : World) :
    Calls Tryd.prog 58 #[.int .i64 n] w fun e w' => ∃ v, e = .returned (.tuple #[.agg #[.int .i64 (frN n), v], .bool (frB n)]) ∧ own 3 w' w.heap.size v (frL n) ∧ Below w.heap.size w w' := by
  have H0 := hide ((Below.refl w.heap.size w).alloc (Nat.le_refl _) (.cells #[.int .i64 0, .slice none 0 0] 29))
  have hs0 : (w.alloc (.cells #[.int .i64 0, .slice none 0 0] 29)).heap[w.heap.size]? = some (.cells #[.int .i64 0, .slice none 0 0] 29) := hp_last _ _
  have HS0 := hide hs0
  have HE := hide (ord_free n)
  clear hs0
  go_enter Tryd.func58, Tryd.ntmps58
  go_wp2_with fail
  refine (orderSpace_c n none 0 0 true (fun _ => true) _ (fun w' _ => arePairsNil_c n w') (fun _ _ s _ w' _ => keepsPairsNil_c s w')).mono ?_
  rw [HE.out.1, HE.out.2.1, HE.out.2.2]
  rintro e w1 ⟨v, rfl, ho, hb1⟩
  obtain ⟨aa, cc, hv⟩ := ho.shape
  have hs1 := (hb1.block w.heap.size (by simp)).trans HS0.out
  have c0 : w1.cell? ⟨w.heap.size, 0, none⟩ = some (.int .i64 0) := (by rw [hp_cell hs1]; rfl)
  have c1 : w1.cell? ⟨w.heap.size, 1, none⟩ = some (.slice none 0 0) := (by rw [hp_cell hs1]; rfl)
  have f0 := hp_free hs1 0
  have f1 := hp_free hs1 1
  have HB1 := hide (H0.out.trans (hb1.mono (by simp)))
  have HO := hide ho
  have hz : (w.alloc (.cells #[.int .i64 0, .slice none 0 0] 29)).heap.size = w.heap.size + 1 := by simp
  have HZ := hide hz
  clear hb1 hs1 ho hz
  subst hv
  go_wp2
  refine bodyPost_ret (v := .tuple #[.agg #[.int .i64 (frN n), .slice aa (frL n).length cc], .bool (frB n)]) (by simp [results, Tryd.results58, go_sem, c0, c1]) rfl ⟨_, rfl, ?_, ?_⟩
  · have hz := HZ.out
    exact ((HO.out.setLow _ (by show w.heap.size < _; omega) _).setLow _ (by show w.heap.size < _; omega) _).mono (by omega)
  · exact (HB1.out.setCell (Nat.le_refl _) _).setCell (Nat.le_refl _) _

end Go.Proofs.YtcokdhmccokkiaaDoor
