/- Contracts: the space of all sets, the program's and the specification's. -/
import Derived.Test.YtonimjpfaalniaaFre
namespace Go.Proofs.Ytonimjpfaalniaa
open Go.RowKit
set_option maxRecDepth 100000
theorem lt_two_pow_bit {s n i : Nat} (h : s < 2 ^ n) (hb : s.testBit i = true) : i < n := by
  rcases Nat.lt_or_ge i n with h1 | h1
  · exact h1
  · rw [Nat.testBit_lt_two_pow (Nat.lt_of_lt_of_le h (Nat.pow_le_pow_right (by omega) h1))] at hb; cases hb
theorem some_bit {s : Nat} (h : s ≠ 0) : ∃ i, s.testBit i = true := by
  rcases Classical.em (∃ i, s.testBit i = true) with h1 | h1
  · exact h1
  · exfalso
    apply h
    apply Nat.eq_of_testBit_eq
    intro i
    rw [Nat.zero_testBit]
    cases hb : s.testBit i
    · rfl
    · exact absurd ⟨i, hb⟩ h1
theorem free_space (n : Nat) (_ : 1 ≤ n) (h7 : n ≤ 7) : spaceB (cutAt (fun _ => true) (low n + 1)) n = true := by
  have hl : low n + 1 = 2 ^ n := low_succ n
  have h128 := p2_le n 7 h7
  have hF : ∀ x, cutAt (fun _ => true) (low n + 1) x = decide (x < 2 ^ n) := by intro x; simp [cutAt, hl]
  have hp := Nat.two_pow_pos n
  unfold spaceB
  rw [hF, hF, decide_eq_true hp, decide_eq_true (show low n < 2 ^ n by omega)]
  simp only [Bool.true_and, Bool.and_eq_true]
  constructor
  · rw [graded_iff]
    intro s _ hs h0 he
    rw [hF, decide_eq_true_eq] at hs
    obtain ⟨i, hi⟩ := some_bit h0
    have hin := lt_two_pow_bit hs hi
    have h2 := itemsOf_bit (fun i => andNot s (p2 i) != s && cutAt (fun _ => true) (low n + 1) (andNot s (p2 i))) n i
    have h3 : innerOf (cutAt (fun _ => true) (low n + 1)) n s = itemsOf (fun i => andNot s (p2 i) != s && cutAt (fun _ => true) (low n + 1) (andNot s (p2 i))) n := rfl
    rw [← h3, he, Nat.zero_testBit, decide_eq_true hin, hF, decide_eq_true (andNot_lt s (p2 i) n hs)] at h2
    have h4 : andNot s (p2 i) ≠ s := by
      intro e
      have := congrArg (fun z => z.testBit i) e
      simp [andNot_bit, p2_bit, hi] at this
    simp [h4] at h2
  · rw [closed_iff _ (by rw [hF]; simpa using hp) (by intro x hx; rw [hF, decide_eq_true_eq] at hx; omega)]
    intro a b ha hb
    rw [hF, decide_eq_true_eq] at ha hb ⊢
    exact Nat.or_lt_two_pow ha hb

/-- 0, 1, .., k - 1. -/
def upTo (k : Nat) : List Int := (List.range k).map fun j : Nat => (j : Int)
theorem upTo_len (k : Nat) : (upTo k).length = k := by simp [upTo]
theorem upTo_succ (k : Nat) : upTo (k + 1) = upTo k ++ [(k : Int)] := by simp [upTo, List.range_succ]
theorem setsTo_cut (N : Nat) : ∀ k, setsTo (cutAt (fun _ => true) N) k = upTo (min k N)
  | 0 => by simp [setsTo, upTo]
  | k + 1 => by
    rw [setsTo, setsTo_cut N k]
    rcases Nat.lt_or_ge k N with h | h
    · rw [if_pos (by simp [cutAt, h]), show min k N = k by omega, show min (k + 1) N = k + 1 by omega, upTo_succ]
    · rw [if_neg (by simp [cutAt]; omega), show min k N = N by omega, show min (k + 1) N = N by omega]
def frN (n : Int) : Int := if 1 ≤ n ∧ n ≤ 7 then n else 0
def frL (n : Int) : List Int := if 1 ≤ n ∧ n ≤ 7 then upTo (p2 n.toNat) else []
def frB (n : Int) : Bool := decide (1 ≤ n ∧ n ≤ 7)
theorem frL_len (n : Int) : (frL n).length < 1000000000 := by
  unfold frL
  split
  · rename_i h
    rw [upTo_len]
    have : p2 n.toNat ≤ 128 := p2_le n.toNat 7 (by omega)
    omega
  · simp
theorem ord_free (n : Int) : ordOk n true (fun _ => true) = frB n ∧ ordN n true (fun _ => true) = frN n ∧ ordL n true (fun _ => true) = frL n := by
  by_cases h : 1 ≤ n ∧ n ≤ 7
  · have h1 : ordOk n true (fun _ => true) = true := by
      unfold ordOk
      rw [decide_eq_true h, free_space n.toNat (by omega) (by omega)]; rfl
    have hp := p2_le n.toNat 7 (by omega)
    refine ⟨by rw [h1, frB, decide_eq_true h], by rw [ordN_yes h1, frN, if_pos h], ?_⟩
    rw [ordL_yes h1, setsTo_cut, frL, if_pos h, low_succ, show p2 n.toNat = 2 ^ n.toNat from rfl]
    congr 1
    omega
  · have h1 : ordOk n true (fun _ => true) = false := by
      unfold ordOk
      rw [decide_eq_false h]; rfl
    exact ⟨by rw [h1, frB, decide_eq_false h], by rw [ordN_no h1, frN, if_neg h], by rw [ordL_no h1, frL, if_neg h]⟩
attribute [local irreducible] p2 low memB risB

theorem arePairsNil_c (n : Int) (w : World) : Calls Try.prog 84 #[.slice none 0 0, .int .i64 n] w fun e w' => e = .returned (.bool true) ∧ Below w.heap.size w w' := by
  go_enter Try.func84, Try.ntmps84
  go_wp2
  go_loop [12] (fun i => i = .int .i64 0) (fun _ => 0)
  case atStart => rfl
  case round =>
    obtain rfl := hrel
    go_wp2
    go_ret
    exact ⟨rfl, Below.refl _ _⟩
theorem keepsPairsNil_c (s : Int) (w : World) : Calls Try.prog 87 #[.int .i64 s, .slice none 0 0] w fun e w' => e = .returned (.bool true) ∧ Below w.heap.size w w' := by
  go_enter Try.func87, Try.ntmps87
  go_wp2
  go_loop [9] (fun i => i = .int .i64 0) (fun _ => 0)
  case atStart => rfl
  case round =>
    obtain rfl := hrel
    go_wp2
    go_ret
    exact ⟨rfl, Below.refl _ _⟩

theorem implFreeSpace_c (n : Int) (w : World) :
    Calls Try.prog 48 #[.int .i64 n] w fun e w' => ∃ v, e = .returned (.tuple #[.agg #[.int .i64 (frN n), v], .bool (frB n)]) ∧ own 3 w' w.heap.size v (frL n) ∧ Below w.heap.size w w' := by
  have H0 := hide ((Below.refl w.heap.size w).alloc (Nat.le_refl _) (.cells #[.int .i64 0, .slice none 0 0] 28))
  have hs0 : (w.alloc (.cells #[.int .i64 0, .slice none 0 0] 28)).heap[w.heap.size]? = some (.cells #[.int .i64 0, .slice none 0 0] 28) := hp_last _ _
  have HS0 := hide hs0
  have HE := hide (ord_free n)
  clear hs0
  go_enter Try.func48, Try.ntmps48
  go_wp2_with fail
  refine (orderSpace_c n none 0 0 true (fun _ => true) _ (fun w' _ => arePairsNil_c n w') (fun _ _ s _ w' _ => keepsPairsNil_c s w')).mono ?_
  rw [HE.out.1, HE.out.2.1, HE.out.2.2]
  rintro e w1 ⟨v, rfl, ho, hb1⟩
  obtain ⟨aa, cc, hv⟩ := ho.shape
  have hs1 := (hb1.block w.heap.size (by simp)).trans HS0.out
  have c0 : w1.cell? ⟨w.heap.size, 0, none⟩ = some (.int .i64 0) := (by rw [hp_cell hs1]; rfl)
  have c1 : w1.cell? ⟨w.heap.size, 1, none⟩ = some (.slice none 0 0) := (by rw [hp_cell hs1]; rfl)
  have f0 := hp_free hs1 0
  have f1 := hp_free hs1 1
  have HB1 := hide (H0.out.trans (hb1.mono (by simp)))
  have HO := hide ho
  have hz : (w.alloc (.cells #[.int .i64 0, .slice none 0 0] 28)).heap.size = w.heap.size + 1 := by simp
  have HZ := hide hz
  clear hb1 hs1 ho hz
  subst hv
  go_wp2
  refine bodyPost_ret (v := .tuple #[.agg #[.int .i64 (frN n), .slice aa (frL n).length cc], .bool (frB n)]) (by simp [results, Try.results48, go_sem, c0, c1]) rfl ⟨_, rfl, ?_, ?_⟩
  · have hz := HZ.out
    exact ((HO.out.setLow _ (by show w.heap.size < _; omega) _).setLow _ (by show w.heap.size < _; omega) _).mono (by omega)
  · exact (HB1.out.setCell (Nat.le_refl _) _).setCell (Nat.le_refl _) _

set_option maxHeartbeats 400000 in
theorem spFree_c (m : Nat) (hm : m ≤ 7) (w : World) :
    Calls Try.prog 90 #[.int .i64 (m : Int)] w fun e w' => ∃ v, e = .returned v ∧ own 3 w' w.heap.size v (upTo (p2 m)) ∧ Below w.heap.size w w' := by
  have hp := wrap_p2 m hm
  have hp2 : IntKind.i64.wrap (2 ^ m) = (p2 m : Int) := by rw [IntWalk.i64_left]; exact hp
  have h128 := p2_le128 m hm
  go_enter Try.func90, Try.ntmps90
  go_wp2_with fail
  go_loopw [3, 4] (fun v i wr => ∃ k : Nat, k ≤ p2 m ∧ i = .int .i64 k ∧ own 3 wr w.heap.size v (upTo k) ∧ Below w.heap.size w wr) (fun _ i _ => p2 m - (intOf i).toNat)
  case atStart => exact ⟨0, by omega, rfl, own_nil _ _ _, Below.refl _ _⟩
  case round =>
    obtain ⟨k, hk, rfl, ho, hb⟩ := hrel
    have hsz := hb.size
    have hl := upTo_len k
    by_cases hlt : k < p2 m
    · have HO := hide ho
      have HB := hide hb
      have HS := hide (upTo_succ k)
      clear ho hb
      generalize upTo k = l at HO HS hl
      go_wp2_with (at_builtin; refine wpList_append1 sliceT intI rfl _ _ rfl w.heap.size _ _ rfl (HO.out.alloc _) _ (k : Int) rfl ?c1 (by simp; omega) (by omega) ?c2)
      case c1 => simp [go_sem]
      case c2 =>
      intro v' w' ho' hb'
      have HO2 := hide ho'
      have HB2 := hide hb'
      clear ho' hb'
      go_wp2
      go_roundw
      case rel => exact ⟨k + 1, by omega, by go_num, by rw [HS.out]; exact HO2.out, (HB.out.alloc (by omega) _).trans HB2.out⟩
      case measure => simp [intOf]; omega
    · have hk' : k = p2 m := by omega
      have HO := hide ho
      have HB := hide hb
      have HK := hide hk'
      clear ho hb hk'
      go_wp2
      go_ret
      exact ⟨_, rfl, by rw [← HK.out]; exact HO.out, HB.out⟩

theorem specFreeSpace_c (n : Int) (w : World) :
    Calls Try.prog 47 #[.int .i64 n] w fun e w' => ∃ v, e = .returned (.tuple #[.agg #[.int .i64 (frN n), v], .bool (frB n)]) ∧ own 3 w' w.heap.size v (frL n) ∧ Below w.heap.size w w' := by
  have H0 := hide ((Below.refl w.heap.size w).alloc (Nat.le_refl _) (.cells #[.int .i64 0, .slice none 0 0] 28))
  have hs0 : (w.alloc (.cells #[.int .i64 0, .slice none 0 0] 28)).heap[w.heap.size]? = some (.cells #[.int .i64 0, .slice none 0 0] 28) := hp_last _ _
  have HS0 := hide hs0
  clear hs0
  by_cases hn : 1 ≤ n ∧ n ≤ 7
  · have HE := hide (show frB n = true ∧ frN n = n ∧ frL n = upTo (p2 n.toNat) from ⟨by rw [frB, decide_eq_true hn], by rw [frN, if_pos hn], by rw [frL, if_pos hn]⟩)
    obtain ⟨m, rfl⟩ := Int.eq_ofNat_of_zero_le (show 0 ≤ n by omega)
    have HN := hide hn
    clear hn
    rw [HE.out.1, HE.out.2.1, HE.out.2.2, Int.toNat_natCast]
    generalize hL : upTo (p2 m) = L
    have HL := hide hL
    clear hL
    go_enter Try.func47, Try.ntmps47
    go_wp2_with (first
      | (go_at_call 79; refine (spItems_c _ _).mono ?_; rw [decide_eq_true HN.out]; rintro e w1 ⟨rfl, rfl⟩)
      | (go_at_call 90; refine (spFree_c m (by have := HN.out; omega) _).mono ?_; rw [HL.out]; rintro e w1 ⟨v, rfl, ho, hb1⟩; obtain ⟨aa, cc, hv⟩ := ho.shape; have hs1 := (hb1.block w.heap.size (by simp)).trans HS0.out; have c0 : w1.cell? ⟨w.heap.size, 0, none⟩ = some (.int .i64 0) := (by rw [hp_cell hs1]; rfl); have c1 : w1.cell? ⟨w.heap.size, 1, none⟩ = some (.slice none 0 0) := (by rw [hp_cell hs1]; rfl); have f0 := hp_free hs1 0; have f1 := hp_free hs1 1; have HB1 := hide (H0.out.trans (hb1.mono (by simp))); have HO := hide ho; clear hb1 hs1 ho; subst hv))
    refine bodyPost_ret (v := .tuple #[.agg #[.int .i64 (m : Int), .slice aa L.length cc], .bool true]) (by simp [results, Try.results47, go_sem, c0, c1]) rfl ⟨_, rfl, ?_, ?_⟩
    · exact ((HO.out.setLow _ (by show w.heap.size < _; simp) _).setLow _ (by show w.heap.size < _; simp) _).mono (by simp)
    · exact (HB1.out.setCell (Nat.le_refl _) _).setCell (Nat.le_refl _) _
  · have HN := hide hn
    have HE := hide (show frB n = false ∧ frN n = 0 ∧ frL n = [] from ⟨by rw [frB, decide_eq_false hn], by rw [frN, if_neg hn], by rw [frL, if_neg hn]⟩)
    clear hn
    rw [HE.out.1, HE.out.2.1, HE.out.2.2]
    go_enter Try.func47, Try.ntmps47
    go_wp2_with (first
      | (go_at_call 79; refine (spItems_c _ _).mono ?_; rw [decide_eq_false HN.out]; rintro e w1 ⟨rfl, rfl⟩))
    refine bodyPost_ret (v := .tuple #[.agg #[.int .i64 0, .slice none 0 0], .bool false]) (by simp [results, Try.results47, go_sem]) rfl ⟨_, rfl, own_nil _ _ _, ?_⟩
    first | exact H0.out | exact (H0.out.setCell (Nat.le_refl _) _).setCell (Nat.le_refl _) _
end Go.Proofs.Ytonimjpfaalniaa
