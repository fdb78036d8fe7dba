/- Contracts of the specification's functions, I: numbers in a range, increasing lists, one set among them. -/
import Derived.Test.YtlgcnablhkmdaaaImpG
namespace Go.Proofs.Ytlgcnablhkmdaaa
open Go.RowKit
set_option maxRecDepth 100000

theorem l1In_c (n lo hi : Int) (w : World) : Calls Try.prog 15 #[.int .i64 n, .int .i64 lo, .int .i64 hi] w fun e w' => e = .returned (.bool (decide (lo ≤ n ∧ n ≤ hi))) ∧ w = w' := by
  by_cases h : lo ≤ n <;> by_cases h2 : n ≤ hi
  all_goals
    go_enter Try.func15, Try.ntmps15
    go_wp2
    go_ret
    exact ⟨ret_b (by simp [h, h2]), rfl⟩

theorem spItems_c (n : Int) (w : World) : Calls Try.prog 14 #[.int .i64 n] w fun e w' => e = .returned (.bool (decide (1 ≤ n ∧ n ≤ 7))) ∧ w = w' := by
  go_enter Try.func14, Try.ntmps14
  go_wp2_with (go_at_call 15; refine (l1In_c _ _ _ _).mono ?_; rintro e w' ⟨rfl, rfl⟩)
  go_ret
  exact ⟨ret_b (by simp), rfl⟩

theorem spIn_c (s i : Int) (w : World) (hs : 0 ≤ s) (hs2 : s < 4611686018427387904) (hi : 0 ≤ i) (hi2 : i ≤ 7) : Calls Try.prog 16 #[.int .i64 s, .int .i64 i] w fun e w' => e = .returned (.bool (s.toNat.testBit i.toNat)) ∧ w = w' := by
  obtain ⟨s, rfl⟩ := Int.eq_ofNat_of_zero_le hs
  obtain ⟨i, rfl⟩ := Int.eq_ofNat_of_zero_le hi
  go_enter Try.func16, Try.ntmps16
  go_wp2
  go_ret
  refine ⟨ret_b ?_, rfl⟩
  rw [Int.toNat_natCast, Int.toNat_natCast, Nat.testBit_eq_decide_div_mod_eq]
  have e : ((s : Int) / 2 ^ i).tmod 2 = ((s / 2 ^ i % 2 : Nat) : Int) := by
    rw [Int.tmod_eq_emod_of_nonneg (Int.ediv_nonneg (by omega) (by exact_mod_cast Nat.zero_le (2 ^ i)))]
    simp
  rw [e, Bool.eq_iff_iff]
  simp only [beq_iff_eq, decide_eq_true_eq]
  omega

/-- Strictly increasing. -/
def inc (l : List Int) : Prop := ∀ i j, i < j → j < l.length → l[i]?.getD 0 < l[j]?.getD 0
def memB (l : List Int) (x : Int) : Bool := decide (∃ j, j < l.length ∧ l[j]?.getD 0 = x)

set_option maxHeartbeats 800000 in
theorem spHas_c (v : Value) (l : List Int) (x : Int) (w : World) (hl : ints w.heap.size w v l) (hinc : inc l) (hlen : l.length < 1000000000) : Calls Try.prog 40 #[v, .int .i64 x] w fun e w' => e = .returned (.bool (memB l x)) ∧ w = w' := by
  have HL := hide hl
  have HI := hide hinc
  clear hl hinc
  go_enter Try.func40, Try.ntmps40
  go_wp2_with (refine wpList_len sliceT rfl (.tmp _) rfl v rfl w.heap.size l HL.out ?_)
  go_loop [5, 6] (fun lo hi => ∃ a b : Nat, a ≤ b ∧ b ≤ l.length ∧ lo = .int .i64 a ∧ hi = .int .i64 b ∧ Hid ((∀ j, j < a → l[j]?.getD 0 < x) ∧ ∀ j, b ≤ j → j < l.length → x ≤ l[j]?.getD 0)) (fun lo hi => ((intOf hi) - (intOf lo)).toNat)
  case atStart => exact ⟨0, l.length, Nat.zero_le _, Nat.le_refl _, rfl, rfl, ⟨fun j hj => by omega, fun j h1 h2 => by omega⟩⟩
  case round =>
    obtain ⟨a, b, hab, hb, rfl, rfl, HR⟩ := hrel
    by_cases hlt : a < b
    · have hm1 : (a + b) / 2 < l.length := by omega
      generalize hy : l[(a + b) / 2]?.getD 0 = y
      have HY := hide hy
      clear hy
      by_cases hyx : y < x
      · go_wp2_with (refine wpList_atI sliceT intS rfl (.tmp _) (.tmp _) rfl v rfl _ rfl ((a + b) / 2) (by omega) w.heap.size l HL.out hm1 ?_; intro ad hcell hblk; rw [HY.out] at hcell)
        go_round
        case rel =>
          refine ⟨(a + b) / 2 + 1, b, by omega, hb, by go_num, rfl, ⟨fun j hj => ?_, HR.out.2⟩⟩
          rcases Nat.lt_or_ge j ((a + b) / 2) with h | h
          · exact Int.lt_trans (HI.out j _ h hm1) (by rw [HY.out]; exact hyx)
          · rw [show j = (a + b) / 2 by omega, HY.out]; exact hyx
        case measure => simp [intOf]; omega
      · go_wp2_with (refine wpList_atI sliceT intS rfl (.tmp _) (.tmp _) rfl v rfl _ rfl ((a + b) / 2) (by omega) w.heap.size l HL.out hm1 ?_; intro ad hcell hblk; rw [HY.out] at hcell)
        go_round
        case rel =>
          refine ⟨a, (a + b) / 2, by omega, by omega, rfl, by go_num, ⟨HR.out.1, fun j h1 h2 => ?_⟩⟩
          rcases Nat.lt_or_ge ((a + b) / 2) j with h | h
          · have := HI.out _ j h h2
            rw [HY.out] at this; omega
          · rw [show j = (a + b) / 2 by omega, HY.out]; omega
        case measure => simp [intOf]; omega
    · have hab' : a = b := by omega
      subst hab'
      by_cases ha : a < l.length
      · generalize hy : l[a]?.getD 0 = y
        have HY := hide hy
        clear hy
        go_wp2_with (first
          | (refine wpList_len sliceT rfl (.tmp _) rfl v rfl w.heap.size l HL.out ?_)
          | (refine wpList_at sliceT intS rfl (.tmp _) (.tmp _) rfl v rfl a rfl w.heap.size l HL.out ha ?_; intro ad hcell hblk; rw [HY.out] at hcell))
        go_ret
        refine ⟨ret_b ?_, rfl⟩
        rw [Bool.eq_iff_iff]
        simp only [memB, decide_eq_true_eq, beq_iff_eq]
        constructor
        · intro h; exact ⟨a, ha, by rw [HY.out]; exact h⟩
        · rintro ⟨j, hj, hjx⟩
          rcases Nat.lt_or_ge j a with h | h
          · have := HR.out.1 j h; omega
          · rcases Nat.lt_or_ge a j with h' | h'
            · have := HI.out a j h' hj
              have := HR.out.2 a (Nat.le_refl _) ha
              omega
            · rw [show j = a by omega, HY.out] at hjx; exact hjx
      · go_wp2_with (refine wpList_len sliceT rfl (.tmp _) rfl v rfl w.heap.size l HL.out ?_)
        go_ret
        refine ⟨ret_b ?_, rfl⟩
        rw [eq_comm]
        simp only [memB, decide_eq_false_iff_not]
        rintro ⟨j, hj, hjx⟩
        have := HR.out.1 j (by omega)
        omega

def innerSp (l : List Int) (s : Nat) (i : Nat) : Bool := s.testBit i && memB l ((s ^^^ p2 i : Nat) : Int)

set_option maxHeartbeats 800000 in
theorem spInner_c (v : Value) (l : List Int) (s : Int) (w : World) (hl : ints w.heap.size w v l) (hinc : inc l) (hlen : l.length < 1000000000) (hs : 0 ≤ s) (hs2 : s < 128) :
    Calls Try.prog 41 #[v, .int .i64 s] w fun e w' => e = .returned (.int .i64 (itemsOf (innerSp l s.toNat) 7 : Int)) ∧ w = w' := by
  obtain ⟨s, rfl⟩ := Int.eq_ofNat_of_zero_le hs
  have HL := hide hl
  have HI := hide hinc
  clear hl hinc
  rw [Int.toNat_natCast]
  go_enter Try.func41, Try.ntmps41
  go_wp2_with fail
  go_loop [5, 6] (fun o i => ∃ k : Nat, k ≤ 7 ∧ i = .int .i64 k ∧ o = .int .i64 (orTo (fun i => if innerSp l s i then p2 i else 0) k : Int)) (fun _ i => 7 - (intOf i).toNat)
  case atStart => exact ⟨0, by omega, rfl, rfl⟩
  case round =>
    obtain ⟨k, hk, rfl, rfl⟩ := hrel
    have hlt : orTo (fun i => if innerSp l s i then p2 i else 0) k < 2 ^ k := itemsOf_lt (innerSp l s) k
    have hlt7 := p2_le k 7 hk
    have HG := hide (show orTo (fun i => if innerSp l s i then p2 i else 0) (k + 1) = orTo (fun i => if innerSp l s i then p2 i else 0) k ||| (if innerSp l s k then p2 k else 0) from rfl)
    have HE := hide (show k = 7 → itemsOf (innerSp l s) 7 = orTo (fun i => if innerSp l s i then p2 i else 0) k from fun h => by subst h; rfl)
    generalize orTo (fun i => if innerSp l s i then p2 i else 0) k = q at hlt HG HE ⊢
    by_cases h7 : k < 7
    · have hp := wrap_p2 k (by omega)
      have hpl := p2_lt128 k h7
      have hx := i64_xor s (p2 k) (by omega) (by omega)
      have ho := i64_or q (p2 k) (by omega) (by omega)
      cases hb : s.testBit k
      · have HB := hide hb
        clear hb
        go_wp2_with (go_at_call 16; refine (spIn_c _ _ _ (by omega) (by omega) (by omega) (by omega)).mono ?_; rw [Int.toNat_natCast, Int.toNat_natCast, HB.out]; rintro e w' ⟨rfl, rfl⟩)
        go_round
        case rel => exact ⟨k + 1, by omega, by go_num, by rw [HG.out]; simp [innerSp, HB.out]⟩
        case measure => simp [intOf]; omega
      · have HB := hide hb
        clear hb
        cases hm : memB l ((s ^^^ p2 k : Nat) : Int)
        all_goals
          have HM := hide hm
          clear hm
          go_wp2_with (first
            | (go_at_call 16; refine (spIn_c _ _ _ (by omega) (by omega) (by omega) (by omega)).mono ?_; rw [Int.toNat_natCast, Int.toNat_natCast, HB.out]; rintro e w' ⟨rfl, rfl⟩)
            | (go_at_call 40; refine (spHas_c v l _ w HL.out HI.out (by omega)).mono ?_; rw [HM.out]; rintro e w' ⟨rfl, rfl⟩))
          go_round
          case rel => exact ⟨k + 1, by omega, by go_num, by rw [HG.out]; simp [innerSp, HB.out, HM.out]⟩
          case measure => simp [intOf]; omega
    · have HK := hide (show k = 7 by omega)
      have h7' : ¬ ((k : Int) < 7) := by omega
      clear hlt hlt7 HG h7
      go_wp2
      go_ret
      exact ⟨ret_i (by rw [HE.out HK.out]), rfl⟩

def risB (lo hi : Int) (l : List Int) : Nat → Bool
  | 0 => true
  | k + 1 => risB lo hi l k && (decide (lo ≤ l[k]?.getD 0 ∧ l[k]?.getD 0 ≤ hi) && !(decide (0 < k) && decide (l[k]?.getD 0 ≤ l[k - 1]?.getD 0)))
theorem risB_false (lo hi : Int) (l : List Int) (k : Nat) (h : risB lo hi l k = false) : ∀ m, k ≤ m → risB lo hi l m = false := by
  intro m hm
  induction m with
  | zero => have : k = 0 := by omega
            subst this; exact h
  | succ m ih =>
    rcases Nat.lt_or_ge k (m + 1) with h1 | h1
    · rw [risB, ih (by omega)]; rfl
    · have : k = m + 1 := by omega
      subst this; exact h

set_option maxHeartbeats 800000 in
theorem l1Rising_c (v : Value) (l : List Int) (lo hi : Int) (w : World) (hl : ints w.heap.size w v l) (hlen : l.length < 1000000000) :
    Calls Try.prog 39 #[v, .int .i64 lo, .int .i64 hi] w fun e w' => e = .returned (.bool (risB lo hi l l.length)) ∧ w = w' := by
  have HL := hide hl
  clear hl
  go_enter Try.func39, Try.ntmps39
  go_wp2_with (refine wpList_len sliceT rfl (.tmp _) rfl v rfl w.heap.size l HL.out ?_)
  go_loop [11] (fun i => ∃ k : Nat, k ≤ l.length ∧ i = .int .i64 k ∧ risB lo hi l k = true) (fun i => l.length - (intOf i).toNat)
  case atStart => exact ⟨0, Nat.zero_le _, rfl, rfl⟩
  case round =>
    obtain ⟨k, hk, rfl, hr⟩ := hrel
    have HR := hide hr
    clear hr
    by_cases hlt : k < l.length
    · generalize hx : l[k]?.getD 0 = x
      have HX := hide hx
      clear hx
      by_cases hin : lo ≤ x ∧ x ≤ hi
      · have HN := hide hin
        clear hin
        by_cases hk0 : 0 < k
        · generalize hy : l[k - 1]?.getD 0 = y
          have HY := hide hy
          clear hy
          by_cases hyx : x ≤ y
          · have hno : risB lo hi l l.length = false := risB_false _ _ _ (k + 1) (by rw [risB, HX.out, HY.out]; simp [hk0, hyx]) _ (by omega)
            have HF := hide hno
            clear hno
            go_wp2_with (first
              | (refine wpList_at sliceT intS rfl (.tmp _) (.tmp _) rfl v rfl k rfl w.heap.size l HL.out hlt ?_; intro ad hcell hblk; rw [HX.out] at hcell)
              | (refine wpList_atI sliceT intS rfl (.tmp _) (.tmp _) rfl v rfl _ rfl (k - 1) (by omega) w.heap.size l HL.out (by omega) ?_; intro ad2 hcell2 hblk2; rw [HY.out] at hcell2)
              | (go_at_call 15; refine (l1In_c _ _ _ _).mono ?_; rw [decide_eq_true HN.out]; rintro e w' ⟨rfl, rfl⟩))
            go_ret
            exact ⟨ret_b HF.out.symm, rfl⟩
          · have hyes : risB lo hi l (k + 1) = true := by rw [risB, HX.out, HY.out, HR.out, decide_eq_true HN.out]; simp; omega
            have HF := hide hyes
            clear hyes
            go_wp2_with (first
              | (refine wpList_at sliceT intS rfl (.tmp _) (.tmp _) rfl v rfl k rfl w.heap.size l HL.out hlt ?_; intro ad hcell hblk; rw [HX.out] at hcell)
              | (refine wpList_atI sliceT intS rfl (.tmp _) (.tmp _) rfl v rfl _ rfl (k - 1) (by omega) w.heap.size l HL.out (by omega) ?_; intro ad2 hcell2 hblk2; rw [HY.out] at hcell2)
              | (go_at_call 15; refine (l1In_c _ _ _ _).mono ?_; rw [decide_eq_true HN.out]; rintro e w' ⟨rfl, rfl⟩))
            go_round
            case rel => exact ⟨k + 1, by omega, by go_num, HF.out⟩
            case measure => simp [intOf]; omega
        · have hk00 : k = 0 := by omega
          subst hk00
          have hyes : risB lo hi l (0 + 1) = true := by rw [risB, HX.out, HR.out, decide_eq_true HN.out]; simp
          have HF := hide hyes
          clear hyes
          go_wp2_with (first
            | (refine wpList_at sliceT intS rfl (.tmp _) (.tmp _) rfl v rfl 0 rfl w.heap.size l HL.out hlt ?_; intro ad hcell hblk; rw [HX.out] at hcell)
            | (go_at_call 15; refine (l1In_c _ _ _ _).mono ?_; rw [decide_eq_true HN.out]; rintro e w' ⟨rfl, rfl⟩))
          go_round
          case rel => exact ⟨0 + 1, by omega, by go_num, HF.out⟩
          case measure => simp [intOf]; omega
      · have hno : risB lo hi l l.length = false := risB_false _ _ _ (k + 1) (by rw [risB, HX.out, decide_eq_false hin]; simp) _ (by omega)
        have HF := hide hno
        have HN := hide hin
        clear hno hin
        go_wp2_with (first
          | (refine wpList_at sliceT intS rfl (.tmp _) (.tmp _) rfl v rfl k rfl w.heap.size l HL.out hlt ?_; intro ad hcell hblk; rw [HX.out] at hcell)
          | (go_at_call 15; refine (l1In_c _ _ _ _).mono ?_; rw [decide_eq_false HN.out]; rintro e w' ⟨rfl, rfl⟩))
        go_ret
        exact ⟨ret_b HF.out.symm, rfl⟩
    · have hk' : k = l.length := by omega
      subst hk'
      go_wp2
      go_ret
      exact ⟨ret_b HR.out.symm, rfl⟩
end Go.Proofs.Ytlgcnablhkmdaaa
