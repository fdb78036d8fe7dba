/- Contracts: whether a list is a word of a family and the set of its items, the program's and the specification's. -/
import Derived.Test.YtbcohlnimmoifaaFam
namespace Go.Proofs.Ytbcohlnimmoifaa
open Go.RowKit
set_option maxRecDepth 100000
theorem p2_lt_pow (i n : Nat) (h : i < n) : p2 i < 2 ^ n := p2_lt i n h
attribute [local irreducible] p2 low memB risB
theorem ent_l1InW : enters Try.prog 41 := enters_of Try.func41 (by kernel_rfl) (by kernel_rfl)
theorem ent_spInW : enters Try.prog 42 := enters_of Try.func42 (by kernel_rfl) (by kernel_rfl)

/-- The set of the first k items. -/
def setTo (l : List Int) : Nat → Nat
  | 0 => 0
  | k + 1 => setTo l k ||| p2 (l[k]?.getD 0).toNat
def stepB (F : Nat → Bool) (n s : Nat) (x : Int) : Bool := decide (0 ≤ x ∧ x < (n : Int)) && (!s.testBit x.toNat && F (s ||| p2 x.toNat))
/-- Whether the first k items are a word. -/
def wordTo (F : Nat → Bool) (n : Nat) (l : List Int) : Nat → Bool
  | 0 => true
  | k + 1 => wordTo F n l k && stepB F n (setTo l k) (l[k]?.getD 0)
def wordB (F : Nat → Bool) (n : Nat) (l : List Int) : Bool := wordTo F n l l.length
def wordS (F : Nat → Bool) (n : Nat) (l : List Int) : Nat := if wordB F n l then setTo l l.length else 0
theorem wordTo_false (F : Nat → Bool) (n : Nat) (l : List Int) (k : Nat) (h : wordTo F n l k = false) : ∀ m, k ≤ m → wordTo F n l m = false := by
  intro m hm
  induction m with
  | zero => have : k = 0 := by omega
            subst this; exact h
  | succ m ih =>
    rcases Nat.lt_or_ge k (m + 1) with h1 | h1
    · rw [wordTo, ih (by omega)]; rfl
    · have : k = m + 1 := by omega
      subst this; exact h
theorem wordTo_at {F : Nat → Bool} {n : Nat} {l : List Int} {m : Nat} (h : wordTo F n l m = true) : ∀ k, k ≤ m → wordTo F n l k = true := by
  intro k hk
  cases h1 : wordTo F n l k
  · rw [wordTo_false F n l k h1 m hk] at h; cases h
  · rfl
theorem setTo_lt {F : Nat → Bool} {n : Nat} {l : List Int} : ∀ k, wordTo F n l k = true → setTo l k < 2 ^ n
  | 0, _ => by simp [setTo]; exact Nat.two_pow_pos n
  | k + 1, h => by
    rw [wordTo, Bool.and_eq_true] at h
    have h1 := setTo_lt k h.1
    have h2 := h.2
    simp only [stepB, Bool.and_eq_true, decide_eq_true_eq] at h2
    rw [setTo]
    refine Nat.or_lt_two_pow h1 ?_
    exact p2_lt_pow _ _ (by omega)
theorem wordS_no {F : Nat → Bool} {n : Nat} {l : List Int} (h : wordB F n l = false) : wordS F n l = 0 := by simp [wordS, h]
theorem wordS_yes {F : Nat → Bool} {n : Nat} {l : List Int} (h : wordB F n l = true) : wordS F n l = setTo l l.length := by simp [wordS, h]
theorem stepB_congr {F G : Nat → Bool} {n s : Nat} {x : Int} (hn : n ≤ 7) (hs : s < 128) (hF : ∀ x, x < 128 → F x = G x) : stepB F n s x = stepB G n s x := by
  unfold stepB
  by_cases hx : 0 ≤ x ∧ x < (n : Int)
  · rw [hF _ (or_lt128 _ _ hs (p2_lt128 _ (by omega)))]
  · rw [decide_eq_false hx]; rfl
theorem wordTo_congr {F G : Nat → Bool} {n : Nat} {l : List Int} (hn : n ≤ 7) (hF : ∀ x, x < 128 → F x = G x) : ∀ k, wordTo F n l k = wordTo G n l k
  | 0 => rfl
  | k + 1 => by
    rw [wordTo, wordTo, wordTo_congr hn hF k]
    cases h : wordTo G n l k
    · rfl
    · have h1 := setTo_lt k h
      have h2 := p2_le n 7 hn
      rw [stepB_congr hn (by omega) hF]

set_option maxHeartbeats 1000000 in
theorem setOfWord_c (n : Int) (F : Nat → Bool) (v : Value) (l : List Int) (w : World) (hl : ints w.heap.size w v l) (hlen : l.length < 1000000000) (h0 : 0 ≤ n) (h2 : n ≤ 7) :
    Calls Try.prog 56 #[.agg (fam n F), v] w fun e w' => e = .returned (.tuple #[.int .i64 (wordS F n.toNat l : Int), .bool (wordB F n.toNat l)]) ∧ Below w.heap.size w w' := by
  obtain ⟨m, rfl⟩ := Int.eq_ofNat_of_zero_le h0
  rw [Int.toNat_natCast]
  have H0 := hide ((Below.refl w.heap.size w).alloc (Nat.le_refl _) (.cells (fam (m : Int) F) 44))
  have HL := hide (hl.alloc (.cells (fam (m : Int) F) 44))
  have hf0 := famAt.new 44 w (m : Int) F
  clear hl
  go_enter Try.func56, Try.ntmps56
  go_wp2_with (refine wpList_len sliceT rfl (.tmp _) rfl v rfl w.heap.size l HL.out ?_)
  generalize hW : (w.alloc (.cells (fam (m : Int) F) 44)) = W at H0 HL hf0 ⊢
  have hz : W.heap.size = w.heap.size + 1 := by rw [← hW]; simp
  have HZ := hide hz
  have HF := hide hf0
  have hc0 := hf0.get0
  clear hz hf0 hW
  go_loopw [6, 11] (fun o i wr => ∃ k : Nat, k ≤ l.length ∧ i = .int .i64 k ∧ o = .int .i64 (setTo l k : Int) ∧ Hid (wordTo F m l k = true) ∧ wr = W) (fun _ i _ => l.length - (intOf i).toNat)
  case atStart => exact ⟨0, Nat.zero_le _, rfl, rfl, rfl, rfl⟩
  case round =>
    obtain ⟨k, hk, rfl, rfl, HW, rfl⟩ := hrel
    have hlt := setTo_lt k HW.out
    have h7 := p2_le m 7 (by omega)
    have hs128 : setTo l k < 128 := by omega
    clear hlt h7
    by_cases hlt : k < l.length
    · have HG := hide (show wordTo F m l (k + 1) = stepB F m (setTo l k) (l[k]?.getD 0) by rw [wordTo, HW.out]; rfl)
      have HS := hide (show setTo l (k + 1) = setTo l k ||| p2 (l[k]?.getD 0).toNat from rfl)
      generalize hx : l[k]?.getD 0 = x at HG HS
      have HX := hide hx
      clear hx
      generalize setTo l k = s at hs128 HG HS
      have hno : stepB F m s x = false → wordB F m l = false := fun h => wordTo_false F m l (k + 1) (by rw [HG.out, h]) _ (by omega)
      by_cases hin : 0 ≤ x ∧ x < (m : Int)
      · obtain ⟨i, rfl⟩ := Int.eq_ofNat_of_zero_le hin.1
        have hi7 : i < 7 := by omega
        have hor := or_lt128 s (p2 i) hs128 (p2_lt128 i hi7)
        have HIN := hide hin
        have hg := HF.out.get (s ||| p2 i) hor
        have hg2 := HF.out.free (1 + (s ||| p2 i))
        rw [Int.toNat_natCast] at HS
        have hst : stepB F m s (i : Int) = (!s.testBit i && F (s ||| p2 i)) := by
          unfold stepB
          rw [decide_eq_true hin, Int.toNat_natCast]; rfl
        clear hin
        cases hb : s.testBit i
        · cases hm : F (s ||| p2 i)
          · have HN := hide (hno (by rw [hst, hb, hm]; rfl))
            have HB := hide hb
            rw [hm] at hg
            clear hb hm hst hno
            go_wp2_with (first
              | (refine wpList_at sliceT intS rfl (.tmp _) (.tmp _) rfl v rfl k rfl w.heap.size l HL.out hlt ?_; intro ad hcell hblk; rw [HX.out] at hcell)
              | (go_at_call 57; refine (isItem_c _ _ _).mono ?_; rw [decide_eq_true HIN.out]; rintro e w' ⟨rfl, rfl⟩)
              | (go_at_call 58; refine (has_c _ _ _ (by omega) (by omega) (by omega) (by omega)).mono ?_; rw [Int.toNat_natCast, Int.toNat_natCast, HB.out]; rintro e w' ⟨rfl, rfl⟩)
              | (go_at_call 53; refine (with_c _ _ _ (by omega) (by omega) (by omega) (by omega)).mono ?_; rw [Int.toNat_natCast, Int.toNat_natCast]; rintro e w' ⟨rfl, rfl⟩))
            go_ret2
            exact ⟨by rw [wordS_no HN.out, HN.out]; rfl, H0.out⟩
          · have HB := hide hb
            have HY := hide (show wordTo F m l (k + 1) = true by rw [HG.out, hst, hb, hm]; rfl)
            rw [hm] at hg
            clear hb hm hst hno
            go_wp2_with (first
              | (refine wpList_at sliceT intS rfl (.tmp _) (.tmp _) rfl v rfl k rfl w.heap.size l HL.out hlt ?_; intro ad hcell hblk; rw [HX.out] at hcell)
              | (go_at_call 57; refine (isItem_c _ _ _).mono ?_; rw [decide_eq_true HIN.out]; rintro e w' ⟨rfl, rfl⟩)
              | (go_at_call 58; refine (has_c _ _ _ (by omega) (by omega) (by omega) (by omega)).mono ?_; rw [Int.toNat_natCast, Int.toNat_natCast, HB.out]; rintro e w' ⟨rfl, rfl⟩)
              | (go_at_call 53; refine (with_c _ _ _ (by omega) (by omega) (by omega) (by omega)).mono ?_; rw [Int.toNat_natCast, Int.toNat_natCast]; rintro e w' ⟨rfl, rfl⟩))
            go_roundw
            case rel => exact ⟨k + 1, by omega, by go_num, by rw [HS.out], HY, by first | rfl | trivial⟩
            case measure => simp [intOf]; omega
        · have HN := hide (hno (by rw [hst, hb]; rfl))
          have HB := hide hb
          clear hb hst hno
          go_wp2_with (first
            | (refine wpList_at sliceT intS rfl (.tmp _) (.tmp _) rfl v rfl k rfl w.heap.size l HL.out hlt ?_; intro ad hcell hblk; rw [HX.out] at hcell)
            | (go_at_call 57; refine (isItem_c _ _ _).mono ?_; rw [decide_eq_true HIN.out]; rintro e w' ⟨rfl, rfl⟩)
            | (go_at_call 58; refine (has_c _ _ _ (by omega) (by omega) (by omega) (by omega)).mono ?_; rw [Int.toNat_natCast, Int.toNat_natCast, HB.out]; rintro e w' ⟨rfl, rfl⟩))
          go_ret2
          exact ⟨by rw [wordS_no HN.out, HN.out]; rfl, H0.out⟩
      · have HN := hide (hno (by unfold stepB; rw [decide_eq_false hin]; rfl))
        have HIN := hide hin
        clear hin hno
        go_wp2_with (first
          | (refine wpList_at sliceT intS rfl (.tmp _) (.tmp _) rfl v rfl k rfl w.heap.size l HL.out hlt ?_; intro ad hcell hblk; rw [HX.out] at hcell)
          | (go_at_call 57; refine (isItem_c _ _ _).mono ?_; rw [decide_eq_false HIN.out]; rintro e w' ⟨rfl, rfl⟩))
        go_ret2
        exact ⟨by rw [wordS_no HN.out, HN.out]; rfl, H0.out⟩
    · have HK := hide (show k = l.length by omega)
      have HY := hide (show wordB F m l = true by rw [wordB, ← HK.out]; exact HW.out)
      have HSS := hide (show wordS F m l = setTo l k by rw [wordS_yes HY.out, HK.out])
      have hlt' : ¬ ((k : Int) < (l.length : Int)) := by omega
      clear hk
      go_wp2
      go_ret2
      exact ⟨by rw [HSS.out, HY.out]; rfl, H0.out⟩

set_option maxHeartbeats 400000 in
theorem isWord_c (n : Int) (F : Nat → Bool) (v : Value) (l : List Int) (w : World) (hl : ints w.heap.size w v l) (hlen : l.length < 1000000000) (h0 : 0 ≤ n) (h2 : n ≤ 7) :
    Calls Try.prog 51 #[.agg (fam n F), v] w fun e w' => e = .returned (.bool (wordB F n.toNat l)) ∧ Below w.heap.size w w' := by
  have H0 := hide ((Below.refl w.heap.size w).alloc (Nat.le_refl _) (.cells (fam n F) 44))
  have HL := hide ((hl.alloc (.cells (fam n F) 44)).mono (show w.heap.size ≤ (w.alloc (.cells (fam n F) 44)).heap.size by simp))
  have hf0 := famAt.new 44 w n F
  clear hl
  go_enter Try.func51, Try.ntmps51
  go_wp2_with (first
    | (refine wpList_load_fam rowT sizeT rfl (.tmp _) rfl _ rfl n F hf0 ?_)
    | (go_at_call 56; refine (setOfWord_c n F v l _ HL.out hlen h0 h2).mono ?_; rintro e w1 ⟨rfl, hb1⟩; have HB := hide (H0.out.trans (hb1.mono (by simp))); clear hb1))
  go_ret
  exact ⟨rfl, HB.out⟩

end Go.Proofs.Ytbcohlnimmoifaa
