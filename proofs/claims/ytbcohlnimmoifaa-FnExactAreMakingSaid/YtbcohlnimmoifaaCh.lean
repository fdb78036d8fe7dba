/- Contracts: whether a list has each of the first numbers once; the space of a chain: the program's and the specification's. -/
import Derived.Test.YtbcohlnimmoifaaPs
namespace Go.Proofs.Ytbcohlnimmoifaa
open Go.RowKit
set_option maxRecDepth 100000
def anySet : Nat → Bool := fun _ => true
theorem p2_bit' (n i : Nat) : (p2 n).testBit i = decide (n = i) := p2_bit n i
attribute [local irreducible] p2 low memB risB

theorem wordTo_iff (F : Nat → Bool) (n : Nat) (l : List Int) : ∀ k, wordTo F n l k = true ↔ ∀ j, j < k → stepB F n (setTo l j) (l[j]?.getD 0) = true
  | 0 => by simp [wordTo]
  | k + 1 => by
    rw [wordTo, Bool.and_eq_true, wordTo_iff F n l k]
    constructor
    · rintro ⟨h1, h2⟩ j hj
      rcases Nat.lt_or_ge j k with h | h
      · exact h1 j h
      · rw [show j = k by omega]; exact h2
    · intro h
      exact ⟨fun j hj => h j (by omega), h k (by omega)⟩
theorem setTo_bit (l : List Int) (i : Nat) : ∀ k, (setTo l k).testBit i = true ↔ ∃ j, j < k ∧ (l[j]?.getD 0).toNat = i
  | 0 => by simp [setTo]
  | k + 1 => by
    rw [setTo, Nat.testBit_or, Bool.or_eq_true, setTo_bit l i k, p2_bit', decide_eq_true_eq]
    constructor
    · rintro (⟨j, hj, e⟩ | e)
      · exact ⟨j, by omega, e⟩
      · exact ⟨k, by omega, e⟩
    · rintro ⟨j, hj, e⟩
      rcases Nat.lt_or_ge j k with h | h
      · exact .inl ⟨j, h, e⟩
      · have : j = k := by omega
        subst this; exact .inr e
def dupTo (l : List Int) : Nat → Bool
  | 0 => true
  | k + 1 => dupTo l k && !memB (l.take k) (l[k]?.getD 0)
theorem dupTo_iff (l : List Int) : ∀ k, dupTo l k = true ↔ ∀ j, j < k → memB (l.take j) (l[j]?.getD 0) = false
  | 0 => by simp [dupTo]
  | k + 1 => by
    rw [dupTo, Bool.and_eq_true, dupTo_iff l k, Bool.not_eq_true']
    constructor
    · rintro ⟨h1, h2⟩ j hj
      rcases Nat.lt_or_ge j k with h | h
      · exact h1 j h
      · rw [show j = k by omega]; exact h2
    · intro h
      exact ⟨fun j hj => h j (by omega), h k (by omega)⟩
theorem take_mem (l : List Int) (k : Nat) (hk : k ≤ l.length) (x : Int) : memB (l.take k) x = true ↔ ∃ j, j < k ∧ l[j]?.getD 0 = x := by
  rw [mem_iff]
  have hl : (l.take k).length = k := by simp; omega
  constructor
  · rintro ⟨j, hj, e⟩
    rw [hl] at hj
    rw [List.getElem?_take, if_pos hj] at e
    exact ⟨j, hj, e⟩
  · rintro ⟨j, hj, e⟩
    refine ⟨j, by omega, ?_⟩
    rw [List.getElem?_take, if_pos hj]; exact e
theorem ord_same (l : List Int) : (allTo 0 ((l.length : Int) - 1) l l.length && dupTo l l.length) = wordTo anySet l.length l l.length := by
  rw [Bool.eq_iff_iff, Bool.and_eq_true, allTo_iff, dupTo_iff, wordTo_iff]
  constructor
  · rintro ⟨h1, h2⟩ j hj
    have hj1 := h1 j hj
    simp only [stepB, anySet, Bool.and_true, Bool.and_eq_true, decide_eq_true_eq, Bool.not_eq_true']
    refine ⟨by omega, ?_⟩
    have hj2 := h2 j hj
    rw [← Bool.not_eq_true] at hj2 ⊢
    intro hb
    obtain ⟨i, hi, e⟩ := (setTo_bit l _ j).1 hb
    apply hj2
    rw [take_mem l j (by omega)]
    have hi1 := h1 i (by omega)
    exact ⟨i, hi, by omega⟩
  · intro h
    have h1 : ∀ j, j < l.length → 0 ≤ l[j]?.getD 0 ∧ l[j]?.getD 0 ≤ (l.length : Int) - 1 := fun j hj => by
      have := h j hj
      simp only [stepB, Bool.and_eq_true, decide_eq_true_eq] at this
      omega
    refine ⟨h1, fun j hj => ?_⟩
    have hj1 := h j hj
    simp only [stepB, anySet, Bool.and_true, Bool.and_eq_true, decide_eq_true_eq, Bool.not_eq_true'] at hj1
    rw [← Bool.not_eq_true]
    intro hm
    obtain ⟨i, hi, e⟩ := (take_mem l j (by omega) _).1 hm
    have := (setTo_bit l (l[j]?.getD 0).toNat j).2 ⟨i, hi, by rw [e]⟩
    rw [hj1.2] at this; cases this

/-- Whether a list has each of 0, 1, .., its length - 1 once. -/
def okOrd (l : List Int) : Bool := decide (1 ≤ (l.length : Int) ∧ (l.length : Int) ≤ 7) && wordTo anySet l.length l l.length
theorem okOrd_len {l : List Int} (h : okOrd l = true) : 1 ≤ l.length ∧ l.length ≤ 7 := by
  simp only [okOrd, Bool.and_eq_true, decide_eq_true_eq] at h; omega
theorem okOrd_word {l : List Int} (h : okOrd l = true) : wordTo anySet l.length l l.length = true := by
  simp only [okOrd, Bool.and_eq_true] at h; exact h.2

set_option maxHeartbeats 800000 in
theorem isOrder_c (v : Value) (l : List Int) (n : Int) (w : World) (hl : ints w.heap.size w v l) (hlen : l.length < 1000000000) (h0 : 0 ≤ n) (h7 : n ≤ 7) :
    Calls Try.prog 52 #[v, .int .i64 n] w fun e w' => e = .returned (.bool (decide ((l.length : Int) = n) && wordTo anySet n.toNat l l.length)) ∧ w = w' := by
  have HL := hide hl
  clear hl
  obtain ⟨m, rfl⟩ := Int.eq_ofNat_of_zero_le h0
  rw [Int.toNat_natCast]
  by_cases hlm : l.length = m
  · have HD := hide (show (decide ((l.length : Int) = (m : Int)) && wordTo anySet m l l.length) = wordTo anySet m l l.length by rw [decide_eq_true (by omega)]; rfl)
    rw [HD.out]
    have hb1 : ((l.length : Int) != (m : Int)) = false := by simp; omega
    have hb2 : (l.length != m) = false := by simp; omega
    have HLM := hide hlm
    clear hlm
    go_enter Try.func52, Try.ntmps52
    go_wp2_with (refine wpList_len sliceT rfl (.tmp _) rfl v rfl w.heap.size l HL.out ?_)
    go_loop [5, 14] (fun o i => ∃ k : Nat, k ≤ l.length ∧ i = .int .i64 k ∧ o = .int .i64 (setTo l k : Int) ∧ Hid (wordTo anySet m l k = true)) (fun _ i => l.length - (intOf i).toNat)
    case atStart => exact ⟨0, Nat.zero_le _, rfl, rfl, rfl⟩
    case round =>
      obtain ⟨k, hk, rfl, rfl, HW⟩ := hrel
      have hlt := setTo_lt k HW.out
      have h8 := p2_le m 7 (by omega)
      have hs128 : setTo l k < 128 := by omega
      clear hlt h8
      by_cases hlt : k < l.length
      · have HG := hide (show wordTo anySet m l (k + 1) = stepB anySet m (setTo l k) (l[k]?.getD 0) by rw [wordTo, HW.out]; rfl)
        have HS := hide (show setTo l (k + 1) = setTo l k ||| p2 (l[k]?.getD 0).toNat from rfl)
        generalize hx : l[k]?.getD 0 = x at HG HS
        have HX := hide hx
        clear hx
        generalize setTo l k = s at hs128 HG HS
        have hno : stepB anySet m s x = false → wordTo anySet m l l.length = false := fun h => wordTo_false anySet m l (k + 1) (by rw [HG.out, h]) _ (by omega)
        by_cases hin : 0 ≤ x ∧ x < (m : Int)
        · obtain ⟨i, rfl⟩ := Int.eq_ofNat_of_zero_le hin.1
          have hi7 : i < 7 := by omega
          have HIN := hide hin
          rw [Int.toNat_natCast] at HS
          have hst : stepB anySet m s (i : Int) = !s.testBit i := by
            unfold stepB anySet
            rw [decide_eq_true hin, Int.toNat_natCast]; simp
          clear hin
          cases hb : s.testBit i
          · have HB := hide hb
            have HY := hide (show wordTo anySet m l (k + 1) = true by rw [HG.out, hst, hb]; rfl)
            clear hb hst hno
            go_wp2_with (first
              | (refine wpList_at sliceT intS rfl (.tmp _) (.tmp _) rfl v rfl k rfl w.heap.size l HL.out hlt ?_; intro ad hcell hblk; rw [HX.out] at hcell)
              | (go_at_call 57; refine (isItem_c _ _ _).mono ?_; rw [decide_eq_true HIN.out]; rintro e w' ⟨rfl, rfl⟩)
              | (go_at_call 58; refine (has_c _ _ _ (by omega) (by omega) (by omega) (by omega)).mono ?_; rw [Int.toNat_natCast, Int.toNat_natCast, HB.out]; rintro e w' ⟨rfl, rfl⟩)
              | (go_at_call 53; refine (with_c _ _ _ (by omega) (by omega) (by omega) (by omega)).mono ?_; rw [Int.toNat_natCast, Int.toNat_natCast]; rintro e w' ⟨rfl, rfl⟩))
            go_round
            case rel => exact ⟨k + 1, by omega, by go_num, by rw [HS.out], HY⟩
            case measure => simp [intOf]; omega
          · have HN := hide (hno (by rw [hst, hb]; rfl))
            have HB := hide hb
            clear hb hst hno
            go_wp2_with (first
              | (refine wpList_at sliceT intS rfl (.tmp _) (.tmp _) rfl v rfl k rfl w.heap.size l HL.out hlt ?_; intro ad hcell hblk; rw [HX.out] at hcell)
              | (go_at_call 57; refine (isItem_c _ _ _).mono ?_; rw [decide_eq_true HIN.out]; rintro e w' ⟨rfl, rfl⟩)
              | (go_at_call 58; refine (has_c _ _ _ (by omega) (by omega) (by omega) (by omega)).mono ?_; rw [Int.toNat_natCast, Int.toNat_natCast, HB.out]; rintro e w' ⟨rfl, rfl⟩))
            go_ret
            exact ⟨ret_b HN.out.symm, rfl⟩
        · have HN := hide (hno (by unfold stepB; rw [decide_eq_false hin]; rfl))
          have HIN := hide hin
          clear hin hno
          go_wp2_with (first
            | (refine wpList_at sliceT intS rfl (.tmp _) (.tmp _) rfl v rfl k rfl w.heap.size l HL.out hlt ?_; intro ad hcell hblk; rw [HX.out] at hcell)
            | (go_at_call 57; refine (isItem_c _ _ _).mono ?_; rw [decide_eq_false HIN.out]; rintro e w' ⟨rfl, rfl⟩))
          go_ret
          exact ⟨ret_b HN.out.symm, rfl⟩
      · have HK := hide (show k = l.length by omega)
        have HY := hide (show wordTo anySet m l l.length = true by rw [← HK.out]; exact HW.out)
        have hlt' : ¬ ((k : Int) < (l.length : Int)) := by omega
        clear hk
        go_wp2
        go_ret
        exact ⟨ret_b HY.out.symm, rfl⟩
  · have HD := hide (show (decide ((l.length : Int) = (m : Int)) && wordTo anySet m l l.length) = false by rw [decide_eq_false (by omega)]; rfl)
    have hb1 : ((l.length : Int) != (m : Int)) = true := by simp; omega
    have hb2 : (l.length != m) = true := by simp; omega
    have HLM := hide hlm
    clear hlm
    go_enter Try.func52, Try.ntmps52
    go_wp2_with (refine wpList_len sliceT rfl (.tmp _) rfl v rfl w.heap.size l HL.out ?_)
    go_ret
    exact ⟨ret_b HD.out.symm, rfl⟩

set_option maxHeartbeats 800000 in
theorem spOrder_c (v : Value) (l : List Int) (w : World) (base : Nat) (hl : own 3 w base v l) (hlen : l.length < 1000000000) :
    Calls Try.prog 28 #[v] w fun e w' => e = .returned (.bool (okOrd l)) ∧ w = w' := by
  have HO := hide hl
  have HL := hide hl.ints
  have HS := hide (ord_same l)
  clear hl
  by_cases hn : 1 ≤ (l.length : Int) ∧ (l.length : Int) ≤ 7
  · have HN := hide hn
    have hn7 : l.length ≤ 7 := by omega
    have HE := hide (show okOrd l = wordTo anySet l.length l l.length by rw [okOrd, decide_eq_true hn]; rfl)
    rcases HO.out.2 with ⟨hv, h0⟩ | ⟨g, cap, cur, hv, hg1, hg2, hcap, hg3, hg4, hg5⟩
    · omega
    subst hv
    clear hg1 hg2 hg3 hg4 hg5 hn
    cases hall : allTo 0 ((l.length : Int) - 1) l l.length
    · have HA := hide hall
      have HR := hide (show okOrd l = false by rw [HE.out, ← HS.out, hall]; rfl)
      clear hall
      go_enter Try.func28, Try.ntmps28
      go_wp2_with (first
        | (refine wpList_len sliceT rfl (.tmp _) rfl _ rfl w.heap.size l HL.out ?_)
        | (go_at_call 24; refine (spItems_c _ _).mono ?_; rw [decide_eq_true HN.out]; rintro e w' ⟨rfl, rfl⟩)
        | (go_at_call 43; refine (l1All_c _ l 0 ((l.length : Int) - 1) _ HL.out hlen).mono ?_; rw [HA.out]; rintro e w' ⟨rfl, rfl⟩))
      go_ret
      exact ⟨ret_b HR.out.symm, rfl⟩
    · have HA := hide hall
      have HR := hide (show okOrd l = dupTo l l.length by rw [HE.out, ← HS.out, hall]; rfl)
      have HDI := hide (dupTo_iff l l.length)
      clear hall
      go_enter Try.func28, Try.ntmps28
      go_wp2_with (first
        | (refine wpList_len sliceT rfl (.tmp _) rfl _ rfl w.heap.size l HL.out ?_)
        | (go_at_call 24; refine (spItems_c _ _).mono ?_; rw [decide_eq_true HN.out]; rintro e w' ⟨rfl, rfl⟩)
        | (go_at_call 43; refine (l1All_c _ l 0 ((l.length : Int) - 1) _ HL.out hlen).mono ?_; rw [HA.out]; rintro e w' ⟨rfl, rfl⟩))
      go_loop [19] (fun i => ∃ k : Nat, k ≤ l.length ∧ i = .int .i64 k ∧ Hid (∀ j, j < k → memB (l.take j) (l[j]?.getD 0) = false)) (fun i => l.length - (intOf i).toNat)
      case atStart => exact ⟨0, Nat.zero_le _, rfl, fun j hj => by omega⟩
      case round =>
        obtain ⟨k, hk, rfl, HJ⟩ := hrel
        by_cases hlt : k < l.length
        · have HT := hide (take_own HO.out k (by omega) cap)
          have hkc : k ≤ cap := by omega
          have htl : (l.take k).length < 1000000000 := by simp; omega
          have HTL := hide htl
          clear htl
          generalize hx : l[k]?.getD 0 = x
          have HX := hide hx
          clear hx
          cases hm : memB (l.take k) x
          · have HM := hide hm
            clear hm
            generalize htk : l.take k = tk at HT HM HTL
            have HTK := hide htk
            clear htk
            go_wp2_with (first
              | (refine wpList_at sliceT intS rfl (.tmp _) (.tmp _) rfl _ rfl k rfl w.heap.size l HL.out hlt ?_; intro ad hcell hblk; rw [HX.out] at hcell)
              | (go_at_call 44; refine (l1Has_c _ tk x _ HT.out HTL.out).mono ?_; rw [HM.out]; rintro e w' ⟨rfl, rfl⟩))
            go_round
            case rel =>
              refine ⟨k + 1, by omega, by go_num, fun j hj => ?_⟩
              rcases Nat.lt_or_ge j k with h | h
              · exact HJ.out j h
              · rw [show j = k by omega, HX.out, HTK.out]; exact HM.out
            case measure => simp [intOf]; omega
          · have HNO := hide (show okOrd l = false by
              rw [HR.out, ← Bool.not_eq_true, HDI.out]
              intro h
              have := h k hlt
              rw [HX.out, hm] at this; cases this)
            have HM := hide hm
            clear hm
            generalize htk : l.take k = tk at HT HM HTL
            clear htk
            go_wp2_with (first
              | (refine wpList_at sliceT intS rfl (.tmp _) (.tmp _) rfl _ rfl k rfl w.heap.size l HL.out hlt ?_; intro ad hcell hblk; rw [HX.out] at hcell)
              | (go_at_call 44; refine (l1Has_c _ tk x _ HT.out HTL.out).mono ?_; rw [HM.out]; rintro e w' ⟨rfl, rfl⟩))
            go_ret
            exact ⟨ret_b HNO.out.symm, rfl⟩
        · have HK := hide (show k = l.length by omega)
          have hlt' : ¬ ((k : Int) < (l.length : Int)) := by omega
          clear hk
          go_wp2
          go_ret
          refine ⟨ret_b (Eq.symm ?_), rfl⟩
          rw [HR.out, HDI.out]
          exact fun j hj => HJ.out j (by rw [HK.out]; exact hj)
  · have HN := hide hn
    have HR := hide (show okOrd l = false by rw [okOrd, decide_eq_false hn]; rfl)
    clear hn
    go_enter Try.func28, Try.ntmps28
    go_wp2_with (first
      | (refine wpList_len sliceT rfl (.tmp _) rfl _ rfl w.heap.size l HL.out ?_)
      | (go_at_call 24; refine (spItems_c _ _).mono ?_; rw [decide_eq_false HN.out]; rintro e w' ⟨rfl, rfl⟩))
    go_ret
    exact ⟨ret_b HR.out.symm, rfl⟩

/-- The sets of a chain up to its first k items. -/
def chF (l : List Int) : Nat → (Nat → Bool)
  | 0 => upd noSet 0 true
  | k + 1 => upd (chF l k) (setTo l (k + 1)) true
def chN (l : List Int) : Int := if okOrd l then l.length else 0
def chL (l : List Int) : List Int := if okOrd l then setsTo (chF l l.length) 128 else []
theorem chL_len (l : List Int) : (chL l).length < 1000000000 := by
  unfold chL
  split
  · have := setsTo_len (chF l l.length) 128; omega
  · simp

set_option maxHeartbeats 800000 in
theorem spChain_c (v : Value) (l : List Int) (w : World) (hl : ints w.heap.size w v l) (hok : okOrd l = true) :
    Calls Try.prog 29 #[v] w fun e w' => ∃ v', e = .returned v' ∧ own 3 w' w.heap.size v' (setsTo (chF l l.length) 128) ∧ Below w.heap.size w w' := by
  have HL := hide (hl.alloc (.cells #[.int .i64 0] 3))
  have HL0 := hide hl
  have hlen := okOrd_len hok
  have hlen7 := hlen.2
  have HW := hide (okOrd_word hok)
  have H0 := hide ((Below.refl w.heap.size w).alloc (Nat.le_refl _) (.cells #[.int .i64 0] 3))
  have HO0 := hide (show own 3 (w.alloc (.cells #[.int .i64 0] 3)) w.heap.size (.slice (some ⟨w.heap.size, 0, none⟩) 1 1) (setsTo (upd noSet 0 true) 128) by
    rw [← sets_zero]
    exact ⟨by simp, .inr ⟨w.heap.size, 1, #[.int .i64 0], rfl, Nat.le_refl _, hp_last _ _, Nat.le_refl _, by unfold maxLen; omega, by simp, by simp⟩⟩)
  clear hl hok hlen
  go_enter Try.func29, Try.ntmps29
  go_wp2_with (refine wpList_len sliceT rfl (.tmp _) rfl _ rfl w.heap.size l HL.out ?_)
  go_loopw [3, 4, 10] (fun o a i wr => ∃ k : Nat, k ≤ l.length ∧ i = .int .i64 k ∧ a = .int .i64 (setTo l k : Int) ∧ Hid (own 3 wr w.heap.size o (setsTo (chF l k) 128)) ∧ Hid (Below w.heap.size w wr)) (fun _ _ i _ => l.length - (intOf i).toNat)
  case atStart => exact ⟨0, Nat.zero_le _, rfl, rfl, HO0, H0⟩
  case round =>
    obtain ⟨k, hk, rfl, rfl, HO, HB⟩ := hrel
    have hw := wordTo_at HW.out k hk
    have hlt := setTo_lt k hw
    have h8 := p2_le l.length 7 (by omega)
    have hs128 : setTo l k < 128 := by omega
    have HLW := hide (HL0.out.below HB.out (Nat.le_refl _))
    clear hw hlt h8 HO0
    by_cases hlt : k < l.length
    · have hw1 := wordTo_at HW.out (k + 1) (by omega)
      have hl1 := setTo_lt (k + 1) hw1
      have hst := (wordTo_iff anySet l.length l (k + 1)).1 hw1 k (by omega)
      simp only [stepB, Bool.and_eq_true, decide_eq_true_eq] at hst
      have hin := hst.1
      have h8 := p2_le l.length 7 (by omega)
      have hs1 : setTo l (k + 1) < 128 := by omega
      have HS := hide (show setTo l (k + 1) = setTo l k ||| p2 (l[k]?.getD 0).toNat from rfl)
      have HC := hide (show chF l (k + 1) = upd (chF l k) (setTo l (k + 1)) true from rfl)
      generalize hx : l[k]?.getD 0 = x at HS hin
      have HX := hide hx
      clear hx hst hl1 h8 hw1
      obtain ⟨i, rfl⟩ := Int.eq_ofNat_of_zero_le hin.1
      rw [Int.toNat_natCast] at HS
      have hi7 : i < 7 := by omega
      clear hin
      generalize hs1e : setTo l (k + 1) = s1 at HS hs1 HC
      have HS1 := hide hs1e
      clear hs1e
      generalize setTo l k = s at hs128 HS
      have hp := wrap_p2 i (by omega)
      have hp2 : IntKind.i64.wrap (2 ^ i) = (p2 i : Int) := by rw [IntWalk.i64_left]; exact hp
      have hpl := p2_lt128 i hi7
      have ho := i64_or s (p2 i) (by omega) (by omega)
      rw [← HS.out] at ho
      go_wp2_with (first
        | (refine wpList_at sliceT intS rfl (.tmp _) (.tmp _) rfl _ rfl k rfl w.heap.size l HLW.out hlt ?_; intro ad hcell hblk; rw [HX.out] at hcell)
        | (go_at_call 30; refine (spPut_c _ (chF l k) s1 _ w.heap.size hs1 HO.out (by have := HB.out.size; omega)).mono ?_; rw [← HC.out]; rintro e w1 ⟨v1, rfl, ho1, hb1⟩; have HO1 := hide ho1; have HB1 := hide (HB.out.trans (hb1.mono (by have := HB.out.size; omega))); clear ho1 hb1))
      go_roundw
      case rel => exact ⟨k + 1, by omega, by go_num, by rw [HS1.out], HO1, HB1⟩
      case measure => simp [intOf]; omega
    · have HK := hide (show k = l.length by omega)
      have hlt' : ¬ ((k : Int) < (l.length : Int)) := by omega
      clear hk
      go_wp2
      go_ret
      exact ⟨_, rfl, by rw [← HK.out]; exact HO.out, HB.out⟩

theorem chN_no {l : List Int} (h : okOrd l = false) : chN l = 0 := by simp [chN, h]
theorem chL_no {l : List Int} (h : okOrd l = false) : chL l = [] := by simp [chL, h]
theorem chN_yes {l : List Int} (h : okOrd l = true) : chN l = l.length := by simp [chN, h]
theorem chL_yes {l : List Int} (h : okOrd l = true) : chL l = setsTo (chF l l.length) 128 := by simp [chL, h]

theorem isOrderL_c (v : Value) (l : List Int) (w : World) (hl : ints w.heap.size w v l) (hlen : l.length < 1000000000) (h7 : l.length ≤ 7) :
    Calls Try.prog 52 #[v, .int .i64 (l.length : Int)] w fun e w' => e = .returned (.bool (wordTo anySet l.length l l.length)) ∧ w = w' := by
  have := isOrder_c v l (l.length : Int) w hl hlen (by omega) (by omega)
  simpa using this

set_option maxHeartbeats 2000000 in
theorem implChainSpace_c (v : Value) (l : List Int) (w : World) (base : Nat) (hl : own 3 w base v l) (hlen : l.length < 1000000000) :
    Calls Try.prog 38 #[v] w fun e w' => ∃ v', e = .returned (.tuple #[.agg #[.int .i64 (chN l), v'], .bool (okOrd l)]) ∧ own 3 w' w.heap.size v' (chL l) ∧ Below w.heap.size w w' := by
  have H0 := hide ((Below.refl w.heap.size w).alloc (Nat.le_refl _) (.cells #[.int .i64 0, .slice none 0 0] 30))
  have hs0 : (w.alloc (.cells #[.int .i64 0, .slice none 0 0] 30)).heap[w.heap.size]? = some (.cells #[.int .i64 0, .slice none 0 0] 30) := hp_last _ _
  have HS0 := hide hs0
  have HL := hide (hl.ints.alloc (.cells #[.int .i64 0, .slice none 0 0] 30))
  clear hs0 hl
  cases hok : okOrd l
  · have HK := hide hok
    rw [chN_no hok, chL_no hok]
    by_cases hn : 1 ≤ (l.length : Int) ∧ (l.length : Int) ≤ 7
    · have HN := hide hn
      have HW := hide (show wordTo anySet l.length l l.length = false by
        rw [okOrd, decide_eq_true hn, Bool.true_and] at hok
        exact hok)
      clear hok hn
      go_enter Try.func38, Try.ntmps38
      go_wp2_with (first
        | (refine wpList_len sliceT rfl (.tmp _) rfl _ rfl _ l HL.out ?_)
        | (go_at_call 32; refine (isItemCount_c _ _).mono ?_; rw [decide_eq_true HN.out]; rintro e w1 ⟨rfl, rfl⟩)
        | (go_at_call 52; refine (isOrderL_c v l _ (HL.out.mono (by simp)) hlen (by have := HN.out; omega)).mono ?_; rw [HW.out]; rintro e w1 ⟨rfl, rfl⟩))
      refine bodyPost_ret (v := .tuple #[.agg #[.int .i64 0, .slice none 0 0], .bool false]) (by simp [results, Try.results38, go_sem]) rfl ⟨_, rfl, own_nil _ _ _, ?_⟩
      first | exact H0.out | exact (H0.out.setCell (Nat.le_refl _) _).setCell (Nat.le_refl _) _
    · have HN := hide hn
      clear hok hn
      go_enter Try.func38, Try.ntmps38
      go_wp2_with (first
        | (refine wpList_len sliceT rfl (.tmp _) rfl _ rfl _ l HL.out ?_)
        | (go_at_call 32; refine (isItemCount_c _ _).mono ?_; rw [decide_eq_false HN.out]; rintro e w1 ⟨rfl, rfl⟩))
      refine bodyPost_ret (v := .tuple #[.agg #[.int .i64 0, .slice none 0 0], .bool false]) (by simp [results, Try.results38, go_sem]) rfl ⟨_, rfl, own_nil _ _ _, ?_⟩
      first | exact H0.out | exact (H0.out.setCell (Nat.le_refl _) _).setCell (Nat.le_refl _) _
  · have HK := hide hok
    have hl2 := okOrd_len hok
    have hl1 := hl2.1
    have hl7 := hl2.2
    have HN := hide (show 1 ≤ (l.length : Int) ∧ (l.length : Int) ≤ 7 by omega)
    have HW := hide (okOrd_word hok)
    rw [chN_yes hok, chL_yes hok]
    clear hok hl2
    have hh0 := (famAt.new 44 (w.alloc (.cells #[.int .i64 0, .slice none 0 0] 30)) 0 noSet).row (l.length : Int) noSet
    have hz0 : (w.alloc (.cells #[.int .i64 0, .slice none 0 0] 30)).heap.size = w.heap.size + 1 := by simp
    rw [hz0] at hh0
    have hg0 := hh0.get 0 (by omega)
    have hf0 := hh0.free (1 + 0)
    have HF0 := hide (hh0.set 0 (by omega) true)
    have HS1 := hide (show (((((w.alloc (.cells #[.int .i64 0, .slice none 0 0] 30)).alloc (.cells (fam 0 noSet) 44)).setRow (w.heap.size + 1) (fam (l.length : Int) noSet))).setCell ⟨w.heap.size + 1, 1 + 0, none⟩ (.bool true)).heap[w.heap.size]? = some (.cells #[.int .i64 0, .slice none 0 0] 30) from
      (hp_setO _ _ _ _ (by show w.heap.size ≠ w.heap.size + 1; omega)).trans ((hp_rowO _ _ _ _ (by omega)).trans ((hp_old _ _ _ (by simp)).trans HS0.out)))
    have HB1 := hide ((bl_row ((H0.out.alloc (by simp) (.cells (fam 0 noSet) 44))) (show w.heap.size ≤ w.heap.size + 1 by omega) (fam (l.length : Int) noSet)).setCell (p := ⟨w.heap.size + 1, 1 + 0, none⟩) (by show w.heap.size ≤ w.heap.size + 1; omega) (.bool true))
    have HL1 := hide (((HL.out.alloc (.cells (fam 0 noSet) 44)).below (bl_row (Below.refl w.heap.size _) (show w.heap.size ≤ w.heap.size + 1 by omega) (fam (l.length : Int) noSet)) (Nat.le_refl _)).setCell ⟨w.heap.size + 1, 1 + 0, none⟩ (by show w.heap.size ≤ w.heap.size + 1; omega) (.bool true))
    clear hz0 hh0
    go_enter Try.func38, Try.ntmps38
    go_wp2_with (first
      | (refine wpList_len sliceT rfl (.tmp _) rfl _ rfl w.heap.size l HL1.out ?_)
      | (refine wpList_len sliceT rfl (.tmp _) rfl _ rfl w.heap.size l HL.out ?_)
      | (refine wpList_alloc_fam zeroT rfl rfl _ (by first | (simp only [World.size_alloc]; rfl) | rfl) ?_)
      | (refine wpList_build_fam builtT rfl _ rfl _ rfl ?_)
      | (refine wpList_store_fam sizeT rfl (.tmp _) (.tmp _) rfl (w.heap.size + 1) (l.length : Int) noSet rfl rfl _ _ (by have := famAt.new 44 (w.alloc (.cells #[.int .i64 0, .slice none 0 0] 30)) 0 noSet; simpa using this) ?_)
      | (go_at_call 32; refine (isItemCount_c _ _).mono ?_; rw [decide_eq_true HN.out]; rintro e w1 ⟨rfl, rfl⟩)
      | (go_at_call 52; refine (isOrderL_c v l _ (HL.out.mono (by simp)) hlen (by omega)).mono ?_; rw [HW.out]; rintro e w1 ⟨rfl, rfl⟩))
    go_loopw [5, 28] (fun a i wr => ∃ k : Nat, k ≤ l.length ∧ i = .int .i64 k ∧ a = .int .i64 (setTo l k : Int) ∧ Hid (famAt 44 wr (w.heap.size + 1) (l.length : Int) (chF l k)) ∧ Hid (wr.heap[w.heap.size]? = some (.cells #[.int .i64 0, .slice none 0 0] 30)) ∧ Hid (Below w.heap.size w wr) ∧ Hid (ints w.heap.size wr v l)) (fun _ i _ => l.length - (intOf i).toNat)
    case atStart => exact ⟨0, Nat.zero_le _, rfl, rfl, HF0, HS1, HB1, HL1⟩
    case round =>
      obtain ⟨k, hk, rfl, rfl, HF, HS, HB, HLW⟩ := hrel
      have hw := wordTo_at HW.out k hk
      have hlt := setTo_lt k hw
      have h8 := p2_le l.length 7 (by omega)
      have hs128 : setTo l k < 128 := by omega
      clear hw hlt h8 HF0 HS1 HB1 HL1 hg0 hf0
      by_cases hlt : k < l.length
      · have hw1 := wordTo_at HW.out (k + 1) (by omega)
        have hl2 := setTo_lt (k + 1) hw1
        have hst := (wordTo_iff anySet l.length l (k + 1)).1 hw1 k (by omega)
        simp only [stepB, Bool.and_eq_true, decide_eq_true_eq] at hst
        have hin := hst.1
        have h8 := p2_le l.length 7 (by omega)
        have hs1 : setTo l (k + 1) < 128 := by omega
        have HSS := hide (show setTo l (k + 1) = setTo l k ||| p2 (l[k]?.getD 0).toNat from rfl)
        have HC := hide (show chF l (k + 1) = upd (chF l k) (setTo l (k + 1)) true from rfl)
        generalize hx : l[k]?.getD 0 = x at HSS hin
        have HX := hide hx
        clear hx hst hl2 h8 hw1
        obtain ⟨i, rfl⟩ := Int.eq_ofNat_of_zero_le hin.1
        rw [Int.toNat_natCast] at HSS
        have hi7 : i < 7 := by omega
        clear hin
        generalize hs1e : setTo l (k + 1) = s1 at HSS hs1 HC
        have HS1 := hide hs1e
        clear hs1e
        generalize setTo l k = s at hs128 HSS
        have hg := HF.out.get s1 hs1
        have hfz := HF.out.free (1 + s1)
        go_wp2_with (first
          | (refine wpList_at sliceT intS rfl (.tmp _) (.tmp _) rfl _ rfl k rfl w.heap.size l HLW.out hlt ?_; intro ad hcell hblk; rw [HX.out] at hcell)
          | (go_at_call 53; refine (with_c _ _ _ (by omega) (by omega) (by omega) (by omega)).mono ?_; rw [Int.toNat_natCast, Int.toNat_natCast, ← HSS.out]; rintro e w' ⟨rfl, rfl⟩))
        go_roundw
        case rel => exact ⟨k + 1, by omega, by go_num, by rw [HS1.out], by rw [HC.out]; exact HF.out.set s1 hs1 true, (hp_setO _ _ _ _ (by show w.heap.size ≠ w.heap.size + 1; omega)).trans HS.out, HB.out.setCell (by show w.heap.size ≤ w.heap.size + 1; omega) _, HLW.out.setCell _ (by show w.heap.size ≤ w.heap.size + 1; omega) _⟩
        case measure => simp [intOf]; omega
      · have hke : k = l.length := by omega
        have hlt' : ¬ ((k : Int) < (l.length : Int)) := by omega
        have HKE := hide hke
        have hf := HF.out
        have hfl := hf.lt
        clear hk hke
        go_wp2_with (first
          | (refine wpList_load_fam rowT sizeT rfl (.tmp _) rfl _ rfl (l.length : Int) _ (by assumption) ?_)
          | (go_at_call 40; refine (space_c _ _ _).mono ?_; rintro e w5 ⟨v1, rfl, ho5, hb5⟩; obtain ⟨aa, cc, hv⟩ := ho5.shape; have hs5 := (hb5.block w.heap.size (by omega)).trans HS.out; have c0 : w5.cell? ⟨w.heap.size, 0, none⟩ = some (.int .i64 0) := (by rw [hp_cell hs5]; rfl); have c1 : w5.cell? ⟨w.heap.size, 1, none⟩ = some (.slice none 0 0) := (by rw [hp_cell hs5]; rfl); have f0 := hp_free hs5 0; have f1 := hp_free hs5 1; have HB5 := hide (HB.out.trans (hb5.mono (by omega))); have HO5 := hide ho5; clear hb5 hs5 ho5; subst hv))
        refine bodyPost_ret (v := .tuple #[.agg #[.int .i64 (l.length : Int), .slice aa (setsTo (chF l k) 128).length cc], .bool true]) (by simp [results, Try.results38, go_sem, c0, c1]) rfl ⟨_, rfl, ?_, ?_⟩
        · rw [← HKE.out]
          exact ((HO5.out.setLow _ (by show w.heap.size < wr.heap.size; omega) _).setLow _ (by show w.heap.size < wr.heap.size; omega) _).mono (by omega)
        · exact (HB5.out.setCell (Nat.le_refl _) _).setCell (Nat.le_refl _) _
end Go.Proofs.Ytbcohlnimmoifaa
