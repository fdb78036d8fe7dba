/- Contracts: full words of a space, the specification's, for lists whose capacities are known. -/
import Derived.Test.YtbcohlnimmoifaaOt
import Derived.Test.YtbcohlnimmoifaaXw
import Derived.Test.YtbcohlnimmoifaaHar
namespace Go.Proofs.Ytbcohlnimmoifaa
open Go.RowKit
set_option maxRecDepth 100000
set_option linter.unusedSimpArgs false
def fwG (n : Int) (l : List Int) (m : List Int) : Bool := decide (m.length = n.toNat) && wordB (marksTo l l.length) n.toNat m
def wOG (n : Nat) (w : List Int) : Prop := ∀ k, k < w.length → 0 ≤ w[k]?.getD 0 ∧ w[k]?.getD 0 < (n : Int)
theorem setTo_ltG {n : Nat} {w : List Int} (h7 : n ≤ 7) (h : wOG n w) : ∀ k, k ≤ w.length → setTo w k < 128
  | 0, _ => by show 0 < 128; omega
  | k + 1, hk => by
    have h1 := setTo_ltG h7 h k (by omega)
    have h2 := h k (by omega)
    rw [setTo]
    exact or_lt128 _ _ h1 (p2_lt128 _ (by omega))
theorem setTo_nextG (w : List Int) (k : Nat) : setTo w (k + 1) = setTo w k ||| p2 (w[k]?.getD 0).toNat := rfl
attribute [local irreducible] p2 low memB risB
theorem fwG_no1 {n : Int} {l m : List Int} (h : ¬ m.length = n.toNat) : fwG n l m = false := by unfold fwG; rw [decide_eq_false h]; rfl
theorem any_wordG {F : Nat → Bool} {n : Nat} {m : List Int} : ∀ k, wordTo F n m k = true → wordTo anySet n m k = true
  | 0, _ => rfl
  | k + 1, h => by
    simp only [wordTo, stepB, Bool.and_eq_true] at h ⊢
    exact ⟨any_wordG k h.1, h.2.1, h.2.2.1, rfl⟩
theorem word_anyG {F : Nat → Bool} {n : Nat} {m : List Int} : ∀ k, wordTo anySet n m k = true → (∀ j, j < k → F (setTo m (j + 1)) = true) → wordTo F n m k = true
  | 0, _, _ => rfl
  | k + 1, h, hF => by
    have h2 := hF k (by omega)
    rw [setTo_nextG] at h2
    simp only [wordTo, stepB, Bool.and_eq_true] at h ⊢
    exact ⟨word_anyG k h.1 (fun j hj => hF j (by omega)), h.2.1, h.2.2.1, h2⟩
theorem word_inG {F : Nat → Bool} {n : Nat} {m : List Int} : ∀ k j, wordTo F n m k = true → j < k → F (setTo m (j + 1)) = true
  | 0, j, _, h => by omega
  | k + 1, j, h, hj => by
    simp only [wordTo, stepB, Bool.and_eq_true] at h
    rcases Nat.lt_or_ge j k with h1 | h1
    · exact word_inG k j h.1 h1
    · rw [show j = k by omega, setTo_nextG]; exact h.2.2.2
theorem fwG_no2 {n : Int} {l m : List Int} (hn : n.toNat ≤ 7) (h1 : 1 ≤ n.toNat) (hm : m.length = n.toNat) (h : okOrd m = false) : fwG n l m = false := by
  cases e : fwG n l m
  · rfl
  · unfold fwG at e
    rw [Bool.and_eq_true] at e
    have h2 := any_wordG _ e.2
    unfold okOrd at h
    rw [decide_eq_true (by omega), Bool.true_and, hm] at h
    rw [hm] at h2
    rw [h2] at h; cases h
theorem fwG_no3 {n : Int} {l m : List Int} {k : Nat} (hk : k < m.length) (h : marksTo l l.length (setTo m (k + 1)) = false) : fwG n l m = false := by
  cases e : fwG n l m
  · rfl
  · unfold fwG at e
    rw [Bool.and_eq_true] at e
    rw [word_inG _ k e.2 hk] at h; cases h
theorem fwG_yes {n : Int} {l m : List Int} (hm : m.length = n.toNat) (h : okOrd m = true) (hF : ∀ k, k < m.length → marksTo l l.length (setTo m (k + 1)) = true) : fwG n l m = true := by
  unfold fwG
  rw [decide_eq_true hm, Bool.true_and]
  have := okOrd_word h
  rw [hm] at this
  unfold wordB
  rw [hm]
  exact word_anyG _ this (fun j hj => hF j (by omega))
theorem ord_wOG {m : List Int} (h : okOrd m = true) : wOG m.length m := wordTo_len (okOrd_word h)
set_option maxHeartbeats 2000000 in
theorem grWordC_c (n : Int) (v : Value) (l : List Int) (y : Value) (m : List Int) (w : World) (hl : ints w.heap.size w v l) (hlen : l.length < 1000000000) (hm : intsC w.heap.size w y m) (hml : m.length < 1000000000) (hsp : okSp n l = true) :
    Calls Try.prog 14 #[.agg #[.int .i64 n, v], y] w fun e w' => e = .returned (.bool (fwG n l m)) ∧ Below w.heap.size w w' := by
  obtain ⟨hn1, hn7⟩ := okSp_n hsp
  obtain ⟨N, rfl⟩ := Int.eq_ofNat_of_zero_le (show 0 ≤ n by omega)
  obtain ⟨ya, yc, hy⟩ := hm.plain.shape
  subst hy
  have HL := hide (hl.alloc (.cells #[.int .i64 (N : Int), v] 30))
  have H0 := hide ((Below.refl w.heap.size w).alloc (Nat.le_refl _) (.cells #[.int .i64 (N : Int), v] 30))
  have HX := hide (hp_last w (.cells #[.int .i64 (N : Int), v] 30))
  have HZ := hide (show (w.alloc (.cells #[.int .i64 (N : Int), v] 30)).heap.size = w.heap.size + 1 by simp)
  have HO := hide ((hm.below ((Below.refl w.heap.size w).alloc (Nat.le_refl _) (.cells #[.int .i64 (N : Int), v] 30)) (Nat.le_refl _)).mono (show w.heap.size ≤ (w.alloc (.cells #[.int .i64 (N : Int), v] 30)).heap.size by simp))
  have HI := hide (okSp_inc hsp)
  have HMK := hide (okSp_marks hsp)
  have c0 := cells_at0 HX.out
  clear hl hm hsp
  by_cases hml2 : m.length = N
  case neg =>
    have HV := hide (fwG_no1 (n := (N : Int)) (l := l) (m := m) (by rw [Int.toNat_natCast]; exact hml2))
    have hne : ((m.length : Int) != (N : Int)) = true := by simp; omega
    go_enter Try.func14, Try.ntmps14
    go_wp2
    go_ret
    exact ⟨ret_b (by rw [HV.out]), H0.out⟩
  have hne : ((m.length : Int) != (N : Int)) = false := by simp; omega
  have HML2 := hide hml2
  have HOC := hide (spOrderC_c _ m _ HO.out hml)
  cases hok : okOrd m
  · rw [hok] at HOC
    have HV := hide (fwG_no2 (n := (N : Int)) (l := l) (m := m) (by rw [Int.toNat_natCast]; omega) (by rw [Int.toNat_natCast]; omega) (by rw [Int.toNat_natCast]; exact hml2) hok)
    clear hok hml2
    go_enter Try.func14, Try.ntmps14
    go_wp2_with (go_at_call 28; refine HOC.out.mono ?_; rintro e w1 ⟨rfl, rfl⟩)
    go_ret
    exact ⟨ret_b (by rw [HV.out]), H0.out⟩
  · rw [hok] at HOC
    have HWK := hide (ord_wOG hok)
    have HST := hide (setTo_ltG (n := m.length) (by omega) (ord_wOG hok))
    have HNO := hide (fun k hk h => fwG_no3 (n := (N : Int)) (l := l) (m := m) (k := k) hk h)
    have HYES := hide (fun h => fwG_yes (n := (N : Int)) (l := l) (m := m) (by rw [Int.toNat_natCast]; exact hml2) hok h)
    clear hok hml2
    go_enter Try.func14, Try.ntmps14
    go_wp2_with (go_at_call 28; refine HOC.out.mono ?_; rintro e w1 ⟨rfl, rfl⟩)
    have hII := hide (HO.out.plain)
    generalize w.alloc (.cells #[.int .i64 (N : Int), v] 30) = W at HL H0 HX HZ hII c0 ⊢
    go_loopw [5, 20] (fun sv iv wr => ∃ k : Nat, k ≤ m.length ∧ iv = .int .i64 (k : Int) ∧ sv = .int .i64 (setTo m k : Int) ∧ Hid (∀ j, j < k → marksTo l l.length (setTo m (j + 1)) = true) ∧ Hid (Below W.heap.size W wr)) (fun _ iv _ => m.length - (intOf iv).toNat)
    case atStart => exact ⟨0, Nat.zero_le _, rfl, rfl, hide (fun j hj => by omega), Below.refl _ _⟩
    case round =>
      obtain ⟨k, hk2, rfl, rfl, HJ, HB⟩ := hrel
      have hz0 := HZ.out
      have hszw := HB.out.size
      have HSN := hide (setTo_nextG m k)
      have HLW := hide (hII.out.below HB.out (Nat.le_refl _))
      by_cases hlt : k < m.length
      · have hlt' : (k : Int) < (m.length : Int) := by omega
        have hs128 := HST.out k hk2
        have hs128b := HST.out (k + 1) hlt
        have hx := HWK.out k hlt
        obtain ⟨i, hi⟩ := Int.eq_ofNat_of_zero_le hx.1
        rw [hi, Int.toNat_natCast] at HSN
        have HXI := hide hi
        have hin : i < N := by have := HML2.out; omega
        clear hx hi
        have HBAD := hide (HNO.out k hlt)
        have HMORE := hide (fun (h : marksTo l l.length (setTo m (k + 1)) = true) => show ∀ j, j < k + 1 → marksTo l l.length (setTo m (j + 1)) = true from fun j hj => by
          rcases Nat.lt_or_ge j k with h1 | h1
          · exact HJ.out j h1
          · rw [show j = k by omega]; exact h)
        have HMM := hide (HMK.out (setTo m (k + 1)))
        generalize hs1 : setTo m (k + 1) = s1 at *
        generalize hs : setTo m k = s at *
        clear hs
        have HS1 := hide hs1
        clear hs1
        have hp1 := wrap_p2 i (by omega)
        have hp2 : IntKind.i64.wrap (2 ^ i) = (p2 i : Int) := by rw [IntWalk.i64_left]; exact hp1
        have hpk := p2_lt128 i (by omega)
        have hor := i64_or s (p2 i) (Nat.lt_trans hs128 (by decide)) (Nat.lt_trans hpk (by decide))
        rw [← HSN.out] at hor
        have hcc := (HB.out.block w.heap.size (by omega)).trans HX.out
        have d1 := cells_at1 hcc
        have HLS := hide ((HL.out.below HB.out (by omega)).mono (show w.heap.size ≤ wr.heap.size by omega))
        have HSH := hide (spHas_c v l (s1 : Int) wr HLS.out HI.out hlen)
        rw [← HMM.out] at HSH
        clear hcc
        cases hmk : marksTo l l.length s1
        · rw [hmk] at HSH
          have HV := hide (HBAD.out hmk)
          clear hmk
          go_wp2_with (first
            | (refine wpList_at sliceT intS rfl (.tmp 18) (.tmp _) rfl _ rfl k rfl W.heap.size m HLW.out hlt ?_; intro ad hcell hblk; rw [HXI.out] at hcell)
            | (go_at_call 26; refine HSH.out.mono ?_; rintro e w2 ⟨rfl, rfl⟩))
          go_ret
          exact ⟨ret_b (by rw [HV.out]), H0.out.trans (HB.out.mono (by omega))⟩
        · rw [hmk] at HSH
          have HP := hide (HMORE.out hmk)
          clear hmk
          go_wp2_with (first
            | (refine wpList_at sliceT intS rfl (.tmp 18) (.tmp _) rfl _ rfl k rfl W.heap.size m HLW.out hlt ?_; intro ad hcell hblk; rw [HXI.out] at hcell)
            | (go_at_call 26; refine HSH.out.mono ?_; rintro e w2 ⟨rfl, rfl⟩))
          go_roundw
          case rel => exact ⟨k + 1, by omega, by go_num, by rw [HS1.out], HP, HB⟩
          case measure => (simp [intOf] <;> omega)
      · have hlt' : ¬ ((k : Int) < (m.length : Int)) := by omega
        have HV := hide (HYES.out (fun j hj => HJ.out j (by omega)))
        go_wp2
        go_ret
        exact ⟨ret_b (by rw [HV.out]), H0.out.trans (HB.out.mono (by omega))⟩
end Go.Proofs.Ytbcohlnimmoifaa
