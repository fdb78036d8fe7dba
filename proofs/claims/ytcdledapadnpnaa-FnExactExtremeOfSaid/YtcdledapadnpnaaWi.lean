/- Contracts: the greatest set within, and the outer fringe, the program's and the specification's. -/
import Derived.Test.YtcdledapadnpnaaFr
namespace Go.Proofs.Ytcdledapadnpnaa
open Go.RowKit
set_option maxRecDepth 100000
attribute [local irreducible] p2 low memB risB

def wiTo (l : List Int) (lim : Nat) : Nat → Nat
  | 0 => 0
  | k + 1 => if andNot (nth l k) lim == 0 then wiTo l lim k ||| nth l k else wiTo l lim k
theorem wiTo_lt (l : List Int) (lim : Nat) (hl : ∀ j, j < l.length → nth l j < 128) : ∀ k, k ≤ l.length → wiTo l lim k < 128
  | 0, _ => by simp [wiTo]
  | k + 1, hk => by
    unfold wiTo
    split
    · exact or_lt128 _ _ (wiTo_lt l lim hl k (by omega)) (hl k (by omega))
    · exact wiTo_lt l lim hl k (by omega)
theorem wiTo_bit (l : List Int) (lim b : Nat) : ∀ k, (wiTo l lim k).testBit b = true ↔ ∃ j, j < k ∧ andNot (nth l j) lim = 0 ∧ (nth l j).testBit b = true
  | 0 => by simp [wiTo]
  | k + 1 => by
    unfold wiTo
    split
    · rename_i h
      rw [Nat.testBit_or, Bool.or_eq_true, wiTo_bit l lim b k]
      constructor
      · rintro (⟨j, hj, h1⟩ | h1)
        · exact ⟨j, by omega, h1⟩
        · exact ⟨k, by omega, by simpa using h, h1⟩
      · rintro ⟨j, hj, h1, h2⟩
        rcases Nat.lt_or_ge j k with h3 | h3
        · exact .inl ⟨j, h3, h1, h2⟩
        · have : j = k := by omega
          subst this; exact .inr h2
    · rename_i h
      rw [wiTo_bit l lim b k]
      constructor
      · rintro ⟨j, hj, h1⟩; exact ⟨j, by omega, h1⟩
      · rintro ⟨j, hj, h1, h2⟩
        rcases Nat.lt_or_ge j k with h3 | h3
        · exact ⟨j, h3, h1, h2⟩
        · have : j = k := by omega
          subst this; simp [h1] at h
theorem nth_lt {n : Int} {l : List Int} (h : okSp n l = true) : ∀ j, j < l.length → nth l j < 2 ^ n.toNat := fun j hj => by
  have := okSp_pos h j hj
  have hpl := low_succ n.toNat
  unfold nth; omega
theorem wi_same {n : Int} {l : List Int} (h : okSp n l = true) (lim : Nat) : withinOf (marksTo l l.length) n.toNat lim = wiTo l lim l.length := by
  apply Nat.eq_of_testBit_eq
  intro b
  rw [Bool.eq_iff_iff, wiTo_bit]
  unfold withinOf
  rw [orTo_bit, decide_eq_true_eq]
  constructor
  · rintro ⟨s, hs, h1⟩
    unfold pickIn at h1
    split at h1
    · rename_i h2
      simp only [Bool.and_eq_true, beq_iff_eq] at h2
      obtain ⟨j, hj, e⟩ := (marks_iff l s l.length).1 h2.1
      exact ⟨j, hj, by unfold nth; rw [e]; exact h2.2, by unfold nth; rw [e]; exact h1⟩
    · simp at h1
  · rintro ⟨j, hj, h1, h2⟩
    refine ⟨nth l j, nth_lt h j hj, ?_⟩
    unfold pickIn
    have h3 : marksTo l l.length (nth l j) = true := (marks_iff l _ _).2 ⟨j, hj, rfl⟩
    rw [if_pos (by simp [h3, h1])]
    exact h2

set_option maxHeartbeats 600000 in
theorem spWithin_c (n : Int) (v : Value) (l : List Int) (x : Int) (w : World) (hl : ints w.heap.size w v l) (hlen : l.length < 1000000000) (hr : ∀ j, j < l.length → 0 ≤ l[j]?.getD 0 ∧ l[j]?.getD 0 < 128) (hx0 : 0 ≤ x) (hx : x < 128) :
    Calls Try.prog 19 #[.agg #[.int .i64 n, v], .int .i64 x] w fun e w' => e = .returned (.int .i64 (wiTo l x.toNat l.length : Int)) ∧ Below w.heap.size w w' := by
  obtain ⟨lim, rfl⟩ := Int.eq_ofNat_of_zero_le hx0
  have HL := hide (hl.alloc (.cells #[.int .i64 n, v] 28))
  have HR := hide hr
  have H0 := hide ((Below.refl w.heap.size w).alloc (Nat.le_refl _) (.cells #[.int .i64 n, v] 28))
  clear hl hr
  rw [Int.toNat_natCast]
  have HQ := hide (fun k (hk : k ≤ l.length) => wiTo_lt l lim (fun j hj => by have := HR.out j hj; unfold nth; omega) k hk)
  go_enter Try.func19, Try.ntmps19
  go_wp2_with (refine wpList_len sliceT rfl (.tmp _) rfl v rfl w.heap.size l HL.out ?_)
  go_loop [5, 11] (fun o i => ∃ k : Nat, k ≤ l.length ∧ i = .int .i64 k ∧ o = .int .i64 (wiTo l lim k : Int)) (fun _ i => l.length - (intOf i).toNat)
  case atStart => exact ⟨0, Nat.zero_le _, rfl, rfl⟩
  case round =>
    obtain ⟨k, hk, rfl, rfl⟩ := hrel
    have hq := HQ.out k hk
    have HE := hide (show k = l.length → wiTo l lim l.length = wiTo l lim k from fun h => by rw [h])
    by_cases hlt : k < l.length
    · have hrk := HR.out k hlt
      obtain ⟨s, hs⟩ := Int.eq_ofNat_of_zero_le hrk.1
      have hs128 : s < 128 := by omega
      have hn : nth l k = s := by unfold nth; rw [hs]; rfl
      have HG := hide (show wiTo l lim (k + 1) = if andNot s lim == 0 then wiTo l lim k ||| s else wiTo l lim k by rw [wiTo, hn])
      have HS := hide hs
      clear hs hrk hn
      generalize wiTo l lim k = q at hq HG HE ⊢
      have ha := i64_andNot s lim (by omega)
      have ho := i64_or q s (by omega) (by omega)
      cases hz : (andNot s lim == 0)
      · have hz' : ((andNot s lim : Int) == 0) = false := by rw [Bool.eq_false_iff] at hz ⊢; simp at hz ⊢; exact hz
        have HZ := hide hz
        clear hz
        go_wp2_with (refine wpList_at sliceT intS rfl (.tmp _) (.tmp _) rfl v rfl k rfl w.heap.size l HL.out hlt ?_; intro ad hcell hblk; rw [HS.out] at hcell)
        go_round
        case rel => exact ⟨k + 1, by omega, by go_num, by rw [HG.out, HZ.out]; rfl⟩
        case measure => simp [intOf]; omega
      · have hz' : ((andNot s lim : Int) == 0) = true := by simp at hz ⊢; exact hz
        have HZ := hide hz
        clear hz
        go_wp2_with (refine wpList_at sliceT intS rfl (.tmp _) (.tmp _) rfl v rfl k rfl w.heap.size l HL.out hlt ?_; intro ad hcell hblk; rw [HS.out] at hcell)
        go_round
        case rel => exact ⟨k + 1, by omega, by go_num, by rw [HG.out, HZ.out]; rfl⟩
        case measure => simp [intOf]; omega
    · have HK := hide (show k = l.length by omega)
      have hlt' : ¬ ((k : Int) < (l.length : Int)) := by omega
      go_wp2
      go_ret
      exact ⟨ret_i (by rw [HE.out HK.out]), H0.out⟩

def withinR (n : Int) (l : List Int) (x : Int) : Int := if okSet n l x then (wiTo l x.toNat l.length : Int) else 0
theorem withinR_no {n : Int} {l : List Int} {x : Int} (h : okSet n l x = false) : withinR n l x = 0 := by simp [withinR, h]
theorem withinR_yes {n : Int} {l : List Int} {x : Int} (h : okSet n l x = true) : withinR n l x = (wiTo l x.toNat l.length : Int) := by simp [withinR, h]

end Go.Proofs.Ytcdledapadnpnaa
