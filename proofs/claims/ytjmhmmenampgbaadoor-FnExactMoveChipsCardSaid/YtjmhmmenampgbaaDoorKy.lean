/- Contracts: choices that are at least 0, and the one of a list that they tell. -/
import Derived.Test.YtjmhmmenampgbaaDoorYa
namespace Go.Proofs.YtjmhmmenampgbaaDoor
open Go.RowKit
set_option maxRecDepth 100000
set_option linter.unusedSimpArgs false
def ngTo (ch : List Int) : Nat → Bool
  | 0 => false
  | k + 1 => ngTo ch k || decide (ch[k]?.getD 0 < 0)
theorem ngTo_next (ch : List Int) (k : Nat) : ngTo ch (k + 1) = (ngTo ch k || decide (ch[k]?.getD 0 < 0)) := rfl
theorem ngTo_stay {ch : List Int} {k : Nat} (h : ngTo ch k = true) : ∀ m, k ≤ m → ngTo ch m = true
  | 0, hm => by have : k = 0 := by omega
                subst this; exact h
  | m + 1, hm => by
    rcases Nat.lt_or_ge m k with h1 | h1
    · rw [show m + 1 = k by omega]; exact h
    · rw [ngTo, ngTo_stay h m h1]; rfl
theorem ngTo_no {ch : List Int} : ∀ m, ngTo ch m = false → ∀ k, k < m → 0 ≤ ch[k]?.getD 0
  | 0, _, k, hk => by omega
  | m + 1, h, k, hk => by
    rw [ngTo, Bool.or_eq_false_iff, decide_eq_false_iff_not] at h
    rcases Nat.lt_or_ge k m with h1 | h1
    · exact ngTo_no m h.1 k h1
    · rw [show k = m by omega]; omega
attribute [local irreducible] p2 low memB risB itemsL
theorem ent_areCh1 : enters Tryd.prog 75 := enters_of Tryd.func75 (by kernel_rfl) (by kernel_rfl)
theorem areCh1_c (x : Int) (w : World) : Calls Tryd.prog 75 #[.int .i64 x] w fun e w' => e = .returned (.bool (decide (x < 0))) ∧ Below w.heap.size w w' := by
  go_enter Tryd.func75, Tryd.ntmps75
  go_wp2
  go_ret
  exact ⟨rfl, Below.refl _ _⟩
set_option maxHeartbeats 2000000 in
theorem indexFunc_c (u : Value) (ch : List Int) (w : World) (hch : ints w.heap.size w u ch) (hcl : ch.length < 1000000000) :
    Calls Tryd.prog 83 #[u, .func (.func 75) #[] #[]] w fun e w' => ∃ r : Int, e = .returned (.int .i64 r) ∧ ((r = -1 ∧ ngTo ch ch.length = false) ∨ (∃ j : Nat, r = (j : Int) ∧ ngTo ch ch.length = true)) ∧ Below w.heap.size w w' := by
  obtain ⟨ua, uc, hu⟩ := hch.shape
  subst hu
  have HCH := hide hch
  clear hch
  go_enter Tryd.func83, Tryd.ntmps83
  go_wp2_with fail
  go_loopw [8] (fun iv wr => ∃ k : Nat, k ≤ ch.length ∧ iv = .int .i64 (k : Int) ∧ Hid (ngTo ch k = false) ∧ Hid (Below w.heap.size w wr)) (fun iv _ => ch.length - (intOf iv).toNat)
  case atStart => exact ⟨0, by omega, rfl, rfl, Below.refl _ _⟩
  case round =>
    obtain ⟨k, hk, rfl, HN, HB⟩ := hrel
    have HCW := hide (HCH.out.below HB.out (Nat.le_refl _))
    have hsz := HB.out.size
    by_cases hlt : k < ch.length
    · have hlt' : (k : Int) < (ch.length : Int) := by omega
      have HNX := hide (show ngTo ch (k + 1) = decide (ch[k]?.getD 0 < 0) by rw [ngTo_next, HN.out, Bool.false_or])
      generalize hx : ch[k]?.getD 0 = x at HNX
      have HX := hide hx
      clear hx
      cases hd : decide (x < 0)
      all_goals
        have HA := hide (fun w1 => by have := areCh1_c x w1; rw [hd] at this; exact this)
        rw [hd] at HNX
        clear hd
        go_wp2_with (first
          | (refine wpList_at sliceT intS rfl (.tmp _) (.tmp _) rfl _ rfl k rfl w.heap.size ch HCW.out hlt ?_; intro ad hcell hblk; rw [HX.out] at hcell)
          | (go_at_call 75; refine (HA.out _).mono ?_; rintro e w4 ⟨rfl, hb4⟩; have HB4 := hide (HB.out.trans (hb4.mono hsz)); clear hb4))
      · go_roundw
        case rel => exact ⟨k + 1, by omega, by go_num, HNX, HB4⟩
        case measure => (simp [intOf] <;> omega)
      · go_ret
        exact ⟨_, rfl, .inr ⟨k, rfl, ngTo_stay HNX.out _ (by omega)⟩, HB4.out⟩
    · have hlt' : ¬ ((k : Int) < (ch.length : Int)) := by omega
      have HE := hide (show ngTo ch ch.length = false by rw [show ch.length = k by omega]; exact HN.out)
      go_wp2
      go_ret
      exact ⟨_, rfl, .inl ⟨rfl, HE.out⟩, HB.out⟩
theorem containsFunc_c (u : Value) (ch : List Int) (w : World) (hch : ints w.heap.size w u ch) (hcl : ch.length < 1000000000) :
    Calls Tryd.prog 74 #[u, .func (.func 75) #[] #[]] w fun e w' => e = .returned (.bool (ngTo ch ch.length)) ∧ Below w.heap.size w w' := by
  have HI := hide (indexFunc_c u ch w hch hcl)
  clear hch
  cases hn : ngTo ch ch.length
  · rw [hn] at HI
    clear hn
    go_enter Tryd.func74, Tryd.ntmps74
    go_wp2_with (go_at_call 83; refine HI.out.mono ?_; rintro e w3 ⟨r, rfl, hr, hb3⟩; have hr1 : r = -1 := (hr.elim (fun h => h.1) (fun ⟨_, _, h⟩ => by cases h)); subst hr1; have HB3 := hide hb3; clear hb3 hr)
    go_ret
    exact ⟨rfl, HB3.out⟩
  · rw [hn] at HI
    clear hn
    go_enter Tryd.func74, Tryd.ntmps74
    go_wp2_with (go_at_call 83; refine HI.out.mono ?_; rintro e w3 ⟨r, rfl, hr, hb3⟩; have hr1 : 0 ≤ r := (hr.elim (fun h => by cases h.2) (fun ⟨_, h, _⟩ => by omega)); have HB3 := hide hb3; clear hb3 hr)
    go_ret
    exact ⟨ret_b (by simp [hr1]), HB3.out⟩
def chB (m : Int) (ch : List Int) : Bool := decide ((ch.length : Int) ≤ m) && !ngTo ch ch.length
theorem areChoices_c (u : Value) (ch : List Int) (m : Int) (w : World) (hch : ints w.heap.size w u ch) (hcl : ch.length < 1000000000) :
    Calls Tryd.prog 62 #[u, .int .i64 m] w fun e w' => e = .returned (.bool (chB m ch)) ∧ Below w.heap.size w w' := by
  have HI := hide (fun w1 (h : Below w.heap.size w w1) => containsFunc_c u ch w1 ((hch.below h (Nat.le_refl _)).mono h.size) hcl)
  obtain ⟨ua, uc, hu⟩ := hch.shape
  subst hu
  unfold chB
  clear hch
  generalize ngTo ch ch.length = b at *
  by_cases h20 : (ch.length : Int) ≤ m
  · have hd : decide ((ch.length : Int) ≤ m) = true := decide_eq_true h20
    rw [hd]
    go_enter Tryd.func62, Tryd.ntmps62
    go_wp2_with (go_at_call 74; refine (HI.out _ (Below.refl _ _)).mono ?_; rintro e w3 ⟨rfl, hb3⟩; have HB3 := hide hb3; clear hb3)
    go_ret
    exact ⟨ret_b (by simp), HB3.out⟩
  · have hd : decide ((ch.length : Int) ≤ m) = false := decide_eq_false h20
    rw [hd]
    go_enter Tryd.func62, Tryd.ntmps62
    go_wp2_with fail
    go_ret
    exact ⟨rfl, Below.refl _ _⟩
set_option maxHeartbeats 2000000 in
theorem chosen_c (u v : Value) (ch L : List Int) (k : Nat) (w : World) (hch : ints w.heap.size w u ch) (_hcl : ch.length < 1000000000) (hpos : ∀ k, k < ch.length → 0 ≤ ch[k]?.getD 0) (hl : ints w.heap.size w v L) (h0 : 0 < L.length) (hll : L.length < 1000000000) :
    Calls Tryd.prog 105 #[u, .int .i64 (k : Int), v] w fun e w' => e = .returned (.int .i64 (L[pkI ch k L.length]?.getD 0)) ∧ w = w' := by
  obtain ⟨ua, uc, hu⟩ := hch.shape
  obtain ⟨va, vc, hv⟩ := hl.shape
  subst hu
  subst hv
  have HCH := hide hch
  have HL := hide hl
  have hix := pkI_lt (ch := ch) (k := k) h0
  have hne : ¬ ((L.length : Int) = 0) := by omega
  have hneb : ((L.length : Int) == 0) = false := by rw [beq_eq_false_iff_ne]; omega
  have hpk : pkI ch k L.length = if k < ch.length then (ch[k]?.getD 0).toNat % L.length else 0 := rfl
  clear hch hl
  by_cases hck : k < ch.length
  · have hck' : (k : Int) < (ch.length : Int) := by omega
    have hx0 := hpos k hck
    rw [if_pos hck] at hpk
    have hrm : (ch[k]?.getD 0).tmod (L.length : Int) = (pkI ch k L.length : Int) := by
      rw [Int.tmod_eq_emod_of_nonneg hx0, hpk]
      obtain ⟨z, hz⟩ := Int.eq_ofNat_of_zero_le hx0
      rw [hz]; simp
    generalize hxx : ch[k]?.getD 0 = x at hrm hx0
    have HX := hide hxx
    generalize pkI ch k L.length = ix at *
    have hwr : IntKind.i64.wrap (ix : Int) = (ix : Int) := IntWalk.i64_in _ (by omega)
    generalize hyy : L[ix]?.getD 0 = y
    have HY := hide hyy
    clear hxx hyy hpk hpos
    go_enter Tryd.func105, Tryd.ntmps105
    go_wp2_with (first
      | (refine wpList_at sliceT intS rfl (.tmp _) (.tmp _) rfl _ rfl k rfl w.heap.size ch HCH.out hck ?_; intro ad hcell hblk; rw [HX.out] at hcell)
      | (refine wpList_at sliceT intS rfl (.tmp _) (.tmp _) rfl _ rfl ix rfl _ L HL.out hix ?_; intro ad2 hcell2 hblk2; rw [HY.out] at hcell2))
    go_ret
    exact ⟨rfl, rfl⟩
  · have hck' : ¬ ((k : Int) < (ch.length : Int)) := by omega
    rw [if_neg hck] at hpk
    rw [hpk]
    generalize hyy : L[0]?.getD 0 = y
    have HY := hide hyy
    clear hyy hpk hpos hix
    go_enter Tryd.func105, Tryd.ntmps105
    go_wp2_with (first
      | (refine wpList_at sliceT intS rfl (.tmp _) (.const (.int .i64 0)) rfl _ rfl 0 rfl _ L HL.out h0 ?_; intro ad2 hcell2 hblk2; rw [HY.out] at hcell2))
    go_ret
    exact ⟨rfl, rfl⟩
end Go.Proofs.YtjmhmmenampgbaaDoor
