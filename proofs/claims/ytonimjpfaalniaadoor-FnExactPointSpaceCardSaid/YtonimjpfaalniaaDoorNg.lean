/- Contracts: what is reached in a net within a set, joined sets and trees, the specification's. -/
import Derived.Test.YtonimjpfaalniaaDoorNc
import Derived.Test.YtonimjpfaalniaaDoorNf
namespace Go.Proofs.YtonimjpfaalniaaDoor
open Go.RowKit
set_option maxRecDepth 100000
/-- One walk over all points, k of them done: y is what was reached, last what was before it. -/
def GsIn (l : List Int) (s i last k y : Nat) : Prop := sub last y ∧ y.testBit i = true ∧ (∀ X, Closed l s X → X.testBit i = true → sub y X) ∧ (y = last → ∀ p, p < k → last.testBit p = true → sub (nth l p &&& s) last)
theorem GsIn.skip {l : List Int} {s i last k y : Nat} (h : GsIn l s i last k y) (hb : y.testBit k = false) : GsIn l s i last (k + 1) y := by
  obtain ⟨h1, h2, h3, h4⟩ := h
  refine ⟨h1, h2, h3, fun e p hp hl => ?_⟩
  rcases Nat.lt_or_ge p k with h' | h'
  · exact h4 e p h' hl
  · have : p = k := by omega
    subst this; rw [e, hl] at hb; cases hb
theorem GsIn.take {l : List Int} {s i last k y : Nat} (h : GsIn l s i last k y) (hb : y.testBit k = true) : GsIn l s i last (k + 1) (y ||| (nth l k &&& s)) := by
  obtain ⟨h1, h2, h3, h4⟩ := h
  have hup : sub y (y ||| (nth l k &&& s)) := fun q hq => by rw [Nat.testBit_or, hq]; rfl
  refine ⟨h1.trans hup, hup i h2, fun X hX hi q hq => ?_, fun e p hp hl => ?_⟩
  · rw [Nat.testBit_or, Bool.or_eq_true, Nat.testBit_and, Bool.and_eq_true] at hq
    rcases hq with hq | hq
    · exact h3 X hX hi q hq
    · exact hX k q (h3 X hX hi k hb) hq.1 hq.2
  · have ey : y = last := sub.anti (by rw [e] at hup; exact hup) h1
    rcases Nat.lt_or_ge p k with h' | h'
    · exact h4 ey p h' hl
    · have : p = k := by omega
      subst this
      intro q hq
      rw [← e, Nat.testBit_or, hq]; simp
/-- What the walks over all points have reached. -/
def GsOut (l : List Int) (s i last y : Nat) : Prop := y.testBit i = true ∧ (∀ X, Closed l s X → X.testBit i = true → sub y X) ∧ (last = y → Closed l s y)
theorem GsIn.start {l : List Int} {s i last y : Nat} (h : GsOut l s i last y) : GsIn l s i y 0 y := ⟨fun _ h => h, h.1, h.2.1, fun _ p hp => by omega⟩
theorem GsIn.done {l : List Int} {s i last y : Nat} (hl : ∀ p, p < l.length ∨ nth l p = 0) (h : GsIn l s i last l.length y) : GsOut l s i last y := by
  obtain ⟨h1, h2, h3, h4⟩ := h
  refine ⟨h2, h3, fun e p q hp hpq hq => ?_⟩
  subst e
  rcases hl p with h' | h'
  · exact h4 rfl p h' hp q (by rw [Nat.testBit_and, hpq, hq]; rfl)
  · rw [h'] at hpq; simp at hpq
theorem GsOut.end {l : List Int} {s i y : Nat} (hi : i < 7) (hs : s < 128) (h : GsOut l s i y y) : reachS l s i = y := reach_eq hi hs h.1 (h.2.2 rfl) h.2.1
theorem GsOut.first {l : List Int} {s i : Nat} : GsOut l s i 0 (p2 i) := ⟨by rw [p2_bit]; simp, fun _ _ h => p2_sub h, fun e => by have := p2_pos i; unfold p2 at e; omega⟩
theorem nth_out (l : List Int) (p : Nat) : p < l.length ∨ nth l p = 0 := by
  rcases Nat.lt_or_ge p l.length with h | h
  · exact .inl h
  · exact .inr (by unfold nth; rw [List.getElem?_eq_none h]; rfl)
/-- What was reached grows, or stays. -/
theorem gs_more {l : List Int} {s i last k y : Nat} (hy : y < 128) (hl : last < 128) (h : GsIn l s i last k y) (hne : last ≠ y) : pc last < pc y := pc_subN hl hy h.1 hne
theorem jnB_at {l : List Int} {s k : Nat} (hs : s < 128) (hb : s.testBit k = true) (hk : ∀ j, j < k → s.testBit j = false) : jnB l s = (reachS l s k == s) := by
  have h0 : s ≠ 0 := fun h => by rw [h] at hb; simp at hb
  have e : tzN s = k := by
    have h1 := tzN_least s hs k (bit_lt (n := 7) hs hb) hb
    have h2 := tzN_bit s hs h0
    rcases Nat.lt_or_ge (tzN s) k with h | h
    · rw [hk _ h] at h2; cases h2
    · omega
  unfold jnB
  rw [e, Bool.eq_iff_iff, Bool.or_eq_true, beq_iff_eq]
  constructor
  · rintro (h | h)
    · exact absurd h h0
    · exact h
  · exact .inr
theorem jnB_none {l : List Int} {s n : Nat} (hs : s < 2 ^ n) (hk : ∀ j, j < n → s.testBit j = false) : jnB l s = true := by
  have : s = 0 := by
    apply Nat.eq_of_testBit_eq
    intro i
    rw [Nat.zero_testBit]
    rcases Nat.lt_or_ge i n with h | h
    · exact hk i h
    · exact Nat.testBit_lt_two_pow (Nat.lt_of_lt_of_le hs (p2_le n i h))
  rw [this]; rfl
attribute [local irreducible] p2 low memB risB
set_option maxHeartbeats 2000000 in
theorem shReach_c (v : Value) (l : List Int) (i s : Nat) (w : World) (hl : ints w.heap.size w v l) (hA : neA l = true) (hi : i < l.length) (hs : s < 128) :
    Calls Tryd.prog 111 #[.agg #[v], .int .i64 (i : Int), .int .i64 (s : Int)] w fun e w' => e = .returned (.int .i64 (reachS l s i : Int)) ∧ Below w.heap.size w w' := by
  have h7 := (neA_in hA).1.2
  have hi7 : i < 7 := by omega
  have HL := hide hl
  have H128 := hide (fun p => neA_128 hA p)
  have HCX := hide (fun p hp => neA_cast hA p hp)
  have HB0 := hide (bx_start 62 v w)
  have HG0 := hide (GsOut.first (l := l) (s := s) (i := i))
  have HEND := hide (fun y h => GsOut.end (l := l) (s := s) (i := i) (y := y) hi7 hs h)
  have hp1 := wrap_p2 i (by omega)
  have hp2 : IntKind.i64.wrap (2 ^ i) = (p2 i : Int) := by rw [IntWalk.i64_left]; exact hp1
  have hpi := p2_lt128 i hi7
  have HNO := hide (nth_out l)
  have HPC0 := hide (show pc 0 ≤ pc (p2 i) ∧ (0 ≠ p2 i → pc 0 < pc (p2 i)) by rw [pc_p2 i hi7]; exact ⟨by decide, fun _ => by decide⟩)
  clear hl hA
  go_enter Tryd.func111, Tryd.ntmps111
  go_wp2_with fail
  clear hp1 hp2
  go_loopw [7, 8] (fun o la wr => ∃ y last : Nat, o = .int .i64 (y : Int) ∧ la = .int .i64 (last : Int) ∧ y < 128 ∧ last < 128 ∧ Hid (pc last ≤ pc y ∧ (last ≠ y → pc last < pc y)) ∧ Hid (GsOut l s i last y) ∧ Hid (Below (w.heap.size + 1) (w.alloc (.cells #[v] 62)) wr)) (fun o la _ => 2 * (7 - pc (intOf o).toNat) + (if pc (intOf la).toNat = pc (intOf o).toNat then 0 else 1))
  case atStart => exact ⟨p2 i, 0, rfl, rfl, hpi, by omega, HPC0, HG0, HB0⟩
  case round =>
    obtain ⟨y, last, rfl, rfl, hy8, hl8, HPL, HG, HB⟩ := hrel
    have hcell := bx_cell HB.out
    by_cases hyl : last = y
    · have HE := hide (HEND.out y (by rw [hyl] at HG; exact HG.out))
      have hd : ((last : Int) != (y : Int)) = false := by simp; omega
      have hd2 : ((last : Int) == (y : Int)) = true := by rw [beq_iff_eq]; omega
      clear hyl
      go_wp2
      go_ret
      exact ⟨ret_i (by rw [HE.out]), bx_below HB.out⟩
    · have hd : ((last : Int) != (y : Int)) = true := by simp; omega
      have hd2 : ((last : Int) == (y : Int)) = false := by rw [beq_eq_false_iff_ne]; omega
      have HGS := hide (GsIn.start HG.out)
      have HYL := hide hyl
      clear hyl
      have HLI := hide (bx_ints HB.out HL.out)
      go_wp2_with (refine wpList_len sliceT rfl (.tmp _) rfl v rfl w.heap.size l HLI.out ?_)
      clear hcell
      go_loopw [7, 20] (fun o j ws => ∃ z k : Nat, o = .int .i64 (z : Int) ∧ j = .int .i64 (k : Int) ∧ k ≤ l.length ∧ z < 128 ∧ Hid (GsIn l s i y k z) ∧ Hid (Below (w.heap.size + 1) (w.alloc (.cells #[v] 62)) ws)) (fun _ j _ => l.length - (intOf j).toNat)
      case atStart => exact ⟨y, 0, rfl, rfl, Nat.zero_le _, hy8, HGS, HB⟩
      case round =>
        obtain ⟨z, k, rfl, rfl, hk, hz8, HZ, HBI⟩ := hrel
        have HLJ := hide (bx_ints HBI.out HL.out)
        by_cases hlt : k < l.length
        · have hx8 := H128.out k
          have HX := hide (HCX.out k hlt)
          have hkk : k ≤ 7 := by omega
          cases hb : z.testBit k
          · have HBT := hide hb
            have HN := hide (HZ.out.skip hb)
            clear hb
            generalize nth l k = x at *
            go_wp2_with (first
              | (refine wpList_at sliceT intS rfl (.tmp _) (.tmp _) rfl v rfl k rfl w.heap.size l HLJ.out hlt ?_; intro ad hcell hblk; rw [HX.out] at hcell)
              | (go_at_call 100; refine (spIn_c _ _ _ (by omega) (by omega) (by omega) (by omega)).mono ?_; rw [Int.toNat_natCast, Int.toNat_natCast, HBT.out]; rintro e w8 ⟨rfl, rfl⟩))
            go_roundw
            case rel => exact ⟨z, k + 1, rfl, by go_num, by omega, hz8, HN, HBI⟩
            case measure => simp [intOf]; omega
          · have HBT := hide hb
            have HN := hide (HZ.out.take hb)
            clear hb
            have hxs : nth l k &&& s < 128 := Nat.lt_of_le_of_lt Nat.and_le_right hs
            have hand := i64_and (nth l k) s (by omega) (by omega)
            generalize nth l k = x at *
            have hor := i64_or z (x &&& s) (by omega) (by omega)
            have hzx := or_lt128 z (x &&& s) hz8 hxs
            generalize x &&& s = t at *
            go_wp2_with (first
              | (refine wpList_at sliceT intS rfl (.tmp _) (.tmp _) rfl v rfl k rfl w.heap.size l HLJ.out hlt ?_; intro ad hcell hblk; rw [HX.out] at hcell)
              | (go_at_call 100; refine (spIn_c _ _ _ (by omega) (by omega) (by omega) (by omega)).mono ?_; rw [Int.toNat_natCast, Int.toNat_natCast, HBT.out]; rintro e w8 ⟨rfl, rfl⟩))
            go_roundw
            case rel => exact ⟨_, k + 1, rfl, by go_num, by omega, hzx, HN, HBI⟩
            case measure => simp [intOf]; omega
        · have HZZ := hide (show GsIn l s i y l.length z by rw [← show k = l.length by omega]; exact HZ.out)
          have HO := hide (HZZ.out.done HNO.out)
          have hpz : pc y ≤ pc z := pc_sub_le hy8 hz8 HZZ.out.1
          have hpz2 : pc y = pc z → y = z := fun e => by
            by_cases h : y = z
            · exact h
            · have := gs_more hz8 hy8 HZZ.out h; omega
          have hz7 := pc_le z
          have hlt' : ¬ ((k : Int) < (l.length : Int)) := by omega
          have HPP := hide (And.intro hpz hpz2)
          clear hpz hpz2
          go_wp2
          go_roundw
          case rel => exact ⟨z, y, rfl, rfl, hz8, hy8, ⟨HPP.out.1, fun h => by have h1 := HPP.out.1; have h2 := HPP.out.2; rcases Nat.lt_or_ge (pc y) (pc z) with h3 | h3; exact h3; exact absurd (h2 (by omega)) h⟩, HO, HBI⟩
          case measure =>
            have h1 := HPP.out.1
            have h2 := HPL.out.2 HYL.out
            have h4 := pc_le z
            simp only [intOf, Int.toNat_natCast]
            have h5 : ¬ pc last = pc y := by omega
            by_cases h6 : pc y = pc z
            · have h8 : ¬ pc last = pc z := by omega
              simp only [h8, h6, if_true, if_false]
              omega
            · simp only [h5, h6, if_false]
              omega

set_option maxHeartbeats 2000000 in
theorem shJoined_c (v : Value) (l : List Int) (s : Nat) (w : World) (hl : ints w.heap.size w v l) (hA : neA l = true) (hs : s < 2 ^ l.length) :
    Calls Tryd.prog 109 #[.agg #[v], .int .i64 (s : Int)] w fun e w' => e = .returned (.bool (jnB l s)) ∧ Below w.heap.size w w' := by
  have h7 := (neA_in hA).1.2
  have hs8 : s < 128 := by have := p2_le l.length 7 h7; omega
  have HL := hide hl
  have HB0 := hide (bx_start 62 v w)
  have HNONE := hide (fun h => jnB_none (l := l) hs h)
  have HAT := hide (fun k hb h => jnB_at (l := l) (s := s) (k := k) hs8 hb h)
  have HRE := hide (fun k w1 h1 hk => shReach_c v l k s w1 h1 hA hk hs8)
  clear hl hA hs
  have HL0 := hide (bx_ints HB0.out HL.out)
  go_enter Tryd.func109, Tryd.ntmps109
  go_wp2_with (refine wpList_len sliceT rfl (.tmp _) rfl v rfl w.heap.size l HL0.out ?_)
  go_loopw [9] (fun j wr => ∃ k : Nat, j = .int .i64 (k : Int) ∧ k ≤ l.length ∧ Hid (∀ j, j < k → s.testBit j = false) ∧ Hid (Below (w.heap.size + 1) (w.alloc (.cells #[v] 62)) wr)) (fun j _ => l.length - (intOf j).toNat)
  case atStart => exact ⟨0, rfl, Nat.zero_le _, fun j hj => by omega, HB0⟩
  case round =>
    obtain ⟨k, rfl, hk, HJ, HB⟩ := hrel
    have hcell := bx_cell HB.out
    by_cases hlt : k < l.length
    · cases hb : s.testBit k
      · have HBT := hide hb
        clear hb
        go_wp2_with (go_at_call 100; refine (spIn_c _ _ _ (by omega) (by omega) (by omega) (by omega)).mono ?_; rw [Int.toNat_natCast, Int.toNat_natCast, HBT.out]; rintro e w8 ⟨rfl, rfl⟩)
        go_roundw
        case rel => exact ⟨k + 1, by go_num, by omega, hide (fun j hj => by
          rcases Nat.lt_or_ge j k with h | h
          · exact HJ.out j h
          · rw [show j = k by omega]; exact HBT.out), HB⟩
        case measure => simp [intOf]; omega
      · have HBT := hide hb
        have HR := hide (HAT.out k hb HJ.out)
        have HC := hide (fun w1 h1 => HRE.out k w1 h1 hlt)
        clear hb
        generalize reachS l s k = r at *
        go_wp2_with (first
          | (go_at_call 100; refine (spIn_c _ _ _ (by omega) (by omega) (by omega) (by omega)).mono ?_; rw [Int.toNat_natCast, Int.toNat_natCast, HBT.out]; rintro e w8 ⟨rfl, rfl⟩)
          | (go_at_call 111; refine (HC.out _ (bx_full HB.out HL.out)).mono ?_; rintro e w8 ⟨rfl, hb8⟩; have HB8 := hide (bx_to HB.out hb8); clear hb8))
        go_ret
        refine ⟨ret_b ?_, bx_below HB8.out⟩
        rw [HR.out, Bool.eq_iff_iff]
        simp only [beq_iff_eq]
        omega
    · have HYES := hide (HNONE.out (by rw [← show k = l.length by omega]; exact HJ.out))
      have hlt' : ¬ ((k : Int) < (l.length : Int)) := by omega
      go_wp2
      go_ret
      exact ⟨ret_b HYES.out.symm, bx_below HB.out⟩
end Go.Proofs.YtonimjpfaalniaaDoor
