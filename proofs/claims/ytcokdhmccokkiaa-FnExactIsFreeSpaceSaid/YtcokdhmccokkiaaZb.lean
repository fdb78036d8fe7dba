/- Contracts: the free sets of the specification, and that both have the same. -/
import Derived.Test.YtcokdhmccokkiaaZa
import Derived.Test.YtcokdhmccokkiaaOu
import Derived.Test.YtcokdhmccokkiaaHar
namespace Go.Proofs.Ytcokdhmccokkiaa
open Go.RowKit
set_option maxRecDepth 100000
set_option linter.unusedSimpArgs false
theorem setsTo_congrZ {F G : Nat → Bool} : ∀ k, (∀ i, i < k → F i = G i) → setsTo F k = setsTo G k
  | 0, _ => rfl
  | k + 1, h => by rw [setsTo, setsTo, setsTo_congrZ k (fun i hi => h i (by omega)), h k (by omega)]
theorem sets_cutZ (K : Nat → Bool) (m : Nat) (hm : 2 ^ m ≤ 128) : setsTo (cutAt K (low m + 1)) 128 = setsTo K (2 ^ m) := by
  have hl := low_succ m
  have h1 : ∀ k, 2 ^ m ≤ k → setsTo (cutAt K (low m + 1)) k = setsTo (cutAt K (low m + 1)) (2 ^ m) := by
    intro k
    induction k with
    | zero => intro h; rw [show 2 ^ m = 0 by omega]
    | succ k ih =>
      intro h
      rcases Nat.lt_or_ge k (2 ^ m) with h2 | h2
      · rw [show 2 ^ m = k + 1 by omega]
      · rw [setsTo, ih h2, if_neg]
        simp [cutAt]; omega
  rw [h1 128 hm]
  exact setsTo_congrZ _ fun i hi => by simp [cutAt]; omega
def frS (l : List Int) (m s : Nat) : Bool := memB l ((andNot (low m) s : Nat) : Int) && (itemsOf (outerSp l (andNot (low m) s)) m == s)
theorem fr_same {n : Int} {l : List Int} (h : okSp n l = true) {s : Nat} (hs : s < 2 ^ n.toNat) : frB (marksTo l l.length) n.toNat s = frS l n.toNat s := by
  have hn := okSp_n h
  have ha : andNot (low n.toNat) s < 2 ^ n.toNat := by
    have h1 := low_succ n.toNat
    exact andNot_lt _ _ _ (by omega)
  unfold frB frS
  rw [okSp_marks h]
  cases hc : memB l ((andNot (low n.toNat) s : Nat) : Int)
  · rfl
  · rw [free_same (okSp_spc h) hs (by rw [okSp_marks h]; exact hc), outer_same (marksTo l l.length) l n.toNat _ (by omega) ha (fun x _ => okSp_marks h x)]
/-- The free sets, increasing. -/
def fsL (n : Int) (l : List Int) : List Int := if okSp n l then setsTo (frS l n.toNat) (2 ^ n.toNat) else []
theorem fsL_no {n : Int} {l : List Int} (h : okSp n l = false) : fsL n l = [] := by simp [fsL, h]
theorem fsL_yes {n : Int} {l : List Int} (h : okSp n l = true) : fsL n l = setsTo (frS l n.toNat) (2 ^ n.toNat) := by simp [fsL, h]
theorem fsL_impl {n : Int} {l : List Int} (h : okSp n l = true) : setsTo (cutAt (frB (marksTo l l.length) n.toNat) (low n.toNat + 1)) 128 = fsL n l := by
  have hn := okSp_n h
  have h2 := p2_le n.toNat 7 (by omega)
  rw [sets_cutZ _ _ (by omega), fsL_yes h]
  exact setsTo_congrZ _ fun i hi => fr_same h hi
theorem fsL_len (n : Int) (l : List Int) : (fsL n l).length < 1000000000 := by
  unfold fsL
  split
  · rename_i h
    have hn := okSp_n h
    have h2 := p2_le n.toNat 7 (by omega)
    have := setsTo_len (frS l n.toNat) (2 ^ n.toNat)
    omega
  · simp
theorem fsL_range (n : Int) (l : List Int) (j : Nat) (hj : j < (fsL n l).length) : 0 ≤ (fsL n l)[j]?.getD 0 ∧ (fsL n l)[j]?.getD 0 < 2 ^ n.toNat := by
  unfold fsL at hj ⊢
  split at hj
  · rename_i h
    rw [if_pos h]
    have := setsTo_range (frS l n.toNat) (2 ^ n.toNat) j hj
    rw [Int.natCast_pow] at this
    exact this
  · simp at hj
attribute [local irreducible] p2 low memB risB
theorem wrapZ (m : Nat) (h : m ≤ 7) : IntKind.i64.wrap (2 ^ m) = ((low m + 1 : Nat) : Int) := by
  have h1 := low_succ m
  have h2 := p2_le m 7 h
  rw [show ((2 : Int) ^ m) = ((2 ^ m : Nat) : Int) by push_cast; rfl]
  rw [h1]
  exact i64_of_lt _ (by omega)
set_option maxHeartbeats 2000000 in
theorem alFree_c (m : Nat) (v : Value) (l : List Int) (w : World) (hl : ints w.heap.size w v l) (hinc : inc l) (hlen : l.length < 1000000000) (hm7 : m ≤ 7) :
    Calls Try.prog 60 #[.agg #[.int .i64 (m : Int), v]] w fun e w' => ∃ v', e = .returned v' ∧ own 3 w' w.heap.size v' (setsTo (frS l m) (2 ^ m)) ∧ Below w.heap.size w w' := by
  have HL := hide (hl.alloc (.cells #[.int .i64 (m : Int), v] 32))
  have HI := hide hinc
  have H0 := hide ((Below.refl w.heap.size w).alloc (Nat.le_refl _) (.cells #[.int .i64 (m : Int), v] 32))
  have HS0 := hide (hp_last w (.cells #[.int .i64 (m : Int), v] 32))
  have HZ := hide (show (w.alloc (.cells #[.int .i64 (m : Int), v] 32)).heap.size = w.heap.size + 1 by simp)
  have hc0 := cells_at0 HS0.out
  have hc1 := cells_at1 HS0.out
  have hw1 := wrapZ m hm7
  have hw2 : IntKind.i64.wrap (((low m + 1 : Nat) : Int) - 1) = (low m : Int) := by rw [show (((low m + 1 : Nat) : Int) - 1) = (low m : Int) by omega]; exact i64_of_lt _ (by have := low_lt m hm7; omega)
  have hlo := low_lt m hm7
  rw [← low_succ m]
  clear hl hinc
  go_enter Try.func60, Try.ntmps60
  have hwz := wrapZ m hm7
  have hwy : IntKind.i64.wrap (IntKind.i64.wrap (2 ^ m) - 1) = (low m : Int) := by rw [hwz]; exact hw2
  have hwy2 : IntKind.i64.wrap (((2 ^ m : Nat) : Int) - 1) = (low m : Int) := by rw [← low_succ m]; exact hw2
  go_wp2_with fail
  go_loopw [3, 5] (fun o i wr => ∃ k : Nat, k ≤ low m + 1 ∧ i = .int .i64 (k : Int) ∧ Hid (own 3 wr (w.heap.size + 1) o (setsTo (frS l m) k)) ∧ Hid (Below (w.heap.size + 1) (w.alloc (.cells #[.int .i64 (m : Int), v] 32)) wr)) (fun _ i _ => low m + 1 - (intOf i).toNat)
  case atStart => exact ⟨0, by omega, rfl, own_nil _ _ _, (Below.refl _ _)⟩
  case round =>
    obtain ⟨j, hj, rfl, HO, HB⟩ := hrel
    have hsz := HB.out.size
    rw [HZ.out] at hsz
    have HLW := hide (HL.out.below HB.out (by omega))
    have HSW := hide ((HB.out.block w.heap.size (by omega)).trans HS0.out)
    have d0 := cells_at0 HSW.out
    have d1 := cells_at1 HSW.out
    have hln := setsTo_len (frS l m) j
    clear hc0 hc1
    by_cases hlt : j < low m + 1
    · have hlt' : (j : Int) ≤ (low m : Int) := by omega
      have HN := hide (show setsTo (frS l m) (j + 1) = if frS l m j = true then setsTo (frS l m) j ++ [(j : Int)] else setsTo (frS l m) j from rfl)
      have HQ := hide (show frS l m j = (memB l ((andNot (low m) j : Nat) : Int) && (itemsOf (outerSp l (andNot (low m) j)) m == j)) from rfl)
      have ha := andNot_lt128 (low m) j hlo
      have han := i64_andNot (low m) j (by omega)
      generalize andNot (low m) j = C at ha han HQ
      have HOU := hide (fun w1 h => by have := spOuter_c (m : Int) v l (C : Int) w1 h HI.out hlen (by omega) (by omega) (by omega) (by omega); rw [Int.toNat_natCast, Int.toNat_natCast] at this; exact this)
      have hou : itemsOf (outerSp l C) m < 128 := by
        have h1 : itemsOf (outerSp l C) m < 2 ^ m := itemsOf_lt _ m
        have h2 := p2_le m 7 hm7
        omega
      generalize itemsOf (outerSp l C) m = E at HOU HQ hou
      generalize frS l m j = R at HQ HN
      generalize setsTo (frS l m) j = A at HO HN hln
      have HH := hide (fun w1 h => spHas_c v l (C : Int) w1 h HI.out hlen)
      cases hm : memB l (C : Int)
      · rw [hm] at HH HQ
        clear hm
        go_wp2_with (first
          | (go_at_call 78; refine (HH.out _ (HLW.out.mono (by omega))).mono ?_; rintro e w2 ⟨rfl, rfl⟩))
        go_roundw
        case rel => exact ⟨j + 1, by omega, by go_num, by rw [HN.out, HQ.out]; exact HO.out, HB.out⟩
        case measure => (simp [intOf] <;> omega)
      · rw [hm] at HH HQ
        clear hm
        by_cases hE : E = j
        · have hEb : ((E : Int) == (j : Int)) = true := by subst hE; simp
          have HR := hide (show R = true by rw [HQ.out, hE]; simp)
          clear hE
          go_wp2_with (first
            | (go_at_call 78; refine (HH.out _ (HLW.out.mono (by omega))).mono ?_; rintro e w2 ⟨rfl, rfl⟩)
            | (go_at_call 85; refine (HOU.out _ (HLW.out.mono (by omega))).mono ?_; rintro e w3 ⟨rfl, hb3⟩; have HB3 := hide (HB.out.trans (hb3.mono hsz)); have HO3 := hide (HO.out.kept hb3); have hs3 := hb3.size; clear hb3)
            | (at_builtin; refine wpList_append1 sliceT intI rfl _ _ rfl (w.heap.size + 1) _ _ rfl (HO3.out.alloc _) _ (j : Int) rfl (by simp [go_sem]) (by simp; omega) (by omega) ?_; intro v4 w4 ho4 hb4; have HO4 := hide ho4; have HB4 := hide ((HB3.out.alloc (by omega) _).trans hb4); clear ho4 hb4))
          go_roundw
          case rel => exact ⟨j + 1, by omega, by go_num, by rw [HN.out, HR.out]; exact HO4.out, HB4.out⟩
          case measure => (simp [intOf] <;> omega)
        · have hEb : ((E : Int) == (j : Int)) = false := by simp; omega
          have HR := hide (show R = false by rw [HQ.out]; simp [hE])
          clear hE
          go_wp2_with (first
            | (go_at_call 78; refine (HH.out _ (HLW.out.mono (by omega))).mono ?_; rintro e w2 ⟨rfl, rfl⟩)
            | (go_at_call 85; refine (HOU.out _ (HLW.out.mono (by omega))).mono ?_; rintro e w3 ⟨rfl, hb3⟩; have HB3 := hide (HB.out.trans (hb3.mono hsz)); have HO3 := hide (HO.out.kept hb3); have hs3 := hb3.size; clear hb3))
          go_roundw
          case rel => exact ⟨j + 1, by omega, by go_num, by rw [HN.out, HR.out]; exact HO3.out, HB3.out⟩
          case measure => (simp [intOf] <;> omega)
    · have HJ := hide (show j = low m + 1 by omega)
      have hlt' : ¬ ((j : Int) ≤ (low m : Int)) := by omega
      clear hln
      go_wp2
      go_ret
      exact ⟨_, rfl, by rw [← HJ.out]; exact HO.out.mono (by omega), H0.out.trans (HB.out.mono (by omega))⟩
end Go.Proofs.Ytcokdhmccokkiaa
