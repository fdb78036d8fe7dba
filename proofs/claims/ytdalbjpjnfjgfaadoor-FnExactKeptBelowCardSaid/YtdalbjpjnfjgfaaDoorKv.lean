/- Contracts: the items that cost at most a limit, the specification's. -/
import Derived.Test.YtdalbjpjnfjgfaaDoorKo
import Derived.Test.YtdalbjpjnfjgfaaDoorKu
namespace Go.Proofs.YtdalbjpjnfjgfaaDoor
open Go.RowKit
set_option maxRecDepth 100000
set_option linter.unusedSimpArgs false
def itU (y k : Nat) : List Int := ((List.range k).filter (fun i => y.testBit i)).map (fun i : Nat => (i : Int))
theorem itU_next (y k : Nat) : itU y (k + 1) = if y.testBit k then itU y k ++ [(k : Int)] else itU y k := by
  unfold itU
  rw [List.range_succ, List.filter_append, List.map_append]
  cases h : y.testBit k <;> simp [h]
theorem itU_len (y : Nat) : ∀ k, (itU y k).length ≤ k
  | 0 => Nat.le_refl _
  | k + 1 => by
    have := itU_len y k
    rw [itU_next]
    split
    · rw [List.length_append, List.length_singleton]; omega
    · omega
theorem itU_cut {y n : Nat} (h : y < 2 ^ n) : ∀ d, itU y (n + d) = itU y n
  | 0 => rfl
  | d + 1 => by
    rw [← Nat.add_assoc, itU_next, Nat.testBit_lt_two_pow (Nat.lt_of_lt_of_le h (Nat.pow_le_pow_right (by omega) (by omega)))]
    exact itU_cut h d
theorem itU_all {y n : Nat} (h : y < 2 ^ n) (h7 : n ≤ 7) : itU y n = itemsL y := by
  have := itU_cut h (7 - n)
  rw [show n + (7 - n) = 7 by omega] at this
  rw [← this]; rfl
attribute [local irreducible] p2 low memB risB
set_option maxHeartbeats 4000000 in
theorem grCheap_c (n : Nat) (v : Value) (l : List Int) (u : Value) (T : List Tsk) (s : Nat) (lim : Int) (w : World) (hl : ints w.heap.size w v l) (hlen : l.length < 1000000000) (ht : tks w.heap.size w u T) (hsp0 : okSp (n : Int) l = true) (hta : taB T (n : Int) = true) (hs2n : s < 2 ^ n) :
    Calls Tryd.prog 108 #[.agg #[.int .i64 (n : Int), v], u, .int .i64 (s : Int), .int .i64 lim] w fun e w' => ∃ v', e = .returned v' ∧ own 3 w' w.heap.size v' (itemsL (nxA (marksTo l l.length) (alC (coT T) lim) n s)) ∧ Below w.heap.size w w' := by
  obtain ⟨hn1, hn7⟩ := okSp_n hsp0
  have h7 : n ≤ 7 := by omega
  have htl : T.length = n := by have := (taB_is hta).2.1; omega
  have HI := hide (okSp_inc hsp0)
  have HMK := hide (okSp_marks hsp0)
  obtain ⟨ua, uc, hu⟩ := ht.shape
  subst hu
  have hs128 : s < 128 := by have := p2_le n 7 h7; omega
  have HL := hide (hl.alloc (.cells #[.int .i64 (n : Int), v] 34))
  have HTK := hide ht
  have H0 := hide ((Below.refl w.heap.size w).alloc (Nat.le_refl _) (.cells #[.int .i64 (n : Int), v] 34))
  have HX := hide (hp_last w (.cells #[.int .i64 (n : Int), v] 34))
  have HZ := hide (show (w.alloc (.cells #[.int .i64 (n : Int), v] 34)).heap.size = w.heap.size + 1 by simp)
  have d0 := cells_at0 HX.out
  have d1 := cells_at1 HX.out
  have HTAB := hide hta
  generalize marksTo l l.length = F at HMK ⊢
  have hy2 : nxA F (alC (coT T) lim) n s < 2 ^ n := by unfold nxA; exact itemsOf_lt _ n
  have HALL := hide (itU_all hy2 h7)
  have HBIT := hide (fun i (hi : i < n) => show (nxA F (alC (coT T) lim) n s).testBit i = ((outerOf F n s).testBit i && alC (coT T) lim s i) by
    rw [nxA_bit, outer_bit, decide_eq_true hi]; simp)
  have HO128 := hide (outer_lt F n s h7)
  have HOS := hide (outer_same F l n s h7 hs2n (fun y _ => HMK.out y))
  have HOU := hide (fun w1 h1 => by have := spOuter_c (n : Int) v l (s : Int) w1 h1 HI.out hlen (by omega) (by omega) (by omega) (by omega); rw [Int.toNat_natCast, Int.toNat_natCast, ← HOS.out] at this; exact this)
  have HC := hide (fun w1 (h : Below w.heap.size w w1) j hj => grCost_c _ T (n : Int) s j w1 HTAB.out (HTK.out.to h) hs128 hj)
  generalize nxA F (alC (coT T) lim) n s = y at *
  generalize outerOf F n s = O at *
  clear hl ht hsp0 hta HOS hy2
  have HTL := hide htl
  clear htl
  have HLW := hide (HL.out.mono (show w.heap.size ≤ (w.alloc (.cells #[.int .i64 (n : Int), v] 34)).heap.size by rw [HZ.out]; omega))
  go_enter Tryd.func108, Tryd.ntmps108
  go_wp2_with (go_at_call 141; refine (HOU.out _ HLW.out).mono ?_; rintro e w3 ⟨rfl, hb3⟩; have hz3 := hb3.size; have HB3 := hide (H0.out.trans (hb3.mono (by rw [HZ.out]; omega))); clear hb3)
  clear d0 d1
  go_loopw [9, 17] (fun o iv wq => ∃ q : Nat, q ≤ n ∧ iv = .int .i64 (q : Int) ∧ Hid (own 3 wq w.heap.size o (itU y q)) ∧ Hid (Below w.heap.size w wq)) (fun _ iv _ => n - (intOf iv).toNat)
  case atStart => exact ⟨0, Nat.zero_le _, rfl, own_nil _ _ _, HB3⟩
  case round =>
    obtain ⟨q, hq2, rfl, HO, HB⟩ := hrel
    have hlenq := itU_len y q
    have HN := hide (itU_next y q)
    by_cases hlq : q < n
    · have hlq' : (q : Int) < ((T.length : Nat) : Int) := by rw [HTL.out]; omega
      have hbq := HBIT.out q hlq
      have HSQ := hide (fun w1 => spIn_natK O q HO128.out (show q < 7 by omega) w1)
      have HCQ := hide (fun w1 h => HC.out w1 h q (by rw [HTL.out]; exact hlq))
      generalize hL : itU y q = L at *
      clear hL
      unfold alC at hbq
      cases hb : O.testBit q
      · rw [hb] at HSQ hbq
        rw [hbq] at HN
        clear hb hbq
        go_wp2_with (go_at_call 118; refine (HSQ.out _).mono ?_; rintro e w4 ⟨rfl, rfl⟩)
        go_roundw
        case rel => exact ⟨q + 1, by omega, by go_num, by rw [HN.out]; exact HO, HB⟩
        case measure => (simp [intOf] <;> omega)
      · rw [hb] at HSQ hbq
        clear hb
        generalize coT T s q = cq at hbq HCQ
        obtain ⟨oa, oc, ho⟩ := HO.out.shape
        subst ho
        by_cases hcc : cq ≤ lim
        · rw [decide_eq_true hcc] at hbq
          rw [hbq] at HN
          clear hbq
          go_wp2_with (first
            | (go_at_call 118; refine (HSQ.out _).mono ?_; rintro e w4 ⟨rfl, rfl⟩)
            | (go_at_call 142; refine (HCQ.out _ HB.out).mono ?_; rintro e w5 ⟨rfl, hb5⟩; have HB5 := hide (HB.out.trans (hb5.mono HB.out.size)); have HO5 := hide (HO.out.kept hb5); have hz5 := HB5.out.size; clear hb5 HCQ)
            | (at_builtin; refine wpList_append1 sliceT intI rfl (.tmp 31) (.tmp 33) rfl w.heap.size _ _ rfl (HO5.out.alloc _) _ (q : Int) rfl (by simp [go_sem]) (by simp; omega) (by omega) ?_; intro v7 w7 ho7 hb7; have HO7 := hide ho7; have HB7 := hide ((HB5.out.alloc (by have := HB5.out.size; omega) _).trans hb7); clear ho7 hb7))
          go_roundw
          case rel => exact ⟨q + 1, by omega, by go_num, by rw [HN.out]; exact HO7, HB7⟩
          case measure => (simp [intOf] <;> omega)
        · rw [decide_eq_false hcc] at hbq
          rw [hbq] at HN
          clear hbq
          go_wp2_with (first
            | (go_at_call 118; refine (HSQ.out _).mono ?_; rintro e w4 ⟨rfl, rfl⟩)
            | (go_at_call 142; refine (HCQ.out _ HB.out).mono ?_; rintro e w5 ⟨rfl, hb5⟩; have HB5 := hide (HB.out.trans (hb5.mono HB.out.size)); have HO5 := hide (HO.out.kept hb5); have hz5 := HB5.out.size; clear hb5 HCQ))
          go_roundw
          case rel => exact ⟨q + 1, by omega, by go_num, by rw [HN.out]; exact HO5, HB5⟩
          case measure => (simp [intOf] <;> omega)
    · have hqn : q = n := by omega
      have hlq' : ¬ ((q : Int) < ((T.length : Nat) : Int)) := by rw [HTL.out]; omega
      have HE := hide (show itU y q = itemsL y by rw [hqn]; exact HALL.out)
      clear hqn
      go_wp2
      go_ret
      exact ⟨_, rfl, by rw [← HE.out]; exact HO.out, HB.out⟩
end Go.Proofs.YtdalbjpjnfjgfaaDoor
