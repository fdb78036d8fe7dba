/- Contracts: the greedy word, the specification's. -/
import Derived.Test.YtndnkefbilhgnaaDoorKl
import Derived.Test.YtndnkefbilhgnaaDoorKb
namespace Go.Proofs.YtndnkefbilhgnaaDoor
open Go.RowKit
set_option maxRecDepth 100000
set_option linter.unusedSimpArgs false
attribute [local irreducible] p2 low memB risB
theorem spIn_natK (s k : Nat) (hs : s < 128) (hk : k < 7) (w1 : World) : Calls Tryd.prog 56 #[.int .i64 (s : Int), .int .i64 (k : Int)] w1 fun e w' => e = .returned (.bool (s.testBit k)) ∧ w1 = w' := by
  have := spIn_c (s : Int) (k : Int) w1 (by omega) (by omega) (by omega) (by omega)
  rw [Int.toNat_natCast, Int.toNat_natCast] at this
  exact this
theorem mnTo_lt (c : Nat → Int) (O k : Nat) : mnTo c O k = -1 ∨ ∃ b : Nat, mnTo c O k = (b : Int) ∧ b < k := by
  rcases mnTo_is c O k with ⟨h, _⟩ | ⟨i, h, hi, _⟩
  · exact .inl h
  · exact .inr ⟨i, h, hi⟩
/-- The length of a slice. -/
def grLen2 : Value → Nat
  | .slice _ n _ => n
  | _ => 0
set_option maxHeartbeats 4000000 in
theorem grGreedy_c (n : Nat) (v : Value) (l : List Int) (u : Value) (T : List Tsk) (w : World) (hl : ints w.heap.size w v l) (hlen : l.length < 1000000000) (ht : tks w.heap.size w u T) (hsp0 : okSp (n : Int) l = true) (hta : taB T (n : Int) = true) :
    Calls Tryd.prog 72 #[.agg #[.int .i64 (n : Int), v], u] w fun e w' => ∃ v', e = .returned v' ∧ own 3 w' w.heap.size v' (grW (coT T) (outerOf (marksTo l l.length) n) n) ∧ Below w.heap.size w w' := by
  obtain ⟨hn1, hn7⟩ := okSp_n hsp0
  have h7 : n ≤ 7 := by omega
  have htl : T.length = n := by have := (taB_is hta).2.1; omega
  have hsp := okSp_spc hsp0
  rw [Int.toNat_natCast] at hsp
  have HI := hide (okSp_inc hsp0)
  have HMK := hide (okSp_marks hsp0)
  obtain ⟨ua, uc, hu⟩ := ht.shape
  subst hu
  have HL := hide (hl.alloc (.cells #[.int .i64 (n : Int), v] 30))
  have HTK := hide ht
  have H0 := hide ((Below.refl w.heap.size w).alloc (Nat.le_refl _) (.cells #[.int .i64 (n : Int), v] 30))
  have HX := hide (hp_last w (.cells #[.int .i64 (n : Int), v] 30))
  have HZ := hide (show (w.alloc (.cells #[.int .i64 (n : Int), v] 30)).heap.size = w.heap.size + 1 by simp)
  have HTAB := hide hta
  generalize marksTo l l.length = F at hsp HMK ⊢
  have HOK := hide (fun k hk => gs_ok (coT T) hsp h7 k hk)
  have HGI := hide (fun k hk => gi_ok (coT T) hsp h7 (k := k) hk)
  have HLT := hide (fun x (hx : F x = true) => hsp.lt x hx)
  have HGN := hide (fun k => gs_next (coT T) (outerOf F n) k)
  have HWN := hide (fun k => grW_next (coT T) (outerOf F n) k)
  have HWL := hide (fun k => grW_len (coT T) (outerOf F n) k)
  clear hl ht hsp hsp0 hta
  have HTL := hide htl
  clear htl
  go_enter Tryd.func72, Tryd.ntmps72
  go_wp2_with fail
  generalize w.alloc (.cells #[.int .i64 (n : Int), v] 30) = W at HL H0 HX HZ ⊢
  go_loopw [5, 6] (fun o sv wr => ∃ k : Nat, k ≤ n ∧ sv = .int .i64 (gs (coT T) (outerOf F n) k : Int) ∧ Hid (own 3 wr (w.heap.size + 1) o (grW (coT T) (outerOf F n) k)) ∧ Hid (Below (w.heap.size + 1) W wr)) (fun o _ _ => 8 - (grLen2 o))
  case atStart => exact ⟨0, Nat.zero_le _, rfl, own_nil _ _ _, Below.refl _ _⟩
  case round =>
    obtain ⟨k, hk2, rfl, HO, HB⟩ := hrel
    have hlenk := HWL.out k
    obtain ⟨oa, oc, ho⟩ := HO.out.shape
    rw [hlenk] at ho
    subst ho
    have hz := HZ.out
    have hszw := HB.out.size
    have hblk := (HB.out.block w.heap.size (by omega)).trans HX.out
    have d0 := cells_at0 hblk
    have d1 := cells_at1 hblk
    have HBL := hide hblk
    clear hblk
    by_cases hlt : k < n
    · have hlt' : (k : Int) < (n : Int) := by omega
      have hok := HOK.out k hk2
      have hs2n := HLT.out _ hok.1
      have hs128 : gs (coT T) (outerOf F n) k < 128 := by have := p2_le n 7 h7; omega
      have hgi := HGI.out k hlt
      have HGK := hide (HGN.out k)
      have HWK := hide (HWN.out k)
      have hin := outer_in hgi.1
      have hO128 := outer_lt F n (gs (coT T) (outerOf F n) k) h7
      have hO2n : outerOf F n (gs (coT T) (outerOf F n) k) < 2 ^ n := itemsOf_lt _ n
      have HMN := hide (mnTo_of hO2n hgi)
      generalize gs (coT T) (outerOf F n) k = s at *
      generalize grW (coT T) (outerOf F n) k = L0 at *
      generalize gi (coT T) (outerOf F n) k = i at *
      have HOS := hide (outer_same F l n s h7 hs2n (fun y _ => HMK.out y))
      have HOU := hide (fun w1 h1 => by have := spOuter_c (n : Int) v l (s : Int) w1 h1 HI.out hlen (by omega) (by omega) (by omega) (by omega); rw [Int.toNat_natCast, Int.toNat_natCast, ← HOS.out] at this; exact this)
      clear HOS
      generalize outerOf F n s = O at *
      have HBW := hide (H0.out.trans (HB.out.mono (show w.heap.size ≤ w.heap.size + 1 by omega)))
      have HLW := hide ((HL.out.below HB.out (by omega)).mono (show w.heap.size ≤ wr.heap.size by omega))
      have HC := hide (fun w1 (h : Below w.heap.size w w1) j hj => grCost_c _ T (n : Int) s j w1 HTAB.out (HTK.out.to h) hs128 hj)
      have HMX := hide (fun k => mnTo_next (coT T s) O k)
      have HML := hide (fun k => mnTo_lt (coT T s) O k)
      have HSI := hide (fun q hq w1 => spIn_natK O q hO128 hq w1)
      clear hgi hok
      go_wp2_with (go_at_call 57; refine (HOU.out _ HLW.out).mono ?_; rintro e w3 ⟨rfl, hb3⟩; have hz3 := hb3.size; have HO3 := hide (HO.out.kept hb3); have HB3 := hide (HB.out.trans (hb3.mono (show w.heap.size + 1 ≤ wr.heap.size by omega))); have HBW3 := hide (HBW.out.trans (hb3.mono (show w.heap.size ≤ wr.heap.size by omega))); clear hb3)
      go_loopw [7, 20] (fun bv iv wq => ∃ q : Nat, q ≤ n ∧ iv = .int .i64 (q : Int) ∧ bv = .int .i64 (mnTo (coT T s) O q) ∧ Hid (Below w3.heap.size w3 wq)) (fun _ iv _ => n - (intOf iv).toNat)
      case atStart => exact ⟨0, Nat.zero_le _, rfl, rfl, Below.refl _ _⟩
      case round =>
        obtain ⟨q, hq2, rfl, rfl, HQ⟩ := hrel
        have HQW := hide (HBW3.out.trans (HQ.out.mono HBW3.out.size))
        have HNX := hide (HMX.out q)
        have hml := HML.out q
        by_cases hlq : q < n
        · have hlq' : (q : Int) < ((T.length : Nat) : Int) := by rw [HTL.out]; omega
          have HSQ := hide (HSI.out q (by omega))
          have HCQ := hide (fun w1 h => HC.out w1 h q (by rw [HTL.out]; exact hlq))
          generalize hm : mnTo (coT T s) O q = m at *
          clear hm
          cases hb : O.testBit q
          · rw [hb] at HSQ HNX
            clear hb
            go_wp2_with (go_at_call 56; refine (HSQ.out _).mono ?_; rintro e w4 ⟨rfl, rfl⟩)
            go_roundw
            case rel => exact ⟨q + 1, by omega, by go_num, by rw [HNX.out]; simp, HQ⟩
            case measure => (simp [intOf] <;> omega)
          · rw [hb] at HSQ HNX
            clear hb
            rcases hml with hm1 | ⟨b, hmb, hbq⟩
            · subst hm1
              go_wp2_with (go_at_call 56; refine (HSQ.out _).mono ?_; rintro e w4 ⟨rfl, rfl⟩)
              go_roundw
              case rel => exact ⟨q + 1, by omega, by go_num, by rw [HNX.out]; simp, HQ⟩
              case measure => (simp [intOf] <;> omega)
            · subst hmb
              have hnb : ¬ ((b : Int) < 0) := by omega
              have HCB := hide (fun w1 h => HC.out w1 h b (by rw [HTL.out]; omega))
              rw [Int.toNat_natCast] at HNX
              generalize coT T s q = cq at HNX HCQ
              generalize coT T s b = cb at HNX HCB
              by_cases hcc : cq < cb
              all_goals
                go_wp2_with (first
                  | (go_at_call 56; refine (HSQ.out _).mono ?_; rintro e w4 ⟨rfl, rfl⟩)
                  | (go_at_call 58; refine (HCQ.out _ HQW.out).mono ?_; rintro e w5 ⟨rfl, hb5⟩; have HQ5 := hide (HQ.out.trans (hb5.mono HQ.out.size)); have HQW5 := hide (HQW.out.trans (hb5.mono HQW.out.size)); clear hb5 HCQ)
                  | (go_at_call 58; refine (HCB.out _ HQW5.out).mono ?_; rintro e w6 ⟨rfl, hb6⟩; have HQ6 := hide (HQ5.out.trans (hb6.mono HQ5.out.size)); clear hb6))
                go_roundw
                case rel => exact ⟨q + 1, by omega, by go_num, by rw [HNX.out]; simp <;> omega, HQ6⟩
                case measure => (simp [intOf] <;> omega)
        · have hqn : q = n := by omega
          have hlq' : ¬ ((q : Int) < ((T.length : Nat) : Int)) := by rw [HTL.out]; omega
          generalize hmq : mnTo (coT T s) O q = m at *
          have hmi : m = (i : Int) := by rw [← hmq, hqn]; exact HMN.out
          subst hmi
          clear hmq
          have HO4 := hide (HO3.out.kept HQ.out)
          have HB4 := hide (HB3.out.trans (HQ.out.mono (show w.heap.size + 1 ≤ w3.heap.size by omega)))
          have hzq := HQ.out.size
          have hi7 : i < 7 := by omega
          have hp1 := wrap_p2 i (by omega)
          have hp2 : IntKind.i64.wrap (2 ^ i) = (p2 i : Int) := by rw [IntWalk.i64_left]; exact hp1
          have hpk := p2_lt128 i hi7
          have hor := i64_or s (p2 i) (Nat.lt_trans hs128 (by decide)) (Nat.lt_trans hpk (by decide))
          clear hqn
          go_wp2_with (at_builtin; refine wpList_append1 sliceT intI rfl (.tmp 43) (.tmp 45) rfl (w.heap.size + 1) _ _ rfl (HO4.out.alloc _) _ (i : Int) rfl (by simp [go_sem]) (by simp; omega) (by omega) ?_; intro v7 w7 ho7 hb7; have HO7 := hide ho7; have HB7 := hide ((HB4.out.alloc (by omega) _).trans hb7); clear ho7 hb7)
          go_roundw
          case rel => exact ⟨k + 1, by omega, by rw [HGK.out], by rw [HWK.out]; exact HO7, HB7⟩
          case measure =>
            obtain ⟨xa, xc, hx⟩ := HO7.out.shape
            rw [hx, List.length_append, List.length_singleton, hlenk]
            simp [grLen2]
            omega
    · have hkn : k = n := by omega
      have hlt' : ¬ ((k : Int) < (n : Int)) := by omega
      have HKN := hide (show grW (coT T) (outerOf F n) n = grW (coT T) (outerOf F n) k by rw [hkn])
      clear hkn
      go_wp2
      go_ret
      exact ⟨_, rfl, by rw [HKN.out]; exact HO.out.mono (by omega), H0.out.trans (HB.out.mono (by omega))⟩
end Go.Proofs.YtndnkefbilhgnaaDoor
