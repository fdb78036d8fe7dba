/- Contracts: a word led on to a goal, the specification's. -/
import Derived.Test.YtceofjlhbomcaaaDoorFi
import Derived.Test.YtceofjlhbomcaaaDoorOu
import Derived.Test.YtceofjlhbomcaaaDoorPut
namespace Go.Proofs.YtceofjlhbomcaaaDoor
open Go.RowKit
set_option maxRecDepth 100000
attribute [local irreducible] p2 low memB risB
set_option maxHeartbeats 4000000 in
theorem woFinish_c (n : Int) (v : Value) (l : List Int) (u : Value) (m : List Int) (s goal : Nat) (w : World) (hl : ints w.heap.size w v l) (hlen : l.length < 1000000000) (hok : okSp n l = true) (hm : ints w.heap.size w u m) (hml : m.length < 100000000)
    (hs : marksTo l l.length s = true) (hg : marksTo l l.length goal = true) (hin : andNot s goal = 0) :
    Calls Tryd.prog 72 #[.agg #[.int .i64 n, v], u, .int .i64 (s : Int), .int .i64 (goal : Int)] w fun e w' => ∃ v', e = .returned v' ∧ own 3 w' w.heap.size v' (m ++ finL (marksTo l l.length) n.toNat goal s) ∧ Below w.heap.size w w' := by
  obtain ⟨h1, h7⟩ := okSp_n hok
  obtain ⟨N, rfl⟩ := Int.eq_ofNat_of_zero_le (show 0 ≤ n by omega)
  rw [Int.toNat_natCast]
  have hsp := okSp_spc hok
  rw [Int.toNat_natCast] at hsp
  have HMK := hide (okSp_marks hok)
  have HI := hide (okSp_inc hok)
  have hp := p2_le N 7 (by omega)
  have hg128 : goal < 128 := by have := hsp.lt goal hg; omega
  generalize marksTo l l.length = F at hs hg hsp HMK ⊢
  have HLT := hide (fun x (hx : F x = true) => show x < 128 by have := hsp.lt x hx; omega)
  have HSP := hide hsp
  have HG := hide hg
  have HIN := hide (And.intro hs hin)
  have H0 := hide ((Below.refl w.heap.size w).alloc (Nat.le_refl _) (.cells #[.int .i64 (N : Int), v] 28))
  have HS0 := hide (hp_last w (.cells #[.int .i64 (N : Int), v] 28))
  have HZ := hide (show (w.alloc (.cells #[.int .i64 (N : Int), v] 28)).heap.size = w.heap.size + 1 by simp)
  have HL := hide (hl.alloc (.cells #[.int .i64 (N : Int), v] 28))
  have HM := hide ((hm.alloc (.cells #[.int .i64 (N : Int), v] 28)).mono (show w.heap.size ≤ (w.alloc (.cells #[.int .i64 (N : Int), v] 28)).heap.size by simp))
  have HLN := hide (finL_len F N goal s)
  have HN7 := hide (show N ≤ 7 by omega)
  clear hsp hs hg hin hm hp hok hl
  go_enter Tryd.func72, Tryd.ntmps72
  go_wp2_with fail
  refine (l1Own_c u m _ HM.out (by omega)).mono ?_
  rintro e w1 ⟨v1, rfl, ho1, hb1⟩
  have hzw := hb1.size
  rw [HZ.out] at ho1 hb1 hzw
  have HO1 := hide ho1
  have HL1 := hide (HL.out.below hb1 (by omega))
  have HS1 := hide ((hb1.block w.heap.size (by omega)).trans HS0.out)
  have H1 := hide (H0.out.trans (hb1.mono (by omega)))
  clear ho1 hb1 H0 HS0 HL HM HZ
  go_wp2_with fail
  go_loopw [9, 2] (fun o i wr => ∃ r : Nat, i = .int .i64 (r : Int) ∧ Hid (F r = true ∧ andNot r goal = 0) ∧ Hid (∃ L, own 3 wr (w.heap.size + 1) o L ∧ L ++ finL F N goal r = m ++ finL F N goal s) ∧ Hid (Below (w.heap.size + 1) w1 wr)) (fun _ i _ => pc (andNot goal (intOf i).toNat))
  case atStart => exact ⟨s, rfl, HIN, ⟨m, HO1.out, rfl⟩, Below.refl _ _⟩
  case round =>
    obtain ⟨r, rfl, HR, HO, HBW⟩ := hrel
    obtain ⟨L, ho, hl⟩ := HO.out
    have HOO := hide ho
    have HLL := hide hl
    have hr128 : r < 128 := HLT.out r HR.out.1
    have hszw := HBW.out.size
    have hlL : L.length < 1000000000 := by
      have h1 := congrArg List.length hl
      rw [List.length_append, List.length_append] at h1
      have := HLN.out
      omega
    clear ho hl HO HO1
    by_cases hrg : r = goal
    · have hb : ((r : Int) == (goal : Int)) = true := by subst hrg; simp
      have hl := HLL.out
      rw [hrg, finL_done, List.append_nil] at hl
      have HL2 := hide hl
      clear hl hrg
      go_wp2
      go_ret
      exact ⟨_, rfl, by rw [← HL2.out]; exact HOO.out.mono (by omega), H1.out.trans (HBW.out.mono (by omega))⟩
    · have hb : ((r : Int) == (goal : Int)) = false := by simp; omega
      have hb2 : ((r : Int) != (goal : Int)) = true := by simp; omega
      obtain ⟨f1, f2, f3, f4, f5, f6, f7, f8⟩ := fin_next HSP.out HN7.out HG.out HR.out.1 HR.out.2 hrg
      have hx128 := nxt_lt F N goal r hg128
      have hleast := fun k (hk7 : k < 7) (h : k < tzN (nxt F N goal r)) => (nxt_bit F N goal r k).symm.trans (tz_least _ hx128 k hk7 h)
      generalize hi : tzN (nxt F N goal r) = i at f2 f3 f4 f5 f6 f7 f8 hleast
      have HAN := hide (show ∀ k, k < i → (andNot goal r).testBit k = true → memB l ((r ||| p2 k : Nat) : Int) = false by
        intro k hk hkb
        have h1 := hleast k (by have := HN7.out; omega) hk
        rw [andNot_bit] at hkb
        rw [← HMK.out]
        simp only [Bool.and_eq_true, Bool.not_eq_true'] at hkb
        rw [hkb.1, hkb.2, decide_eq_true (show k < N by omega)] at h1
        simpa using h1)
      have HA1 := hide (show (andNot goal r).testBit i = true by rw [andNot_bit, f3, f4]; rfl)
      have HA2 := hide (show memB l ((r ||| p2 i : Nat) : Int) = true by rw [← HMK.out]; exact f5)
      have F5 := hide (And.intro f5 f6)
      have F7 := hide f7
      have F8 := hide f8
      have han := i64_andNot goal r (by omega)
      have HA128 := hide (andNot_lt128 goal r hg128)
      generalize andNot goal r = A at han HAN HA1 HA128
      have hi7 : i < 7 := by have := HN7.out; omega
      have HSW := hide ((HBW.out.block w.heap.size (by omega)).trans HS1.out)
      have HLW := hide (HL1.out.below HBW.out (by omega))
      clear hi f1 f3 f4 f5 f6 f7 f8 hrg hleast hx128
      go_wp2_with fail
      go_loopw [9, 2, 10] (fun o sv kv wk => ∃ k : Nat, k ≤ i ∧ kv = .int .i64 (k : Int) ∧ sv = .int .i64 (r : Int) ∧ Hid (own 3 wk (w.heap.size + 1) o L) ∧ Hid (Below wr.heap.size wr wk)) (fun _ _ kv _ => i - (intOf kv).toNat)
      case atStart => exact ⟨0, by omega, rfl, rfl, HOO, Below.refl _ _⟩
      case round =>
        obtain ⟨k, hk, rfl, rfl, HOK, HBK⟩ := hrel
        have hszk := HBK.out.size
        have hsk := (HBK.out.block w.heap.size (by omega)).trans HSW.out
        have d0 : wr.cell? ⟨w.heap.size, 0, none⟩ = some (.int .i64 (N : Int)) := by rw [hp_cell hsk]; rfl
        have D1 := hide (fun w' (h : Below wr.heap.size wr w') => show w'.cell? ⟨w.heap.size, 1, none⟩ = some v by rw [hp_cell ((h.block w.heap.size (by omega)).trans hsk)]; rfl)
        have HLK := hide ((HLW.out.below HBK.out (by omega)).mono (show w.heap.size ≤ wr.heap.size by omega))
        have hkN : (k : Int) < (N : Int) := by omega
        have hp := wrap_p2 k (by omega)
        have hp2 : IntKind.i64.wrap (2 ^ k) = (p2 k : Int) := by rw [IntWalk.i64_left]; exact hp
        have hpl := p2_lt128 k (by omega)
        have hx := i64_or r (p2 k) (by omega) (by omega)
        have hA128 := HA128.out
        clear hsk
        by_cases hki : k = i
        · subst hki
          go_wp2_with fail
          refine wp_region_old (by kernel_rfl) (by kernel_rfl) ?_
          go_big_quiet_step ((first | exact fun _ => rfl | exact fun _ => ⟨rfl, rfl⟩))
          go_big_quiet_step ((first | exact fun _ => rfl | exact fun _ => ⟨rfl, rfl⟩))
          go_big_quiet_step ((first | exact fun _ => rfl | exact fun _ => ⟨rfl, rfl⟩))
          go_big_quiet_step ((first | exact fun _ => rfl | exact fun _ => ⟨rfl, rfl⟩))
          refine q_pure rfl 65 ent_spIn _ _ rfl #[.int .i64 (A : Int), .int .i64 (k : Int)] rfl (.bool true) (fun w' _ => by have := spIn_c A k w' (by omega) (by omega) (by omega) (by omega); rw [Int.toNat_natCast, Int.toNat_natCast, HA1.out] at this; exact this) ?_
          simp only [Act.put, List.setIfInBounds_toArray, List.set_cons_zero, List.set_cons_succ]
          go_big_quiet_step ((first | exact fun _ => rfl | exact fun _ => ⟨rfl, rfl⟩))
          go_big_quiet_step ((first | exact fun _ => rfl | exact fun _ => ⟨rfl, rfl⟩))
          refine q_load_cell rowS rfl (.tmp _) rfl _ rfl v D1.out ?_
          simp only [Act.put, List.setIfInBounds_toArray, List.set_cons_zero, List.set_cons_succ]
          go_big_quiet_step ((first | exact fun _ => rfl | exact fun _ => ⟨rfl, rfl⟩))
          go_big_quiet_step ((first | exact fun _ => rfl | exact fun _ => ⟨rfl, rfl⟩))
          go_big_quiet_step ((first | exact fun _ => rfl | exact fun _ => ⟨rfl, rfl⟩))
          go_big_quiet_step ((first | exact fun _ => rfl | exact fun _ => ⟨rfl, rfl⟩))
          refine q_pure rfl 81 ent_spHas _ _ rfl #[v, .int .i64 ((r ||| p2 k : Nat) : Int)] rfl (.bool true) (fun w' hb => by have := spHas_c v l ((r ||| p2 k : Nat) : Int) w' ((HLK.out.below hb (Nat.le_refl _)).mono hb.size) HI.out hlen; rw [HA2.out] at this; exact this) ?_
          simp only [Act.put, List.setIfInBounds_toArray, List.set_cons_zero, List.set_cons_succ]
          go_big_quiet_step ((first | exact fun _ => rfl | exact fun _ => ⟨rfl, rfl⟩))
          refine wpQuiet_nil ?_
          intro w2 hb2
          have hsz2 := hb2.size
          have HO2 := hide (HOK.out.kept hb2)
          have HB2 := hide (HBW.out.trans ((HBK.out.trans (hb2.mono hszk)).mono (by omega)))
          clear hb2 d0
          go_wp2_with (at_builtin; refine wpList_append1 sliceT intI rfl (.tmp 36) (.tmp 38) rfl (w.heap.size + 1) _ _ rfl (HO2.out.alloc _) _ (k : Int) rfl (by simp [go_sem]) (by simp; omega) (by omega) ?_; intro v7 w7 ho7 hb7; have HO7 := hide ho7; have HB7 := hide ((HB2.out.alloc (by omega) _).trans hb7); clear ho7 hb7)
          go_roundw
          case rel => exact ⟨r ||| p2 k, rfl, F5, ⟨L ++ [(k : Int)], HO7.out, by rw [← HLL.out, F7.out, List.append_assoc]; rfl⟩, HB7⟩
          case measure =>
            have := F8.out
            simp only [intOf, Int.toNat_natCast]
            omega
        · have hklt : k < i := by omega
          cases hbk : A.testBit k
          · have HT := hide hbk
            clear hbk hki
            go_wp2_with fail
            refine wp_region_old (by kernel_rfl) (by kernel_rfl) ?_
            go_big_quiet_step ((first | exact fun _ => rfl | exact fun _ => ⟨rfl, rfl⟩))
            go_big_quiet_step ((first | exact fun _ => rfl | exact fun _ => ⟨rfl, rfl⟩))
            go_big_quiet_step ((first | exact fun _ => rfl | exact fun _ => ⟨rfl, rfl⟩))
            go_big_quiet_step ((first | exact fun _ => rfl | exact fun _ => ⟨rfl, rfl⟩))
            refine q_pure rfl 65 ent_spIn _ _ rfl #[.int .i64 (A : Int), .int .i64 (k : Int)] rfl (.bool false) (fun w' _ => by have := spIn_c A k w' (by omega) (by omega) (by omega) (by omega); rw [Int.toNat_natCast, Int.toNat_natCast, HT.out] at this; exact this) ?_
            simp only [Act.put, List.setIfInBounds_toArray, List.set_cons_zero, List.set_cons_succ]
            repeat (go_big_quiet_step ((first | exact fun _ => rfl | exact fun _ => ⟨rfl, rfl⟩)))
            refine wpQuiet_nil ?_
            intro w2 hb2
            have HB2 := hide (HBK.out.trans (hb2.mono hszk))
            have HO2 := hide (HOK.out.kept hb2)
            clear hb2 d0
            go_wp2
            go_roundw
            case rel => exact ⟨k + 1, by omega, by go_num, rfl, HO2, HB2⟩
            case measure => simp [intOf]; omega
          · have HT := hide hbk
            have HM := hide (HAN.out k hklt hbk)
            clear hbk hki
            go_wp2_with fail
            refine wp_region_old (by kernel_rfl) (by kernel_rfl) ?_
            go_big_quiet_step ((first | exact fun _ => rfl | exact fun _ => ⟨rfl, rfl⟩))
            go_big_quiet_step ((first | exact fun _ => rfl | exact fun _ => ⟨rfl, rfl⟩))
            go_big_quiet_step ((first | exact fun _ => rfl | exact fun _ => ⟨rfl, rfl⟩))
            go_big_quiet_step ((first | exact fun _ => rfl | exact fun _ => ⟨rfl, rfl⟩))
            refine q_pure rfl 65 ent_spIn _ _ rfl #[.int .i64 (A : Int), .int .i64 (k : Int)] rfl (.bool true) (fun w' _ => by have := spIn_c A k w' (by omega) (by omega) (by omega) (by omega); rw [Int.toNat_natCast, Int.toNat_natCast, HT.out] at this; exact this) ?_
            simp only [Act.put, List.setIfInBounds_toArray, List.set_cons_zero, List.set_cons_succ]
            go_big_quiet_step ((first | exact fun _ => rfl | exact fun _ => ⟨rfl, rfl⟩))
            go_big_quiet_step ((first | exact fun _ => rfl | exact fun _ => ⟨rfl, rfl⟩))
            refine q_load_cell rowS rfl (.tmp _) rfl _ rfl v D1.out ?_
            simp only [Act.put, List.setIfInBounds_toArray, List.set_cons_zero, List.set_cons_succ]
            go_big_quiet_step ((first | exact fun _ => rfl | exact fun _ => ⟨rfl, rfl⟩))
            go_big_quiet_step ((first | exact fun _ => rfl | exact fun _ => ⟨rfl, rfl⟩))
            go_big_quiet_step ((first | exact fun _ => rfl | exact fun _ => ⟨rfl, rfl⟩))
            go_big_quiet_step ((first | exact fun _ => rfl | exact fun _ => ⟨rfl, rfl⟩))
            refine q_pure rfl 81 ent_spHas _ _ rfl #[v, .int .i64 ((r ||| p2 k : Nat) : Int)] rfl (.bool false) (fun w' hb => by have := spHas_c v l ((r ||| p2 k : Nat) : Int) w' ((HLK.out.below hb (Nat.le_refl _)).mono hb.size) HI.out hlen; rw [HM.out] at this; exact this) ?_
            simp only [Act.put, List.setIfInBounds_toArray, List.set_cons_zero, List.set_cons_succ]
            go_big_quiet_step ((first | exact fun _ => rfl | exact fun _ => ⟨rfl, rfl⟩))
            refine wpQuiet_nil ?_
            intro w2 hb2
            have HB2 := hide (HBK.out.trans (hb2.mono hszk))
            have HO2 := hide (HOK.out.kept hb2)
            clear hb2 d0
            go_wp2
            go_roundw
            case rel => exact ⟨k + 1, by omega, by go_num, rfl, HO2, HB2⟩
            case measure => simp [intOf]; omega
end Go.Proofs.YtceofjlhbomcaaaDoor
