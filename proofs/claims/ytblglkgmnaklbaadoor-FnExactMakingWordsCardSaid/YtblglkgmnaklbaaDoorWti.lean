/- Contracts: WordThrough, the program's and the specification's. -/
import Derived.Test.YtblglkgmnaklbaaDoorWth
import Derived.Test.YtblglkgmnaklbaaDoorOu
import Derived.Test.YtblglkgmnaklbaaDoorPut
import Derived.Test.YtblglkgmnaklbaaDoorAx
namespace Go.Proofs.YtblglkgmnaklbaaDoor
open Go.RowKit
set_option maxRecDepth 100000
set_option linter.unusedSimpArgs false
/-! ### The list with all items behind it -/
theorem wq_at {q : List Int} {n k : Nat} (h : k < q.length) : (q ++ [(low n : Int)])[k]?.getD 0 = q[k]?.getD 0 ∧ nth (q ++ [(low n : Int)]) k = nth q k := by
  have e : (q ++ [(low n : Int)])[k]?.getD 0 = q[k]?.getD 0 := by rw [List.getElem?_append_left h]
  exact ⟨e, by unfold nth; rw [e]⟩
theorem wq_end (q : List Int) (n : Nat) : (q ++ [(low n : Int)])[q.length]?.getD 0 = (low n : Int) ∧ nth (q ++ [(low n : Int)]) q.length = low n := by
  have e : (q ++ [(low n : Int)])[q.length]?.getD 0 = (low n : Int) := by simp
  exact ⟨e, by unfold nth; rw [e, Int.toNat_natCast]⟩
theorem wq_prev {q : List Int} {n : Nat} : ∀ k, k ≤ q.length → wtP (q ++ [(low n : Int)]) k = wtP q k
  | 0, _ => rfl
  | k + 1, h => (wq_at (by omega)).2
theorem wq_to {F : Nat → Bool} {q : List Int} {n : Nat} : ∀ k, k ≤ q.length → wtTo F n (q ++ [(low n : Int)]) k = wtTo F n q k
  | 0, _ => rfl
  | k + 1, h => by rw [wtTo, wtTo, wq_to k (by omega), (wq_at (by omega)).2, wq_prev k (by omega)]
theorem wq_all (F : Nat → Bool) (q : List Int) (n : Nat) : wtTo F n (q ++ [(low n : Int)]) (q ++ [(low n : Int)]).length = wtW F n q := by
  rw [List.length_append, List.length_singleton, wtTo, wq_to _ (Nat.le_refl _), (wq_end q n).2, wq_prev _ (Nat.le_refl _)]
  rfl
theorem wq_ok {F : Nat → Bool} {q : List Int} {n : Nat} (h7 : n ≤ 7) (hsp : Spc F n) (h : icTo n F q q.length = true) : icTo n F (q ++ [(low n : Int)]) (q ++ [(low n : Int)]).length = true := by
  rw [icTo_iff]
  intro k hk
  rw [List.length_append, List.length_singleton] at hk
  rcases Nat.lt_or_ge k q.length with h1 | h1
  · rw [(wq_at h1).1, (wq_at h1).2, wq_prev k (by omega)]
    exact (icTo_iff n F q q.length).1 h k h1
  · have : k = q.length := by omega
    subst this
    rw [(wq_end q n).1, (wq_end q n).2, wq_prev _ (Nat.le_refl _)]
    refine ⟨by unfold ownB; rw [decide_eq_true (by omega), Int.toNat_natCast, hsp.full]; rfl, (an0 _ _).2 (fun i hi => ?_)⟩
    rw [low_bit]
    refine decide_eq_true ?_
    rcases Nat.lt_or_ge i n with h2 | h2
    · exact h2
    · rw [Nat.testBit_lt_two_pow (Nat.lt_of_lt_of_le (hsp.lt _ (icTo_prev h7 hsp.zero h q.length (Nat.le_refl _)).1) (Nat.pow_le_pow_right (by omega) h2))] at hi
      cases hi
attribute [local irreducible] p2 low memB risB icTo
theorem ent_l1OwnW : enters Tryd.prog 65 := enters_of Tryd.func65 (by kernel_rfl) (by kernel_rfl)
set_option maxHeartbeats 4000000 in
theorem cnWord_c (n : Int) (v : Value) (l : List Int) (u : Value) (q : List Int) (w : World) (hl : ints w.heap.size w v l) (hlen : l.length < 1000000000) (hok : okSp n l = true) (hq : ints w.heap.size w u q) (hql : q.length < 1000000) (hic : icTo n.toNat (marksTo l l.length) q q.length = true) :
    Calls Tryd.prog 35 #[.agg #[.int .i64 n, v], u] w fun e w' => ∃ v', e = .returned v' ∧ own 3 w' w.heap.size v' (wtW (marksTo l l.length) n.toNat q) ∧ Below w.heap.size w w' := by
  obtain ⟨h1, h7⟩ := okSp_n hok
  obtain ⟨N, rfl⟩ := Int.eq_ofNat_of_zero_le (show 0 ≤ n by omega)
  rw [Int.toNat_natCast] at hic ⊢
  have h7 : N ≤ 7 := by omega
  have hsp := okSp_spc hok
  rw [Int.toNat_natCast] at hsp
  have HMK := hide (okSp_marks hok)
  have HI := hide (okSp_inc hok)
  have hp128 := p2_le N 7 h7
  generalize marksTo l l.length = F at hic hsp HMK ⊢
  have hQok := wq_ok h7 hsp hic
  have HQE := hide (wq_all F q N)
  have HST := hide (fun k hk => icTo_set h7 hQok k hk)
  have HPR := hide (fun k hk => icTo_prev h7 hsp.zero hQok k hk)
  have HLT := hide (fun x (hx : F x = true) => show x < 128 by have := hsp.lt x hx; omega)
  have HSP := hide hsp
  have hlo := low_lt N h7
  have hp := wrap_p2 N h7
  have hp2 : IntKind.i64.wrap (2 ^ N) = (p2 N : Int) := by rw [IntWalk.i64_left]; exact hp
  have hp3 := wrap_low N h7
  have hp4 : wrap64 ((p2 N : Int) - 1) = (low N : Int) := by rw [← IntWalk.i64_left]; exact hp3
  obtain ⟨ua, uc, hu⟩ := hq.shape
  subst hu
  have H0 := hide ((Below.refl w.heap.size w).alloc (Nat.le_refl _) (.cells #[.int .i64 (N : Int), v] 29))
  have HS0 := hide (hp_last w (.cells #[.int .i64 (N : Int), v] 29))
  have HZ0 := hide (show (w.alloc (.cells #[.int .i64 (N : Int), v] 29)).heap.size = w.heap.size + 1 by simp)
  have HL0 := hide (hl.alloc (.cells #[.int .i64 (N : Int), v] 29))
  have HM0 := hide (hq.alloc (.cells #[.int .i64 (N : Int), v] 29))
  clear hsp hic hQok hok hl hq h1 hp128
  go_enter Tryd.func35, Tryd.ntmps35
  go_wp2_with fail
  generalize (w.alloc (.cells #[.int .i64 (N : Int), v] 29)) = W at H0 HS0 HZ0 HL0 HM0 ⊢
  refine wp_region_held (S := Below (w.heap.size + 1) W) (by kernel_rfl) ?_
  have hS0 : Below (w.heap.size + 1) W { W with drawn := W.drawn + 1 } := (Below.refl _ _).drew
  generalize ({ W with drawn := W.drawn + 1 } : World) = C0 at hS0 ⊢
  have hz0 : w.heap.size + 1 ≤ C0.heap.size := by have h1 := hS0.size; rw [HZ0.out] at h1; exact h1
  refine wpAnyH_take (i := 0) (v := .slice ua q.length uc) rfl (by kernel_rfl) (by kernel_rfl) (by kernel_rfl) (fun _ _ _ h => h) (.inl ⟨rfl, fun w' _ => by go_simp⟩) hS0 ?_
  try simp only [Act.put, List.getElem_toArray, List.getElem_cons_zero, List.getElem_cons_succ, List.setIfInBounds_toArray, List.set_cons_zero, List.set_cons_succ]
  refine wpAnyH_take (i := 2) (v := .pointer (some ⟨w.heap.size, 0, none⟩)) rfl (by kernel_rfl) (by kernel_rfl) (by kernel_rfl) (fun _ _ _ h => h) (.inl ⟨rfl, fun w' _ => by go_simp⟩) hS0 ?_
  try simp only [Act.put, List.getElem_toArray, List.getElem_cons_zero, List.getElem_cons_succ, List.setIfInBounds_toArray, List.set_cons_zero, List.set_cons_succ]
  refine wpAnyH_take (i := 3) rfl (by kernel_rfl) (by kernel_rfl) (by kernel_rfl) (fun _ _ _ h => h) (yields_load_cell rowI rfl (.tmp _) rfl ⟨w.heap.size, 0, none⟩ rfl (.int .i64 (N : Int)) (fun w' h => (h.cell (p := ⟨w.heap.size, 0, none⟩) (by show w.heap.size < _; omega)).trans (cells_at0 HS0.out))) hS0 ?_
  try simp only [Act.put, List.getElem_toArray, List.getElem_cons_zero, List.getElem_cons_succ, List.setIfInBounds_toArray, List.set_cons_zero, List.set_cons_succ]
  refine wpAnyH_take (i := 4) (v := .int .i64 (p2 N : Int)) rfl (by kernel_rfl) (by kernel_rfl) (by kernel_rfl) (fun _ _ _ h => h) (.inl ⟨rfl, fun w' _ => by go_simp; try simp [hp, hp2]⟩) hS0 ?_
  try simp only [Act.put, List.getElem_toArray, List.getElem_cons_zero, List.getElem_cons_succ, List.setIfInBounds_toArray, List.set_cons_zero, List.set_cons_succ]
  refine wpAnyH_take (i := 5) (v := .int .i64 (low N : Int)) rfl (by kernel_rfl) (by kernel_rfl) (by kernel_rfl) (fun _ _ _ h => h) (.inl ⟨rfl, fun w' _ => by go_simp; try simp [hp3, hp4]⟩) hS0 ?_
  try simp only [Act.put, List.getElem_toArray, List.getElem_cons_zero, List.getElem_cons_succ, List.setIfInBounds_toArray, List.set_cons_zero, List.set_cons_succ]
  refine wpAnyH_take (i := 9) (v := .int .i64 0) rfl (by kernel_rfl) (by kernel_rfl) (by kernel_rfl) (fun _ _ _ h => h) (.inl ⟨rfl, fun w' _ => by go_simp⟩) hS0 ?_
  try simp only [Act.put, List.getElem_toArray, List.getElem_cons_zero, List.getElem_cons_succ, List.setIfInBounds_toArray, List.set_cons_zero, List.set_cons_succ]
  refine wpAnyH_all (rs := [1, 6]) (by kernel_rfl) (by simp) fun i hi => ?_
  rcases (show i = 1 ∨ i = 6 by simpa using hi) with rfl | rfl
  · show wpOp _ _ _ _ _ _ _
    refine wpOp_call rfl rfl 65 ent_l1OwnW _ _ rfl #[.slice ua q.length uc] rfl (l1Own_c (.slice ua q.length uc) q C0 ((HM0.out.below hS0 (by omega)).mono (by omega)) (by omega)) ?_
    rintro e C1 ⟨v1, rfl, ho1, hb1⟩
    have hS1 : Below (w.heap.size + 1) W C1 := hS0.trans (hb1.mono hz0)
    have hz1 : w.heap.size + 1 ≤ C1.heap.size := by have := hb1.size; omega
    refine ⟨_, rfl, hS1, ?_⟩
    try simp only [Act.put, List.getElem_toArray, List.getElem_cons_zero, List.getElem_cons_succ, List.setIfInBounds_toArray, List.set_cons_zero, List.set_cons_succ]
    obtain ⟨gB, hBe⟩ : ∃ B, B = C1.heap.size := ⟨_, rfl⟩
    have hcB : (C1.alloc (.cells #[.int .i64 (low N : Int)] 3)).cell? ⟨gB, 0, none⟩ = some (.int .i64 (low N : Int)) := by
      have h := hp_last C1 (.cells #[.int .i64 (low N : Int)] 3)
      rw [← hBe] at h
      rw [hp_cell h]; rfl
    have hownC := (ho1.mono hz0).alloc (.cells #[.int .i64 (low N : Int)] 3)
    have hBC : Below (w.heap.size + 1) W (C1.alloc (.cells #[.int .i64 (low N : Int)] 3)) := hS1.alloc hz1 _
    have hzC : w.heap.size + 1 ≤ (C1.alloc (.cells #[.int .i64 (low N : Int)] 3)).heap.size := by simp; omega
    refine anyH_op (i := 6) (by kernel_rfl) rfl rfl (.slice (some ⟨gB, 0, none⟩) 1 1) (C1.alloc (.cells #[.int .i64 (low N : Int)] 3)) (by simp [go_sem, hBe]) hBC ?_
    generalize C1.alloc (.cells #[.int .i64 (low N : Int)] 3) = C2 at hcB hownC hBC hzC ⊢
    try simp only [Act.put, List.getElem_toArray, List.getElem_cons_zero, List.getElem_cons_succ, List.setIfInBounds_toArray, List.set_cons_zero, List.set_cons_succ]
    clear ho1 hb1 hS1 hS0
    refine anyH_oneX (i := 7) (by kernel_rfl) rfl rfl ?_
    intro Q1 hQ1
    refine wpList_append1 sliceT intI rfl (.tmp _) (.tmp _) rfl (w.heap.size + 1) _ q rfl hownC gB (low N : Int) rfl hcB hzC (by omega) ?_
    intro v7 C3 ho7 hb7
    obtain ⟨xa, xc, hv7⟩ := ho7.shape
    rw [List.length_append, List.length_singleton] at hv7
    subst hv7
    refine wpList_nil ?_
    have hS3 : Below (w.heap.size + 1) W C3 := hBC.trans hb7
    refine hQ1 _ _ hS3 ?_
    try simp only [Act.put, List.getElem_toArray, List.getElem_cons_zero, List.getElem_cons_succ, List.setIfInBounds_toArray, List.set_cons_zero, List.set_cons_succ]
    refine wpAnyH_take (i := 8) (v := .int .i64 ((q.length + 1 : Nat) : Int)) rfl (by kernel_rfl) (by kernel_rfl) (by kernel_rfl) (fun _ _ _ h => h) (.inl ⟨rfl, fun w' _ => by go_simp⟩) hS3 ?_
    try simp only [Act.put, List.getElem_toArray, List.getElem_cons_zero, List.getElem_cons_succ, List.setIfInBounds_toArray, List.set_cons_zero, List.set_cons_succ]
    refine wpAnyH_done (by kernel_rfl) ?_ _
    try simp only [Act.put, List.getElem_toArray, List.getElem_cons_zero, List.getElem_cons_succ, List.setIfInBounds_toArray, List.set_cons_zero, List.set_cons_succ]
    have hbC3 := hS3
    have HBC := hide (H0.out.trans (hbC3.mono (by omega)))
    have HS3 := hide ((hbC3.block w.heap.size (by omega)).trans HS0.out)
    have HL3 := hide (HL0.out.below hbC3 (by omega))
    have HCZ := hide (show w.heap.size < C3.heap.size by have h1 := hbC3.size; rw [HZ0.out] at h1; omega)
    have HQ3 := hide (show ints C3.heap.size C3 (.slice xa (q.length + 1) xc) (q ++ [(low N : Int)]) from ho7.ints)
    have hqe : q.length + 1 = (q ++ [(low N : Int)]).length := by simp
    rw [hqe] at HQ3 ⊢
    clear hbC3 ho7 hb7 hBC hownC hcB hzC hQ1 hS3 hBe
    generalize hQQ : q ++ [(low N : Int)] = Q at *
    clear hQQ
    go_wp2_with fail
    -- the walk behind the list of the goals: W0, HO7 (the goals), HB7, facts at C3
    go_loopw [5, 6, 19] (fun wd last i wr => ∃ k : Nat, k ≤ Q.length ∧ i = .int .i64 (k : Int) ∧ last = .int .i64 (wtP Q k : Int) ∧ Hid (own 3 wr C3.heap.size wd (wtTo F N Q k)) ∧ Hid (Below C3.heap.size C3 wr)) (fun _ _ i _ => Q.length - (intOf i).toNat)
    case atStart => exact ⟨0, Nat.zero_le _, rfl, rfl, own_nil _ _ _, Below.refl _ _⟩
    case round =>
      obtain ⟨k, hk, rfl, rfl, HO, HB⟩ := hrel
      have hsz := HB.out.size
      have HQW := hide (HQ3.out.below HB.out (Nat.le_refl _))
      have HPK := hide (HPR.out k hk)
      have HWL := hide (wtTo_len F N Q k)
      by_cases hlt : k < Q.length
      · have hlt' : (k : Int) < (Q.length : Int) := by omega
        obtain ⟨s1, s2, s3, s4⟩ := HST.out k hlt
        have HX := hide s1
        have HSG := hide (And.intro s3 s4)
        have HPN := hide (show wtP Q (k + 1) = nth Q k from rfl)
        have HWN := hide (show wtTo F N Q (k + 1) = wtTo F N Q k ++ finL F N (nth Q k) (wtP Q k) from rfl)
        clear s1 s3 s4
        generalize wtTo F N Q k = L0 at HO HWN HWL
        generalize nth Q k = g at HX HSG HPN HWN s2
        generalize wtP Q k = pr at HPK HSG HWN
        have HLN := hide (finL_len F N g pr)
        go_wp2_with (first
          | (refine wpList_at sliceT intS rfl (.tmp _) (.tmp _) rfl _ rfl k rfl C3.heap.size Q HQW.out hlt ?_; intro ad hcell hblk; rw [HX.out] at hcell))
        go_loopw [5, 6] (fun o i wk => ∃ r : Nat, i = .int .i64 (r : Int) ∧ Hid (F r = true ∧ andNot r g = 0) ∧ Hid (∃ L, own 3 wk C3.heap.size o L ∧ L ++ finL F N g r = L0 ++ finL F N g pr) ∧ Hid (Below C3.heap.size C3 wk)) (fun _ i _ => pc (andNot g (intOf i).toNat))
        case atStart => exact ⟨pr, rfl, ⟨HPK.out.1, HSG.out.2⟩, ⟨L0, HO.out, rfl⟩, HB⟩
        case round =>
          clear HO HB hsz HQW hcell
          obtain ⟨r, rfl, HR, HO, HBW⟩ := hrel
          obtain ⟨L, ho, hl⟩ := HO.out
          have HOO := hide ho
          have HLL := hide hl
          have hr128 : r < 128 := HLT.out r HR.out.1
          have hszw := HBW.out.size
          have hlL : L.length < 1000000000 := by
            have h1 := congrArg List.length hl
            rw [List.length_append, List.length_append] at h1
            have := HLN.out
            have := HWL.out
            omega
          clear ho hl HO
          by_cases hrg : r = g
          · have hb2 : ((r : Int) != (g : Int)) = false := by rw [hrg]; simp
            have hl := HLL.out
            rw [hrg, finL_done, List.append_nil] at hl
            have HL2 := hide hl
            have HRG := hide hrg
            clear hl hrg
            go_wp2
            go_roundw
            case rel => exact ⟨k + 1, by omega, by go_num, by rw [HPN.out, HRG.out], by rw [HWN.out, ← HL2.out]; exact HOO, HBW⟩
            case measure => (simp [intOf] <;> omega)
          · have hb2 : ((r : Int) != (g : Int)) = true := by simp; omega
            obtain ⟨f1, f2, f3, f4, f5, f6, f7, f8⟩ := fin_next HSP.out h7 HSG.out.1 HR.out.1 HR.out.2 hrg
            have hx128 := nxt_lt F N g r s2
            have hleast := fun j (hk7 : j < 7) (h : j < tzN (nxt F N g r)) => (nxt_bit F N g r j).symm.trans (tz_least _ hx128 j hk7 h)
            generalize hi : tzN (nxt F N g r) = i at f2 f3 f4 f5 f6 f7 f8 hleast
            have HAN := hide (show ∀ j, j < i → (andNot g r).testBit j = true → memB l ((r ||| p2 j : Nat) : Int) = false by
              intro j hj hjb
              have h1 := hleast j (by omega) hj
              rw [andNot_bit] at hjb
              rw [← HMK.out]
              simp only [Bool.and_eq_true, Bool.not_eq_true'] at hjb
              rw [hjb.1, hjb.2, decide_eq_true (show j < N by omega)] at h1
              simpa using h1)
            have HA1 := hide (show (andNot g r).testBit i = true by rw [andNot_bit, f3, f4]; rfl)
            have HA2 := hide (show memB l ((r ||| p2 i : Nat) : Int) = true by rw [← HMK.out]; exact f5)
            have F5 := hide (And.intro f5 f6)
            have F7 := hide f7
            have F8 := hide f8
            have han := i64_andNot g r (by omega)
            have HA128 := hide (andNot_lt128 g r s2)
            generalize andNot g r = A at han HAN HA1 HA128
            have hi7 : i < 7 := by omega
            clear hi f1 f3 f4 f5 f6 f7 f8 hrg hleast hx128
            go_wp2_with fail
            obtain ⟨oa, oc, hov⟩ := HOO.out.shape
            subst hov
            go_loopw [9] (fun tv wk => ∃ t : Nat, t ≤ i ∧ tv = .int .i64 (t : Int) ∧ Hid (own 3 wk C3.heap.size (.slice oa L.length oc) L) ∧ Hid (Below C3.heap.size C3 wk)) (fun tv _ => i - (intOf tv).toNat)
            case atStart => exact ⟨0, by omega, rfl, HOO, HBW⟩
            case round =>
              clear HOO HBW hszw
              obtain ⟨t, ht, rfl, HOK, HBK⟩ := hrel
              have hszk := HBK.out.size
              have hsk := (HBK.out.block w.heap.size HCZ.out).trans HS3.out
              have D1 := hide (fun w' (h : Below wr.heap.size wr w') => show w'.cell? ⟨w.heap.size, 1, none⟩ = some v by rw [hp_cell ((h.block w.heap.size (by have := HCZ.out; omega)).trans hsk)]; rfl)
              have HLK := hide ((HL3.out.below HBK.out (by have := HCZ.out; omega)).mono (show w.heap.size ≤ wr.heap.size by have := HCZ.out; omega))
              have hp := wrap_p2 t (by omega)
              have hp2 : IntKind.i64.wrap (2 ^ t) = (p2 t : Int) := by rw [IntWalk.i64_left]; exact hp
              have hpl := p2_lt128 t (by omega)
              have hx := i64_or r (p2 t) (by omega) (by omega)
              have hA128 := HA128.out
              clear hsk
              cases hbk : A.testBit t
              · have HTB := hide hbk
                have hti : t < i := by
                  rcases Nat.lt_or_ge t i with h | h
                  · exact h
                  · have : t = i := by omega
                    subst this
                    have := HA1.out
                    rw [hbk] at this; cases this
                clear hbk
                go_wp2_with fail
                refine wp_region_old (by kernel_rfl) (by kernel_rfl) ?_
                go_big_quiet_step ((first | exact fun _ => rfl | exact fun _ => ⟨rfl, rfl⟩))
                go_big_quiet_step ((first | exact fun _ => rfl | exact fun _ => ⟨rfl, rfl⟩))
                go_big_quiet_step ((first | exact fun _ => rfl | exact fun _ => ⟨rfl, rfl⟩))
                go_big_quiet_step ((first | exact fun _ => rfl | exact fun _ => ⟨rfl, rfl⟩))
                refine q_pure rfl 66 ent_spIn _ _ rfl #[.int .i64 (A : Int), .int .i64 (t : Int)] rfl (.bool false) (fun w' _ => by have := spIn_c A t w' (by omega) (by omega) (by omega) (by omega); rw [Int.toNat_natCast, Int.toNat_natCast, HTB.out] at this; exact this) ?_
                simp only [Act.put, List.setIfInBounds_toArray, List.set_cons_zero, List.set_cons_succ]
                repeat (first | go_big_quiet_skip | go_big_quiet_step ((first | exact fun _ => rfl | exact fun _ => ⟨rfl, rfl⟩)))
                refine wpQuiet_nil ?_
                intro w2 hb2
                have HB2 := hide (HBK.out.trans (hb2.mono hszk))
                have HO2 := hide (HOK.out.kept hb2)
                clear hb2
                go_wp2
                go_roundw
                case rel => exact ⟨t + 1, by omega, by go_num, HO2, HB2⟩
                case measure => simp [intOf]; omega
              · have HTB := hide hbk
                by_cases hti : t = i
                · subst hti
                  have HBM := HA2
                  obtain ⟨bm, hbm⟩ : ∃ bm, bm = true := ⟨_, rfl⟩
                  rw [← hbm] at HBM
                  clear hbk
                  go_wp2_with fail
                  refine wp_region_old (by kernel_rfl) (by kernel_rfl) ?_
                  go_big_quiet_step ((first | exact fun _ => rfl | exact fun _ => ⟨rfl, rfl⟩))
                  go_big_quiet_step ((first | exact fun _ => rfl | exact fun _ => ⟨rfl, rfl⟩))
                  go_big_quiet_step ((first | exact fun _ => rfl | exact fun _ => ⟨rfl, rfl⟩))
                  go_big_quiet_step ((first | exact fun _ => rfl | exact fun _ => ⟨rfl, rfl⟩))
                  refine q_pure rfl 66 ent_spIn _ _ rfl #[.int .i64 (A : Int), .int .i64 (t : Int)] rfl (.bool true) (fun w' _ => by have := spIn_c A t w' (by omega) (by omega) (by omega) (by omega); rw [Int.toNat_natCast, Int.toNat_natCast, HTB.out] at this; exact this) ?_
                  simp only [Act.put, List.setIfInBounds_toArray, List.set_cons_zero, List.set_cons_succ]
                  go_big_quiet_step ((first | exact fun _ => rfl | exact fun _ => ⟨rfl, rfl⟩))
                  go_big_quiet_step ((first | exact fun _ => rfl | exact fun _ => ⟨rfl, rfl⟩))
                  go_big_quiet_step ((first | exact fun _ => rfl | exact fun _ => ⟨rfl, rfl⟩))
                  refine q_load_cell rowS rfl (.tmp _) rfl _ rfl v D1.out ?_
                  simp only [Act.put, List.setIfInBounds_toArray, List.set_cons_zero, List.set_cons_succ]
                  go_big_quiet_step ((first | exact fun _ => rfl | exact fun _ => ⟨rfl, rfl⟩))
                  go_big_quiet_step ((first | exact fun _ => rfl | exact fun _ => ⟨rfl, rfl⟩))
                  go_big_quiet_step ((first | exact fun _ => rfl | exact fun _ => ⟨rfl, rfl⟩))
                  go_big_quiet_step ((first | exact fun _ => rfl | exact fun _ => ⟨rfl, rfl⟩))
                  refine q_pure rfl 61 ent_spHas _ _ rfl #[v, .int .i64 ((r ||| p2 t : Nat) : Int)] rfl (.bool bm) (fun w' hb => by have := spHas_c v l ((r ||| p2 t : Nat) : Int) w' ((HLK.out.below hb (Nat.le_refl _)).mono hb.size) HI.out hlen; rw [HBM.out] at this; exact this) ?_
                  simp only [Act.put, List.setIfInBounds_toArray, List.set_cons_zero, List.set_cons_succ]
                  repeat (first | go_big_quiet_skip | go_big_quiet_step ((first | exact fun _ => rfl | exact fun _ => ⟨rfl, rfl⟩)))
                  refine wpQuiet_nil ?_
                  intro w2 hb2
                  have hsz2 := hb2.size
                  have HO2 := hide (HOK.out.kept hb2)
                  have HBK2 := hide (HBK.out.trans (hb2.mono hszk))
                  clear hb2
                  subst hbm
                  go_wp2_with (at_builtin; refine wpList_append1 sliceT intI rfl (.tmp 44) (.tmp 46) rfl C3.heap.size _ _ rfl (HO2.out.alloc _) _ (t : Int) rfl (by simp [go_sem]) (by simp; omega) (by omega) ?_; intro v7 w7 ho7 hb7; have HO7 := hide ho7; have HB7 := hide ((HBK2.out.alloc (by omega) _).trans hb7); clear ho7 hb7)
                  go_roundw
                  case rel => exact ⟨r ||| p2 t, rfl, F5, ⟨L ++ [(t : Int)], HO7.out, by rw [← HLL.out, F7.out, List.append_assoc]; rfl⟩, HB7⟩
                  case measure =>
                    have := F8.out
                    simp only [intOf, Int.toNat_natCast]
                    omega
                · have hti' : t < i := by omega
                  have HBM := hide (HAN.out t hti' hbk)
                  obtain ⟨bm, hbm⟩ : ∃ bm, bm = false := ⟨_, rfl⟩
                  rw [← hbm] at HBM
                  clear hbk hti
                  go_wp2_with fail
                  refine wp_region_old (by kernel_rfl) (by kernel_rfl) ?_
                  go_big_quiet_step ((first | exact fun _ => rfl | exact fun _ => ⟨rfl, rfl⟩))
                  go_big_quiet_step ((first | exact fun _ => rfl | exact fun _ => ⟨rfl, rfl⟩))
                  go_big_quiet_step ((first | exact fun _ => rfl | exact fun _ => ⟨rfl, rfl⟩))
                  go_big_quiet_step ((first | exact fun _ => rfl | exact fun _ => ⟨rfl, rfl⟩))
                  refine q_pure rfl 66 ent_spIn _ _ rfl #[.int .i64 (A : Int), .int .i64 (t : Int)] rfl (.bool true) (fun w' _ => by have := spIn_c A t w' (by omega) (by omega) (by omega) (by omega); rw [Int.toNat_natCast, Int.toNat_natCast, HTB.out] at this; exact this) ?_
                  simp only [Act.put, List.setIfInBounds_toArray, List.set_cons_zero, List.set_cons_succ]
                  go_big_quiet_step ((first | exact fun _ => rfl | exact fun _ => ⟨rfl, rfl⟩))
                  go_big_quiet_step ((first | exact fun _ => rfl | exact fun _ => ⟨rfl, rfl⟩))
                  go_big_quiet_step ((first | exact fun _ => rfl | exact fun _ => ⟨rfl, rfl⟩))
                  refine q_load_cell rowS rfl (.tmp _) rfl _ rfl v D1.out ?_
                  simp only [Act.put, List.setIfInBounds_toArray, List.set_cons_zero, List.set_cons_succ]
                  go_big_quiet_step ((first | exact fun _ => rfl | exact fun _ => ⟨rfl, rfl⟩))
                  go_big_quiet_step ((first | exact fun _ => rfl | exact fun _ => ⟨rfl, rfl⟩))
                  go_big_quiet_step ((first | exact fun _ => rfl | exact fun _ => ⟨rfl, rfl⟩))
                  go_big_quiet_step ((first | exact fun _ => rfl | exact fun _ => ⟨rfl, rfl⟩))
                  refine q_pure rfl 61 ent_spHas _ _ rfl #[v, .int .i64 ((r ||| p2 t : Nat) : Int)] rfl (.bool bm) (fun w' hb => by have := spHas_c v l ((r ||| p2 t : Nat) : Int) w' ((HLK.out.below hb (Nat.le_refl _)).mono hb.size) HI.out hlen; rw [HBM.out] at this; exact this) ?_
                  simp only [Act.put, List.setIfInBounds_toArray, List.set_cons_zero, List.set_cons_succ]
                  repeat (first | go_big_quiet_skip | go_big_quiet_step ((first | exact fun _ => rfl | exact fun _ => ⟨rfl, rfl⟩)))
                  refine wpQuiet_nil ?_
                  intro w2 hb2
                  have hsz2 := hb2.size
                  have HO2 := hide (HOK.out.kept hb2)
                  have HBK2 := hide (HBK.out.trans (hb2.mono hszk))
                  clear hb2
                  subst hbm
                  go_wp2
                  go_roundw
                  case rel => exact ⟨t + 1, by omega, by go_num, HO2, HBK2⟩
                  case measure => simp [intOf]; omega
      · have HKE := hide (show k = Q.length by omega)
        have hlt' : ¬ ((k : Int) < (Q.length : Int)) := by omega
        go_wp2
        go_ret
        exact ⟨_, rfl, by rw [← HQE.out, ← HKE.out]; exact HO.out.mono (by have := HCZ.out; omega), HBC.out.trans (HB.out.mono (by have := HCZ.out; omega))⟩
  · show wpOp _ _ _ _ _ _ _
    obtain ⟨gB, hBe⟩ : ∃ B, B = C0.heap.size := ⟨_, rfl⟩
    have hcA : (C0.alloc (.cells #[.int .i64 (low N : Int)] 3)).cell? ⟨gB, 0, none⟩ = some (.int .i64 (low N : Int)) := by
      have h := hp_last C0 (.cells #[.int .i64 (low N : Int)] 3)
      rw [← hBe] at h
      rw [hp_cell h]; rfl
    have hSA : Below (w.heap.size + 1) W (C0.alloc (.cells #[.int .i64 (low N : Int)] 3)) := hS0.alloc hz0 _
    have hzA : (C0.alloc (.cells #[.int .i64 (low N : Int)] 3)).heap.size = C0.heap.size + 1 := by simp
    refine wpOp_val rfl rfl (.slice (some ⟨gB, 0, none⟩) 1 1) (C0.alloc (.cells #[.int .i64 (low N : Int)] 3)) (by simp [go_sem, hBe]) ⟨hSA, ?_⟩
    generalize C0.alloc (.cells #[.int .i64 (low N : Int)] 3) = C1 at hcA hSA hzA ⊢
    try simp only [Act.put, List.getElem_toArray, List.getElem_cons_zero, List.getElem_cons_succ, List.setIfInBounds_toArray, List.set_cons_zero, List.set_cons_succ]
    refine anyH_call (i := 1) (by kernel_rfl) rfl rfl 65 ent_l1OwnW _ _ rfl #[.slice ua q.length uc] rfl (l1Own_c (.slice ua q.length uc) q C1 ((HM0.out.below hSA (by omega)).mono (by omega)) (by omega)) ?_
    rintro e C2 ⟨v1, rfl, ho1, hb1⟩
    have hBC : Below (w.heap.size + 1) W C2 := hSA.trans (hb1.mono (by omega))
    have hcB := (hb1.cell (p := ⟨gB, 0, none⟩) (by show gB < _; omega)).trans hcA
    have hownC := ho1.mono (show w.heap.size + 1 ≤ C1.heap.size by omega)
    have hzC : w.heap.size + 1 ≤ C2.heap.size := by have := hb1.size; omega
    refine ⟨_, rfl, hBC, ?_⟩
    try simp only [Act.put, List.getElem_toArray, List.getElem_cons_zero, List.getElem_cons_succ, List.setIfInBounds_toArray, List.set_cons_zero, List.set_cons_succ]
    clear ho1 hb1 hSA hS0 hcA
    refine anyH_oneX (i := 7) (by kernel_rfl) rfl rfl ?_
    intro Q1 hQ1
    refine wpList_append1 sliceT intI rfl (.tmp _) (.tmp _) rfl (w.heap.size + 1) _ q rfl hownC gB (low N : Int) rfl hcB hzC (by omega) ?_
    intro v7 C3 ho7 hb7
    obtain ⟨xa, xc, hv7⟩ := ho7.shape
    rw [List.length_append, List.length_singleton] at hv7
    subst hv7
    refine wpList_nil ?_
    have hS3 : Below (w.heap.size + 1) W C3 := hBC.trans hb7
    refine hQ1 _ _ hS3 ?_
    try simp only [Act.put, List.getElem_toArray, List.getElem_cons_zero, List.getElem_cons_succ, List.setIfInBounds_toArray, List.set_cons_zero, List.set_cons_succ]
    refine wpAnyH_take (i := 8) (v := .int .i64 ((q.length + 1 : Nat) : Int)) rfl (by kernel_rfl) (by kernel_rfl) (by kernel_rfl) (fun _ _ _ h => h) (.inl ⟨rfl, fun w' _ => by go_simp⟩) hS3 ?_
    try simp only [Act.put, List.getElem_toArray, List.getElem_cons_zero, List.getElem_cons_succ, List.setIfInBounds_toArray, List.set_cons_zero, List.set_cons_succ]
    refine wpAnyH_done (by kernel_rfl) ?_ _
    try simp only [Act.put, List.getElem_toArray, List.getElem_cons_zero, List.getElem_cons_succ, List.setIfInBounds_toArray, List.set_cons_zero, List.set_cons_succ]
    have hbC3 := hS3
    have HBC := hide (H0.out.trans (hbC3.mono (by omega)))
    have HS3 := hide ((hbC3.block w.heap.size (by omega)).trans HS0.out)
    have HL3 := hide (HL0.out.below hbC3 (by omega))
    have HCZ := hide (show w.heap.size < C3.heap.size by have h1 := hbC3.size; rw [HZ0.out] at h1; omega)
    have HQ3 := hide (show ints C3.heap.size C3 (.slice xa (q.length + 1) xc) (q ++ [(low N : Int)]) from ho7.ints)
    have hqe : q.length + 1 = (q ++ [(low N : Int)]).length := by simp
    rw [hqe] at HQ3 ⊢
    clear hbC3 ho7 hb7 hBC hownC hcB hzC hQ1 hS3 hBe
    generalize hQQ : q ++ [(low N : Int)] = Q at *
    clear hQQ
    go_wp2_with fail
    -- the walk behind the list of the goals: W0, HO7 (the goals), HB7, facts at C3
    go_loopw [5, 6, 19] (fun wd last i wr => ∃ k : Nat, k ≤ Q.length ∧ i = .int .i64 (k : Int) ∧ last = .int .i64 (wtP Q k : Int) ∧ Hid (own 3 wr C3.heap.size wd (wtTo F N Q k)) ∧ Hid (Below C3.heap.size C3 wr)) (fun _ _ i _ => Q.length - (intOf i).toNat)
    case atStart => exact ⟨0, Nat.zero_le _, rfl, rfl, own_nil _ _ _, Below.refl _ _⟩
    case round =>
      obtain ⟨k, hk, rfl, rfl, HO, HB⟩ := hrel
      have hsz := HB.out.size
      have HQW := hide (HQ3.out.below HB.out (Nat.le_refl _))
      have HPK := hide (HPR.out k hk)
      have HWL := hide (wtTo_len F N Q k)
      by_cases hlt : k < Q.length
      · have hlt' : (k : Int) < (Q.length : Int) := by omega
        obtain ⟨s1, s2, s3, s4⟩ := HST.out k hlt
        have HX := hide s1
        have HSG := hide (And.intro s3 s4)
        have HPN := hide (show wtP Q (k + 1) = nth Q k from rfl)
        have HWN := hide (show wtTo F N Q (k + 1) = wtTo F N Q k ++ finL F N (nth Q k) (wtP Q k) from rfl)
        clear s1 s3 s4
        generalize wtTo F N Q k = L0 at HO HWN HWL
        generalize nth Q k = g at HX HSG HPN HWN s2
        generalize wtP Q k = pr at HPK HSG HWN
        have HLN := hide (finL_len F N g pr)
        go_wp2_with (first
          | (refine wpList_at sliceT intS rfl (.tmp _) (.tmp _) rfl _ rfl k rfl C3.heap.size Q HQW.out hlt ?_; intro ad hcell hblk; rw [HX.out] at hcell))
        go_loopw [5, 6] (fun o i wk => ∃ r : Nat, i = .int .i64 (r : Int) ∧ Hid (F r = true ∧ andNot r g = 0) ∧ Hid (∃ L, own 3 wk C3.heap.size o L ∧ L ++ finL F N g r = L0 ++ finL F N g pr) ∧ Hid (Below C3.heap.size C3 wk)) (fun _ i _ => pc (andNot g (intOf i).toNat))
        case atStart => exact ⟨pr, rfl, ⟨HPK.out.1, HSG.out.2⟩, ⟨L0, HO.out, rfl⟩, HB⟩
        case round =>
          clear HO HB hsz HQW hcell
          obtain ⟨r, rfl, HR, HO, HBW⟩ := hrel
          obtain ⟨L, ho, hl⟩ := HO.out
          have HOO := hide ho
          have HLL := hide hl
          have hr128 : r < 128 := HLT.out r HR.out.1
          have hszw := HBW.out.size
          have hlL : L.length < 1000000000 := by
            have h1 := congrArg List.length hl
            rw [List.length_append, List.length_append] at h1
            have := HLN.out
            have := HWL.out
            omega
          clear ho hl HO
          by_cases hrg : r = g
          · have hb2 : ((r : Int) != (g : Int)) = false := by rw [hrg]; simp
            have hl := HLL.out
            rw [hrg, finL_done, List.append_nil] at hl
            have HL2 := hide hl
            have HRG := hide hrg
            clear hl hrg
            go_wp2
            go_roundw
            case rel => exact ⟨k + 1, by omega, by go_num, by rw [HPN.out, HRG.out], by rw [HWN.out, ← HL2.out]; exact HOO, HBW⟩
            case measure => (simp [intOf] <;> omega)
          · have hb2 : ((r : Int) != (g : Int)) = true := by simp; omega
            obtain ⟨f1, f2, f3, f4, f5, f6, f7, f8⟩ := fin_next HSP.out h7 HSG.out.1 HR.out.1 HR.out.2 hrg
            have hx128 := nxt_lt F N g r s2
            have hleast := fun j (hk7 : j < 7) (h : j < tzN (nxt F N g r)) => (nxt_bit F N g r j).symm.trans (tz_least _ hx128 j hk7 h)
            generalize hi : tzN (nxt F N g r) = i at f2 f3 f4 f5 f6 f7 f8 hleast
            have HAN := hide (show ∀ j, j < i → (andNot g r).testBit j = true → memB l ((r ||| p2 j : Nat) : Int) = false by
              intro j hj hjb
              have h1 := hleast j (by omega) hj
              rw [andNot_bit] at hjb
              rw [← HMK.out]
              simp only [Bool.and_eq_true, Bool.not_eq_true'] at hjb
              rw [hjb.1, hjb.2, decide_eq_true (show j < N by omega)] at h1
              simpa using h1)
            have HA1 := hide (show (andNot g r).testBit i = true by rw [andNot_bit, f3, f4]; rfl)
            have HA2 := hide (show memB l ((r ||| p2 i : Nat) : Int) = true by rw [← HMK.out]; exact f5)
            have F5 := hide (And.intro f5 f6)
            have F7 := hide f7
            have F8 := hide f8
            have han := i64_andNot g r (by omega)
            have HA128 := hide (andNot_lt128 g r s2)
            generalize andNot g r = A at han HAN HA1 HA128
            have hi7 : i < 7 := by omega
            clear hi f1 f3 f4 f5 f6 f7 f8 hrg hleast hx128
            go_wp2_with fail
            obtain ⟨oa, oc, hov⟩ := HOO.out.shape
            subst hov
            go_loopw [9] (fun tv wk => ∃ t : Nat, t ≤ i ∧ tv = .int .i64 (t : Int) ∧ Hid (own 3 wk C3.heap.size (.slice oa L.length oc) L) ∧ Hid (Below C3.heap.size C3 wk)) (fun tv _ => i - (intOf tv).toNat)
            case atStart => exact ⟨0, by omega, rfl, HOO, HBW⟩
            case round =>
              clear HOO HBW hszw
              obtain ⟨t, ht, rfl, HOK, HBK⟩ := hrel
              have hszk := HBK.out.size
              have hsk := (HBK.out.block w.heap.size HCZ.out).trans HS3.out
              have D1 := hide (fun w' (h : Below wr.heap.size wr w') => show w'.cell? ⟨w.heap.size, 1, none⟩ = some v by rw [hp_cell ((h.block w.heap.size (by have := HCZ.out; omega)).trans hsk)]; rfl)
              have HLK := hide ((HL3.out.below HBK.out (by have := HCZ.out; omega)).mono (show w.heap.size ≤ wr.heap.size by have := HCZ.out; omega))
              have hp := wrap_p2 t (by omega)
              have hp2 : IntKind.i64.wrap (2 ^ t) = (p2 t : Int) := by rw [IntWalk.i64_left]; exact hp
              have hpl := p2_lt128 t (by omega)
              have hx := i64_or r (p2 t) (by omega) (by omega)
              have hA128 := HA128.out
              clear hsk
              cases hbk : A.testBit t
              · have HTB := hide hbk
                have hti : t < i := by
                  rcases Nat.lt_or_ge t i with h | h
                  · exact h
                  · have : t = i := by omega
                    subst this
                    have := HA1.out
                    rw [hbk] at this; cases this
                clear hbk
                go_wp2_with fail
                refine wp_region_old (by kernel_rfl) (by kernel_rfl) ?_
                go_big_quiet_step ((first | exact fun _ => rfl | exact fun _ => ⟨rfl, rfl⟩))
                go_big_quiet_step ((first | exact fun _ => rfl | exact fun _ => ⟨rfl, rfl⟩))
                go_big_quiet_step ((first | exact fun _ => rfl | exact fun _ => ⟨rfl, rfl⟩))
                go_big_quiet_step ((first | exact fun _ => rfl | exact fun _ => ⟨rfl, rfl⟩))
                refine q_pure rfl 66 ent_spIn _ _ rfl #[.int .i64 (A : Int), .int .i64 (t : Int)] rfl (.bool false) (fun w' _ => by have := spIn_c A t w' (by omega) (by omega) (by omega) (by omega); rw [Int.toNat_natCast, Int.toNat_natCast, HTB.out] at this; exact this) ?_
                simp only [Act.put, List.setIfInBounds_toArray, List.set_cons_zero, List.set_cons_succ]
                repeat (first | go_big_quiet_skip | go_big_quiet_step ((first | exact fun _ => rfl | exact fun _ => ⟨rfl, rfl⟩)))
                refine wpQuiet_nil ?_
                intro w2 hb2
                have HB2 := hide (HBK.out.trans (hb2.mono hszk))
                have HO2 := hide (HOK.out.kept hb2)
                clear hb2
                go_wp2
                go_roundw
                case rel => exact ⟨t + 1, by omega, by go_num, HO2, HB2⟩
                case measure => simp [intOf]; omega
              · have HTB := hide hbk
                by_cases hti : t = i
                · subst hti
                  have HBM := HA2
                  obtain ⟨bm, hbm⟩ : ∃ bm, bm = true := ⟨_, rfl⟩
                  rw [← hbm] at HBM
                  clear hbk
                  go_wp2_with fail
                  refine wp_region_old (by kernel_rfl) (by kernel_rfl) ?_
                  go_big_quiet_step ((first | exact fun _ => rfl | exact fun _ => ⟨rfl, rfl⟩))
                  go_big_quiet_step ((first | exact fun _ => rfl | exact fun _ => ⟨rfl, rfl⟩))
                  go_big_quiet_step ((first | exact fun _ => rfl | exact fun _ => ⟨rfl, rfl⟩))
                  go_big_quiet_step ((first | exact fun _ => rfl | exact fun _ => ⟨rfl, rfl⟩))
                  refine q_pure rfl 66 ent_spIn _ _ rfl #[.int .i64 (A : Int), .int .i64 (t : Int)] rfl (.bool true) (fun w' _ => by have := spIn_c A t w' (by omega) (by omega) (by omega) (by omega); rw [Int.toNat_natCast, Int.toNat_natCast, HTB.out] at this; exact this) ?_
                  simp only [Act.put, List.setIfInBounds_toArray, List.set_cons_zero, List.set_cons_succ]
                  go_big_quiet_step ((first | exact fun _ => rfl | exact fun _ => ⟨rfl, rfl⟩))
                  go_big_quiet_step ((first | exact fun _ => rfl | exact fun _ => ⟨rfl, rfl⟩))
                  go_big_quiet_step ((first | exact fun _ => rfl | exact fun _ => ⟨rfl, rfl⟩))
                  refine q_load_cell rowS rfl (.tmp _) rfl _ rfl v D1.out ?_
                  simp only [Act.put, List.setIfInBounds_toArray, List.set_cons_zero, List.set_cons_succ]
                  go_big_quiet_step ((first | exact fun _ => rfl | exact fun _ => ⟨rfl, rfl⟩))
                  go_big_quiet_step ((first | exact fun _ => rfl | exact fun _ => ⟨rfl, rfl⟩))
                  go_big_quiet_step ((first | exact fun _ => rfl | exact fun _ => ⟨rfl, rfl⟩))
                  go_big_quiet_step ((first | exact fun _ => rfl | exact fun _ => ⟨rfl, rfl⟩))
                  refine q_pure rfl 61 ent_spHas _ _ rfl #[v, .int .i64 ((r ||| p2 t : Nat) : Int)] rfl (.bool bm) (fun w' hb => by have := spHas_c v l ((r ||| p2 t : Nat) : Int) w' ((HLK.out.below hb (Nat.le_refl _)).mono hb.size) HI.out hlen; rw [HBM.out] at this; exact this) ?_
                  simp only [Act.put, List.setIfInBounds_toArray, List.set_cons_zero, List.set_cons_succ]
                  repeat (first | go_big_quiet_skip | go_big_quiet_step ((first | exact fun _ => rfl | exact fun _ => ⟨rfl, rfl⟩)))
                  refine wpQuiet_nil ?_
                  intro w2 hb2
                  have hsz2 := hb2.size
                  have HO2 := hide (HOK.out.kept hb2)
                  have HBK2 := hide (HBK.out.trans (hb2.mono hszk))
                  clear hb2
                  subst hbm
                  go_wp2_with (at_builtin; refine wpList_append1 sliceT intI rfl (.tmp 44) (.tmp 46) rfl C3.heap.size _ _ rfl (HO2.out.alloc _) _ (t : Int) rfl (by simp [go_sem]) (by simp; omega) (by omega) ?_; intro v7 w7 ho7 hb7; have HO7 := hide ho7; have HB7 := hide ((HBK2.out.alloc (by omega) _).trans hb7); clear ho7 hb7)
                  go_roundw
                  case rel => exact ⟨r ||| p2 t, rfl, F5, ⟨L ++ [(t : Int)], HO7.out, by rw [← HLL.out, F7.out, List.append_assoc]; rfl⟩, HB7⟩
                  case measure =>
                    have := F8.out
                    simp only [intOf, Int.toNat_natCast]
                    omega
                · have hti' : t < i := by omega
                  have HBM := hide (HAN.out t hti' hbk)
                  obtain ⟨bm, hbm⟩ : ∃ bm, bm = false := ⟨_, rfl⟩
                  rw [← hbm] at HBM
                  clear hbk hti
                  go_wp2_with fail
                  refine wp_region_old (by kernel_rfl) (by kernel_rfl) ?_
                  go_big_quiet_step ((first | exact fun _ => rfl | exact fun _ => ⟨rfl, rfl⟩))
                  go_big_quiet_step ((first | exact fun _ => rfl | exact fun _ => ⟨rfl, rfl⟩))
                  go_big_quiet_step ((first | exact fun _ => rfl | exact fun _ => ⟨rfl, rfl⟩))
                  go_big_quiet_step ((first | exact fun _ => rfl | exact fun _ => ⟨rfl, rfl⟩))
                  refine q_pure rfl 66 ent_spIn _ _ rfl #[.int .i64 (A : Int), .int .i64 (t : Int)] rfl (.bool true) (fun w' _ => by have := spIn_c A t w' (by omega) (by omega) (by omega) (by omega); rw [Int.toNat_natCast, Int.toNat_natCast, HTB.out] at this; exact this) ?_
                  simp only [Act.put, List.setIfInBounds_toArray, List.set_cons_zero, List.set_cons_succ]
                  go_big_quiet_step ((first | exact fun _ => rfl | exact fun _ => ⟨rfl, rfl⟩))
                  go_big_quiet_step ((first | exact fun _ => rfl | exact fun _ => ⟨rfl, rfl⟩))
                  go_big_quiet_step ((first | exact fun _ => rfl | exact fun _ => ⟨rfl, rfl⟩))
                  refine q_load_cell rowS rfl (.tmp _) rfl _ rfl v D1.out ?_
                  simp only [Act.put, List.setIfInBounds_toArray, List.set_cons_zero, List.set_cons_succ]
                  go_big_quiet_step ((first | exact fun _ => rfl | exact fun _ => ⟨rfl, rfl⟩))
                  go_big_quiet_step ((first | exact fun _ => rfl | exact fun _ => ⟨rfl, rfl⟩))
                  go_big_quiet_step ((first | exact fun _ => rfl | exact fun _ => ⟨rfl, rfl⟩))
                  go_big_quiet_step ((first | exact fun _ => rfl | exact fun _ => ⟨rfl, rfl⟩))
                  refine q_pure rfl 61 ent_spHas _ _ rfl #[v, .int .i64 ((r ||| p2 t : Nat) : Int)] rfl (.bool bm) (fun w' hb => by have := spHas_c v l ((r ||| p2 t : Nat) : Int) w' ((HLK.out.below hb (Nat.le_refl _)).mono hb.size) HI.out hlen; rw [HBM.out] at this; exact this) ?_
                  simp only [Act.put, List.setIfInBounds_toArray, List.set_cons_zero, List.set_cons_succ]
                  repeat (first | go_big_quiet_skip | go_big_quiet_step ((first | exact fun _ => rfl | exact fun _ => ⟨rfl, rfl⟩)))
                  refine wpQuiet_nil ?_
                  intro w2 hb2
                  have hsz2 := hb2.size
                  have HO2 := hide (HOK.out.kept hb2)
                  have HBK2 := hide (HBK.out.trans (hb2.mono hszk))
                  clear hb2
                  subst hbm
                  go_wp2
                  go_roundw
                  case rel => exact ⟨t + 1, by omega, by go_num, HO2, HBK2⟩
                  case measure => simp [intOf]; omega
      · have HKE := hide (show k = Q.length by omega)
        have hlt' : ¬ ((k : Int) < (Q.length : Int)) := by omega
        go_wp2
        go_ret
        exact ⟨_, rfl, by rw [← HQE.out, ← HKE.out]; exact HO.out.mono (by have := HCZ.out; omega), HBC.out.trans (HB.out.mono (by have := HCZ.out; omega))⟩
end Go.Proofs.YtblglkgmnaklbaaDoor
