/- Contracts: trees: the lines of a net, whether it is a tree, both; IsTree. -/
import Derived.Test.YtonimjpfaalniaaDoorNg
import Derived.Test.YtonimjpfaalniaaDoorTw
import Derived.Test.YtonimjpfaalniaaDoorNe
namespace Go.Proofs.YtonimjpfaalniaaDoor
open Go.RowKit
set_option maxRecDepth 100000
set_option linter.unusedSimpArgs false
theorem ends_next (l : List Int) (k : Nat) : endsTo l (k + 1) = endsTo l k + pc (nth l k) := rfl
theorem sizeSh : (Tryd.prog.info? 163).map (·.size) = some 2 := by kernel_rfl
theorem ent_belowN : enters Tryd.prog 151 := enters_of Tryd.func151 (by kernel_rfl) (by kernel_rfl)
theorem ent_wholeOf : enters Tryd.prog 161 := enters_of Tryd.func161 (by kernel_rfl) (by kernel_rfl)
theorem ent_isJoined : enters Tryd.prog 159 := enters_of Tryd.func159 (by kernel_rfl) (by kernel_rfl)
theorem ent_linesN : enters Tryd.prog 187 := enters_of Tryd.func187 (by kernel_rfl) (by kernel_rfl)
theorem ent_shGood : enters Tryd.prog 116 := enters_of Tryd.func116 (by kernel_rfl) (by kernel_rfl)
theorem ent_shJoined : enters Tryd.prog 109 := enters_of Tryd.func109 (by kernel_rfl) (by kernel_rfl)
theorem low_pow (n : Nat) : low n < 2 ^ n := by have := p2_pos n; unfold low; omega
theorem tr_half {l : List Int} (h : neB l = true) (h1 : 1 ≤ l.length) : (endsTo l l.length == 2 * (l.length - 1)) = (((endsTo l l.length / 2 : Nat) : Int) == (l.length : Int) - 1) := by
  have := ends_even h
  rw [Bool.eq_iff_iff, beq_iff_eq, beq_iff_eq]
  omega
theorem trB_no {l : List Int} (h : jnB l (low l.length) = false) : trB l = false := by unfold trB; rw [h]; rfl
theorem trB_yes {l : List Int} (h : jnB l (low l.length) = true) : trB l = (endsTo l l.length == 2 * (l.length - 1)) := by unfold trB; rw [h]; rfl
theorem treB_yes {l : List Int} (h : neB l = true) : treB l = trB l := by unfold treB; rw [h]; rfl
theorem treB_no {l : List Int} (h : neB l = false) : treB l = false := by unfold treB; rw [h]; rfl
attribute [local irreducible] p2 low memB risB
set_option maxHeartbeats 1000000 in
theorem lines_c (v : Value) (l : List Int) (w : World) (hl : ints w.heap.size w v l) (hA : neA l = true) :
    Calls Tryd.prog 187 #[.agg #[v]] w fun e w' => e = .returned (.int .i64 ((endsTo l l.length / 2 : Nat) : Int)) ∧ Below w.heap.size w w' := by
  have h7 := (neA_in hA).1.2
  have HL := hide hl
  have HB0 := hide (bx_start 62 v w)
  have H128 := hide (fun p => neA_128 hA p)
  have HCX := hide (fun p hp => neA_cast hA p hp)
  clear hl hA
  have HL0 := hide (bx_ints HB0.out HL.out)
  go_enter Tryd.func187, Tryd.ntmps187
  go_wp2_with (refine wpList_len sliceT rfl (.tmp _) rfl v rfl w.heap.size l HL0.out ?_)
  go_loopw [3, 8] (fun o j wr => ∃ k : Nat, o = .int .i64 (endsTo l k : Int) ∧ j = .int .i64 (k : Int) ∧ k ≤ l.length ∧ Hid (Below (w.heap.size + 1) (w.alloc (.cells #[v] 62)) wr)) (fun _ j _ => l.length - (intOf j).toNat)
  case atStart => exact ⟨0, rfl, rfl, Nat.zero_le _, HB0⟩
  case round =>
    obtain ⟨k, rfl, rfl, hk, HB⟩ := hrel
    have hcell := bx_cell HB.out
    have he := ends_le (l := l) k
    by_cases hlt : k < l.length
    · have HNX := hide (ends_next l k)
      have HNB := hide (fun w1 h1 => neighbours_c v l k w1 h1 hlt (HCX.out k hlt))
      have hx8 := H128.out k
      have hpl := pc_le (nth l k)
      generalize nth l k = x at *
      generalize endsTo l k = q at *
      go_wp2_with (first
        | (go_at_call 186; refine (HNB.out _ (bx_full HB.out HL.out)).mono ?_; rintro e w5 ⟨rfl, hb5⟩; have HB5 := hide (bx_to HB.out hb5); clear hb5)
        | (go_at_call 188; refine (size_c _ _ (by omega) (by omega)).mono ?_; rw [Int.toNat_natCast]; rintro e w6 ⟨rfl, rfl⟩))
      go_roundw
      case rel => exact ⟨k + 1, by rw [HNX.out]; go_num, by go_num, by omega, HB5⟩
      case measure => simp [intOf]; omega
    · have HKE := hide (show k = l.length by omega)
      have hlt' : ¬ ((k : Int) < (l.length : Int)) := by omega
      generalize hq : endsTo l k = q at *
      have HQ := hide hq
      clear hq
      go_wp2
      go_ret
      refine ⟨ret_i ?_, bx_below HB.out⟩
      rw [← HKE.out, HQ.out]

set_option maxHeartbeats 1000000 in
theorem wholeOf_c (v : Value) (l : List Int) (w : World) (hl : ints w.heap.size w v l) (h7 : l.length ≤ 7) :
    Calls Tryd.prog 161 #[.agg #[v]] w fun e w' => e = .returned (.agg #[v, .int .i64 (low l.length : Int)]) ∧ Below w.heap.size w w' := by
  obtain ⟨sa, sc, rfl⟩ := hl.shape
  have HS2 := hide (show ((w.alloc (.cells #[.slice sa l.length sc] 62)).alloc (.cells #[.slice none 0 0, .int .i64 0] 163)).heap.size = w.heap.size + 2 by simp)
  have HB2 := hide (show Below (w.heap.size + 1) (w.alloc (.cells #[.slice sa l.length sc] 62)) ((w.alloc (.cells #[.slice sa l.length sc] 62)).alloc (.cells #[.slice none 0 0, .int .i64 0] 163)) from (Below.refl _ _).alloc (by simp) _)
  have HR2 := hide (show ((w.alloc (.cells #[.slice sa l.length sc] 62)).alloc (.cells #[.slice none 0 0, .int .i64 0] 163)).heap[w.heap.size + 1]? = some (.cells #[.slice none 0 0, .int .i64 0] 163) by have h := hp_last (w.alloc (.cells #[.slice sa l.length sc] 62)) (.cells #[.slice none 0 0, .int .i64 0] 163); simpa using h)
  have hc0 : ∀ w', Below (w.heap.size + 1) ((w.alloc (.cells #[.slice sa l.length sc] 62)).alloc (.cells #[.slice none 0 0, .int .i64 0] 163)) w' → w'.cell? ⟨w.heap.size, 0, none⟩ = some (.slice sa l.length sc) := fun w' h => bx_cell (HB2.out.trans h)
  have HC0 := hide hc0
  have HSZ := hide sizeSh
  clear hc0 hl
  go_enter Tryd.func161, Tryd.ntmps161
  go_wp2_with fail
  generalize hX : ((w.alloc (.cells #[.slice sa l.length sc] 62)).alloc (.cells #[.slice none 0 0, .int .i64 0] 163)) = W at HS2 HB2 HR2 HC0 ⊢
  clear hX
  refine wp_region_held (S := Below (w.heap.size + 1) W) (by kernel_rfl) ?_
  have hS0 : Below (w.heap.size + 1) W { W with drawn := W.drawn + 1 } := (Below.refl _ _).drew
  have hR0 : ({ W with drawn := W.drawn + 1 } : World).heap[w.heap.size + 1]? = some (.cells #[.slice none 0 0, .int .i64 0] 163) := HR2.out
  generalize ({ W with drawn := W.drawn + 1 } : World) = C0 at hS0 hR0 ⊢
  refine wpAnyH_take (i := 0) rfl (by kernel_rfl) (by kernel_rfl) (by kernel_rfl) (fun _ _ _ h => h) (yields_load_one rowNq sizeNq rfl (.tmp _) rfl _ rfl _ HC0.out) hS0 ?_
  simp only [Act.put, List.getElem_toArray, List.getElem_cons_zero, List.getElem_cons_succ, List.setIfInBounds_toArray, List.set_cons_zero, List.set_cons_succ]
  refine wpAnyH_take (i := 1) (v := .pointer (some ⟨w.heap.size, 0, none⟩)) rfl (by kernel_rfl) (by kernel_rfl) (by kernel_rfl) (fun _ _ _ h => h) (.inl ⟨rfl, fun w' _ => by go_simp⟩) hS0 ?_
  simp only [Act.put, List.getElem_toArray, List.getElem_cons_zero, List.getElem_cons_succ, List.setIfInBounds_toArray, List.set_cons_zero, List.set_cons_succ]
  refine wpAnyH_take (i := 2) rfl (by kernel_rfl) (by kernel_rfl) (by kernel_rfl) (fun _ _ _ h => h) (yields_load_cell rowS rfl (.tmp _) rfl ⟨w.heap.size, 0, none⟩ rfl _ HC0.out) hS0 ?_
  simp only [Act.put, List.getElem_toArray, List.getElem_cons_zero, List.getElem_cons_succ, List.setIfInBounds_toArray, List.set_cons_zero, List.set_cons_succ]
  refine wpAnyH_take (i := 3) (v := .int .i64 (l.length : Int)) rfl (by kernel_rfl) (by kernel_rfl) (by kernel_rfl) (fun _ _ _ h => h) (.inl ⟨rfl, fun w' _ => by go_simp⟩) hS0 ?_
  simp only [Act.put, List.getElem_toArray, List.getElem_cons_zero, List.getElem_cons_succ, List.setIfInBounds_toArray, List.set_cons_zero, List.set_cons_succ]
  refine anyH_call (i := 4) (by kernel_rfl) rfl rfl 151 ent_belowN _ _ rfl #[.int .i64 (l.length : Int)] rfl (below_c (l.length : Int) C0 (by omega) (by omega)) ?_
  rintro e w1 ⟨rfl, rfl⟩
  refine ⟨_, rfl, hS0, ?_⟩
  rw [Int.toNat_natCast]
  simp only [Act.put, List.getElem_toArray, List.getElem_cons_zero, List.getElem_cons_succ, List.setIfInBounds_toArray, List.set_cons_zero, List.set_cons_succ]
  refine anyH_op (i := 5) (by kernel_rfl) rfl rfl (.agg #[.slice sa l.length sc, .int .i64 (low l.length : Int)]) C0 ?hq hS0 ?_
  case hq => go_simp
  simp only [Act.put, List.getElem_toArray, List.getElem_cons_zero, List.getElem_cons_succ, List.setIfInBounds_toArray, List.set_cons_zero, List.set_cons_succ]
  have hT : Below (w.heap.size + 1) W (C0.setRow (w.heap.size + 1) #[.slice sa l.length sc, .int .i64 (low l.length : Int)]) := bl_row hS0 (Nat.le_refl _) _
  have hone : (#[.slice sa l.length sc, .int .i64 (low l.length : Int)] : Array Value).all (·.oneCell') = true := by simp [Value.oneCell']
  refine anyH_store_row (i := 6) #[.slice none 0 0, .int .i64 0] #[.slice sa l.length sc, .int .i64 (low l.length : Int)] sizeSh (by kernel_rfl) rfl rfl (.tmp _) (.tmp _) rfl (w.heap.size + 1) (by rfl) (by rfl) hR0 rfl hone hT ?_
  have hR1 : (C0.setRow (w.heap.size + 1) #[.slice sa l.length sc, .int .i64 (low l.length : Int)]).heap[w.heap.size + 1]? = some (.cells #[.slice sa l.length sc, .int .i64 (low l.length : Int)] 163) := hp_row _ _ _ _ _ hR0
  have HBX := hide (bx_below (HB2.out.trans hT))
  generalize C0.setRow (w.heap.size + 1) #[.slice sa l.length sc, .int .i64 (low l.length : Int)] = C1 at hR1 HBX ⊢
  simp only [Act.put, List.getElem_toArray, List.getElem_cons_zero, List.getElem_cons_succ, List.setIfInBounds_toArray, List.set_cons_zero, List.set_cons_succ]
  refine wpAnyH_done (by kernel_rfl) ?_ _
  have y0 := cells_at0 hR1
  have y1 := cells_at1 hR1
  go_wp2
  exact bodyPost_ret (v := .agg #[.slice sa l.length sc, .int .i64 (low l.length : Int)]) (by simp [results, Tryd.results161, go_sem, y0, y1]) rfl ⟨rfl, HBX.out⟩

set_option maxHeartbeats 2000000 in
theorem isTree_c (v : Value) (l : List Int) (w : World) (hl : ints w.heap.size w v l) (hN : neB l = true) (hT : tab w) :
    Calls Tryd.prog 157 #[.agg #[v]] w fun e w' => e = .returned (.bool (trB l)) ∧ Below w.heap.size w w' := by
  have hA := neB_A hN
  have h7 := (neA_in hA).1.2
  have h1 := (neA_in hA).1.1
  obtain ⟨sa, sc, hv⟩ := hl.shape
  have HV := hide (show ∃ b c, v = .slice b l.length c from ⟨sa, sc, hv⟩)
  have HL := hide hl
  have HT := hide hT
  have HB0 := hide (bx_start 62 v w)
  have HC0 := hide (fun w' (h : Below (w.alloc (.cells #[v] 62)).heap.size (w.alloc (.cells #[v] 62)) w') => bx_cell (h.mono (by simp)))
  clear hl hT hv
  cases hj : jnB l (low l.length)
  · have HJ := hide hj
    have HNO := hide (trB_no hj)
    clear hj
    go_enter Tryd.func157, Tryd.ntmps157
    go_wp2_with fail
    refine wp_region_old (by kernel_rfl) (by kernel_rfl) ?_
    refine q_load_one rowNq sizeNq rfl (.tmp _) rfl _ _ rfl v HC0.out ?_
    simp only [Act.put, List.setIfInBounds_toArray, List.set_cons_zero, List.set_cons_succ]
    refine q_belowN rfl 161 ent_wholeOf _ _ rfl #[.agg #[v]] rfl (.agg #[v, .int .i64 (low l.length : Int)]) (fun w' h => wholeOf_c v l w' (bx_full (h.mono (by simp)) HL.out) h7) ?_
    simp only [Act.put, List.setIfInBounds_toArray, List.set_cons_zero, List.set_cons_succ]
    refine q_belowN rfl 159 ent_isJoined _ _ rfl #[.agg #[v, .int .i64 (low l.length : Int)]] rfl (.bool (jnB l (low l.length))) (fun w' h => isJoined_c v l (low l.length) w' (bx_full (h.mono (by simp)) HL.out) hA (low_pow _) (bx_tab (h.mono (by simp)) HT.out)) ?_
    rw [HJ.out]
    simp only [Act.put, List.setIfInBounds_toArray, List.set_cons_zero, List.set_cons_succ]
    repeat (first | go_big_quiet_skip | go_big_quiet_step ((first | exact fun _ => rfl | exact fun _ => ⟨rfl, rfl⟩)))
    refine wpQuiet_nil ?_
    intro w2 hb2
    have HB2 := hide (bx_to HB0.out hb2)
    clear hb2
    go_wp2
    go_ret
    exact ⟨ret_b HNO.out.symm, bx_below HB2.out⟩
  · have HJ := hide hj
    have HYES := hide ((trB_yes hj).trans (tr_half hN h1))
    have hle := ends_le (l := l) l.length
    clear hj
    go_enter Tryd.func157, Tryd.ntmps157
    go_wp2_with fail
    refine wp_region_old (by kernel_rfl) (by kernel_rfl) ?_
    refine q_load_one rowNq sizeNq rfl (.tmp _) rfl _ _ rfl v HC0.out ?_
    simp only [Act.put, List.setIfInBounds_toArray, List.set_cons_zero, List.set_cons_succ]
    refine q_belowN rfl 161 ent_wholeOf _ _ rfl #[.agg #[v]] rfl (.agg #[v, .int .i64 (low l.length : Int)]) (fun w' h => wholeOf_c v l w' (bx_full (h.mono (by simp)) HL.out) h7) ?_
    simp only [Act.put, List.setIfInBounds_toArray, List.set_cons_zero, List.set_cons_succ]
    refine q_belowN rfl 159 ent_isJoined _ _ rfl #[.agg #[v, .int .i64 (low l.length : Int)]] rfl (.bool (jnB l (low l.length))) (fun w' h => isJoined_c v l (low l.length) w' (bx_full (h.mono (by simp)) HL.out) hA (low_pow _) (bx_tab (h.mono (by simp)) HT.out)) ?_
    rw [HJ.out]
    simp only [Act.put, List.setIfInBounds_toArray, List.set_cons_zero, List.set_cons_succ]
    go_big_quiet_step ((first | exact fun _ => rfl | exact fun _ => ⟨rfl, rfl⟩))
    refine q_load_one rowNq sizeNq rfl (.tmp _) rfl _ _ rfl v HC0.out ?_
    simp only [Act.put, List.setIfInBounds_toArray, List.set_cons_zero, List.set_cons_succ]
    refine q_belowN rfl 187 ent_linesN _ _ rfl #[.agg #[v]] rfl (.int .i64 ((endsTo l l.length / 2 : Nat) : Int)) (fun w' h => lines_c v l w' (bx_full (h.mono (by simp)) HL.out) hA) ?_
    simp only [Act.put, List.setIfInBounds_toArray, List.set_cons_zero, List.set_cons_succ]
    go_big_quiet_step ((first | exact fun _ => rfl | exact fun _ => ⟨rfl, rfl⟩))
    refine q_load_cell rowS rfl (.tmp _) rfl _ rfl v HC0.out ?_
    simp only [Act.put, List.setIfInBounds_toArray, List.set_cons_zero, List.set_cons_succ]
    refine q_len sliceT rfl (.tmp _) rfl v rfl l.length HV.out ?_
    simp only [Act.put, List.setIfInBounds_toArray, List.set_cons_zero, List.set_cons_succ]
    generalize hq : endsTo l l.length / 2 = q at *
    have HQ := hide hq
    clear hq
    go_big_quiet_step ((first | exact fun _ => rfl | exact fun _ => ⟨rfl, rfl⟩))
    go_big_quiet_step ((first | exact fun _ => rfl | exact fun _ => ⟨rfl, rfl⟩))
    go_big_quiet_step ((first | exact fun _ => rfl | exact fun _ => ⟨rfl, rfl⟩))
    go_big_quiet_step ((first | exact fun _ => rfl | exact fun _ => ⟨rfl, rfl⟩))
    refine wpQuiet_nil ?_
    intro w2 hb2
    have HB2 := hide (bx_to HB0.out hb2)
    clear hb2
    go_wp2
    go_ret
    exact ⟨ret_b HYES.out.symm, bx_below HB2.out⟩
end Go.Proofs.YtonimjpfaalniaaDoor
/- Contracts: whether a net is a tree, the specification's; IsTree, both. -/
namespace Go.Proofs.YtonimjpfaalniaaDoor
open Go.RowKit
set_option maxRecDepth 100000
set_option linter.unusedSimpArgs false
def istR (l : List Int) : Bool := neB l && trB l
theorem istR_no {l : List Int} (h : neB l = false) : istR l = false := by simp [istR, h]
theorem istR_yes {l : List Int} (h : neB l = true) : istR l = trB l := by simp [istR, h]
theorem istR_tre (l : List Int) : istR l = treB l := rfl
theorem two_ends {l : List Int} (h1 : 1 ≤ l.length) : (endsTo l l.length == 2 * (l.length - 1)) = ((endsTo l l.length : Int) == 2 * ((l.length : Int) - 1)) := by
  rw [Bool.eq_iff_iff, beq_iff_eq, beq_iff_eq]
  omega
attribute [local irreducible] p2 low memB risB
set_option maxHeartbeats 2000000 in
theorem shTree_c (v : Value) (l : List Int) (w : World) (hl : ints w.heap.size w v l) (hlen : l.length < 1000000000) :
    Calls Tryd.prog 108 #[.agg #[v]] w fun e w' => e = .returned (.bool (treB l)) ∧ Below w.heap.size w w' := by
  obtain ⟨sa, sc, hv⟩ := hl.shape
  have HV := hide (show ∃ b c, v = .slice b l.length c from ⟨sa, sc, hv⟩)
  have HL := hide hl
  have HB0 := hide (bx_start 62 v w)
  have HC0 := hide (fun w' (h : Below (w.alloc (.cells #[v] 62)).heap.size (w.alloc (.cells #[v] 62)) w') => bx_cell (h.mono (by simp)))
  clear hl hv
  cases hn : neB l
  · have HN := hide hn
    have HNO := hide (treB_no hn)
    clear hn
    go_enter Tryd.func108, Tryd.ntmps108
    go_wp2_with fail
    refine wp_region_old (by kernel_rfl) (by kernel_rfl) ?_
    refine q_load_one rowNq sizeNq rfl (.tmp _) rfl _ _ rfl v HC0.out ?_
    simp only [Act.put, List.setIfInBounds_toArray, List.set_cons_zero, List.set_cons_succ]
    refine q_belowN rfl 116 ent_shGood _ _ rfl #[.agg #[v]] rfl (.bool (neB l)) (fun w' h => shGood_c v l w' (bx_full (h.mono (by simp)) HL.out) hlen) ?_
    rw [HN.out]
    simp only [Act.put, List.setIfInBounds_toArray, List.set_cons_zero, List.set_cons_succ]
    repeat (first | go_big_quiet_skip | go_big_quiet_step ((first | exact fun _ => rfl | exact fun _ => ⟨rfl, rfl⟩)))
    refine wpQuiet_nil ?_
    intro w2 hb2
    have HB2 := hide (bx_to HB0.out hb2)
    clear hb2
    go_wp2
    go_ret
    exact ⟨ret_b HNO.out.symm, bx_below HB2.out⟩
  · have hA := neB_A hn
    have h7 := (neA_in hA).1.2
    have h1 := (neA_in hA).1.1
    have HN := hide hn
    have HTR := hide (treB_yes hn)
    have hp1 := wrap_p2 l.length h7
    have hp2 : IntKind.i64.wrap (2 ^ l.length) = (p2 l.length : Int) := by rw [IntWalk.i64_left]; exact hp1
    have hp3 := wrap_low l.length h7
    have hp4 := low_p2 l.length
    have hlo := low_lt l.length h7
    have hp5 : IntKind.i64.wrap (low l.length : Int) = (low l.length : Int) := IntWalk.i64_in _ (by omega)
    clear hn
    cases hj : jnB l (low l.length)
    all_goals
      have HJ := hide hj
      have HTJ := hide (fun h => trB_no (l := l) h)
      have HTY := hide (fun h => (trB_yes (l := l) h).trans (two_ends h1))
      clear hj
      go_enter Tryd.func108, Tryd.ntmps108
      go_wp2_with fail
      refine wp_region_old (by kernel_rfl) (by kernel_rfl) ?_
      refine q_load_one rowNq sizeNq rfl (.tmp _) rfl _ _ rfl v HC0.out ?_
      simp only [Act.put, List.setIfInBounds_toArray, List.set_cons_zero, List.set_cons_succ]
      refine q_belowN rfl 116 ent_shGood _ _ rfl #[.agg #[v]] rfl (.bool (neB l)) (fun w' h => shGood_c v l w' (bx_full (h.mono (by simp)) HL.out) hlen) ?_
      rw [HN.out]
      simp only [Act.put, List.setIfInBounds_toArray, List.set_cons_zero, List.set_cons_succ]
      go_big_quiet_step ((first | exact fun _ => rfl | exact fun _ => ⟨rfl, rfl⟩))
      go_big_quiet_step ((first | exact fun _ => rfl | exact fun _ => ⟨rfl, rfl⟩))
      refine q_load_one rowNq sizeNq rfl (.tmp _) rfl _ _ rfl v HC0.out ?_
      simp only [Act.put, List.setIfInBounds_toArray, List.set_cons_zero, List.set_cons_succ]
      go_big_quiet_step ((first | exact fun _ => rfl | exact fun _ => ⟨rfl, rfl⟩))
      refine q_load_cell rowS rfl (.tmp _) rfl _ rfl v HC0.out ?_
      simp only [Act.put, List.setIfInBounds_toArray, List.set_cons_zero, List.set_cons_succ]
      refine q_len sliceT rfl (.tmp _) rfl v rfl l.length HV.out ?_
      simp only [Act.put, List.setIfInBounds_toArray, List.set_cons_zero, List.set_cons_succ]
      go_big_quiet_step ((first | exact fun _ => rfl | exact fun _ => ⟨rfl, rfl⟩))
      go_big_quiet_step ((first | exact fun _ => rfl | exact fun _ => ⟨rfl, rfl⟩))
      refine q_belowN rfl 109 ent_shJoined _ _ rfl #[.agg #[v], .int .i64 (low l.length : Int)] rfl (.bool (jnB l (low l.length))) (fun w' h => shJoined_c v l (low l.length) w' (bx_full (h.mono (by simp)) HL.out) hA (low_pow _)) ?_
      rw [HJ.out]
      simp only [Act.put, List.setIfInBounds_toArray, List.set_cons_zero, List.set_cons_succ]
      repeat (first | go_big_quiet_skip | go_big_quiet_step ((first | exact fun _ => rfl | exact fun _ => ⟨rfl, rfl⟩)))
      refine wpQuiet_nil ?_
      intro w2 hb2
      have HB2 := hide (bx_to HB0.out hb2)
      have hcell := bx_cell HB2.out
      clear hb2
    · have HNO := hide (HTJ.out HJ.out)
      go_wp2
      go_ret
      exact ⟨ret_b (by rw [HTR.out, HNO.out]), bx_below HB2.out⟩
    · have HYES := hide (HTR.out.trans (HTY.out HJ.out))
      have H128 := hide (fun p => neA_128 hA p)
      have HCX := hide (fun p hp => neA_cast hA p hp)
      clear hp1 hp2 hp3 hp4 hp5 hlo hA
      have HL2 := hide (bx_ints HB2.out HL.out)
      go_wp2_with (refine wpList_len sliceT rfl (.tmp _) rfl v rfl w.heap.size l HL2.out ?_)
      clear hcell
      go_loopw [3, 22] (fun o j wr => ∃ k : Nat, o = .int .i64 (endsTo l k : Int) ∧ j = .int .i64 (k : Int) ∧ k ≤ l.length ∧ Hid (Below (w.heap.size + 1) (w.alloc (.cells #[v] 62)) wr)) (fun _ j _ => l.length - (intOf j).toNat)
      case atStart => exact ⟨0, rfl, rfl, Nat.zero_le _, HB2⟩
      case round =>
        obtain ⟨k, rfl, rfl, hk, HB⟩ := hrel
        have hcell := bx_cell HB.out
        have HLW := hide (bx_ints HB.out HL.out)
        have he := ends_le (l := l) k
        by_cases hlt : k < l.length
        · have HNX := hide (ends_next l k)
          have HX := hide (HCX.out k hlt)
          have hx8 := H128.out k
          have hpl := pc_le (nth l k)
          generalize nth l k = x at *
          generalize endsTo l k = q at *
          go_wp2_with (first
            | (refine wpList_at sliceT intS rfl (.tmp _) (.tmp _) rfl v rfl k rfl w.heap.size l HLW.out hlt ?_; intro ad hcell2 hblk; rw [HX.out] at hcell2)
            | (go_at_call 102; refine (spCount_c _ _ (by omega) (by omega)).mono ?_; rw [Int.toNat_natCast]; rintro e w6 ⟨rfl, rfl⟩))
          go_roundw
          case rel => exact ⟨k + 1, by rw [HNX.out]; go_num, by go_num, by omega, HB⟩
          case measure => simp [intOf]; omega
        · have HYE := hide (show treB l = ((endsTo l k : Int) == 2 * ((l.length : Int) - 1)) by rw [HYES.out, show k = l.length by omega])
          have hlt' : ¬ ((k : Int) < (l.length : Int)) := by omega
          generalize endsTo l k = q at *
          go_wp2_with (refine wpList_len sliceT rfl (.tmp _) rfl v rfl w.heap.size l HLW.out ?_)
          go_ret
          exact ⟨ret_b HYE.out.symm, bx_below HB.out⟩

end Go.Proofs.YtonimjpfaalniaaDoor
