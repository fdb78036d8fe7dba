/- Contracts: the outer fringe, the program's and the specification's. -/
import Derived.Test.YtabikcekiicagaaFr
namespace Go.Proofs.Ytabikcekiicagaa
open Go.RowKit
set_option maxRecDepth 100000
attribute [local irreducible] p2 low memB risB
theorem ent_spIn : enters Try.prog 18 := enters_of Try.func18 (by kernel_rfl) (by kernel_rfl)

def outerSp (l : List Int) (s : Nat) (i : Nat) : Bool := !s.testBit i && memB l ((s ||| p2 i : Nat) : Int)

set_option maxHeartbeats 1000000 in
theorem spOuter_c (n : Int) (v : Value) (l : List Int) (s : Int) (w : World) (hl : ints w.heap.size w v l) (hinc : inc l) (hlen : l.length < 1000000000) (hn0 : 0 ≤ n) (hn7 : n ≤ 7) (hs : 0 ≤ s) (hs2 : s < 128) :
    Calls Try.prog 11 #[.agg #[.int .i64 n, v], .int .i64 s] w fun e w' => e = .returned (.int .i64 (itemsOf (outerSp l s.toNat) n.toNat : Int)) ∧ Below w.heap.size w w' := by
  obtain ⟨s, rfl⟩ := Int.eq_ofNat_of_zero_le hs
  obtain ⟨m, rfl⟩ := Int.eq_ofNat_of_zero_le hn0
  have HL := hide ((hl.alloc (.cells #[.int .i64 (m : Int), v] 28)).mono (show w.heap.size ≤ (w.alloc (.cells #[.int .i64 (m : Int), v] 28)).heap.size by simp))
  have HI := hide hinc
  have hc0 : (w.alloc (.cells #[.int .i64 (m : Int), v] 28)).cell? ⟨w.heap.size, 0, none⟩ = some (.int .i64 (m : Int)) := by simp
  have hc1 : (w.alloc (.cells #[.int .i64 (m : Int), v] 28)).cell? ⟨w.heap.size, 1, none⟩ = some v := by simp
  have H0 := hide ((Below.refl w.heap.size w).alloc (Nat.le_refl _) (.cells #[.int .i64 (m : Int), v] 28))
  have hz : (w.alloc (.cells #[.int .i64 (m : Int), v] 28)).heap.size = w.heap.size + 1 := by simp
  have HZ := hide hz
  clear hl hinc hz
  rw [Int.toNat_natCast, Int.toNat_natCast]
  go_enter Try.func11, Try.ntmps11
  go_wp2_with fail
  generalize hW : (w.alloc (.cells #[.int .i64 (m : Int), v] 28)) = W at HL hc0 hc1 H0 HZ ⊢
  clear hW
  go_loopw [5, 6] (fun o i wr => ∃ k : Nat, k ≤ m ∧ i = .int .i64 k ∧ o = .int .i64 (orTo (fun i => if outerSp l s i then p2 i else 0) k : Int) ∧ Below W.heap.size W wr) (fun _ i _ => m - (intOf i).toNat)
  case atStart => exact ⟨0, by omega, rfl, rfl, Below.refl _ _⟩
  case round =>
    obtain ⟨k, hk, rfl, rfl, hb⟩ := hrel
    have hlt : orTo (fun i => if outerSp l s i then p2 i else 0) k < 2 ^ k := itemsOf_lt (outerSp l s) k
    have hlt7 := p2_le k 7 (by omega)
    have hq128 : orTo (fun i => if outerSp l s i then p2 i else 0) k < 128 := by omega
    have HG := hide (show orTo (fun i => if outerSp l s i then p2 i else 0) (k + 1) = orTo (fun i => if outerSp l s i then p2 i else 0) k ||| (if outerSp l s k then p2 k else 0) from rfl)
    have HE := hide (show k = m → itemsOf (outerSp l s) m = orTo (fun i => if outerSp l s i then p2 i else 0) k from fun h => by subst h; rfl)
    clear hlt hlt7
    generalize orTo (fun i => if outerSp l s i then p2 i else 0) k = q at hq128 HG HE ⊢
    have hz := HZ.out
    have hszr := hb.size
    have d0 : wr.cell? ⟨w.heap.size, 0, none⟩ = some (.int .i64 (m : Int)) := (hb.cell (p := ⟨w.heap.size, 0, none⟩) (by show w.heap.size < _; omega)).trans hc0
    have d1 : ∀ w', Below wr.heap.size wr w' → w'.cell? ⟨w.heap.size, 1, none⟩ = some v := fun w' h => ((h.cell (p := ⟨w.heap.size, 1, none⟩) (by show w.heap.size < _; omega)).trans (hb.cell (p := ⟨w.heap.size, 1, none⟩) (by show w.heap.size < _; omega))).trans hc1
    have D1 := hide d1
    have HLW := hide ((HL.out.below hb (Nat.le_refl _)).mono hszr)
    have HB := hide hb
    clear hb d1 hz
    by_cases h7 : k < m
    · have hp := wrap_p2 k (by omega)
      have hp2 : IntKind.i64.wrap (2 ^ k) = (p2 k : Int) := by rw [IntWalk.i64_left]; exact hp
      have hpl := p2_lt128 k (by omega)
      have hx := i64_or s (p2 k) (by omega) (by omega)
      have ho := i64_or q (p2 k) (by omega) (by omega)
      cases hb2 : s.testBit k
      · have HT := hide hb2
        clear hb2
        cases hm : memB l ((s ||| p2 k : Nat) : Int)
        all_goals
          have HM := hide hm
          clear hm
          go_wp2_with fail
          refine wp_region_old (by kernel_rfl) (by kernel_rfl) ?_
          go_big_quiet_step ((first | exact fun _ => rfl | exact fun _ => ⟨rfl, rfl⟩))
          go_big_quiet_step ((first | exact fun _ => rfl | exact fun _ => ⟨rfl, rfl⟩))
          refine q_pure rfl 18 ent_spIn _ _ rfl #[.int .i64 (s : Int), .int .i64 (k : Int)] rfl (.bool false) (fun w' _ => by have := spIn_c s k w' (by omega) (by omega) (by omega) (by omega); rw [Int.toNat_natCast, Int.toNat_natCast, HT.out] at this; exact this) ?_
          simp only [Act.put, List.setIfInBounds_toArray, List.set_cons_zero, List.set_cons_succ]
          go_big_quiet_step ((first | exact fun _ => rfl | exact fun _ => ⟨rfl, rfl⟩))
          go_big_quiet_step ((first | exact fun _ => rfl | exact fun _ => ⟨rfl, rfl⟩))
          go_big_quiet_step ((first | exact fun _ => rfl | exact fun _ => ⟨rfl, rfl⟩))
          refine q_load_cell rowS rfl (.tmp _) rfl _ rfl v D1.out ?_
          simp only [Act.put, List.setIfInBounds_toArray, List.set_cons_zero, List.set_cons_succ]
          go_big_quiet_step ((first | exact fun _ => rfl | exact fun _ => ⟨rfl, rfl⟩))
          go_big_quiet_step ((first | exact fun _ => rfl | exact fun _ => ⟨rfl, rfl⟩))
          go_big_quiet_step ((first | exact fun _ => rfl | exact fun _ => ⟨rfl, rfl⟩))
          go_big_quiet_step ((first | exact fun _ => rfl | exact fun _ => ⟨rfl, rfl⟩))
          refine q_pure rfl 17 ent_spHas _ _ rfl #[v, .int .i64 ((s ||| p2 k : Nat) : Int)] rfl (.bool _) (fun w' hb => by have := spHas_c v l ((s ||| p2 k : Nat) : Int) w' ((HLW.out.below hb (Nat.le_refl _)).mono hb.size) HI.out hlen; rw [HM.out] at this; exact this) ?_
          simp only [Act.put, List.setIfInBounds_toArray, List.set_cons_zero, List.set_cons_succ]
          go_big_quiet_step ((first | exact fun _ => rfl | exact fun _ => ⟨rfl, rfl⟩))
          refine wpQuiet_nil ?_
          intro w2 hb2
          have HW2 := hide (HB.out.trans (hb2.mono hszr))
          clear hb2 d0
          go_wp2
          go_roundw
          case rel => exact ⟨k + 1, by omega, by go_num, by rw [HG.out]; simp [outerSp, HT.out, HM.out], HW2.out⟩
          case measure => simp [intOf]; omega
      · have HT := hide hb2
        clear hb2
        go_wp2_with fail
        refine wp_region_old (by kernel_rfl) (by kernel_rfl) ?_
        go_big_quiet_step ((first | exact fun _ => rfl | exact fun _ => ⟨rfl, rfl⟩))
        go_big_quiet_step ((first | exact fun _ => rfl | exact fun _ => ⟨rfl, rfl⟩))
        refine q_pure rfl 18 ent_spIn _ _ rfl #[.int .i64 (s : Int), .int .i64 (k : Int)] rfl (.bool true) (fun w' _ => by have := spIn_c s k w' (by omega) (by omega) (by omega) (by omega); rw [Int.toNat_natCast, Int.toNat_natCast, HT.out] at this; exact this) ?_
        simp only [Act.put, List.setIfInBounds_toArray, List.set_cons_zero, List.set_cons_succ]
        repeat (go_big_quiet_step ((first | exact fun _ => rfl | exact fun _ => ⟨rfl, rfl⟩)))
        refine wpQuiet_nil ?_
        intro w2 hb2
        have HW2 := hide (HB.out.trans (hb2.mono hszr))
        clear hb2 d0
        go_wp2
        go_roundw
        case rel => exact ⟨k + 1, by omega, by go_num, by rw [HG.out]; simp [outerSp, HT.out], HW2.out⟩
        case measure => simp [intOf]; omega
    · have HK := hide (show k = m by omega)
      have h7' : ¬ ((k : Int) < (m : Int)) := by omega
      clear HG h7
      go_wp2
      go_ret
      exact ⟨ret_i (by rw [HE.out HK.out]), H0.out.trans (HB.out.mono (by have := HZ.out; omega))⟩

theorem outer_same (F : Nat → Bool) (l : List Int) (n s : Nat) (hn : n ≤ 7) (hs : s < 2 ^ n) (hF : ∀ x : Nat, x < 128 → F x = memB l (x : Int)) : outerOf F n s = itemsOf (outerSp l s) n := by
  have h7 := p2_le n 7 hn
  unfold outerOf
  refine itemsOf_congr n fun i hi => ?_
  unfold outerSp
  rw [hF _ (or_lt128 _ _ (by omega) (p2_lt128 _ (by omega)))]
  congr 1
  rw [Bool.eq_iff_iff]
  simp only [bne_iff_ne, ne_eq, Bool.not_eq_true']
  constructor
  · intro h
    cases hb : s.testBit i
    · rfl
    · exfalso
      apply h
      apply Nat.eq_of_testBit_eq
      intro j
      rw [Nat.testBit_or, p2_bit]
      by_cases hj : i = j
      · subst hj; simp [hb]
      · simp [hj]
  · intro h e
    have := congrArg (fun z => z.testBit i) e
    simp [p2_bit, h] at this

def outerR (n : Int) (l : List Int) (x : Int) : Int := if okOne n l x then (itemsOf (outerSp l x.toNat) n.toNat : Int) else 0
theorem outerR_no {n : Int} {l : List Int} {x : Int} (h : okOne n l x = false) : outerR n l x = 0 := by simp [outerR, h]
theorem outerR_yes {n : Int} {l : List Int} {x : Int} (h : okOne n l x = true) : outerR n l x = (itemsOf (outerSp l x.toNat) n.toNat : Int) := by simp [outerR, h]

theorem specOuterFringe_c (n : Int) (v : Value) (l : List Int) (x : Int) (w : World) (hl : ints w.heap.size w v l) (hlen : l.length < 1000000000) :
    Calls Try.prog 5 #[.agg #[.int .i64 n, v], .int .i64 x] w fun e w' => e = .returned (.tuple #[.int .i64 (outerR n l x), .bool (okOne n l x)]) ∧ Below w.heap.size w w' := by
  have HL := hide ((hl.alloc (.cells #[.int .i64 n, v] 28)).mono (show w.heap.size ≤ (w.alloc (.cells #[.int .i64 n, v] 28)).heap.size by simp))
  clear hl
  cases hok : okOne n l x
  · have HR := hide (outerR_no hok)
    have HK := hide hok
    clear hok
    go_enter Try.func5, Try.ntmps5
    go_wp2_with (go_at_call 10; refine (spOne_c n v l x _ HL.out hlen).mono ?_; rw [HK.out]; rintro e w' ⟨rfl, hb⟩)
    go_ret2
    exact ⟨by rw [HR.out]; rfl, ((Below.refl _ _).alloc (Nat.le_refl _) _).trans (hb.mono (by simp))⟩
  · have HI := hide (okSp_inc (okOne_sp hok))
    obtain ⟨hi0, hi1⟩ := okSet_in (okOne_set hok)
    obtain ⟨hn1, hn2⟩ := okSp_n (okOne_sp hok)
    have hlo := low_lt n.toNat (by omega)
    have HR := hide (outerR_yes hok)
    have HK := hide hok
    clear hok
    go_enter Try.func5, Try.ntmps5
    go_wp2_with (first
      | (go_at_call 10; refine (spOne_c n v l x _ HL.out hlen).mono ?_; rw [HK.out]; rintro e w1 ⟨rfl, hb⟩; have c0 : w1.cell? ⟨w.heap.size, 0, none⟩ = some (.int .i64 n) := (by (rw [hb.cell (p := ⟨w.heap.size, 0, none⟩) (by simp)]; simp)); have c1 : w1.cell? ⟨w.heap.size, 1, none⟩ = some v := by (rw [hb.cell (p := ⟨w.heap.size, 1, none⟩) (by simp)]; simp))
      | (go_at_call 11; refine (spOuter_c n v l x _ ((HL.out.below hb (Nat.le_refl _)).mono hb.size) HI.out hlen (by omega) (by omega) (by omega) (by omega)).mono ?_; rw [← HR.out]; rintro e w' ⟨rfl, hb2⟩))
    go_ret2
    exact ⟨rfl, (((Below.refl _ _).alloc (Nat.le_refl _) _).trans (hb.mono (by simp))).trans (hb2.mono (by have := hb.size; simp at this; omega))⟩

theorem implOuterFringe_c (n : Int) (v : Value) (l : List Int) (x : Int) (w : World) (hl : ints w.heap.size w v l) (hlen : l.length < 1000000000) :
    Calls Try.prog 7 #[.agg #[.int .i64 n, v], .int .i64 x] w fun e w' => e = .returned (.tuple #[.int .i64 (outerR n l x), .bool (okOne n l x)]) ∧ Below w.heap.size w w' := by
  have HL := hide ((hl.alloc (.cells #[.int .i64 n, v] 28)).mono (show w.heap.size ≤ (w.alloc (.cells #[.int .i64 n, v] 28)).heap.size by simp))
  clear hl
  have H0 := hide ((Below.refl w.heap.size w).alloc (Nat.le_refl _) (.cells #[.int .i64 n, v] 28))
  have key : ∀ (N : Int) (F : Nat → Bool) (S : Int) (b : Bool), famVal3 n l x = .tuple #[.agg (fam N F), .int .i64 S, .bool b] → 0 ≤ N → N ≤ 7 → 0 ≤ S → S < 128 → outerR n l x = (outerOf F N.toNat S.toNat : Int) → okOne n l x = b →
      Calls Try.prog 7 #[.agg #[.int .i64 n, v], .int .i64 x] w fun e w' => e = .returned (.tuple #[.int .i64 (outerR n l x), .bool (okOne n l x)]) ∧ Below w.heap.size w w' := by
    intro N F S b hv hN0 hN7 hS0 hS7 hr hb0
    have HV := hide hv
    have HR := hide hr
    have HO := hide hb0
    clear hv hr hb0
    go_enter Try.func7, Try.ntmps7
    go_wp2_with (first
      | (go_at_call 13; refine (familyAndOwnSet_c n v l x _ HL.out hlen).mono ?_; rw [HV.out]; rintro e w1 ⟨rfl, hb⟩; have hz := hb.size; simp at hz; have hh := (famAt.new 38 w1 0 noSet).row N F; have HB := hide (bl_row ((H0.out.trans (hb.mono (by simp))).alloc (by omega) (.cells (fam 0 noSet) 38)) (show w.heap.size ≤ w1.heap.size by omega) (fam N F)); clear hb)
      | (refine wpList_alloc_fam zeroT rfl rfl _ (by first | (simp only [World.size_alloc]; rfl) | rfl) ?_)
      | (refine wpList_store_fam sizeT rfl (.tmp _) (.tmp _) rfl _ _ _ rfl rfl _ _ (famAt.new _ _ _ _) ?_)
      | (refine wpList_load_fam rowT sizeT rfl (.tmp _) rfl _ rfl N F hh ?_)
      | (go_at_call 14; refine (outerFringe_c N F S _ hN0 hN7 hS0 hS7).mono ?_; rintro e w3 ⟨rfl, hb3⟩))
    go_ret2
    exact ⟨by rw [HR.out, HO.out]; rfl, HB.out.trans (hb3.mono (by simp [World.setRow]; omega))⟩
  cases hok : okOne n l x
  · rw [← hok]
    exact key 0 noSet 0 false (famVal3_no n l x hok) (by omega) (by omega) (by omega) (by omega) (by rw [outerR_no hok]; rfl) hok
  · obtain ⟨hi0, hi1⟩ := okSet_in (okOne_set hok)
    obtain ⟨hn1, hn2⟩ := okSp_n (okOne_sp hok)
    have hlo := low_lt n.toNat (by omega)
    have hpl := low_succ n.toNat
    rw [← hok]
    refine key n _ x true (famVal3_yes n l x hok) (by omega) (by omega) hi0 (by omega) ?_ hok
    rw [outerR_yes hok, outer_same _ l n.toNat x.toNat (by omega) (by omega) (fun y _ => okSp_marks (okOne_sp hok) y)]
end Go.Proofs.Ytabikcekiicagaa
