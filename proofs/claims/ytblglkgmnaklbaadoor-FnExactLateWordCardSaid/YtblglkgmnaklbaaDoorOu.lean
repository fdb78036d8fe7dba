/- Contracts: the outer fringe, the program's and the specification's. -/
import Derived.Test.YtblglkgmnaklbaaDoorFr
namespace Go.Proofs.YtblglkgmnaklbaaDoor
open Go.RowKit
set_option maxRecDepth 100000
attribute [local irreducible] p2 low memB risB
theorem ent_spIn : enters Tryd.prog 66 := enters_of Tryd.func66 (by kernel_rfl) (by kernel_rfl)

def outerSp (l : List Int) (s : Nat) (i : Nat) : Bool := !s.testBit i && memB l ((s ||| p2 i : Nat) : Int)

set_option maxHeartbeats 1000000 in
theorem spOuter_c (n : Int) (v : Value) (l : List Int) (s : Int) (w : World) (hl : ints w.heap.size w v l) (hinc : inc l) (hlen : l.length < 1000000000) (hn0 : 0 ≤ n) (hn7 : n ≤ 7) (hs : 0 ≤ s) (hs2 : s < 128) :
    Calls Tryd.prog 83 #[.agg #[.int .i64 n, v], .int .i64 s] w fun e w' => e = .returned (.int .i64 (itemsOf (outerSp l s.toNat) n.toNat : Int)) ∧ Below w.heap.size w w' := by
  obtain ⟨s, rfl⟩ := Int.eq_ofNat_of_zero_le hs
  obtain ⟨m, rfl⟩ := Int.eq_ofNat_of_zero_le hn0
  have HL := hide ((hl.alloc (.cells #[.int .i64 (m : Int), v] 29)).mono (show w.heap.size ≤ (w.alloc (.cells #[.int .i64 (m : Int), v] 29)).heap.size by simp))
  have HI := hide hinc
  have hc0 : (w.alloc (.cells #[.int .i64 (m : Int), v] 29)).cell? ⟨w.heap.size, 0, none⟩ = some (.int .i64 (m : Int)) := by simp
  have hc1 : (w.alloc (.cells #[.int .i64 (m : Int), v] 29)).cell? ⟨w.heap.size, 1, none⟩ = some v := by simp
  have H0 := hide ((Below.refl w.heap.size w).alloc (Nat.le_refl _) (.cells #[.int .i64 (m : Int), v] 29))
  have hz : (w.alloc (.cells #[.int .i64 (m : Int), v] 29)).heap.size = w.heap.size + 1 := by simp
  have HZ := hide hz
  clear hl hinc hz
  rw [Int.toNat_natCast, Int.toNat_natCast]
  go_enter Tryd.func83, Tryd.ntmps83
  go_wp2_with fail
  generalize hW : (w.alloc (.cells #[.int .i64 (m : Int), v] 29)) = W at HL hc0 hc1 H0 HZ ⊢
  clear hW
  go_loopw [5, 6] (fun o i wr => ∃ k : Nat, k ≤ m ∧ i = .int .i64 k ∧ o = .int .i64 (orTo (fun i => if outerSp l s i then p2 i else 0) k : Int) ∧ Below W.heap.size W wr) (fun _ i _ => m - (intOf i).toNat)
  case atStart => exact ⟨0, by omega, rfl, rfl, Below.refl _ _⟩
  case round =>
    obtain ⟨k, hk, rfl, rfl, hb⟩ := hrel
    have hlt : orTo (fun i => if outerSp l s i then p2 i else 0) k < 2 ^ k := itemsOf_lt (outerSp l s) k
    have hlt7 := p2_le k 7 (by omega)
    have hq128 : orTo (fun i => if outerSp l s i then p2 i else 0) k < 128 := by omega
    have HG := hide (show orTo (fun i => if outerSp l s i then p2 i else 0) (k + 1) = orTo (fun i => if outerSp l s i then p2 i else 0) k ||| (if outerSp l s k then p2 k else 0) from rfl)
    have HE := hide (show k = m → itemsOf (outerSp l s) m = orTo (fun i => if outerSp l s i then p2 i else 0) k from fun h => by subst h; rfl)
    clear hlt hlt7
    generalize orTo (fun i => if outerSp l s i then p2 i else 0) k = q at hq128 HG HE ⊢
    have hz := HZ.out
    have hszr := hb.size
    have d0 : wr.cell? ⟨w.heap.size, 0, none⟩ = some (.int .i64 (m : Int)) := (hb.cell (p := ⟨w.heap.size, 0, none⟩) (by show w.heap.size < _; omega)).trans hc0
    have d1 : ∀ w', Below wr.heap.size wr w' → w'.cell? ⟨w.heap.size, 1, none⟩ = some v := fun w' h => ((h.cell (p := ⟨w.heap.size, 1, none⟩) (by show w.heap.size < _; omega)).trans (hb.cell (p := ⟨w.heap.size, 1, none⟩) (by show w.heap.size < _; omega))).trans hc1
    have D1 := hide d1
    have HLW := hide ((HL.out.below hb (Nat.le_refl _)).mono hszr)
    have HB := hide hb
    clear hb d1 hz
    by_cases h7 : k < m
    · have hp := wrap_p2 k (by omega)
      have hp2 : IntKind.i64.wrap (2 ^ k) = (p2 k : Int) := by rw [IntWalk.i64_left]; exact hp
      have hpl := p2_lt128 k (by omega)
      have hx := i64_or s (p2 k) (by omega) (by omega)
      have ho := i64_or q (p2 k) (by omega) (by omega)
      cases hb2 : s.testBit k
      · have HT := hide hb2
        clear hb2
        cases hm : memB l ((s ||| p2 k : Nat) : Int)
        all_goals
          have HM := hide hm
          clear hm
          go_wp2_with fail
          refine wp_region_old (by kernel_rfl) (by kernel_rfl) ?_
          go_big_quiet_step ((first | exact fun _ => rfl | exact fun _ => ⟨rfl, rfl⟩))
          go_big_quiet_step ((first | exact fun _ => rfl | exact fun _ => ⟨rfl, rfl⟩))
          refine q_pure rfl 66 ent_spIn _ _ rfl #[.int .i64 (s : Int), .int .i64 (k : Int)] rfl (.bool false) (fun w' _ => by have := spIn_c s k w' (by omega) (by omega) (by omega) (by omega); rw [Int.toNat_natCast, Int.toNat_natCast, HT.out] at this; exact this) ?_
          simp only [Act.put, List.setIfInBounds_toArray, List.set_cons_zero, List.set_cons_succ]
          go_big_quiet_step ((first | exact fun _ => rfl | exact fun _ => ⟨rfl, rfl⟩))
          go_big_quiet_step ((first | exact fun _ => rfl | exact fun _ => ⟨rfl, rfl⟩))
          go_big_quiet_step ((first | exact fun _ => rfl | exact fun _ => ⟨rfl, rfl⟩))
          refine q_load_cell rowS rfl (.tmp _) rfl _ rfl v D1.out ?_
          simp only [Act.put, List.setIfInBounds_toArray, List.set_cons_zero, List.set_cons_succ]
          go_big_quiet_step ((first | exact fun _ => rfl | exact fun _ => ⟨rfl, rfl⟩))
          go_big_quiet_step ((first | exact fun _ => rfl | exact fun _ => ⟨rfl, rfl⟩))
          go_big_quiet_step ((first | exact fun _ => rfl | exact fun _ => ⟨rfl, rfl⟩))
          go_big_quiet_step ((first | exact fun _ => rfl | exact fun _ => ⟨rfl, rfl⟩))
          refine q_pure rfl 61 ent_spHas _ _ rfl #[v, .int .i64 ((s ||| p2 k : Nat) : Int)] rfl (.bool _) (fun w' hb => by have := spHas_c v l ((s ||| p2 k : Nat) : Int) w' ((HLW.out.below hb (Nat.le_refl _)).mono hb.size) HI.out hlen; rw [HM.out] at this; exact this) ?_
          simp only [Act.put, List.setIfInBounds_toArray, List.set_cons_zero, List.set_cons_succ]
          go_big_quiet_step ((first | exact fun _ => rfl | exact fun _ => ⟨rfl, rfl⟩))
          refine wpQuiet_nil ?_
          intro w2 hb2
          have HW2 := hide (HB.out.trans (hb2.mono hszr))
          clear hb2 d0
          go_wp2
          go_roundw
          case rel => exact ⟨k + 1, by omega, by go_num, by rw [HG.out]; simp [outerSp, HT.out, HM.out], HW2.out⟩
          case measure => simp [intOf]; omega
      · have HT := hide hb2
        clear hb2
        go_wp2_with fail
        refine wp_region_old (by kernel_rfl) (by kernel_rfl) ?_
        go_big_quiet_step ((first | exact fun _ => rfl | exact fun _ => ⟨rfl, rfl⟩))
        go_big_quiet_step ((first | exact fun _ => rfl | exact fun _ => ⟨rfl, rfl⟩))
        refine q_pure rfl 66 ent_spIn _ _ rfl #[.int .i64 (s : Int), .int .i64 (k : Int)] rfl (.bool true) (fun w' _ => by have := spIn_c s k w' (by omega) (by omega) (by omega) (by omega); rw [Int.toNat_natCast, Int.toNat_natCast, HT.out] at this; exact this) ?_
        simp only [Act.put, List.setIfInBounds_toArray, List.set_cons_zero, List.set_cons_succ]
        repeat (go_big_quiet_step ((first | exact fun _ => rfl | exact fun _ => ⟨rfl, rfl⟩)))
        refine wpQuiet_nil ?_
        intro w2 hb2
        have HW2 := hide (HB.out.trans (hb2.mono hszr))
        clear hb2 d0
        go_wp2
        go_roundw
        case rel => exact ⟨k + 1, by omega, by go_num, by rw [HG.out]; simp [outerSp, HT.out], HW2.out⟩
        case measure => simp [intOf]; omega
    · have HK := hide (show k = m by omega)
      have h7' : ¬ ((k : Int) < (m : Int)) := by omega
      clear HG h7
      go_wp2
      go_ret
      exact ⟨ret_i (by rw [HE.out HK.out]), H0.out.trans (HB.out.mono (by have := HZ.out; omega))⟩

theorem outer_same (F : Nat → Bool) (l : List Int) (n s : Nat) (hn : n ≤ 7) (hs : s < 2 ^ n) (hF : ∀ x : Nat, x < 128 → F x = memB l (x : Int)) : outerOf F n s = itemsOf (outerSp l s) n := by
  have h7 := p2_le n 7 hn
  unfold outerOf
  refine itemsOf_congr n fun i hi => ?_
  unfold outerSp
  rw [hF _ (or_lt128 _ _ (by omega) (p2_lt128 _ (by omega)))]
  congr 1
  rw [Bool.eq_iff_iff]
  simp only [bne_iff_ne, ne_eq, Bool.not_eq_true']
  constructor
  · intro h
    cases hb : s.testBit i
    · rfl
    · exfalso
      apply h
      apply Nat.eq_of_testBit_eq
      intro j
      rw [Nat.testBit_or, p2_bit]
      by_cases hj : i = j
      · subst hj; simp [hb]
      · simp [hj]
  · intro h e
    have := congrArg (fun z => z.testBit i) e
    simp [p2_bit, h] at this

def outerR (n : Int) (l : List Int) (x : Int) : Int := if okOne n l x then (itemsOf (outerSp l x.toNat) n.toNat : Int) else 0
theorem outerR_no {n : Int} {l : List Int} {x : Int} (h : okOne n l x = false) : outerR n l x = 0 := by simp [outerR, h]
theorem outerR_yes {n : Int} {l : List Int} {x : Int} (h : okOne n l x = true) : outerR n l x = (itemsOf (outerSp l x.toNat) n.toNat : Int) := by simp [outerR, h]

end Go.Proofs.YtblglkgmnaklbaaDoor
