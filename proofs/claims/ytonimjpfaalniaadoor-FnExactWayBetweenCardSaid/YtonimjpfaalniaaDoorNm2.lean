/- Contracts: WayBetween, the program's and the specification's. -/
import Derived.Test.YtonimjpfaalniaaDoorNl
namespace Go.Proofs.YtonimjpfaalniaaDoor
open Go.RowKit
set_option maxRecDepth 100000
set_option linter.unusedSimpArgs false
theorem ent_singleN : enters Tryd.prog 114 := enters_of Tryd.func114 (by kernel_rfl) (by kernel_rfl)
theorem ent_withN : enters Tryd.prog 115 := enters_of Tryd.func115 (by kernel_rfl) (by kernel_rfl)
theorem ent_hullN : enters Tryd.prog 113 := enters_of Tryd.func113 (by kernel_rfl) (by kernel_rfl)
theorem ent_shReach : enters Tryd.prog 111 := enters_of Tryd.func111 (by kernel_rfl) (by kernel_rfl)
def WyIn (l : List Int) (a b k y : Nat) : Prop := y < 128 ∧ ∀ j, y.testBit j = ((decide (j = a) || decide (j = b)) || (decide (j < k) && wayK l a b j))
theorem WyIn.start {l : List Int} {a b : Nat} (ha : a < 7) (hb : b < 7) : WyIn l a b 0 (p2 a ||| p2 b) :=
  ⟨or_lt128 _ _ (p2_lt128 a ha) (p2_lt128 b hb), fun j => by
    rw [Nat.testBit_or, p2_bit, p2_bit]
    by_cases e1 : a = j
    · subst e1; simp
    · by_cases e2 : b = j
      · subst e2; simp
      · have e3 : ¬ j = a := fun h => e1 h.symm
        have e4 : ¬ j = b := fun h => e2 h.symm
        simp [e1, e2, e3, e4]⟩
theorem WyIn.skip {l : List Int} {a b k y : Nat} (h : WyIn l a b k y) (hk : k = a ∨ k = b ∨ wayK l a b k = false) : WyIn l a b (k + 1) y := by
  refine ⟨h.1, fun j => ?_⟩
  rw [h.2 j]
  by_cases e : j = k
  · subst e
    rcases hk with hk | hk | hk
    · subst hk; simp
    · subst hk; simp
    · rw [hk]; simp
  · have : (j < k + 1) ↔ (j < k) := by omega
    simp only [this]
theorem WyIn.take {l : List Int} {a b k y : Nat} (h : WyIn l a b k y) (h7 : k < 7) (hk : wayK l a b k = true) : WyIn l a b (k + 1) (y ||| p2 k) := by
  refine ⟨or_lt128 _ _ h.1 (p2_lt128 k h7), fun j => ?_⟩
  rw [Nat.testBit_or, h.2 j, p2_bit]
  by_cases e : k = j
  · subst e; rw [hk]; simp
  · have e2 : (j < k + 1) ↔ (j < k) := by omega
    simp only [e2]
    simp [e]
theorem WyIn.done {l : List Int} {a b y : Nat} (ha : a < l.length) (hb : b < l.length) (h : WyIn l a b l.length y) : y = wayS l a b := by
  apply Nat.eq_of_testBit_eq
  intro j
  rw [h.2 j, wayS, itemsOf_bit]
  by_cases e1 : j = a
  · subst e1; unfold wayK; simp [ha]
  · by_cases e2 : j = b
    · subst e2; unfold wayK; simp [hb]
    · simp [e1, e2]
theorem way_cond {l : List Int} {a b k : Nat} (h1 : ¬ k = a) (h2 : ¬ k = b) : wayK l a b k = !(reachS l (andNot (low l.length) (p2 k)) a).testBit b := by
  unfold wayK; rw [decide_eq_false h1, decide_eq_false h2]; rfl
attribute [local irreducible] p2 low memB risB
set_option maxHeartbeats 2000000 in
theorem implWayBetween_c (v : Value) (l : List Int) (a b : Int) (w : World) (hl : ints w.heap.size w v l) (hlen : l.length < 1000000000) (hT : tab w) :
    Calls Tryd.prog 53 #[.agg #[v], .int .i64 a, .int .i64 b] w fun e w' => e = .returned (.tuple #[.int .i64 (wbR l a b), .bool (wbB l a b)]) ∧ Below w.heap.size w w' := by
  have HL := hide hl
  have HT := hide hT
  have HB1 := hide (bx_start 62 v w)
  clear hl hT
  cases htb : treB l
  · obtain ⟨e1, e2, _⟩ := tf_no htb
    have HR := hide (wb_no (wb_no1 (a := a) (b := b) htb))
    have HTB : Hid (treB l = false ∧ tfN l = 0 ∧ tfF l = noSet) := hide ⟨htb, e1, e2⟩
    obtain ⟨N, hN⟩ : ∃ N : Int, N = 0 := ⟨_, rfl⟩
    obtain ⟨F, hF⟩ : ∃ F, F = noSet := ⟨_, rfl⟩
    rw [← hN, ← hF] at HTB
    clear htb e1 e2 hN hF
    go_enter Tryd.func53, Tryd.ntmps53
    go_wp2_with (first
      | (go_at_call 110; refine (treeFamily_c v l _ (bx_full HB1.out HL.out) hlen (bx_tab HB1.out HT.out)).mono ?_; rw [HTB.out.1, HTB.out.2.1, HTB.out.2.2]; rintro e w2 ⟨rfl, hb2⟩; have hz2 := hb2.size; have HB2 := hide (bx_to HB1.out hb2); have HF2 := hide (famAt.new 83 w2 0 noSet); have hg2 := (HF2.out.row N F).get0; clear hb2; have HF3 := hide (HF2.out.row N F); have HB3 := hide (bl_row (HB2.out.alloc (bx_size HB2.out) (.cells (fam 0 noSet) 83)) (bx_size HB2.out) (fam N F)); have HZ3 := hide (show ((w2.alloc (.cells (fam 0 noSet) 83)).setRow w2.heap.size (fam N F)).heap.size = w2.heap.size + 1 by simp [World.setRow]))
      | (refine wpList_alloc_fam zeroT rfl rfl _ (by first | (simp only [World.size_alloc]; rfl) | rfl) ?_)
      | (refine wpList_store_fam sizeT rfl (.tmp _) (.tmp _) rfl _ N F rfl rfl _ _ HF2.out ?_)
      | fail)
    go_ret2
    exact ⟨by rw [HR.out.1, HR.out.2]; rfl, bx_below HB3.out⟩
  · obtain ⟨e1, e2, _⟩ := tf_yes htb
    have h7 := (treB_n htb).2
    have HTB : Hid (treB l = true ∧ tfN l = (l.length : Int) ∧ tfF l = cutAt (treK l) (low l.length + 1)) := hide ⟨htb, e1, e2⟩
    obtain ⟨N, hN⟩ : ∃ N : Int, N = (l.length : Int) := ⟨_, rfl⟩
    by_cases ha : 0 ≤ a ∧ a < (l.length : Int)
    · have HA := hide (show 0 ≤ a ∧ a < N by rw [hN]; exact ha)
      by_cases hb : 0 ≤ b ∧ b < (l.length : Int)
      · have HBB := hide (show 0 ≤ b ∧ b < N by rw [hN]; exact hb)
        obtain ⟨a, rfl⟩ := Int.eq_ofNat_of_zero_le ha.1
        obtain ⟨b, rfl⟩ := Int.eq_ofNat_of_zero_le hb.1
        have HR := hide (wb_yes htb (show a < l.length by omega) (show b < l.length by omega))
        have HW := hide (way_hull htb (show a < l.length by omega) (show b < l.length by omega))
        have HH := hide (fun w1 => hull_c l.length (cutAt (treK l) (low l.length + 1)) (p2 a ||| p2 b) w1 h7)
        rw [HW.out] at HH
        rw [← hN] at HTB HH
        have ha7 : a < 7 := by omega
        have hb7 : b < 7 := by omega
        have hpa := p2_lt128 a ha7
        have hpb := p2_lt128 b hb7
        clear htb e1 e2 hN ha hb HW
        generalize cutAt (treK l) (low l.length + 1) = F at *
        go_enter Tryd.func53, Tryd.ntmps53
        go_wp2_with (first
          | (go_at_call 110; refine (treeFamily_c v l _ (bx_full HB1.out HL.out) hlen (bx_tab HB1.out HT.out)).mono ?_; rw [HTB.out.1, HTB.out.2.1, HTB.out.2.2]; rintro e w2 ⟨rfl, hb2⟩; have hz2 := hb2.size; have HB2 := hide (bx_to HB1.out hb2); have HF2 := hide (famAt.new 83 w2 0 noSet); have hg2 := (HF2.out.row N F).get0; clear hb2; have HF3 := hide (HF2.out.row N F); have HB3 := hide (bl_row (HB2.out.alloc (bx_size HB2.out) (.cells (fam 0 noSet) 83)) (bx_size HB2.out) (fam N F)); have HZ3 := hide (show ((w2.alloc (.cells (fam 0 noSet) 83)).setRow w2.heap.size (fam N F)).heap.size = w2.heap.size + 1 by simp [World.setRow]))
          | (refine wpList_alloc_fam zeroT rfl rfl _ (by first | (simp only [World.size_alloc]; rfl) | rfl) ?_)
          | (refine wpList_store_fam sizeT rfl (.tmp _) (.tmp _) rfl _ N F rfl rfl _ _ HF2.out ?_)
          | (go_at_call 112; refine (isItem_c _ _ _).mono ?_; (first | rw [decide_eq_true HA.out] | rw [decide_eq_true HBB.out]); rintro e w4 ⟨rfl, rfl⟩))
        generalize ((w2.alloc (.cells (fam 0 noSet) 83)).setRow w2.heap.size (fam N F)) = W3 at *
        refine wp_region_old (by kernel_rfl) (by kernel_rfl) ?_
        refine q_load_fam rowT sizeT rfl (.tmp _) rfl _ rfl N F (fun w' h => HF3.out.below h HF3.out.lt) ?_
        simp only [Act.put, List.setIfInBounds_toArray, List.set_cons_zero, List.set_cons_succ]
        go_big_quiet_step ((first | exact fun _ => rfl | exact fun _ => ⟨rfl, rfl⟩))
        refine q_pure rfl 114 ent_singleN _ _ rfl #[.int .i64 (a : Int)] rfl (.int .i64 (p2 a : Int)) (fun w' _ => by have := single_c (a : Int) w' (by omega) (by omega); rw [Int.toNat_natCast] at this; exact this) ?_
        simp only [Act.put, List.setIfInBounds_toArray, List.set_cons_zero, List.set_cons_succ]
        go_big_quiet_step ((first | exact fun _ => rfl | exact fun _ => ⟨rfl, rfl⟩))
        refine q_pure rfl 115 ent_withN _ _ rfl #[.int .i64 (p2 a : Int), .int .i64 (b : Int)] rfl (.int .i64 ((p2 a ||| p2 b : Nat) : Int)) (fun w' _ => by have := with_c (p2 a : Int) (b : Int) w' (by omega) (by omega) (by omega) (by omega); rw [Int.toNat_natCast, Int.toNat_natCast] at this; exact this) ?_
        simp only [Act.put, List.setIfInBounds_toArray, List.set_cons_zero, List.set_cons_succ]
        refine q_belowN rfl 113 ent_hullN _ _ rfl #[.agg (fam N F), .int .i64 ((p2 a ||| p2 b : Nat) : Int)] rfl (.int .i64 (wayS l a b : Int)) (fun w' _ => HH w') ?_
        simp only [Act.put, List.setIfInBounds_toArray, List.set_cons_zero, List.set_cons_succ]
        go_big_quiet_step ((first | exact fun _ => rfl | exact fun _ => ⟨rfl, rfl⟩))
        go_big_quiet_step ((first | exact fun _ => rfl | exact fun _ => ⟨rfl, rfl⟩))
        refine wpQuiet_nil ?_
        intro w5 hb5
        have HB5 := hide (bx_to HB3.out hb5)
        clear hb5
        go_wp2
        go_ret2
        exact ⟨by rw [HR.out.1, HR.out.2]; rfl, bx_below HB5.out⟩
      · have HBB := hide (show ¬ (0 ≤ b ∧ b < N) by rw [hN]; exact hb)
        have HR := hide (wb_no (wb_no3 (a := a) hb))
        rw [← hN] at HTB
        clear htb e1 e2 hN ha hb
        generalize cutAt (treK l) (low l.length + 1) = F at *
        go_enter Tryd.func53, Tryd.ntmps53
        go_wp2_with (first
          | (go_at_call 110; refine (treeFamily_c v l _ (bx_full HB1.out HL.out) hlen (bx_tab HB1.out HT.out)).mono ?_; rw [HTB.out.1, HTB.out.2.1, HTB.out.2.2]; rintro e w2 ⟨rfl, hb2⟩; have hz2 := hb2.size; have HB2 := hide (bx_to HB1.out hb2); have HF2 := hide (famAt.new 83 w2 0 noSet); have hg2 := (HF2.out.row N F).get0; clear hb2; have HF3 := hide (HF2.out.row N F); have HB3 := hide (bl_row (HB2.out.alloc (bx_size HB2.out) (.cells (fam 0 noSet) 83)) (bx_size HB2.out) (fam N F)); have HZ3 := hide (show ((w2.alloc (.cells (fam 0 noSet) 83)).setRow w2.heap.size (fam N F)).heap.size = w2.heap.size + 1 by simp [World.setRow]))
          | (refine wpList_alloc_fam zeroT rfl rfl _ (by first | (simp only [World.size_alloc]; rfl) | rfl) ?_)
          | (refine wpList_store_fam sizeT rfl (.tmp _) (.tmp _) rfl _ N F rfl rfl _ _ HF2.out ?_)
          | (go_at_call 112; refine (isItem_c _ _ _).mono ?_; (first | rw [decide_eq_true HA.out] | rw [decide_eq_false HBB.out]); rintro e w4 ⟨rfl, rfl⟩))
        go_ret2
        exact ⟨by rw [HR.out.1, HR.out.2]; rfl, bx_below HB3.out⟩
    · have HA := hide (show ¬ (0 ≤ a ∧ a < N) by rw [hN]; exact ha)
      have HR := hide (wb_no (wb_no2 (b := b) ha))
      rw [← hN] at HTB
      clear htb e1 e2 hN ha
      generalize cutAt (treK l) (low l.length + 1) = F at *
      go_enter Tryd.func53, Tryd.ntmps53
      go_wp2_with (first
        | (go_at_call 110; refine (treeFamily_c v l _ (bx_full HB1.out HL.out) hlen (bx_tab HB1.out HT.out)).mono ?_; rw [HTB.out.1, HTB.out.2.1, HTB.out.2.2]; rintro e w2 ⟨rfl, hb2⟩; have hz2 := hb2.size; have HB2 := hide (bx_to HB1.out hb2); have HF2 := hide (famAt.new 83 w2 0 noSet); have hg2 := (HF2.out.row N F).get0; clear hb2; have HF3 := hide (HF2.out.row N F); have HB3 := hide (bl_row (HB2.out.alloc (bx_size HB2.out) (.cells (fam 0 noSet) 83)) (bx_size HB2.out) (fam N F)); have HZ3 := hide (show ((w2.alloc (.cells (fam 0 noSet) 83)).setRow w2.heap.size (fam N F)).heap.size = w2.heap.size + 1 by simp [World.setRow]))
        | (refine wpList_alloc_fam zeroT rfl rfl _ (by first | (simp only [World.size_alloc]; rfl) | rfl) ?_)
        | (refine wpList_store_fam sizeT rfl (.tmp _) (.tmp _) rfl _ N F rfl rfl _ _ HF2.out ?_)
        | (go_at_call 112; refine (isItem_c _ _ _).mono ?_; rw [decide_eq_false HA.out]; rintro e w4 ⟨rfl, rfl⟩))
      go_ret2
      exact ⟨by rw [HR.out.1, HR.out.2]; rfl, bx_below HB3.out⟩
end Go.Proofs.YtonimjpfaalniaaDoor
