/- Contracts of the program's functions, III: fringes, and what is within a set. -/
import Derived.Test.YtagahoaogfogkaaImpB
namespace Go.Proofs.Ytagahoaogfogkaa
open Go.RowKit
set_option maxRecDepth 100000

theorem ent_itemsWhere1 : enters Try.prog 120 := enters_of Try.func120 (by kernel_rfl) (by kernel_rfl)
theorem ent_fringe1 : enters Try.prog 116 := enters_of Try.func116 (by kernel_rfl) (by kernel_rfl)
theorem ent_with : enters Try.prog 101 := enters_of Try.func101 (by kernel_rfl) (by kernel_rfl)
theorem ent_without : enters Try.prog 114 := enters_of Try.func114 (by kernel_rfl) (by kernel_rfl)

theorem isSet_c (n : Int) (F : Nat → Bool) (s : Int) (w : World) (h0 : 0 ≤ n) (h2 : n ≤ 7) : Calls Try.prog 96 #[.agg (fam n F), .int .i64 s] w fun e w' => e = .returned (.bool (decide (0 ≤ s ∧ s ≤ (low n.toNat : Int)))) ∧ Below w.heap.size w w' := by
  by_cases h : 0 ≤ s
  · go_enter Try.func96, Try.ntmps96
    go_wp2_with (first | (refine wpList_load_fam rowT sizeT rfl (.tmp _) rfl _ rfl _ _ (famAt.new _ _ _ _) ?_) | (go_at_call 53; refine (full_c _ _ _ (by omega) (by omega)).mono ?_; rintro e w' ⟨rfl, hb⟩))
    go_ret
    exact ⟨ret_b (by simp [h]), ((Below.refl _ _).alloc (Nat.le_refl _) _).trans (hb.mono (by simp))⟩
  · go_enter Try.func96, Try.ntmps96
    go_wp2
    go_ret
    exact ⟨ret_b (by rw [Bool.eq_iff_iff]; simp; omega), (Below.refl _ _).alloc (Nat.le_refl _) _⟩

/-- The closure of itemsWhere: the item if it is wanted. -/
theorem itemsWhere1_c (i : Int) (g : Nat) (k : Nat) (caps : Array Value) (w : World) (b : Bool) (hk : enters Try.prog k) (h0 : 0 ≤ i) (h2 : i ≤ 7)
    (hc : w.cell? ⟨g, 0, none⟩ = some (.func (.func k) #[] caps))
    (hcl : Calls Try.prog k (#[.int .i64 i] ++ caps) w fun e w2 => e = .returned (.bool b) ∧ Below w.heap.size w w2) :
    Calls Try.prog 120 #[.int .i64 i, .pointer (some ⟨g, 0, none⟩)] w fun e w' => e = .returned (.int .i64 ((if b then p2 i.toNat else 0 : Nat) : Int)) ∧ Below w.heap.size w w' := by
  have hk1 : ∀ (args : Array Value) (w : World), Sem.run Try.prog (callFunc k args) w = .ok (.enter k args) w := hk
  go_enter Try.func120, Try.ntmps120
  go_wp2_with fail
  refine hcl.mono ?_
  rintro e w1 ⟨rfl, hb⟩
  cases b
  · go_wp2
    go_ret
    exact ⟨rfl, hb⟩
  · go_wp2_with (go_at_call 109; refine (single_c _ _ (by omega) (by omega)).mono ?_; rintro e w' ⟨rfl, rfl⟩)
    go_ret
    exact ⟨rfl, hb⟩

theorem itemsWhere_c (n : Int) (k : Nat) (caps : Array Value) (w : World) (K : Nat → Bool) (hk : enters Try.prog k) (h0 : 0 ≤ n) (h2 : n ≤ 7)
    (hcl : ∀ (i : Int) (w1 : World), 0 ≤ i → i < n → Below w.heap.size w w1 → Calls Try.prog k (#[.int .i64 i] ++ caps) w1 fun e w2 => e = .returned (.bool (K i.toNat)) ∧ Below w1.heap.size w1 w2) :
    Calls Try.prog 115 #[.int .i64 n, .func (.func k) #[] caps] w fun e w' => e = .returned (.int .i64 (itemsOf K n.toNat : Int)) ∧ Below w.heap.size w w' := by
  have hb0 : Below w.heap.size w (w.alloc (.cells #[.func (.func k) #[] caps] 57)) := (Below.refl _ _).alloc (Nat.le_refl _) _
  go_enter Try.func115, Try.ntmps115
  go_wp2_with fail
  refine (sumOf_c n 120 #[.pointer (some ⟨w.heap.size, 0, none⟩)] _ (fun i => if K i then p2 i else 0) h0 (by omega) ent_itemsWhere1 ?h1 ?h2).mono ?_
  case h1 => intro i hi; show (if K i then p2 i else 0) < 128; split; exact p2_lt128 _ (by omega); omega
  case h2 =>
    intro i w1 hi0 hi hb
    refine itemsWhere1_c i w.heap.size k caps w1 (K i.toNat) hk hi0 (by omega) ?_ (hcl i w1 hi0 hi (hb0.trans (hb.mono (by simp))))
    rw [hb.cell (by simp)]
    simp
  rintro e w' ⟨rfl, hb⟩
  go_wp2
  go_ret
  exact ⟨rfl, hb0.trans (hb.mono (by simp))⟩
/-- The closure of fringe: the item if the step leads to another one of the sets. -/
theorem fringe1_c (i : Int) (n : Int) (F : Nat → Bool) (s : Nat) (f g gs gt : Nat) (w : World) (m : Nat → Nat → Nat) (hk : enters Try.prog f) (h0 : 0 ≤ i) (h2 : i < 7) (hs : s < 128) (hm : m s i.toNat < 128)
    (hst : ∀ (a i : Int) (w : World), 0 ≤ i → i ≤ 7 → 0 ≤ a → a < 128 → Calls Try.prog f #[.int .i64 a, .int .i64 i] w fun e w' => e = .returned (.int .i64 (m a.toNat i.toNat : Int)) ∧ w = w')
    (hf : famAt 64 w g n F) (hcs : w.cell? ⟨gs, 0, none⟩ = some (.int .i64 (s : Int))) (hct : w.cell? ⟨gt, 0, none⟩ = some (.func (.func f) #[] #[])) :
    Calls Try.prog 116 #[.int .i64 i, .pointer (some ⟨gt, 0, none⟩), .pointer (some ⟨gs, 0, none⟩), .pointer (some ⟨g, 0, none⟩)] w fun e w' =>
      e = .returned (.bool (m s i.toNat != s && F (m s i.toNat))) ∧ Below w.heap.size w w' := by
  have hk1 : ∀ (args : Array Value) (w : World), Sem.run Try.prog (callFunc f args) w = .ok (.enter f args) w := hk
  have hcell := hf.get (m s i.toNat) hm
  have hs1 := hst (s : Int) i w h0 (by omega) (by omega) (by omega)
  rw [Int.toNat_natCast] at hs1
  have HS := hide hst
  have HS1 := hide hs1
  have HF := hide hf
  have HK := hide hk
  clear hst hf hk hs1
  by_cases he : m s i.toNat = s
  · have e1 : ((m s i.toNat : Int) != (s : Int)) = false := by simp [he]
    have HE := hide he
    clear he
    go_enter Try.func116, Try.ntmps116
    go_wp2_with fail
    refine HS1.out.mono ?_
    rintro e w1 ⟨rfl, rfl⟩
    go_wp2
    go_ret
    exact ⟨ret_b (by simp [HE.out]), Below.refl _ _⟩
  · have e1 : ((m s i.toNat : Int) != (s : Int)) = true := by simp; omega
    have HE := hide he
    clear he
    go_enter Try.func116, Try.ntmps116
    go_wp2_with fail
    refine HS1.out.mono ?_
    rintro e w1 ⟨rfl, rfl⟩
    go_wp2
    go_ret
    exact ⟨ret_b (by have := HE.out; simp [this]), Below.refl _ _⟩

theorem fringe_c (n : Int) (F : Nat → Bool) (s : Nat) (f : Nat) (w : World) (m : Nat → Nat → Nat) (hk : enters Try.prog f) (h0 : 0 ≤ n) (h2 : n ≤ 7) (hs : s < 128) (hm : ∀ i, i < 7 → m s i < 128)
    (hst : ∀ (a i : Int) (w : World), 0 ≤ i → i ≤ 7 → 0 ≤ a → a < 128 → Calls Try.prog f #[.int .i64 a, .int .i64 i] w fun e w' => e = .returned (.int .i64 (m a.toNat i.toNat : Int)) ∧ w = w') :
    Calls Try.prog 110 #[.agg (fam n F), .int .i64 (s : Int), .func (.func f) #[] #[]] w fun e w' =>
      e = .returned (.int .i64 (itemsOf (fun i => m s i != s && F (m s i)) n.toNat : Int)) ∧ Below w.heap.size w w' := by
  have HS := hide hst
  have HM := hide hm
  have HK := hide hk
  clear hst hm hk
  go_enter Try.func110, Try.ntmps110
  go_wp2_with fail
  refine (itemsWhere_c n 116 #[.pointer (some ⟨w.heap.size + 1 + 1, 0, none⟩), .pointer (some ⟨w.heap.size + 1, 0, none⟩), .pointer (some ⟨w.heap.size, 0, none⟩)] _ (fun i => m s i != s && F (m s i)) ent_fringe1 h0 h2 ?h1).mono ?_
  case h1 =>
    intro i w1 hi0 hi hb
    have hz : w.heap.size < (((w.alloc (.cells (fam n F) 64)).alloc (.cells #[.int .i64 (s : Int)] 65)).alloc (.cells #[.func (.func f) #[] #[]] 104)).heap.size := by simp; omega
    refine fringe1_c i n F s f w.heap.size (w.heap.size + 1) (w.heap.size + 1 + 1) w1 m HK.out hi0 (by omega) hs (HM.out _ (by omega)) HS.out ?_ ?_ ?_
    · exact (((famAt.new _ w n F).alloc _).alloc _).below hb hz
    · rw [hb.cell (by simp)]; simp [go_sem]
    · rw [hb.cell (by simp)]; simp [go_sem]
  rintro e w' ⟨rfl, hb⟩
  go_wp2
  go_ret
  exact ⟨rfl, ((((Below.refl _ _).alloc (Nat.le_refl _) _).alloc (by simp) _).alloc (by simp; omega) _).trans (hb.mono (by simp; omega))⟩

def innerOf (F : Nat → Bool) (n s : Nat) : Nat := itemsOf (fun i => andNot s (p2 i) != s && F (andNot s (p2 i))) n
def outerOf (F : Nat → Bool) (n s : Nat) : Nat := itemsOf (fun i => (s ||| p2 i) != s && F (s ||| p2 i)) n
theorem andNot_lt128 (s t : Nat) (h : s < 128) : andNot s t < 128 := andNot_lt s t 7 h
theorem or_lt128 (s t : Nat) (h : s < 128) (h2 : t < 128) : s ||| t < 128 := Nat.or_lt_two_pow (n := 7) h h2

theorem outerFringe_c (n : Int) (F : Nat → Bool) (s : Int) (w : World) (h0 : 0 ≤ n) (h2 : n ≤ 7) (hs0 : 0 ≤ s) (hs : s < 128) :
    Calls Try.prog 88 #[.agg (fam n F), .int .i64 s] w fun e w' => e = .returned (.int .i64 (outerOf F n.toNat s.toNat : Int)) ∧ Below w.heap.size w w' := by
  obtain ⟨s, rfl⟩ := Int.eq_ofNat_of_zero_le hs0
  go_enter Try.func88, Try.ntmps88
  go_wp2_with (refine wpList_load_fam rowT sizeT rfl (.tmp _) rfl _ rfl _ _ (famAt.new _ _ _ _) ?_)
  refine (fringe_c n F s 101 _ (fun a i => a ||| p2 i) ent_with h0 h2 (by omega) (fun i hi => or_lt128 _ _ (by omega) (p2_lt128 _ hi)) (fun a i w h1 h2 h3 h4 => with_c a i w h1 h2 h3 h4)).mono ?_
  rintro e w' ⟨rfl, hb⟩
  go_wp2
  go_ret
  exact ⟨rfl, ((Below.refl _ _).alloc (Nat.le_refl _) _).trans (hb.mono (by simp))⟩

theorem innerFringe_c (n : Int) (F : Nat → Bool) (s : Int) (w : World) (h0 : 0 ≤ n) (h2 : n ≤ 7) (hs0 : 0 ≤ s) (hs : s < 128) :
    Calls Try.prog 103 #[.agg (fam n F), .int .i64 s] w fun e w' => e = .returned (.int .i64 (innerOf F n.toNat s.toNat : Int)) ∧ Below w.heap.size w w' := by
  obtain ⟨s, rfl⟩ := Int.eq_ofNat_of_zero_le hs0
  go_enter Try.func103, Try.ntmps103
  go_wp2_with (refine wpList_load_fam rowT sizeT rfl (.tmp _) rfl _ rfl _ _ (famAt.new _ _ _ _) ?_)
  refine (fringe_c n F s 114 _ (fun a i => andNot a (p2 i)) ent_without h0 h2 (by omega) (fun i hi => andNot_lt128 _ _ (by omega)) (fun a i w h1 h2 h3 h4 => without_c a i w h1 h2 h3 h4)).mono ?_
  rintro e w' ⟨rfl, hb⟩
  go_wp2
  go_ret
  exact ⟨rfl, ((Below.refl _ _).alloc (Nat.le_refl _) _).trans (hb.mono (by simp))⟩

def pickIn (F : Nat → Bool) (lim s : Nat) : Nat := if F s && andNot s lim == 0 then s else 0
def withinOf (F : Nat → Bool) (n lim : Nat) : Nat := orTo (pickIn F lim) (2 ^ n)
theorem low_succ (n : Nat) : low n + 1 = 2 ^ n := by have := p2_pos n; unfold low; omega
theorem withinOf_lt (F : Nat → Bool) (n lim : Nat) : withinOf F n lim < 2 ^ n := orTo_lt _ n _ fun i hi => by
  unfold pickIn
  split
  · exact hi
  · exact p2_pos n

end Go.Proofs.Ytagahoaogfogkaa
