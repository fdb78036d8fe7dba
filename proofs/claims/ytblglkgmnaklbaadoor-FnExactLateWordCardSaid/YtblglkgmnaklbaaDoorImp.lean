/- Contracts of the small functions of the program: single items, sets of items, unions over closures. -/
import Derived.Test.YtblglkgmnaklbaaDoorProg
import Derived.Test.YtblglkgmnaklbaaDoorLib
namespace Go.Proofs.YtblglkgmnaklbaaDoor
open Go.RowKit

theorem ret_i {k : IntKind} {a b : Int} (h : a = b) : Ending.returned (.int k a) = .returned (.int k b) := by rw [h]
theorem ret_b {a b : Bool} (h : a = b) : Ending.returned (.bool a) = .returned (.bool b) := by rw [h]

theorem single_c (a : Int) (w : World) (h : 0 ≤ a) (h2 : a ≤ 7) : Calls Tryd.prog 108 #[.int .i64 a] w fun e w' => e = .returned (.int .i64 (p2 a.toNat : Int)) ∧ w = w' := by
  go_enter Tryd.func108, Tryd.ntmps108
  go_wp2
  go_ret
  exact ⟨ret_i (wrap_p2 _ (by omega)), rfl⟩

theorem below_c (a : Int) (w : World) (h : 0 ≤ a) (h2 : a ≤ 7) : Calls Tryd.prog 103 #[.int .i64 a] w fun e w' => e = .returned (.int .i64 (low a.toNat : Int)) ∧ w = w' := by
  have h1 := p2_le128 a.toNat (by omega)
  have h3 := p2_pos a.toNat
  go_enter Tryd.func103, Tryd.ntmps103
  go_wp2_with (go_at_call 108; refine (single_c _ _ (by omega) (by omega)).mono ?_; rintro e w' ⟨rfl, rfl⟩)
  go_ret
  exact ⟨ret_i (by unfold p2 low; omega), rfl⟩

theorem has_c (a i : Int) (w : World) (h : 0 ≤ i) (h2 : i ≤ 7) (ha : 0 ≤ a) (ha2 : a < 128) : Calls Tryd.prog 86 #[.int .i64 a, .int .i64 i] w fun e w' => e = .returned (.bool (a.toNat.testBit i.toNat)) ∧ w = w' := by
  have h1 := p2_le128 i.toNat (by omega)
  obtain ⟨a, rfl⟩ := Int.eq_ofNat_of_zero_le ha
  have hx := i64_and a (p2 i.toNat) (by omega) (by omega)
  go_enter Tryd.func86, Tryd.ntmps86
  go_wp2_with (go_at_call 108; refine (single_c _ _ (by omega) (by omega)).mono ?_; rintro e w' ⟨rfl, rfl⟩)
  go_ret
  refine ⟨ret_b ?_, rfl⟩
  rw [Int.toNat_natCast, ← bit_test, Bool.eq_iff_iff]
  simp

theorem with_c (a i : Int) (w : World) (h : 0 ≤ i) (h2 : i ≤ 7) (ha : 0 ≤ a) (ha2 : a < 128) : Calls Tryd.prog 82 #[.int .i64 a, .int .i64 i] w fun e w' => e = .returned (.int .i64 ((a.toNat ||| p2 i.toNat : Nat) : Int)) ∧ w = w' := by
  have h1 := p2_le128 i.toNat (by omega)
  obtain ⟨a, rfl⟩ := Int.eq_ofNat_of_zero_le ha
  go_enter Tryd.func82, Tryd.ntmps82
  go_wp2_with (go_at_call 108; refine (single_c _ _ (by omega) (by omega)).mono ?_; rintro e w' ⟨rfl, rfl⟩)
  go_ret
  exact ⟨ret_i (i64_or _ _ (by omega) (by omega)), rfl⟩

theorem without_c (a i : Int) (w : World) (h : 0 ≤ i) (h2 : i ≤ 7) (ha : 0 ≤ a) (ha2 : a < 128) : Calls Tryd.prog 121 #[.int .i64 a, .int .i64 i] w fun e w' => e = .returned (.int .i64 ((andNot a.toNat (p2 i.toNat) : Nat) : Int)) ∧ w = w' := by
  obtain ⟨a, rfl⟩ := Int.eq_ofNat_of_zero_le ha
  go_enter Tryd.func121, Tryd.ntmps121
  go_wp2_with (go_at_call 108; refine (single_c _ _ (by omega) (by omega)).mono ?_; rintro e w' ⟨rfl, rfl⟩)
  go_ret
  exact ⟨ret_i (i64_andNot _ _ (by omega)), rfl⟩

theorem within_c (a b : Int) (w : World) (ha : 0 ≤ a) (ha2 : a < 128) (hb : 0 ≤ b) : Calls Tryd.prog 117 #[.int .i64 a, .int .i64 b] w fun e w' => e = .returned (.bool (andNot a.toNat b.toNat == 0)) ∧ w = w' := by
  obtain ⟨a, rfl⟩ := Int.eq_ofNat_of_zero_le ha
  obtain ⟨b, rfl⟩ := Int.eq_ofNat_of_zero_le hb
  have hx := i64_andNot a b (by omega)
  go_enter Tryd.func117, Tryd.ntmps117
  go_wp2
  go_ret
  refine ⟨ret_b ?_, rfl⟩
  rw [Int.toNat_natCast, Int.toNat_natCast, Bool.eq_iff_iff]
  simp

theorem isItem_c (i n : Int) (w : World) : Calls Tryd.prog 90 #[.int .i64 i, .int .i64 n] w fun e w' => e = .returned (.bool (decide (0 ≤ i ∧ i < n))) ∧ w = w' := by
  by_cases h : 0 ≤ i <;> by_cases h2 : i < n
  all_goals
    go_enter Tryd.func90, Tryd.ntmps90
    go_wp2
    go_ret
    exact ⟨ret_b (by simp [h, h2]), rfl⟩

theorem isItemCount_c (n : Int) (w : World) : Calls Tryd.prog 67 #[.int .i64 n] w fun e w' => e = .returned (.bool (decide (1 ≤ n ∧ n ≤ 7))) ∧ w = w' := by
  by_cases h : 1 ≤ n <;> by_cases h2 : n ≤ 7
  all_goals
    go_enter Tryd.func67, Tryd.ntmps67
    go_wp2
    go_ret
    exact ⟨ret_b (by simp [h, h2]), rfl⟩
end Go.Proofs.YtblglkgmnaklbaaDoor
/- Contracts of the program's functions, II: unions over closures; what a family of sets is asked. -/
namespace Go.Proofs.YtblglkgmnaklbaaDoor
open Go.RowKit

theorem rowT : (Tryd.prog.underlying 57).map TypeDesc.isRow = some true := by kernel_rfl
theorem sizeT : (Tryd.prog.info? 57).map (·.size) = some 129 := by kernel_rfl
theorem rowA : (Tryd.prog.underlying 55).map TypeDesc.isRow = some true := by kernel_rfl
theorem sizeA : (Tryd.prog.info? 55).map (·.size) = some 128 := by kernel_rfl

theorem arrA : Tryd.prog.underlying 55 = some (.array 128 4) := by kernel_rfl
theorem sizeB : (Tryd.prog.info? 4).map (·.size) = some 1 := by kernel_rfl
theorem rowB : (Tryd.prog.underlying 4).map TypeDesc.isRow = some false := by kernel_rfl

theorem zeroT : ((Tryd.prog.info? 57).bind (·.zero)).map Value.cells = some (fam 0 noSet) := by kernel_rfl
theorem builtT : ∀ n : Int, Tryd.prog.built 57 [(0, .int .i64 n)] = some (fam n noSet) := by intro n; kernel_rfl
theorem built0 : Tryd.prog.built 57 [] = some (fam 0 noSet) := by kernel_rfl

theorem sum_step {G : Nat → Nat} {n j : Nat} (hg : ∀ i, i < n → G i < 128) (hj : j < n) : Value.int .i64 (bits .or .i64 (orTo G j : Int) (G j : Int)) = .int .i64 (orTo G (j + 1) : Int) := by
  have h1 : orTo G j < 2 ^ 7 := orTo_lt G 7 j fun i hi => hg i (by omega)
  have h2 := hg j hj
  rw [i64_or _ _ (by omega) (by omega)]; rfl

set_option maxRecDepth 100000 in
set_option maxHeartbeats 400000 in
theorem sumOf_c (n : Int) (k : Nat) (caps : Array Value) (w : World) (G : Nat → Nat) (h0 : 0 ≤ n) (h2 : n ≤ 128) (hk : enters Tryd.prog k)
    (hg : ∀ i, i < n.toNat → G i < 128)
    (hcl : ∀ (i : Int) (w1 : World), 0 ≤ i → i < n → Below w.heap.size w w1 → Calls Tryd.prog k (#[.int .i64 i] ++ caps) w1 fun e w2 => e = .returned (.int .i64 (G i.toNat : Int)) ∧ Below w1.heap.size w1 w2) :
    Calls Tryd.prog 109 #[.int .i64 n, .func (.func k) #[] caps] w fun e w' => e = .returned (.int .i64 (orTo G n.toNat : Int)) ∧ Below w.heap.size w w' := by
  have hg := hide hg
  have hk1 : ∀ (args : Array Value) (w : World), Sem.run Tryd.prog (callFunc k args) w = .ok (.enter k args) w := hk
  go_enter Tryd.func109, Tryd.ntmps109
  go_wp2_with fail
  go_loopw [5, 8] (fun s i wr => ∃ j : Nat, j ≤ n.toNat ∧ i = .int .i64 j ∧ s = .int .i64 (orTo G j : Int) ∧ Below w.heap.size w wr) (fun _ i _ => n.toNat - (intOf i).toNat)
  case atStart => exact ⟨0, by omega, rfl, rfl, Below.refl _ _⟩
  case round =>
    obtain ⟨j, hj, rfl, rfl, hb⟩ := hrel
    by_cases hlt : (j : Int) < n
    · go_wp2_with fail
      refine (hcl _ _ (by omega) hlt hb).mono ?_
      rintro e w1 ⟨rfl, hb1⟩
      rw [Int.toNat_natCast]
      go_wp2
      go_roundw
      case rel => exact ⟨j + 1, by omega, by go_num, sum_step hg.out (by omega), hb.trans (hb1.mono hb.size)⟩
      case measure => simp [intOf]; omega
    · go_wp2
      go_ret
      exact ⟨ret_i (by rw [show n.toNat = j by omega]), hb⟩
theorem full_c (n : Int) (F : Nat → Bool) (w : World) (h0 : 0 ≤ n) (h2 : n ≤ 7) : Calls Tryd.prog 74 #[.agg (fam n F)] w fun e w' => e = .returned (.int .i64 (low n.toNat : Int)) ∧ Below w.heap.size w w' := by
  go_enter Tryd.func74, Tryd.ntmps74
  go_wp2_with (go_at_call 103; refine (below_c _ _ (by omega) (by omega)).mono ?_; rintro e w' ⟨rfl, rfl⟩)
  go_ret
  exact ⟨rfl, (Below.refl _ _).alloc (Nat.le_refl _) _⟩

end Go.Proofs.YtblglkgmnaklbaaDoor
/- Contracts of the program's functions, III: fringes, and what is within a set. -/
namespace Go.Proofs.YtblglkgmnaklbaaDoor
open Go.RowKit
set_option maxRecDepth 100000

theorem ent_itemsWhere1 : enters Tryd.prog 110 := enters_of Tryd.func110 (by kernel_rfl) (by kernel_rfl)
theorem ent_fringe1 : enters Tryd.prog 120 := enters_of Tryd.func120 (by kernel_rfl) (by kernel_rfl)
theorem ent_with : enters Tryd.prog 82 := enters_of Tryd.func82 (by kernel_rfl) (by kernel_rfl)
theorem ent_without : enters Tryd.prog 121 := enters_of Tryd.func121 (by kernel_rfl) (by kernel_rfl)

theorem isSet_c (n : Int) (F : Nat → Bool) (s : Int) (w : World) (h0 : 0 ≤ n) (h2 : n ≤ 7) : Calls Tryd.prog 68 #[.agg (fam n F), .int .i64 s] w fun e w' => e = .returned (.bool (decide (0 ≤ s ∧ s ≤ (low n.toNat : Int)))) ∧ Below w.heap.size w w' := by
  by_cases h : 0 ≤ s
  · go_enter Tryd.func68, Tryd.ntmps68
    go_wp2_with (first | (refine wpList_load_fam rowT sizeT rfl (.tmp _) rfl _ rfl _ _ (famAt.new _ _ _ _) ?_) | (go_at_call 74; refine (full_c _ _ _ (by omega) (by omega)).mono ?_; rintro e w' ⟨rfl, hb⟩))
    go_ret
    exact ⟨ret_b (by simp [h]), ((Below.refl _ _).alloc (Nat.le_refl _) _).trans (hb.mono (by simp))⟩
  · go_enter Tryd.func68, Tryd.ntmps68
    go_wp2
    go_ret
    exact ⟨ret_b (by rw [Bool.eq_iff_iff]; simp; omega), (Below.refl _ _).alloc (Nat.le_refl _) _⟩

/-- The closure of itemsWhere: the item if it is wanted. -/
theorem itemsWhere1_c (i : Int) (g : Nat) (k : Nat) (caps : Array Value) (w : World) (b : Bool) (hk : enters Tryd.prog k) (h0 : 0 ≤ i) (h2 : i ≤ 7)
    (hc : w.cell? ⟨g, 0, none⟩ = some (.func (.func k) #[] caps))
    (hcl : Calls Tryd.prog k (#[.int .i64 i] ++ caps) w fun e w2 => e = .returned (.bool b) ∧ Below w.heap.size w w2) :
    Calls Tryd.prog 110 #[.int .i64 i, .pointer (some ⟨g, 0, none⟩)] w fun e w' => e = .returned (.int .i64 ((if b then p2 i.toNat else 0 : Nat) : Int)) ∧ Below w.heap.size w w' := by
  have hk1 : ∀ (args : Array Value) (w : World), Sem.run Tryd.prog (callFunc k args) w = .ok (.enter k args) w := hk
  go_enter Tryd.func110, Tryd.ntmps110
  go_wp2_with fail
  refine hcl.mono ?_
  rintro e w1 ⟨rfl, hb⟩
  cases b
  · go_wp2
    go_ret
    exact ⟨rfl, hb⟩
  · go_wp2_with (go_at_call 108; refine (single_c _ _ (by omega) (by omega)).mono ?_; rintro e w' ⟨rfl, rfl⟩)
    go_ret
    exact ⟨rfl, hb⟩

theorem itemsWhere_c (n : Int) (k : Nat) (caps : Array Value) (w : World) (K : Nat → Bool) (hk : enters Tryd.prog k) (h0 : 0 ≤ n) (h2 : n ≤ 7)
    (hcl : ∀ (i : Int) (w1 : World), 0 ≤ i → i < n → Below w.heap.size w w1 → Calls Tryd.prog k (#[.int .i64 i] ++ caps) w1 fun e w2 => e = .returned (.bool (K i.toNat)) ∧ Below w1.heap.size w1 w2) :
    Calls Tryd.prog 84 #[.int .i64 n, .func (.func k) #[] caps] w fun e w' => e = .returned (.int .i64 (itemsOf K n.toNat : Int)) ∧ Below w.heap.size w w' := by
  have hb0 : Below w.heap.size w (w.alloc (.cells #[.func (.func k) #[] caps] 84)) := (Below.refl _ _).alloc (Nat.le_refl _) _
  go_enter Tryd.func84, Tryd.ntmps84
  go_wp2_with fail
  refine (sumOf_c n 110 #[.pointer (some ⟨w.heap.size, 0, none⟩)] _ (fun i => if K i then p2 i else 0) h0 (by omega) ent_itemsWhere1 ?h1 ?h2).mono ?_
  case h1 => intro i hi; show (if K i then p2 i else 0) < 128; split; exact p2_lt128 _ (by omega); omega
  case h2 =>
    intro i w1 hi0 hi hb
    refine itemsWhere1_c i w.heap.size k caps w1 (K i.toNat) hk hi0 (by omega) ?_ (hcl i w1 hi0 hi (hb0.trans (hb.mono (by simp))))
    rw [hb.cell (by simp)]
    simp
  rintro e w' ⟨rfl, hb⟩
  go_wp2
  go_ret
  exact ⟨rfl, hb0.trans (hb.mono (by simp))⟩
/-- The closure of fringe: the item if the step leads to another one of the sets. -/
theorem fringe1_c (i : Int) (n : Int) (F : Nat → Bool) (s : Nat) (f g gs gt : Nat) (w : World) (m : Nat → Nat → Nat) (hk : enters Tryd.prog f) (h0 : 0 ≤ i) (h2 : i < 7) (hs : s < 128) (hm : m s i.toNat < 128)
    (hst : ∀ (a i : Int) (w : World), 0 ≤ i → i ≤ 7 → 0 ≤ a → a < 128 → Calls Tryd.prog f #[.int .i64 a, .int .i64 i] w fun e w' => e = .returned (.int .i64 (m a.toNat i.toNat : Int)) ∧ w = w')
    (hf : famAt 57 w g n F) (hcs : w.cell? ⟨gs, 0, none⟩ = some (.int .i64 (s : Int))) (hct : w.cell? ⟨gt, 0, none⟩ = some (.func (.func f) #[] #[])) :
    Calls Tryd.prog 120 #[.int .i64 i, .pointer (some ⟨gt, 0, none⟩), .pointer (some ⟨gs, 0, none⟩), .pointer (some ⟨g, 0, none⟩)] w fun e w' =>
      e = .returned (.bool (m s i.toNat != s && F (m s i.toNat))) ∧ Below w.heap.size w w' := by
  have hk1 : ∀ (args : Array Value) (w : World), Sem.run Tryd.prog (callFunc f args) w = .ok (.enter f args) w := hk
  have hcell := hf.get (m s i.toNat) hm
  have hs1 := hst (s : Int) i w h0 (by omega) (by omega) (by omega)
  rw [Int.toNat_natCast] at hs1
  have HS := hide hst
  have HS1 := hide hs1
  have HF := hide hf
  have HK := hide hk
  clear hst hf hk hs1
  by_cases he : m s i.toNat = s
  · have e1 : ((m s i.toNat : Int) != (s : Int)) = false := by simp [he]
    have HE := hide he
    clear he
    go_enter Tryd.func120, Tryd.ntmps120
    go_wp2_with fail
    refine HS1.out.mono ?_
    rintro e w1 ⟨rfl, rfl⟩
    go_wp2
    go_ret
    exact ⟨ret_b (by simp [HE.out]), Below.refl _ _⟩
  · have e1 : ((m s i.toNat : Int) != (s : Int)) = true := by simp; omega
    have HE := hide he
    clear he
    go_enter Tryd.func120, Tryd.ntmps120
    go_wp2_with fail
    refine HS1.out.mono ?_
    rintro e w1 ⟨rfl, rfl⟩
    go_wp2
    go_ret
    exact ⟨ret_b (by have := HE.out; simp [this]), Below.refl _ _⟩

theorem fringe_c (n : Int) (F : Nat → Bool) (s : Nat) (f : Nat) (w : World) (m : Nat → Nat → Nat) (hk : enters Tryd.prog f) (h0 : 0 ≤ n) (h2 : n ≤ 7) (hs : s < 128) (hm : ∀ i, i < 7 → m s i < 128)
    (hst : ∀ (a i : Int) (w : World), 0 ≤ i → i ≤ 7 → 0 ≤ a → a < 128 → Calls Tryd.prog f #[.int .i64 a, .int .i64 i] w fun e w' => e = .returned (.int .i64 (m a.toNat i.toNat : Int)) ∧ w = w') :
    Calls Tryd.prog 107 #[.agg (fam n F), .int .i64 (s : Int), .func (.func f) #[] #[]] w fun e w' =>
      e = .returned (.int .i64 (itemsOf (fun i => m s i != s && F (m s i)) n.toNat : Int)) ∧ Below w.heap.size w w' := by
  have HS := hide hst
  have HM := hide hm
  have HK := hide hk
  clear hst hm hk
  go_enter Tryd.func107, Tryd.ntmps107
  go_wp2_with fail
  refine (itemsWhere_c n 120 #[.pointer (some ⟨w.heap.size + 1 + 1, 0, none⟩), .pointer (some ⟨w.heap.size + 1, 0, none⟩), .pointer (some ⟨w.heap.size, 0, none⟩)] _ (fun i => m s i != s && F (m s i)) ent_fringe1 h0 h2 ?h1).mono ?_
  case h1 =>
    intro i w1 hi0 hi hb
    have hz : w.heap.size < (((w.alloc (.cells (fam n F) 57)).alloc (.cells #[.int .i64 (s : Int)] 81)).alloc (.cells #[.func (.func f) #[] #[]] 128)).heap.size := by simp; omega
    refine fringe1_c i n F s f w.heap.size (w.heap.size + 1) (w.heap.size + 1 + 1) w1 m HK.out hi0 (by omega) hs (HM.out _ (by omega)) HS.out ?_ ?_ ?_
    · exact (((famAt.new _ w n F).alloc _).alloc _).below hb hz
    · rw [hb.cell (by simp)]; simp [go_sem]
    · rw [hb.cell (by simp)]; simp [go_sem]
  rintro e w' ⟨rfl, hb⟩
  go_wp2
  go_ret
  exact ⟨rfl, ((((Below.refl _ _).alloc (Nat.le_refl _) _).alloc (by simp) _).alloc (by simp; omega) _).trans (hb.mono (by simp; omega))⟩

def innerOf (F : Nat → Bool) (n s : Nat) : Nat := itemsOf (fun i => andNot s (p2 i) != s && F (andNot s (p2 i))) n
def outerOf (F : Nat → Bool) (n s : Nat) : Nat := itemsOf (fun i => (s ||| p2 i) != s && F (s ||| p2 i)) n
theorem andNot_lt128 (s t : Nat) (h : s < 128) : andNot s t < 128 := andNot_lt s t 7 h
theorem or_lt128 (s t : Nat) (h : s < 128) (h2 : t < 128) : s ||| t < 128 := Nat.or_lt_two_pow (n := 7) h h2

theorem outerFringe_c (n : Int) (F : Nat → Bool) (s : Int) (w : World) (h0 : 0 ≤ n) (h2 : n ≤ 7) (hs0 : 0 ≤ s) (hs : s < 128) :
    Calls Tryd.prog 80 #[.agg (fam n F), .int .i64 s] w fun e w' => e = .returned (.int .i64 (outerOf F n.toNat s.toNat : Int)) ∧ Below w.heap.size w w' := by
  obtain ⟨s, rfl⟩ := Int.eq_ofNat_of_zero_le hs0
  go_enter Tryd.func80, Tryd.ntmps80
  go_wp2_with (refine wpList_load_fam rowT sizeT rfl (.tmp _) rfl _ rfl _ _ (famAt.new _ _ _ _) ?_)
  refine (fringe_c n F s 82 _ (fun a i => a ||| p2 i) ent_with h0 h2 (by omega) (fun i hi => or_lt128 _ _ (by omega) (p2_lt128 _ hi)) (fun a i w h1 h2 h3 h4 => with_c a i w h1 h2 h3 h4)).mono ?_
  rintro e w' ⟨rfl, hb⟩
  go_wp2
  go_ret
  exact ⟨rfl, ((Below.refl _ _).alloc (Nat.le_refl _) _).trans (hb.mono (by simp))⟩

theorem innerFringe_c (n : Int) (F : Nat → Bool) (s : Int) (w : World) (h0 : 0 ≤ n) (h2 : n ≤ 7) (hs0 : 0 ≤ s) (hs : s < 128) :
    Calls Tryd.prog 115 #[.agg (fam n F), .int .i64 s] w fun e w' => e = .returned (.int .i64 (innerOf F n.toNat s.toNat : Int)) ∧ Below w.heap.size w w' := by
  obtain ⟨s, rfl⟩ := Int.eq_ofNat_of_zero_le hs0
  go_enter Tryd.func115, Tryd.ntmps115
  go_wp2_with (refine wpList_load_fam rowT sizeT rfl (.tmp _) rfl _ rfl _ _ (famAt.new _ _ _ _) ?_)
  refine (fringe_c n F s 121 _ (fun a i => andNot a (p2 i)) ent_without h0 h2 (by omega) (fun i hi => andNot_lt128 _ _ (by omega)) (fun a i w h1 h2 h3 h4 => without_c a i w h1 h2 h3 h4)).mono ?_
  rintro e w' ⟨rfl, hb⟩
  go_wp2
  go_ret
  exact ⟨rfl, ((Below.refl _ _).alloc (Nat.le_refl _) _).trans (hb.mono (by simp))⟩

def pickIn (F : Nat → Bool) (lim s : Nat) : Nat := if F s && andNot s lim == 0 then s else 0
def withinOf (F : Nat → Bool) (n lim : Nat) : Nat := orTo (pickIn F lim) (2 ^ n)
theorem low_succ (n : Nat) : low n + 1 = 2 ^ n := by have := p2_pos n; unfold low; omega
theorem withinOf_lt (F : Nat → Bool) (n lim : Nat) : withinOf F n lim < 2 ^ n := orTo_lt _ n _ fun i hi => by
  unfold pickIn
  split
  · exact hi
  · exact p2_pos n

end Go.Proofs.YtblglkgmnaklbaaDoor
/- Contracts of the program's functions, IV: what makes a family of sets a space. -/
namespace Go.Proofs.YtblglkgmnaklbaaDoor
open Go.RowKit
set_option maxRecDepth 100000

theorem sliceT : Tryd.prog.underlying 22 = some (.slice 3) := by kernel_rfl
theorem intI : (Tryd.prog.info? 3).map (fun i => (i.zero, i.size, i.bytes)) = some (some (.int .i64 0), 1, 8) := by kernel_rfl
theorem intS : (Tryd.prog.info? 3).map (·.size) = some 1 := by kernel_rfl

def gradedTo (F : Nat → Bool) (n : Nat) : Nat → Bool
  | 0 => true
  | k + 1 => gradedTo F n k && !(F k && k != 0 && innerOf F n k == 0)
theorem gradedTo_false (F : Nat → Bool) (n k : Nat) (h : gradedTo F n k = false) : ∀ m, k ≤ m → gradedTo F n m = false := by
  intro m hm
  induction m with
  | zero => have : k = 0 := by omega
            subst this; exact h
  | succ m ih =>
    rcases Nat.lt_or_ge k (m + 1) with h1 | h1
    · rw [gradedTo, ih (by omega)]; rfl
    · have : k = m + 1 := by omega
      subst this; exact h

set_option maxHeartbeats 800000 in
theorem isGraded_c (n : Int) (F : Nat → Bool) (w : World) (h0 : 0 ≤ n) (h2 : n ≤ 7) :
    Calls Tryd.prog 97 #[.agg (fam n F)] w fun e w' => e = .returned (.bool (gradedTo F n.toNat 128)) ∧ Below w.heap.size w w' := by
  have hb0 : Below w.heap.size w (w.alloc (.cells (fam n F) 57)) := (Below.refl _ _).alloc (Nat.le_refl _) _
  go_enter Tryd.func97, Tryd.ntmps97
  go_wp2_with (refine wpList_load_marks rowA sizeA rfl (.tmp _) rfl _ rfl _ _ (famAt.new _ _ _ _) ?_)
  go_loopw [7] (fun i wr => ∃ k : Nat, k ≤ 128 ∧ i = .int .i64 k ∧ gradedTo F n.toNat k = true ∧ Below w.heap.size w wr ∧ famAt 57 wr w.heap.size n F) (fun i _ => 128 - (intOf i).toNat)
  case atStart => exact ⟨0, by omega, rfl, rfl, hb0, famAt.new _ _ _ _⟩
  case round =>
    obtain ⟨k, hk, rfl, hg, hb, hf⟩ := hrel
    by_cases hlt : k < 128
    · have HG := hide hg
      have HB := hide hb
      have HF := hide hf
      clear hg hb hf hb0
      cases hF : F k
      · have HV := hide hF
        go_wp2_with (refine wpList_mark arrA sizeB rowB rfl (.tmp _) (.tmp _) rfl F rfl k rfl (by omega) _ HV.out ?_)
        go_roundw
        case rel => exact ⟨k + 1, by omega, by go_num, by rw [gradedTo, HG.out, HV.out]; rfl, HB.out, HF.out⟩
        case measure => simp [intOf]; omega
      · have HV := hide hF
        by_cases hk0 : k = 0
        · subst hk0
          go_wp2_with (refine wpList_mark arrA sizeB rowB rfl (.tmp _) (.tmp _) rfl F rfl 0 rfl (by omega) _ HV.out ?_)
          go_roundw
          case rel => exact ⟨0 + 1, by omega, by go_num, by rw [gradedTo, HG.out, HV.out]; rfl, HB.out, HF.out⟩
          case measure => simp [intOf]
        · have hk1 : ((k : Int) != 0) = true := by simp; omega
          cases hi : (innerOf F n.toNat k == 0)
          · have hi' : ((innerOf F n.toNat k : Int) == 0) = false := by
              rw [Bool.eq_false_iff] at hi ⊢
              simp at hi ⊢; exact hi
            have HI := hide hi
            clear hi
            go_wp2_with (first | (refine wpList_mark arrA sizeB rowB rfl (.tmp _) (.tmp _) rfl F rfl k rfl (by omega) _ HV.out ?_) | (refine wpList_load_fam rowT sizeT rfl (.tmp _) rfl _ rfl _ _ HF.out ?_) | (go_at_call 115; refine (innerFringe_c _ _ _ _ (by omega) (by omega) (by omega) (by omega)).mono ?_; rintro e w1 ⟨rfl, hb1⟩))
            have hsz := HF.out.lt
            go_roundw
            case rel => exact ⟨k + 1, by omega, by go_num, by rw [gradedTo, HG.out, HV.out, HI.out]; simp, HB.out.trans (hb1.mono (by omega)), HF.out.below hb1 hsz⟩
            case measure => simp [intOf]; omega
          · have hi' : ((innerOf F n.toNat k : Int) == 0) = true := by
              simp at hi ⊢; exact hi
            have HI := hide hi
            clear hi
            go_wp2_with (first | (refine wpList_mark arrA sizeB rowB rfl (.tmp _) (.tmp _) rfl F rfl k rfl (by omega) _ HV.out ?_) | (refine wpList_load_fam rowT sizeT rfl (.tmp _) rfl _ rfl _ _ HF.out ?_) | (go_at_call 115; refine (innerFringe_c _ _ _ _ (by omega) (by omega) (by omega) (by omega)).mono ?_; rintro e w1 ⟨rfl, hb1⟩))
            have hsz := HF.out.lt
            go_ret
            refine ⟨ret_b (gradedTo_false F n.toNat (k + 1) ?_ 128 (by omega)).symm, HB.out.trans (hb1.mono (by omega))⟩
            rw [gradedTo, HG.out, HV.out, HI.out]
            simp; omega
    · have hk' : k = 128 := by omega
      subst hk'
      have HG := hide hg
      clear hg
      go_wp2
      go_ret
      exact ⟨ret_b HG.out.symm, hb⟩

def setsTo (F : Nat → Bool) : Nat → List Int
  | 0 => []
  | k + 1 => if F k then setsTo F k ++ [(k : Int)] else setsTo F k
theorem setsTo_len (F : Nat → Bool) : ∀ k, (setsTo F k).length ≤ k
  | 0 => Nat.le_refl 0
  | k + 1 => by
    have := setsTo_len F k
    unfold setsTo
    split
    · simp; omega
    · omega

set_option maxHeartbeats 800000 in
theorem sets_c (n : Int) (F : Nat → Bool) (w : World) :
    Calls Tryd.prog 111 #[.agg (fam n F)] w fun e w' => ∃ v, e = .returned v ∧ own 3 w' w.heap.size v (setsTo F 128) ∧ Below w.heap.size w w' := by
  have hb0 : Below w.heap.size w (w.alloc (.cells (fam n F) 57)) := (Below.refl _ _).alloc (Nat.le_refl _) _
  go_enter Tryd.func111, Tryd.ntmps111
  go_wp2_with (refine wpList_load_marks rowA sizeA rfl (.tmp _) rfl _ rfl _ _ (famAt.new _ _ _ _) ?_)
  go_loopw [3, 8] (fun v i wr => ∃ k : Nat, k ≤ 128 ∧ i = .int .i64 k ∧ own 3 wr w.heap.size v (setsTo F k) ∧ Below w.heap.size w wr) (fun _ i _ => 128 - (intOf i).toNat)
  case atStart => exact ⟨0, by omega, rfl, own_nil _ _ _, hb0⟩
  case round =>
    obtain ⟨k, hk, rfl, ho, hb⟩ := hrel
    have hsz := hb.size
    by_cases hlt : k < 128
    · have hl := setsTo_len F k
      have HO := hide ho
      have HB := hide hb
      clear ho hb hb0
      cases hF : F k
      · have HV := hide hF
        go_wp2_with (refine wpList_mark arrA sizeB rowB rfl (.tmp _) (.tmp _) rfl F rfl k rfl (by omega) _ HV.out ?_)
        go_roundw
        case rel => exact ⟨k + 1, by omega, by go_num, by simp only [setsTo, HV.out]; exact HO.out, HB.out⟩
        case measure => simp [intOf]; omega
      · have HV := hide hF
        go_wp2_with (first | (refine wpList_mark arrA sizeB rowB rfl (.tmp _) (.tmp _) rfl F rfl k rfl (by omega) _ HV.out ?_) | (at_builtin; refine wpList_append1 sliceT intI rfl _ _ rfl w.heap.size _ _ rfl (HO.out.alloc _) _ (k : Int) rfl ?c1 (by simp; omega) (by omega) ?c2))
        case c1 => simp [go_sem]
        case c2 =>
        intro v' w' ho' hb'
        go_wp2
        go_roundw
        case rel => exact ⟨k + 1, by omega, by go_num, by simp only [setsTo, HV.out]; exact ho', (HB.out.alloc (by omega) _).trans hb'⟩
        case measure => simp [intOf]; omega
    · have hk' : k = 128 := by omega
      subst hk'
      have HO := hide ho
      clear ho
      go_wp2
      go_ret
      exact ⟨_, rfl, HO.out, hb⟩
end Go.Proofs.YtblglkgmnaklbaaDoor
/- Contracts of the program's functions, V: unions of sets, and a space's family. -/
namespace Go.Proofs.YtblglkgmnaklbaaDoor
open Go.RowKit
set_option maxRecDepth 100000

theorem famAt.rowO {T : TypeId} {w : World} {b : Nat} {n : Int} {F : Nat → Bool} (h : famAt T w b n F) (g : Nat) (hg : b ≠ g) (c : Array Value) : famAt T (w.setRow g c) b n F := (hp_rowO w g b c hg).trans h
/-- A round over all old sets: each one's union with s is marked. -/
def stepTo (F : Nat → Bool) (s : Nat) : Nat → (Nat → Bool)
  | 0 => F
  | k + 1 => if F k then upd (stepTo F s k) (k ||| s) true else stepTo F s k
def unionsTo (l : List Int) : Nat → (Nat → Bool)
  | 0 => upd noSet 0 true
  | k + 1 => stepTo (unionsTo l k) (l[k]?.getD 0).toNat 128
def unionsF (l : List Int) : Nat → Bool := unionsTo l l.length

set_option maxHeartbeats 1000000 in
theorem unionsOf_c (n : Int) (v : Value) (l : List Int) (w : World) (hl : ints w.heap.size w v l) (hr : ∀ j, j < l.length → 0 ≤ l[j]?.getD 0 ∧ l[j]?.getD 0 < 128) (hlen : l.length < 1000000000) :
    Calls Tryd.prog 116 #[.int .i64 n, v] w fun e w' => e = .returned (.agg (fam n (unionsF l))) ∧ Below w.heap.size w w' := by
  have HR := hide hr
  clear hr
  have f4 := famAt.new 57 w 0 noSet
  have f5 := famAt.new 57 (w.alloc (.cells (fam 0 noSet) 57)) 0 noSet
  have f5r := f5.row n noSet
  have c5 := f5r.get 0 (by omega)
  have c5f := f5r.free (1 + 0)
  have f5s := f5r.set 0 (by omega) true
  simp only [World.size_alloc] at f5 f5r c5 c5f f5s
  have F4 := hide f4
  have F5 := hide f5
  have F5R := hide f5r
  have F5S := hide f5s
  clear f4 f5 f5r f5s
  have HL := hide hl
  clear hl
  go_enter Tryd.func116, Tryd.ntmps116
  go_wp2_with (first
    | (refine wpList_alloc_fam zeroT rfl rfl _ (by first | (simp only [World.size_alloc]; rfl) | rfl) ?_)
    | (refine wpList_build_fam builtT rfl _ rfl _ rfl ?_)
    | (refine wpList_store_fam sizeT rfl (.tmp _) (.tmp _) rfl _ n noSet rfl rfl _ _ F5.out ?_)
    | (refine wpList_len sliceT rfl (.tmp _) rfl v rfl w.heap.size l (((HL.out.alloc _).alloc _).below ((bl_row (Below.refl _ _) (by simp) _).setCell (by simp) _) (Nat.le_refl _)) ?_))
  go_loopw [16] (fun i wr => ∃ k : Nat, k ≤ l.length ∧ i = .int .i64 k ∧ famAt 57 wr (w.heap.size + 1) n (unionsTo l k) ∧ famAt 57 wr w.heap.size 0 noSet ∧ Below w.heap.size w wr) (fun i _ => l.length - (intOf i).toNat)
  case atStart =>
    refine ⟨0, Nat.zero_le _, rfl, F5S.out, ?_, ((((Below.refl _ _).alloc (Nat.le_refl _) _).alloc (by simp) _) |> fun h => (bl_row h (by omega) _).setCell (by simp) _)⟩
    exact ((F4.out.alloc _).rowO (w.heap.size + 1) (by omega) _).setO _ (by show w.heap.size ≠ w.heap.size + 1; omega) _
  case round =>
    obtain ⟨k, hk, rfl, hf5, hf4, hb⟩ := hrel
    obtain ⟨wo, rfl⟩ : ∃ wo : World, wo = wr := ⟨_, rfl⟩
    have hlw := HL.out.below hb (Nat.le_refl _)
    have HLW := hide hlw
    have HB := hide hb
    have HF5 := hide hf5
    have HF4 := hide hf4
    clear hlw hb hf5 hf4 c5 c5f
    by_cases hlt : k < l.length
    · obtain ⟨hs0, hs1⟩ := HR.out k hlt
      obtain ⟨s, hs⟩ := Int.eq_ofNat_of_zero_le hs0
      have hs128 : s < 128 := by omega
      have HS := hide hs
      clear hs hs0 hs1
      go_wp2_with (first
        | (refine wpList_at sliceT intS rfl (.tmp _) (.tmp _) rfl v rfl k rfl w.heap.size l HLW.out hlt ?_; intro ad hcell hblk; rw [HS.out] at hcell)
        | (refine wpList_load_marks rowA sizeA rfl (.tmp _) rfl _ rfl _ _ HF5.out ?_))
      go_loopw [22] (fun i ws => ∃ j : Nat, j ≤ 128 ∧ i = .int .i64 j ∧ famAt 57 ws (w.heap.size + 1) n (stepTo (unionsTo l k) s j) ∧ famAt 57 ws w.heap.size 0 noSet ∧ Below w.heap.size w ws) (fun i _ => 128 - (intOf i).toNat)
      case atStart => exact ⟨0, by omega, rfl, HF5.out, HF4.out, HB.out⟩
      case round =>
        clear HLW HB HF5 HF4
        obtain ⟨j, hj, rfl, hf5, hf4, hb⟩ := hrel
        by_cases hlt2 : j < 128
        · have hor := i64_or j s (by omega) (by omega)
          have hjs : j ||| s < 128 := or_lt128 _ _ hlt2 hs128
          have hcell2 := hf5.get (j ||| s) hjs
          have hfree2 := hf5.free (1 + (j ||| s))
          have HF5 := hide hf5
          have HF4 := hide hf4
          have HB := hide hb
          clear hf5 hf4 hb hcell
          cases hF : unionsTo l k j
          · have HV := hide hF
            clear hF
            go_wp2_with (refine wpList_mark arrA sizeB rowB rfl (.tmp _) (.tmp _) rfl (unionsTo l k) rfl j rfl (by omega) _ HV.out ?_)
            go_roundw
            case rel => exact ⟨j + 1, by omega, by go_num, by simp only [stepTo, HV.out]; exact HF5.out, HF4.out, HB.out⟩
            case measure => simp [intOf]; omega
          · have HV := hide hF
            clear hF
            go_wp2_with (refine wpList_mark arrA sizeB rowB rfl (.tmp _) (.tmp _) rfl (unionsTo l k) rfl j rfl (by omega) _ HV.out ?_)
            go_roundw
            case rel => exact ⟨j + 1, by omega, by go_num, by simp only [stepTo, HV.out]; exact HF5.out.set _ hjs _, HF4.out.setO _ (by show w.heap.size ≠ w.heap.size + 1; omega) _, HB.out.setCell (by simp) _⟩
            case measure => simp [intOf]; omega
        · have hj' : j = 128 := by omega
          subst hj'
          have HF5 := hide hf5
          have HF4 := hide hf4
          have HB := hide hb
          clear hf5 hf4 hb hcell
          go_wp2
          go_roundw
          case rel => exact ⟨k + 1, by omega, by go_num, by simp only [unionsTo, HS.out, Int.toNat_natCast]; exact HF5.out, HF4.out, HB.out⟩
          case measure => simp [intOf]; omega
    · have hk' : k = l.length := by omega
      go_wp2_with (first
        | (refine wpList_load_fam rowT sizeT rfl (.tmp _) rfl _ rfl _ _ HF5.out ?_)
        | (refine wpList_store_fam sizeT rfl (.tmp _) (.tmp _) rfl _ n (unionsTo l k) rfl rfl _ _ HF4.out ?_))
      refine bodyPost_ret (v := .agg (fam n (unionsTo l k))) (results_fam rowT sizeT rfl _ _ w.heap.size rfl _ _ (HF4.out.row _ _)) rfl ⟨?_, bl_row HB.out (Nat.le_refl _) _⟩
      rw [hk']; rfl
end Go.Proofs.YtblglkgmnaklbaaDoor
/- Contracts of the program's functions, VI: a family that is closed under unions; the family of a space. -/
namespace Go.Proofs.YtblglkgmnaklbaaDoor
open Go.RowKit
set_option maxRecDepth 100000

theorem structT : Tryd.prog.underlying 57 = some (.struct (Tryd.prog.fieldsOf 57)) := by kernel_rfl
theorem stoodT : Tryd.prog.stoodInHeld 57 = false := by kernel_rfl
theorem fieldsT : (Tryd.prog.fieldsOf 57).toList.map (fun f => (f.name == "_", f.type, f.offset)) = [(false, 3, 0), (false, 55, 1)] := by kernel_rfl
theorem undI : Tryd.prog.underlying 3 = some (.int .i64) := by kernel_rfl
theorem undB : Tryd.prog.underlying 4 = some .bool := by kernel_rfl
theorem cellsB : Tryd.prog.cellsOf 4 = 1 := by kernel_rfl
theorem infoB : (Tryd.prog.info? 4).isSome = true := by kernel_rfl
theorem rowI : (Tryd.prog.underlying 3).map TypeDesc.isRow = some false := by kernel_rfl
theorem guardT : Tryd.prog.eqGuardType Tryd.prog.depth 57 = false := by kernel_rfl
theorem ent_sets : enters Tryd.prog 111 := enters_of Tryd.func111 (by kernel_rfl) (by kernel_rfl)
theorem ent_unionsOf : enters Tryd.prog 116 := enters_of Tryd.func116 (by kernel_rfl) (by kernel_rfl)
theorem eqlT (w : World) (n m : Int) (F G : Nat → Bool) : (binOp .eql 57 (.agg (fam n F)) (.agg (fam m G))).run Tryd.prog w = .ok (.bool (n == m && allEq F G)) w :=
  run_eql_fam structT stoodT fieldsT undI arrA undB cellsB infoB sizeA w n m F G

theorem setsTo_range (F : Nat → Bool) : ∀ k, ∀ j, j < (setsTo F k).length → 0 ≤ (setsTo F k)[j]?.getD 0 ∧ (setsTo F k)[j]?.getD 0 < (k : Int)
  | 0, j, h => by simp [setsTo] at h
  | k + 1, j, h => by
    unfold setsTo at h ⊢
    split
    · rename_i hF
      rw [if_pos hF] at h
      rw [List.length_append] at h
      simp at h
      by_cases h2 : j < (setsTo F k).length
      · rw [List.getElem?_append_left h2]
        have := setsTo_range F k j h2
        omega
      · rw [List.getElem?_append_right (by omega), show j - (setsTo F k).length = 0 by omega]
        simp; omega
    · rename_i hF
      rw [if_neg hF] at h
      have := setsTo_range F k j h
      omega

def closedB (F : Nat → Bool) : Bool := allEq F (unionsF (setsTo F 128))

set_option maxHeartbeats 800000 in
theorem isClosed_c (n : Int) (F : Nat → Bool) (w : World) :
    Calls Tryd.prog 98 #[.agg (fam n F)] w fun e w' => e = .returned (.bool (closedB F)) ∧ Below w.heap.size w w' := by
  have hb0 : Below w.heap.size w (w.alloc (.cells (fam n F) 57)) := (Below.refl _ _).alloc (Nat.le_refl _) _
  have hf0 : ∀ w', Below (w.heap.size + 1) (w.alloc (.cells (fam n F) 57)) w' → famAt 57 w' w.heap.size n F := fun w' h => (famAt.new _ _ _ _).below h (by omega)
  go_enter Tryd.func98, Tryd.ntmps98
  go_wp2
  refine wp_region_held (S := Below (w.heap.size + 1) (w.alloc (.cells (fam n F) 57))) (by kernel_rfl) ?_
  have hS : Below (w.heap.size + 1) (w.alloc (.cells (fam n F) 57)) { (w.alloc (.cells (fam n F) 57)) with drawn := (w.alloc (.cells (fam n F) 57)).drawn + 1 } := (Below.refl _ _).drew
  refine wpAnyH_take (i := 0) rfl (by kernel_rfl) (by kernel_rfl) (by kernel_rfl) (fun _ _ _ h => h) (yields_load_fam rowT sizeT rfl (.tmp _) rfl _ rfl n F hf0) hS ?_
  refine wpAnyH_take (i := 3) rfl (by kernel_rfl) (by kernel_rfl) (by kernel_rfl) (fun _ _ _ h => h) (yields_load_fam rowT sizeT rfl (.tmp _) rfl _ rfl n F hf0) hS ?_
  refine wpAnyH_take (i := 1) (v := .pointer (some ⟨w.heap.size, 0, none⟩)) rfl (by kernel_rfl) (by kernel_rfl) (by kernel_rfl) (fun _ _ _ h => h) (.inl ⟨rfl, fun w' _ => by go_simp⟩) hS ?_
  refine wpAnyH_take (i := 2) rfl (by kernel_rfl) (by kernel_rfl) (by kernel_rfl) (fun _ _ _ h => h) (yields_load_cell rowI rfl (.tmp _) rfl ⟨w.heap.size, 0, none⟩ rfl (.int .i64 n) (fun w' h => (hf0 w' h).get0)) hS ?_
  refine anyH_call (i := 4) (by kernel_rfl) rfl rfl 111 ent_sets _ _ rfl #[.agg (fam n F)] rfl (sets_c n F _) ?_
  rintro e w1 ⟨v, rfl, hown, hb1⟩
  have hS1 := hS.trans (hb1.mono (by simp))
  refine ⟨v, rfl, hS1, ?_⟩
  refine anyH_call (i := 5) (by kernel_rfl) rfl rfl 116 ent_unionsOf _ _ rfl #[.int .i64 n, v] rfl (unionsOf_c n v _ w1 hown.ints (fun j hj => setsTo_range F 128 j hj) (by have := setsTo_len F 128; omega)) ?_
  rintro e w2 ⟨rfl, hb2⟩
  have hsz := hb1.size
  simp at hsz
  have hS2 := hS1.trans (hb2.mono (by omega))
  refine ⟨_, rfl, hS2, ?_⟩
  refine anyH_op (i := 6) (by kernel_rfl) rfl rfl (.bool (closedB F)) w2 ?hq hS2 ?_
  case hq =>
    refine run_op_eql guardT (.tmp _) (.tmp _) rfl rfl rfl ((eqlT w2 n n F _).trans ?_)
    simp [closedB]
  refine anyH_op (i := 7) (by kernel_rfl) rfl rfl (.bool (closedB F)) w2 ?hq2 hS2 ?_
  case hq2 => rfl
  refine wpAnyH_done (by kernel_rfl) ?_ _
  show Exit.then _ _ Exit.normal { tmps := #[.agg (fam n F), .pointer (some ⟨w.heap.size, 0, none⟩), .bool (closedB F), .agg (fam n F), .pointer (some ⟨w.heap.size, 0, none⟩), .int .i64 n, .agg (fam n F), v, .agg (fam n (unionsF (setsTo F 128))), .bool (closedB F)], defers := [] } w2
  go_wp2
  go_ret
  exact ⟨rfl, hb0.trans (hS2.mono (by omega))⟩
end Go.Proofs.YtblglkgmnaklbaaDoor
/- Contracts of the program's functions, VII: whether a family is a space; the family of a space that comes in. -/
namespace Go.Proofs.YtblglkgmnaklbaaDoor
open Go.RowKit
set_option maxRecDepth 100000

def spaceB (F : Nat → Bool) (n : Nat) : Bool := F 0 && F (low n) && gradedTo F n 128 && closedB F

set_option maxHeartbeats 1000000 in
theorem isSpace_c (n : Int) (F : Nat → Bool) (w : World) (h0 : 0 ≤ n) (h2 : n ≤ 7) :
    Calls Tryd.prog 69 #[.agg (fam n F)] w fun e w' => e = .returned (.bool (spaceB F n.toNat)) ∧ Below w.heap.size w w' := by
  have hb0 : Below w.heap.size w (w.alloc (.cells (fam n F) 57)) := (Below.refl _ _).alloc (Nat.le_refl _) _
  have hf0 := famAt.new 57 w n F
  have hlo := low_lt n.toNat (by omega)
  have g0 : (fam n F)[1]? = some (.bool (F 0)) := fam_get n F 0 (by omega)
  have HB := hide hb0
  clear hb0
  cases h3 : F 0
  · rw [h3] at g0
    have H3 := hide h3
    clear h3
    go_enter Tryd.func69, Tryd.ntmps69
    go_wp2
    go_ret
    exact ⟨ret_b (by simp [spaceB, H3.out]), HB.out⟩
  · rw [h3] at g0
    have H3 := hide h3
    clear h3
    cases h4 : F (low n.toNat)
    all_goals
      have H4 := hide h4
      clear h4
      cases h5 : gradedTo F n.toNat 128
      all_goals
        have H5 := hide h5
        clear h5
        go_enter Tryd.func69, Tryd.ntmps69
        go_wp2_with (first
          | (refine wpList_load_fam rowT sizeT rfl (.tmp _) rfl _ rfl n F (by assumption) ?_)
          | (go_at_call 74; refine (full_c _ _ _ (by omega) (by omega)).mono ?_; rintro e w1 ⟨rfl, hb1⟩; have hf1 := hf0.below hb1 (by simp); have hc1 := hf1.get (low n.toNat) hlo; rw [H4.out] at hc1; have HB1 := hide (HB.out.trans (hb1.mono (by simp))); clear hb1)
          | (go_at_call 97; refine (isGraded_c _ _ _ (by omega) (by omega)).mono ?_; rw [H5.out]; rintro e w2 ⟨rfl, hb2⟩; have hf2 := hf1.below hb2 hf1.lt; have HB2 := hide (HB1.out.trans (hb2.mono (by have := HB1.out.size; omega))); clear hb2)
          | (go_at_call 98; refine (isClosed_c _ _ _).mono ?_; rintro e w3 ⟨rfl, hb3⟩; have HB3 := hide (HB2.out.trans (hb3.mono (by have := HB2.out.size; omega))); clear hb3))
        go_ret
        first
          | exact ⟨ret_b (by simp [spaceB, H3.out, H4.out, H5.out]), HB3.out⟩
          | exact ⟨ret_b (by simp [spaceB, H3.out, H4.out, H5.out]), HB2.out⟩
          | exact ⟨ret_b (by simp [spaceB, H3.out, H4.out, H5.out]), HB1.out⟩

def lastOf (l : List Int) : Nat → Int
  | 0 => -1
  | k + 1 => l[k]?.getD 0
def risingTo (n : Nat) (l : List Int) : Nat → Bool
  | 0 => true
  | k + 1 => risingTo n l k && (decide (lastOf l k < l[k]?.getD 0) && decide (0 ≤ l[k]?.getD 0 ∧ l[k]?.getD 0 ≤ (low n : Int)))
def marksTo (l : List Int) : Nat → (Nat → Bool)
  | 0 => noSet
  | k + 1 => upd (marksTo l k) (l[k]?.getD 0).toNat true
/-- Whether n and l are a space; its family, or the empty one. -/
def okSp (n : Int) (l : List Int) : Bool := decide (1 ≤ n ∧ n ≤ 7) && risingTo n.toNat l l.length && spaceB (marksTo l l.length) n.toNat
def famN (n : Int) (l : List Int) : Int := if okSp n l then n else 0
def famM (n : Int) (l : List Int) : Nat → Bool := if okSp n l then marksTo l l.length else noSet
def famVal (n : Int) (l : List Int) : Value := .tuple #[.agg (fam (famN n l) (famM n l)), .bool (okSp n l)]
theorem famVal_no (n : Int) (l : List Int) (h : okSp n l = false) : famVal n l = .tuple #[.agg (fam 0 noSet), .bool false] := by
  simp [famVal, famN, famM, h]
theorem famVal_yes (n : Int) (l : List Int) (h : okSp n l = true) : famVal n l = .tuple #[.agg (fam n (marksTo l l.length)), .bool true] := by
  simp [famVal, famN, famM, h]
theorem risingTo_false (n : Nat) (l : List Int) (k : Nat) (h : risingTo n l k = false) : ∀ m, k ≤ m → risingTo n l m = false := by
  intro m hm
  induction m with
  | zero => have : k = 0 := by omega
            subst this; exact h
  | succ m ih =>
    rcases Nat.lt_or_ge k (m + 1) with h1 | h1
    · rw [risingTo, ih (by omega)]; rfl
    · have : k = m + 1 := by omega
      subst this; exact h

set_option maxHeartbeats 1000000 in
theorem familyOf_c (n : Int) (v : Value) (l : List Int) (w : World) (hl : ints w.heap.size w v l) (hlen : l.length < 1000000000) :
    Calls Tryd.prog 36 #[.agg #[.int .i64 n, v]] w fun e w' => e = .returned (famVal n l) ∧ Below w.heap.size w w' := by
  have hb0 : Below w.heap.size w ((w.alloc (.cells #[.int .i64 n, v] 29)).alloc (.cells (fam 0 noSet) 57)) := ((Below.refl _ _).alloc (Nat.le_refl _) _).alloc (by simp) _
  have hf2 : famAt 57 ((w.alloc (.cells #[.int .i64 n, v] 29)).alloc (.cells (fam 0 noSet) 57)) (w.heap.size + 1) 0 noSet := by
    have := famAt.new 57 (w.alloc (.cells #[.int .i64 n, v] 29)) 0 noSet
    simpa using this
  have HB0 := hide hb0
  have HL := hide hl
  clear hb0 hl
  by_cases hn : 1 ≤ n ∧ n ≤ 7
  · have HN := hide hn
    have hn1 := hn.1
    have hn2 := hn.2
    clear hn
    have hf4 : famAt 57 (((w.alloc (.cells #[.int .i64 n, v] 29)).alloc (.cells (fam 0 noSet) 57)).alloc (.cells (fam 0 noSet) 57)) (w.heap.size + 1 + 1) 0 noSet := by
      have := famAt.new 57 ((w.alloc (.cells #[.int .i64 n, v] 29)).alloc (.cells (fam 0 noSet) 57)) 0 noSet
      simpa using this
    have hcv : ((((w.alloc (.cells #[.int .i64 n, v] 29)).alloc (.cells (fam 0 noSet) 57)).alloc (.cells (fam 0 noSet) 57)).setRow (w.heap.size + 1 + 1) (fam n noSet)).cell? ⟨w.heap.size, 1, none⟩ = some v := by
      rw [World.cell?_of_block (hp_rowO _ _ _ _ (by show w.heap.size ≠ _; omega))]
      simp [go_sem]
    have HF2 := hide hf2
    have HF4 := hide hf4
    clear hf2 hf4
    go_enter Tryd.func36, Tryd.ntmps36
    go_wp2_with (first
      | (refine wpList_alloc_fam zeroT rfl rfl _ (by first | (simp only [World.size_alloc]; rfl) | rfl) ?_)
      | (refine wpList_build_fam builtT rfl _ rfl _ rfl ?_)
      | (refine wpList_store_fam sizeT rfl (.tmp _) (.tmp _) rfl _ n noSet rfl rfl _ _ HF4.out ?_)
      | (refine wpList_len sliceT rfl (.tmp _) rfl v rfl w.heap.size l ((((HL.out.alloc _).alloc _).alloc _).below (bl_row (Below.refl _ _) (by omega) _) (Nat.le_refl _)) ?_)
      | (go_at_call 67; refine (isItemCount_c _ _).mono ?_; rw [decide_eq_true HN.out]; rintro e w1 ⟨rfl, rfl⟩))
    go_loopw [5, 19] (fun t i wr => ∃ k : Nat, k ≤ l.length ∧ i = .int .i64 k ∧ t = .int .i64 (lastOf l k) ∧ risingTo n.toNat l k = true ∧ famAt 57 wr (w.heap.size + 1 + 1) n (marksTo l k) ∧ famAt 57 wr (w.heap.size + 1) 0 noSet ∧ Below w.heap.size w wr) (fun _ i _ => l.length - (intOf i).toNat)
    case atStart => exact ⟨0, Nat.zero_le _, rfl, rfl, rfl, HF4.out.row _ _, (HF2.out.alloc _).rowO (w.heap.size + 1 + 1) (by omega) _, bl_row (HB0.out.alloc (by simp; omega) _) (by omega) _⟩
    case round =>
      obtain ⟨k, hk, rfl, rfl, hris, hf4, hf2, hb⟩ := hrel
      have hlo := low_lt n.toNat (by omega)
      have HLW := hide (HL.out.below hb (Nat.le_refl _))
      have HR := hide hris
      have HB := hide hb
      have hsz := hf4.lt
      clear hris hb hcv HF2 HF4 HB0
      by_cases hlt : k < l.length
      · generalize hx : l[k]?.getD 0 = x
        have HX := hide hx
        clear hx
        by_cases hle : x ≤ lastOf l k
        · have hno : okSp n l = false := by
            have : risingTo n.toNat l (k + 1) = false := by rw [risingTo, HX.out]; simp; intro _ h; omega
            rw [okSp, risingTo_false _ _ _ this l.length (by omega)]; simp
          have HK := hide hno
          clear hno
          go_wp2_with (first
            | (refine wpList_at sliceT intS rfl (.tmp _) (.tmp _) rfl v rfl k rfl w.heap.size l HLW.out hlt ?_; intro ad hcell hblk; rw [HX.out] at hcell)
            | (refine wpList_build_fam0 built0 rfl rfl ?_)
            | (refine wpList_store_fam sizeT rfl (.tmp _) (.tmp _) rfl _ 0 noSet rfl rfl _ _ hf2 ?_))
          refine bodyPost_ret (v := .tuple #[.agg (fam 0 noSet), .bool false]) (results_fam2 (p := 2) (q := 3) rowT sizeT rfl _ _ (w.heap.size + 1) rfl _ _ (hf2.row _ _)) rfl ⟨by rw [famVal_no n l HK.out], bl_row HB.out (by omega) _⟩
        · by_cases hin : 0 ≤ x ∧ x ≤ (low n.toNat : Int)
          · have hx0 := hin.1
            obtain ⟨s, hs⟩ := Int.eq_ofNat_of_zero_le hx0
            subst hs
            have hs128 : s < 128 := by omega
            have hmk : upd (marksTo l k) s true = marksTo l (k + 1) := by rw [marksTo, HX.out, Int.toNat_natCast]
            have HM := hide hmk
            have HI := hide hin
            have hr1 : risingTo n.toNat l (k + 1) = true := by rw [risingTo, HR.out, HX.out, decide_eq_true hin]; simp; omega
            have HR1 := hide hr1
            clear hmk hin hr1
            go_wp2_with (first
              | (refine wpList_at sliceT intS rfl (.tmp _) (.tmp _) rfl v rfl k rfl w.heap.size l HLW.out hlt ?_; intro ad hcell hblk; rw [HX.out] at hcell)
              | (refine wpList_load_fam rowT sizeT rfl (.tmp _) rfl _ rfl n _ (by assumption) ?_)
              | (go_at_call 68; refine (isSet_c _ _ _ _ (by omega) (by omega)).mono ?_; rw [decide_eq_true HI.out]; rintro e w1 ⟨rfl, hb1⟩; have hg4 := hf4.below hb1 hsz; have hg2 := hf2.below hb1 (by omega); have hc4 := hg4.get s hs128; have hr4 := hg4.free (1 + s); have HB1 := hide (HB.out.trans (hb1.mono (by have := HB.out.size; omega))); clear hb1))
            go_roundw
            case rel => exact ⟨k + 1, by omega, by go_num, by rw [lastOf, HX.out], HR1.out, by rw [← HM.out]; exact hg4.set s hs128 true, hg2.setO _ (by show w.heap.size + 1 ≠ w.heap.size + 1 + 1; omega) _, HB1.out.setCell (by simp; omega) _⟩
            case measure => simp [intOf]; omega
          · have hno : okSp n l = false := by
              have : risingTo n.toNat l (k + 1) = false := by rw [risingTo, HX.out, decide_eq_false hin]; simp
              rw [okSp, risingTo_false _ _ _ this l.length (by omega)]; simp
            have HK := hide hno
            have HI := hide hin
            clear hno hin
            go_wp2_with (first
              | (refine wpList_at sliceT intS rfl (.tmp _) (.tmp _) rfl v rfl k rfl w.heap.size l HLW.out hlt ?_; intro ad hcell hblk; rw [HX.out] at hcell)
              | (refine wpList_load_fam rowT sizeT rfl (.tmp _) rfl _ rfl n _ (by assumption) ?_)
              | (go_at_call 68; refine (isSet_c _ _ _ _ (by omega) (by omega)).mono ?_; rw [decide_eq_false HI.out]; rintro e w1 ⟨rfl, hb1⟩; have hg2 := hf2.below hb1 (by omega); have HB1 := hide (HB.out.trans (hb1.mono (by have := HB.out.size; omega))); clear hb1)
              | (refine wpList_build_fam0 built0 rfl rfl ?_)
              | (refine wpList_store_fam sizeT rfl (.tmp _) (.tmp _) rfl _ 0 noSet rfl rfl _ _ hg2 ?_))
            refine bodyPost_ret (v := .tuple #[.agg (fam 0 noSet), .bool false]) (results_fam2 (p := 2) (q := 3) rowT sizeT rfl _ _ (w.heap.size + 1) rfl _ _ (hg2.row _ _)) rfl ⟨by rw [famVal_no n l HK.out], bl_row HB1.out (by omega) _⟩
      · have hk' : k = l.length := by omega
        subst hk'
        cases hsp : spaceB (marksTo l l.length) n.toNat
        · have hno : okSp n l = false := by simp [okSp, hsp]
          have HK := hide hno
          have HS := hide hsp
          clear hno hsp
          go_wp2_with (first
            | (refine wpList_load_fam rowT sizeT rfl (.tmp _) rfl _ rfl n _ (by assumption) ?_)
            | (go_at_call 69; refine (isSpace_c _ _ _ (by omega) (by omega)).mono ?_; rw [HS.out]; rintro e w1 ⟨rfl, hb1⟩; have hg2 := hf2.below hb1 (by omega); have HB1 := hide (HB.out.trans (hb1.mono (by have := HB.out.size; omega))); clear hb1)
            | (refine wpList_build_fam0 built0 rfl rfl ?_)
            | (refine wpList_store_fam sizeT rfl (.tmp _) (.tmp _) rfl _ 0 noSet rfl rfl _ _ hg2 ?_))
          refine bodyPost_ret (v := .tuple #[.agg (fam 0 noSet), .bool false]) (results_fam2 (p := 2) (q := 3) rowT sizeT rfl _ _ (w.heap.size + 1) rfl _ _ (hg2.row _ _)) rfl ⟨by rw [famVal_no n l HK.out], bl_row HB1.out (by omega) _⟩
        · have hyes : okSp n l = true := by simp [okSp, hsp, HR.out, hn1, hn2]
          have HK := hide hyes
          have HS := hide hsp
          clear hyes hsp
          go_wp2_with (first
            | (refine wpList_load_fam rowT sizeT rfl (.tmp _) rfl _ rfl n _ (by assumption) ?_)
            | (go_at_call 69; refine (isSpace_c _ _ _ (by omega) (by omega)).mono ?_; rw [HS.out]; rintro e w1 ⟨rfl, hb1⟩; have hg2 := hf2.below hb1 (by omega); have hg4 := hf4.below hb1 hsz; have HB1 := hide (HB.out.trans (hb1.mono (by have := HB.out.size; omega))); clear hb1)
            | (refine wpList_store_fam sizeT rfl (.tmp _) (.tmp _) rfl _ n (marksTo l l.length) rfl rfl _ _ hg2 ?_))
          refine bodyPost_ret (v := .tuple #[.agg (fam n (marksTo l l.length)), .bool true]) (results_fam2 (p := 2) (q := 3) rowT sizeT rfl _ _ (w.heap.size + 1) rfl _ _ (hg2.row _ _)) rfl ⟨by rw [famVal_yes n l HK.out], bl_row HB1.out (by omega) _⟩
  · have hok : okSp n l = false := by simp [okSp, hn]
    have HN := hide hn
    clear hn
    have HK := hide hok
    clear hok
    go_enter Tryd.func36, Tryd.ntmps36
    go_wp2_with (first
      | (refine wpList_alloc_fam zeroT rfl rfl _ (by first | (simp only [World.size_alloc]; rfl) | rfl) ?_)
      | (refine wpList_build_fam0 built0 rfl rfl ?_)
      | (refine wpList_store_fam sizeT rfl (.tmp _) (.tmp _) rfl _ 0 noSet rfl rfl _ _ (by assumption) ?_)
      | (go_at_call 67; refine (isItemCount_c _ _).mono ?_; rw [decide_eq_false HN.out]; rintro e w1 ⟨rfl, rfl⟩))
    refine bodyPost_ret (v := .tuple #[.agg (fam 0 noSet), .bool false]) (results_fam2 (p := 2) (q := 3) rowT sizeT rfl _ _ (w.heap.size + 1) rfl _ _ (hf2.row _ _)) rfl ⟨by rw [famVal_no n l HK.out], bl_row HB0.out (by omega) _⟩
end Go.Proofs.YtblglkgmnaklbaaDoor
/- Contracts of the specification's functions, I: numbers in a range, increasing lists, one set among them. -/
namespace Go.Proofs.YtblglkgmnaklbaaDoor
open Go.RowKit
set_option maxRecDepth 100000

theorem l1In_c (n lo hi : Int) (w : World) : Calls Tryd.prog 87 #[.int .i64 n, .int .i64 lo, .int .i64 hi] w fun e w' => e = .returned (.bool (decide (lo ≤ n ∧ n ≤ hi))) ∧ w = w' := by
  by_cases h : lo ≤ n <;> by_cases h2 : n ≤ hi
  all_goals
    go_enter Tryd.func87, Tryd.ntmps87
    go_wp2
    go_ret
    exact ⟨ret_b (by simp [h, h2]), rfl⟩

theorem spItems_c (n : Int) (w : World) : Calls Tryd.prog 50 #[.int .i64 n] w fun e w' => e = .returned (.bool (decide (1 ≤ n ∧ n ≤ 7))) ∧ w = w' := by
  go_enter Tryd.func50, Tryd.ntmps50
  go_wp2_with (go_at_call 87; refine (l1In_c _ _ _ _).mono ?_; rintro e w' ⟨rfl, rfl⟩)
  go_ret
  exact ⟨ret_b (by simp), rfl⟩

theorem spIn_c (s i : Int) (w : World) (hs : 0 ≤ s) (hs2 : s < 4611686018427387904) (hi : 0 ≤ i) (hi2 : i ≤ 7) : Calls Tryd.prog 66 #[.int .i64 s, .int .i64 i] w fun e w' => e = .returned (.bool (s.toNat.testBit i.toNat)) ∧ w = w' := by
  obtain ⟨s, rfl⟩ := Int.eq_ofNat_of_zero_le hs
  obtain ⟨i, rfl⟩ := Int.eq_ofNat_of_zero_le hi
  go_enter Tryd.func66, Tryd.ntmps66
  go_wp2
  go_ret
  refine ⟨ret_b ?_, rfl⟩
  rw [Int.toNat_natCast, Int.toNat_natCast, Nat.testBit_eq_decide_div_mod_eq]
  have e : ((s : Int) / 2 ^ i).tmod 2 = ((s / 2 ^ i % 2 : Nat) : Int) := by
    rw [Int.tmod_eq_emod_of_nonneg (Int.ediv_nonneg (by omega) (by exact_mod_cast Nat.zero_le (2 ^ i)))]
    simp
  rw [e, Bool.eq_iff_iff]
  simp only [beq_iff_eq, decide_eq_true_eq]
  omega

/-- Strictly increasing. -/
def inc (l : List Int) : Prop := ∀ i j, i < j → j < l.length → l[i]?.getD 0 < l[j]?.getD 0
def memB (l : List Int) (x : Int) : Bool := decide (∃ j, j < l.length ∧ l[j]?.getD 0 = x)

set_option maxHeartbeats 800000 in
theorem spHas_c (v : Value) (l : List Int) (x : Int) (w : World) (hl : ints w.heap.size w v l) (hinc : inc l) (hlen : l.length < 1000000000) : Calls Tryd.prog 61 #[v, .int .i64 x] w fun e w' => e = .returned (.bool (memB l x)) ∧ w = w' := by
  have HL := hide hl
  have HI := hide hinc
  clear hl hinc
  go_enter Tryd.func61, Tryd.ntmps61
  go_wp2_with (refine wpList_len sliceT rfl (.tmp _) rfl v rfl w.heap.size l HL.out ?_)
  go_loop [5, 6] (fun lo hi => ∃ a b : Nat, a ≤ b ∧ b ≤ l.length ∧ lo = .int .i64 a ∧ hi = .int .i64 b ∧ Hid ((∀ j, j < a → l[j]?.getD 0 < x) ∧ ∀ j, b ≤ j → j < l.length → x ≤ l[j]?.getD 0)) (fun lo hi => ((intOf hi) - (intOf lo)).toNat)
  case atStart => exact ⟨0, l.length, Nat.zero_le _, Nat.le_refl _, rfl, rfl, ⟨fun j hj => by omega, fun j h1 h2 => by omega⟩⟩
  case round =>
    obtain ⟨a, b, hab, hb, rfl, rfl, HR⟩ := hrel
    by_cases hlt : a < b
    · have hm1 : (a + b) / 2 < l.length := by omega
      generalize hy : l[(a + b) / 2]?.getD 0 = y
      have HY := hide hy
      clear hy
      by_cases hyx : y < x
      · go_wp2_with (refine wpList_atI sliceT intS rfl (.tmp _) (.tmp _) rfl v rfl _ rfl ((a + b) / 2) (by omega) w.heap.size l HL.out hm1 ?_; intro ad hcell hblk; rw [HY.out] at hcell)
        go_round
        case rel =>
          refine ⟨(a + b) / 2 + 1, b, by omega, hb, by go_num, rfl, ⟨fun j hj => ?_, HR.out.2⟩⟩
          rcases Nat.lt_or_ge j ((a + b) / 2) with h | h
          · exact Int.lt_trans (HI.out j _ h hm1) (by rw [HY.out]; exact hyx)
          · rw [show j = (a + b) / 2 by omega, HY.out]; exact hyx
        case measure => simp [intOf]; omega
      · go_wp2_with (refine wpList_atI sliceT intS rfl (.tmp _) (.tmp _) rfl v rfl _ rfl ((a + b) / 2) (by omega) w.heap.size l HL.out hm1 ?_; intro ad hcell hblk; rw [HY.out] at hcell)
        go_round
        case rel =>
          refine ⟨a, (a + b) / 2, by omega, by omega, rfl, by go_num, ⟨HR.out.1, fun j h1 h2 => ?_⟩⟩
          rcases Nat.lt_or_ge ((a + b) / 2) j with h | h
          · have := HI.out _ j h h2
            rw [HY.out] at this; omega
          · rw [show j = (a + b) / 2 by omega, HY.out]; omega
        case measure => simp [intOf]; omega
    · have hab' : a = b := by omega
      subst hab'
      by_cases ha : a < l.length
      · generalize hy : l[a]?.getD 0 = y
        have HY := hide hy
        clear hy
        go_wp2_with (first
          | (refine wpList_len sliceT rfl (.tmp _) rfl v rfl w.heap.size l HL.out ?_)
          | (refine wpList_at sliceT intS rfl (.tmp _) (.tmp _) rfl v rfl a rfl w.heap.size l HL.out ha ?_; intro ad hcell hblk; rw [HY.out] at hcell))
        go_ret
        refine ⟨ret_b ?_, rfl⟩
        rw [Bool.eq_iff_iff]
        simp only [memB, decide_eq_true_eq, beq_iff_eq]
        constructor
        · intro h; exact ⟨a, ha, by rw [HY.out]; exact h⟩
        · rintro ⟨j, hj, hjx⟩
          rcases Nat.lt_or_ge j a with h | h
          · have := HR.out.1 j h; omega
          · rcases Nat.lt_or_ge a j with h' | h'
            · have := HI.out a j h' hj
              have := HR.out.2 a (Nat.le_refl _) ha
              omega
            · rw [show j = a by omega, HY.out] at hjx; exact hjx
      · go_wp2_with (refine wpList_len sliceT rfl (.tmp _) rfl v rfl w.heap.size l HL.out ?_)
        go_ret
        refine ⟨ret_b ?_, rfl⟩
        rw [eq_comm]
        simp only [memB, decide_eq_false_iff_not]
        rintro ⟨j, hj, hjx⟩
        have := HR.out.1 j (by omega)
        omega

def innerSp (l : List Int) (s : Nat) (i : Nat) : Bool := s.testBit i && memB l ((s ^^^ p2 i : Nat) : Int)

set_option maxHeartbeats 800000 in
theorem spInner_c (v : Value) (l : List Int) (s : Int) (w : World) (hl : ints w.heap.size w v l) (hinc : inc l) (hlen : l.length < 1000000000) (hs : 0 ≤ s) (hs2 : s < 128) :
    Calls Tryd.prog 62 #[v, .int .i64 s] w fun e w' => e = .returned (.int .i64 (itemsOf (innerSp l s.toNat) 7 : Int)) ∧ w = w' := by
  obtain ⟨s, rfl⟩ := Int.eq_ofNat_of_zero_le hs
  have HL := hide hl
  have HI := hide hinc
  clear hl hinc
  rw [Int.toNat_natCast]
  go_enter Tryd.func62, Tryd.ntmps62
  go_wp2_with fail
  go_loop [5, 6] (fun o i => ∃ k : Nat, k ≤ 7 ∧ i = .int .i64 k ∧ o = .int .i64 (orTo (fun i => if innerSp l s i then p2 i else 0) k : Int)) (fun _ i => 7 - (intOf i).toNat)
  case atStart => exact ⟨0, by omega, rfl, rfl⟩
  case round =>
    obtain ⟨k, hk, rfl, rfl⟩ := hrel
    have hlt : orTo (fun i => if innerSp l s i then p2 i else 0) k < 2 ^ k := itemsOf_lt (innerSp l s) k
    have hlt7 := p2_le k 7 hk
    have HG := hide (show orTo (fun i => if innerSp l s i then p2 i else 0) (k + 1) = orTo (fun i => if innerSp l s i then p2 i else 0) k ||| (if innerSp l s k then p2 k else 0) from rfl)
    have HE := hide (show k = 7 → itemsOf (innerSp l s) 7 = orTo (fun i => if innerSp l s i then p2 i else 0) k from fun h => by subst h; rfl)
    generalize orTo (fun i => if innerSp l s i then p2 i else 0) k = q at hlt HG HE ⊢
    by_cases h7 : k < 7
    · have hp := wrap_p2 k (by omega)
      have hpl := p2_lt128 k h7
      have hx := i64_xor s (p2 k) (by omega) (by omega)
      have ho := i64_or q (p2 k) (by omega) (by omega)
      cases hb : s.testBit k
      · have HB := hide hb
        clear hb
        go_wp2_with (go_at_call 66; refine (spIn_c _ _ _ (by omega) (by omega) (by omega) (by omega)).mono ?_; rw [Int.toNat_natCast, Int.toNat_natCast, HB.out]; rintro e w' ⟨rfl, rfl⟩)
        go_round
        case rel => exact ⟨k + 1, by omega, by go_num, by rw [HG.out]; simp [innerSp, HB.out]⟩
        case measure => simp [intOf]; omega
      · have HB := hide hb
        clear hb
        cases hm : memB l ((s ^^^ p2 k : Nat) : Int)
        all_goals
          have HM := hide hm
          clear hm
          go_wp2_with (first
            | (go_at_call 66; refine (spIn_c _ _ _ (by omega) (by omega) (by omega) (by omega)).mono ?_; rw [Int.toNat_natCast, Int.toNat_natCast, HB.out]; rintro e w' ⟨rfl, rfl⟩)
            | (go_at_call 61; refine (spHas_c v l _ w HL.out HI.out (by omega)).mono ?_; rw [HM.out]; rintro e w' ⟨rfl, rfl⟩))
          go_round
          case rel => exact ⟨k + 1, by omega, by go_num, by rw [HG.out]; simp [innerSp, HB.out, HM.out]⟩
          case measure => simp [intOf]; omega
    · have HK := hide (show k = 7 by omega)
      have h7' : ¬ ((k : Int) < 7) := by omega
      clear hlt hlt7 HG h7
      go_wp2
      go_ret
      exact ⟨ret_i (by rw [HE.out HK.out]), rfl⟩

def risB (lo hi : Int) (l : List Int) : Nat → Bool
  | 0 => true
  | k + 1 => risB lo hi l k && (decide (lo ≤ l[k]?.getD 0 ∧ l[k]?.getD 0 ≤ hi) && !(decide (0 < k) && decide (l[k]?.getD 0 ≤ l[k - 1]?.getD 0)))
theorem risB_false (lo hi : Int) (l : List Int) (k : Nat) (h : risB lo hi l k = false) : ∀ m, k ≤ m → risB lo hi l m = false := by
  intro m hm
  induction m with
  | zero => have : k = 0 := by omega
            subst this; exact h
  | succ m ih =>
    rcases Nat.lt_or_ge k (m + 1) with h1 | h1
    · rw [risB, ih (by omega)]; rfl
    · have : k = m + 1 := by omega
      subst this; exact h

set_option maxHeartbeats 800000 in
theorem l1Rising_c (v : Value) (l : List Int) (lo hi : Int) (w : World) (hl : ints w.heap.size w v l) (hlen : l.length < 1000000000) :
    Calls Tryd.prog 60 #[v, .int .i64 lo, .int .i64 hi] w fun e w' => e = .returned (.bool (risB lo hi l l.length)) ∧ w = w' := by
  have HL := hide hl
  clear hl
  go_enter Tryd.func60, Tryd.ntmps60
  go_wp2_with (refine wpList_len sliceT rfl (.tmp _) rfl v rfl w.heap.size l HL.out ?_)
  go_loop [11] (fun i => ∃ k : Nat, k ≤ l.length ∧ i = .int .i64 k ∧ risB lo hi l k = true) (fun i => l.length - (intOf i).toNat)
  case atStart => exact ⟨0, Nat.zero_le _, rfl, rfl⟩
  case round =>
    obtain ⟨k, hk, rfl, hr⟩ := hrel
    have HR := hide hr
    clear hr
    by_cases hlt : k < l.length
    · generalize hx : l[k]?.getD 0 = x
      have HX := hide hx
      clear hx
      by_cases hin : lo ≤ x ∧ x ≤ hi
      · have HN := hide hin
        clear hin
        by_cases hk0 : 0 < k
        · generalize hy : l[k - 1]?.getD 0 = y
          have HY := hide hy
          clear hy
          by_cases hyx : x ≤ y
          · have hno : risB lo hi l l.length = false := risB_false _ _ _ (k + 1) (by rw [risB, HX.out, HY.out]; simp [hk0, hyx]) _ (by omega)
            have HF := hide hno
            clear hno
            go_wp2_with (first
              | (refine wpList_at sliceT intS rfl (.tmp _) (.tmp _) rfl v rfl k rfl w.heap.size l HL.out hlt ?_; intro ad hcell hblk; rw [HX.out] at hcell)
              | (refine wpList_atI sliceT intS rfl (.tmp _) (.tmp _) rfl v rfl _ rfl (k - 1) (by omega) w.heap.size l HL.out (by omega) ?_; intro ad2 hcell2 hblk2; rw [HY.out] at hcell2)
              | (go_at_call 87; refine (l1In_c _ _ _ _).mono ?_; rw [decide_eq_true HN.out]; rintro e w' ⟨rfl, rfl⟩))
            go_ret
            exact ⟨ret_b HF.out.symm, rfl⟩
          · have hyes : risB lo hi l (k + 1) = true := by rw [risB, HX.out, HY.out, HR.out, decide_eq_true HN.out]; simp; omega
            have HF := hide hyes
            clear hyes
            go_wp2_with (first
              | (refine wpList_at sliceT intS rfl (.tmp _) (.tmp _) rfl v rfl k rfl w.heap.size l HL.out hlt ?_; intro ad hcell hblk; rw [HX.out] at hcell)
              | (refine wpList_atI sliceT intS rfl (.tmp _) (.tmp _) rfl v rfl _ rfl (k - 1) (by omega) w.heap.size l HL.out (by omega) ?_; intro ad2 hcell2 hblk2; rw [HY.out] at hcell2)
              | (go_at_call 87; refine (l1In_c _ _ _ _).mono ?_; rw [decide_eq_true HN.out]; rintro e w' ⟨rfl, rfl⟩))
            go_round
            case rel => exact ⟨k + 1, by omega, by go_num, HF.out⟩
            case measure => simp [intOf]; omega
        · have hk00 : k = 0 := by omega
          subst hk00
          have hyes : risB lo hi l (0 + 1) = true := by rw [risB, HX.out, HR.out, decide_eq_true HN.out]; simp
          have HF := hide hyes
          clear hyes
          go_wp2_with (first
            | (refine wpList_at sliceT intS rfl (.tmp _) (.tmp _) rfl v rfl 0 rfl w.heap.size l HL.out hlt ?_; intro ad hcell hblk; rw [HX.out] at hcell)
            | (go_at_call 87; refine (l1In_c _ _ _ _).mono ?_; rw [decide_eq_true HN.out]; rintro e w' ⟨rfl, rfl⟩))
          go_round
          case rel => exact ⟨0 + 1, by omega, by go_num, HF.out⟩
          case measure => simp [intOf]; omega
      · have hno : risB lo hi l l.length = false := risB_false _ _ _ (k + 1) (by rw [risB, HX.out, decide_eq_false hin]; simp) _ (by omega)
        have HF := hide hno
        have HN := hide hin
        clear hno hin
        go_wp2_with (first
          | (refine wpList_at sliceT intS rfl (.tmp _) (.tmp _) rfl v rfl k rfl w.heap.size l HL.out hlt ?_; intro ad hcell hblk; rw [HX.out] at hcell)
          | (go_at_call 87; refine (l1In_c _ _ _ _).mono ?_; rw [decide_eq_false HN.out]; rintro e w' ⟨rfl, rfl⟩))
        go_ret
        exact ⟨ret_b HF.out.symm, rfl⟩
    · have hk' : k = l.length := by omega
      subst hk'
      go_wp2
      go_ret
      exact ⟨ret_b HR.out.symm, rfl⟩
end Go.Proofs.YtblglkgmnaklbaaDoor
