/- Contracts of the specification's functions, II: whether numbers and sets are a space. -/
import Derived.Test.YtblglkgmnaklbaaDoorImp
import Derived.Test.YtblglkgmnaklbaaDoorLib
namespace Go.Proofs.YtblglkgmnaklbaaDoor
open Go.RowKit
set_option maxRecDepth 100000
attribute [local irreducible] p2 low memB risB
theorem rowS : (Tryd.prog.underlying 22).map TypeDesc.isRow = some false := by kernel_rfl
theorem ent_spItems : enters Tryd.prog 50 := enters_of Tryd.func50 (by kernel_rfl) (by kernel_rfl)
theorem ent_l1Rising : enters Tryd.prog 60 := enters_of Tryd.func60 (by kernel_rfl) (by kernel_rfl)
theorem ent_spHas : enters Tryd.prog 61 := enters_of Tryd.func61 (by kernel_rfl) (by kernel_rfl)

theorem wrap_low (n : Nat) (h : n ≤ 7) : IntKind.i64.wrap ((p2 n : Int) - 1) = (low n : Int) := by
  have h1 := p2_pos n
  have h2 := p2_le128 n h
  have h4 := low_lt n h
  have h3 : ((p2 n : Int) - 1) = (low n : Int) := by unfold p2 low; omega
  rw [h3]
  exact IntWalk.i64_in _ (by omega)

set_option maxHeartbeats 1000000 in
theorem spGood_n (n : Int) (v : Value) (w : World) (hn : ¬ (1 ≤ n ∧ n ≤ 7)) :
    Calls Tryd.prog 32 #[.agg #[.int .i64 n, v]] w fun e w' => e = .returned (.bool false) ∧ Below w.heap.size w w' := by
  have hc0 : ∀ w', Below (w.alloc (.cells #[.int .i64 n, v] 29)).heap.size (w.alloc (.cells #[.int .i64 n, v] 29)) w' → w'.cell? ⟨w.heap.size, 0, none⟩ = some (.int .i64 n) := fun w' h => by
    rw [h.cell (by simp)]; simp
  have HN := hide hn
  clear hn
  go_enter Tryd.func32, Tryd.ntmps32
  go_wp2
  refine wp_region_old (by kernel_rfl) (by kernel_rfl) ?_
  go_big_quiet_step ((first | exact fun _ => rfl | exact fun _ => ⟨rfl, rfl⟩))
  refine q_load_cell rowI rfl (.tmp _) rfl _ rfl (.int .i64 n) hc0 ?_
  simp only [Act.put, List.setIfInBounds_toArray, List.set_cons_zero, List.set_cons_succ]
  refine q_pure rfl 50 ent_spItems _ _ rfl #[.int .i64 n] rfl (.bool false) (fun w' _ => by have := spItems_c n w'; rw [decide_eq_false HN.out] at this; exact this) ?_
  simp only [Act.put, List.setIfInBounds_toArray, List.set_cons_zero, List.set_cons_succ]
  repeat (go_big_quiet_step ((first | exact fun _ => rfl | exact fun _ => ⟨rfl, rfl⟩)))
  refine wpQuiet_nil ?_
  intro w1 hb1
  go_wp2
  go_ret
  exact ⟨rfl, ((Below.refl _ _).alloc (Nat.le_refl _) _).trans (hb1.mono (by simp))⟩

theorem risB_at (lo hi : Int) (l : List Int) : ∀ m, risB lo hi l m = true → ∀ k, k < m → (lo ≤ l[k]?.getD 0 ∧ l[k]?.getD 0 ≤ hi) ∧ (0 < k → l[k - 1]?.getD 0 < l[k]?.getD 0)
  | 0, _, k, hk => by omega
  | m + 1, h, k, hk => by
    rw [risB, Bool.and_eq_true, Bool.and_eq_true] at h
    obtain ⟨h1, h2, h3⟩ := h
    rcases Nat.lt_or_ge k m with h4 | h4
    · exact risB_at lo hi l m h1 k h4
    · have : k = m := by omega
      subst this
      refine ⟨by simpa using h2, fun h0 => ?_⟩
      simp [h0] at h3
      exact h3
theorem risB_inc (lo hi : Int) (l : List Int) (h : risB lo hi l l.length = true) : inc l := by
  have key : ∀ d i, i + d + 1 < l.length → l[i]?.getD 0 < l[i + d + 1]?.getD 0 := by
    intro d
    induction d with
    | zero => intro i hi'; have := (risB_at lo hi l _ h (i + 1) (by omega)).2 (by omega); simpa using this
    | succ d ih =>
      intro i hi'
      have h1 := ih i (by omega)
      have h2 := (risB_at lo hi l _ h (i + (d + 1) + 1) hi').2 (by omega)
      rw [show i + (d + 1) + 1 - 1 = i + d + 1 by omega] at h2
      omega
  intro i j hij hj
  have := key (j - i - 1) i (by omega)
  rwa [show i + (j - i - 1) + 1 = j by omega] at this
def closeTo (l : List Int) (a : Nat) : Nat → Bool
  | 0 => true
  | j + 1 => closeTo l a j && memB l ((a ||| (l[j]?.getD 0).toNat : Nat) : Int)
def goodTo (l : List Int) : Nat → Bool
  | 0 => true
  | k + 1 => goodTo l k && (!(decide (0 < l[k]?.getD 0) && itemsOf (innerSp l (l[k]?.getD 0).toNat) 7 == 0) && closeTo l (l[k]?.getD 0).toNat l.length)
def goodB (n : Int) (l : List Int) : Bool :=
  decide (1 ≤ n ∧ n ≤ 7) && (decide (l.length ≤ p2 n.toNat) && (risB 0 (low n.toNat) l l.length && (memB l 0 && (memB l (low n.toNat) && goodTo l l.length))))
theorem closeTo_false (l : List Int) (a k : Nat) (h : closeTo l a k = false) : ∀ m, k ≤ m → closeTo l a m = false := by
  intro m hm
  induction m with
  | zero => have : k = 0 := by omega
            subst this; exact h
  | succ m ih =>
    rcases Nat.lt_or_ge k (m + 1) with h1 | h1
    · rw [closeTo, ih (by omega)]; rfl
    · have : k = m + 1 := by omega
      subst this; exact h
theorem goodTo_false (l : List Int) (k : Nat) (h : goodTo l k = false) : ∀ m, k ≤ m → goodTo l m = false := by
  intro m hm
  induction m with
  | zero => have : k = 0 := by omega
            subst this; exact h
  | succ m ih =>
    rcases Nat.lt_or_ge k (m + 1) with h1 | h1
    · rw [goodTo, ih (by omega)]; rfl
    · have : k = m + 1 := by omega
      subst this; exact h


set_option maxHeartbeats 800000 in
theorem spGood_1 (m : Nat) (v : Value) (l : List Int) (w : World) (hl : ints w.heap.size w v l) (_ : l.length < 1000000000) (hn1 : 1 ≤ m) (hn2 : m ≤ 7) (hle : p2 m < l.length) :
    Calls Tryd.prog 32 #[.agg #[.int .i64 (m : Int), v]] w fun e w' => e = .returned (.bool false) ∧ Below w.heap.size w w' := by
  have hc0 : ∀ w', Below (w.alloc (.cells #[.int .i64 (m : Int), v] 29)).heap.size (w.alloc (.cells #[.int .i64 (m : Int), v] 29)) w' → w'.cell? ⟨w.heap.size, 0, none⟩ = some (.int .i64 (m : Int)) := fun w' h => by
    rw [h.cell (by simp)]; simp
  have hc1 : ∀ w', Below (w.alloc (.cells #[.int .i64 (m : Int), v] 29)).heap.size (w.alloc (.cells #[.int .i64 (m : Int), v] 29)) w' → w'.cell? ⟨w.heap.size, 1, none⟩ = some v := fun w' h => by
    rw [h.cell (by simp)]; simp
  have HSH := hide hl.shape
  have HL1 := hide (hl.alloc (.cells #[.int .i64 (m : Int), v] 29))
  have HN : Hid (1 ≤ (m : Int) ∧ (m : Int) ≤ 7) := ⟨by omega, by omega⟩
  have hp1 := wrap_p2 m hn2
  have hp2 : IntKind.i64.wrap (2 ^ m) = (p2 m : Int) := by rw [IntWalk.i64_left]; exact hp1
  have hp3 := wrap_low m hn2
  clear hl
  have hd : decide (p2 m < l.length) = true := by simp; omega
  clear hle
  go_enter Tryd.func32, Tryd.ntmps32
  go_wp2
  refine wp_region_old (by kernel_rfl) (by kernel_rfl) ?_
  repeat (first
    | go_big_quiet_skip
    | (refine q_load_cell rowI rfl (.tmp _) rfl _ rfl (.int .i64 (m : Int)) hc0 ?_; simp only [Act.put, List.setIfInBounds_toArray, List.set_cons_zero, List.set_cons_succ])
    | (refine q_load_cell rowS rfl (.tmp _) rfl _ rfl v hc1 ?_; simp only [Act.put, List.setIfInBounds_toArray, List.set_cons_zero, List.set_cons_succ])
    | (refine q_len sliceT rfl (.tmp _) rfl v rfl l.length HSH.out ?_; simp only [Act.put, List.setIfInBounds_toArray, List.set_cons_zero, List.set_cons_succ])
    | (refine q_pure rfl 50 ent_spItems _ _ rfl #[.int .i64 (m : Int)] rfl (.bool true) (fun w' _ => by have := spItems_c m w'; rw [decide_eq_true HN.out] at this; exact this) ?_; simp only [Act.put, List.setIfInBounds_toArray, List.set_cons_zero, List.set_cons_succ])
    | (refine q_pure rfl 60 ent_l1Rising _ _ rfl #[v, .int .i64 0, .int .i64 (low m : Int)] rfl (.bool _) (fun w' hb => by have := l1Rising_c v l 0 (low m : Int) w' ((HL1.out.below hb (by simp)).mono (by have := hb.size; simp at this; omega)) hlen; rw [HRI.out] at this; exact this) ?_; simp only [Act.put, List.setIfInBounds_toArray, List.set_cons_zero, List.set_cons_succ])
    | go_big_quiet_step ((first | exact fun _ => rfl | exact fun _ => ⟨rfl, rfl⟩)))
  refine wpQuiet_nil ?_
  intro w1 hb1
  go_wp2
  go_ret
  exact ⟨rfl, ((Below.refl _ _).alloc (Nat.le_refl _) _).trans (hb1.mono (by simp))⟩

set_option maxHeartbeats 800000 in
theorem spGood_2 (m : Nat) (v : Value) (l : List Int) (w : World) (hl : ints w.heap.size w v l) (hlen : l.length < 1000000000) (hn1 : 1 ≤ m) (hn2 : m ≤ 7) (hle : l.length ≤ p2 m) (hri : risB 0 (low m) l l.length = false) :
    Calls Tryd.prog 32 #[.agg #[.int .i64 (m : Int), v]] w fun e w' => e = .returned (.bool false) ∧ Below w.heap.size w w' := by
  have hc0 : ∀ w', Below (w.alloc (.cells #[.int .i64 (m : Int), v] 29)).heap.size (w.alloc (.cells #[.int .i64 (m : Int), v] 29)) w' → w'.cell? ⟨w.heap.size, 0, none⟩ = some (.int .i64 (m : Int)) := fun w' h => by
    rw [h.cell (by simp)]; simp
  have hc1 : ∀ w', Below (w.alloc (.cells #[.int .i64 (m : Int), v] 29)).heap.size (w.alloc (.cells #[.int .i64 (m : Int), v] 29)) w' → w'.cell? ⟨w.heap.size, 1, none⟩ = some v := fun w' h => by
    rw [h.cell (by simp)]; simp
  have HSH := hide hl.shape
  have HL1 := hide (hl.alloc (.cells #[.int .i64 (m : Int), v] 29))
  have HN : Hid (1 ≤ (m : Int) ∧ (m : Int) ≤ 7) := ⟨by omega, by omega⟩
  have hp1 := wrap_p2 m hn2
  have hp2 : IntKind.i64.wrap (2 ^ m) = (p2 m : Int) := by rw [IntWalk.i64_left]; exact hp1
  have hp3 := wrap_low m hn2
  clear hl
  have hd : decide (p2 m < l.length) = false := by simp; omega
  have HRI := hide hri
  clear hle hri
  go_enter Tryd.func32, Tryd.ntmps32
  go_wp2
  refine wp_region_old (by kernel_rfl) (by kernel_rfl) ?_
  repeat (first
    | go_big_quiet_skip
    | (refine q_load_cell rowI rfl (.tmp _) rfl _ rfl (.int .i64 (m : Int)) hc0 ?_; simp only [Act.put, List.setIfInBounds_toArray, List.set_cons_zero, List.set_cons_succ])
    | (refine q_load_cell rowS rfl (.tmp _) rfl _ rfl v hc1 ?_; simp only [Act.put, List.setIfInBounds_toArray, List.set_cons_zero, List.set_cons_succ])
    | (refine q_len sliceT rfl (.tmp _) rfl v rfl l.length HSH.out ?_; simp only [Act.put, List.setIfInBounds_toArray, List.set_cons_zero, List.set_cons_succ])
    | (refine q_pure rfl 50 ent_spItems _ _ rfl #[.int .i64 (m : Int)] rfl (.bool true) (fun w' _ => by have := spItems_c m w'; rw [decide_eq_true HN.out] at this; exact this) ?_; simp only [Act.put, List.setIfInBounds_toArray, List.set_cons_zero, List.set_cons_succ])
    | (refine q_pure rfl 60 ent_l1Rising _ _ rfl #[v, .int .i64 0, .int .i64 (low m : Int)] rfl (.bool _) (fun w' hb => by have := l1Rising_c v l 0 (low m : Int) w' ((HL1.out.below hb (by simp)).mono (by have := hb.size; simp at this; omega)) hlen; rw [HRI.out] at this; exact this) ?_; simp only [Act.put, List.setIfInBounds_toArray, List.set_cons_zero, List.set_cons_succ])
    | go_big_quiet_step ((first | exact fun _ => rfl | exact fun _ => ⟨rfl, rfl⟩)))
  refine wpQuiet_nil ?_
  intro w1 hb1
  go_wp2
  go_ret
  exact ⟨rfl, ((Below.refl _ _).alloc (Nat.le_refl _) _).trans (hb1.mono (by simp))⟩

set_option maxHeartbeats 800000 in
theorem spGood_3 (m : Nat) (v : Value) (l : List Int) (w : World) (hl : ints w.heap.size w v l) (hlen : l.length < 1000000000) (hn1 : 1 ≤ m) (hn2 : m ≤ 7) (hle : l.length ≤ p2 m) (hri : risB 0 (low m) l l.length = true) (hm0 : memB l 0 = false) :
    Calls Tryd.prog 32 #[.agg #[.int .i64 (m : Int), v]] w fun e w' => e = .returned (.bool false) ∧ Below w.heap.size w w' := by
  have hc0 : ∀ w', Below (w.alloc (.cells #[.int .i64 (m : Int), v] 29)).heap.size (w.alloc (.cells #[.int .i64 (m : Int), v] 29)) w' → w'.cell? ⟨w.heap.size, 0, none⟩ = some (.int .i64 (m : Int)) := fun w' h => by
    rw [h.cell (by simp)]; simp
  have hc1 : ∀ w', Below (w.alloc (.cells #[.int .i64 (m : Int), v] 29)).heap.size (w.alloc (.cells #[.int .i64 (m : Int), v] 29)) w' → w'.cell? ⟨w.heap.size, 1, none⟩ = some v := fun w' h => by
    rw [h.cell (by simp)]; simp
  have HSH := hide hl.shape
  have HL1 := hide (hl.alloc (.cells #[.int .i64 (m : Int), v] 29))
  have HN : Hid (1 ≤ (m : Int) ∧ (m : Int) ≤ 7) := ⟨by omega, by omega⟩
  have hp1 := wrap_p2 m hn2
  have hp2 : IntKind.i64.wrap (2 ^ m) = (p2 m : Int) := by rw [IntWalk.i64_left]; exact hp1
  have hp3 := wrap_low m hn2
  clear hl
  have hd : decide (p2 m < l.length) = false := by simp; omega
  have HIN := hide (risB_inc _ _ _ hri)
  have HRI := hide hri
  have HM0 := hide hm0
  clear hle hri hm0
  go_enter Tryd.func32, Tryd.ntmps32
  go_wp2
  refine wp_region_old (by kernel_rfl) (by kernel_rfl) ?_
  repeat (first
    | go_big_quiet_skip
    | (refine q_load_cell rowI rfl (.tmp _) rfl _ rfl (.int .i64 (m : Int)) hc0 ?_; simp only [Act.put, List.setIfInBounds_toArray, List.set_cons_zero, List.set_cons_succ])
    | (refine q_load_cell rowS rfl (.tmp _) rfl _ rfl v hc1 ?_; simp only [Act.put, List.setIfInBounds_toArray, List.set_cons_zero, List.set_cons_succ])
    | (refine q_len sliceT rfl (.tmp _) rfl v rfl l.length HSH.out ?_; simp only [Act.put, List.setIfInBounds_toArray, List.set_cons_zero, List.set_cons_succ])
    | (refine q_pure rfl 50 ent_spItems _ _ rfl #[.int .i64 (m : Int)] rfl (.bool true) (fun w' _ => by have := spItems_c m w'; rw [decide_eq_true HN.out] at this; exact this) ?_; simp only [Act.put, List.setIfInBounds_toArray, List.set_cons_zero, List.set_cons_succ])
    | (refine q_pure rfl 60 ent_l1Rising _ _ rfl #[v, .int .i64 0, .int .i64 (low m : Int)] rfl (.bool _) (fun w' hb => by have := l1Rising_c v l 0 (low m : Int) w' ((HL1.out.below hb (by simp)).mono (by have := hb.size; simp at this; omega)) hlen; rw [HRI.out] at this; exact this) ?_; simp only [Act.put, List.setIfInBounds_toArray, List.set_cons_zero, List.set_cons_succ])
    | go_big_quiet_step ((first | exact fun _ => rfl | exact fun _ => ⟨rfl, rfl⟩)))
  refine wpQuiet_nil ?_
  intro w1 hb1
  have hsz1 := hb1.size
  simp at hsz1
  have hd0 : ∀ w', Below w1.heap.size w1 w' → w'.cell? ⟨w.heap.size, 0, none⟩ = some (.int .i64 (m : Int)) := fun w' h => (h.cell (p := ⟨w.heap.size, 0, none⟩) (by show w.heap.size < _; omega)).trans (hc0 w1 hb1)
  have hd1 : ∀ w', Below w1.heap.size w1 w' → w'.cell? ⟨w.heap.size, 1, none⟩ = some v := fun w' h => (h.cell (p := ⟨w.heap.size, 1, none⟩) (by show w.heap.size < _; omega)).trans (hc1 w1 hb1)
  have HL2 := hide ((HL1.out.below hb1 (by simp)).mono (show w.heap.size ≤ w1.heap.size by omega))
  have HB1 := hide ((Below.refl w.heap.size w).alloc (Nat.le_refl _) (.cells #[.int .i64 (m : Int), v] 29) |>.trans (hb1.mono (by simp)))
  clear hc0 hc1 hb1 HL1
  go_wp2
  refine wp_region_old (by kernel_rfl) (by kernel_rfl) ?_
  go_big_quiet_step ((first | exact fun _ => rfl | exact fun _ => ⟨rfl, rfl⟩))
  refine q_load_cell rowS rfl (.tmp _) rfl _ rfl v hd1 ?_
  simp only [Act.put, List.setIfInBounds_toArray, List.set_cons_zero, List.set_cons_succ]
  refine q_pure rfl 61 ent_spHas _ _ rfl #[v, .int .i64 0] rfl (.bool false) (fun w' hb => by have := spHas_c v l 0 w' ((HL2.out.below hb (Nat.le_refl _)).mono (by have := hb.size; omega)) HIN.out hlen; rw [HM0.out] at this; exact this) ?_
  simp only [Act.put, List.setIfInBounds_toArray, List.set_cons_zero, List.set_cons_succ]
  go_big_quiet_step ((first | exact fun _ => rfl | exact fun _ => ⟨rfl, rfl⟩))
  go_big_quiet_step ((first | exact fun _ => rfl | exact fun _ => ⟨rfl, rfl⟩))
  repeat (go_big_quiet_step ((first | exact fun _ => rfl | exact fun _ => ⟨rfl, rfl⟩)))
  refine wpQuiet_nil ?_
  intro w2 hb2
  go_wp2
  go_ret
  exact ⟨rfl, HB1.out.trans (hb2.mono (by omega))⟩

set_option maxHeartbeats 800000 in
theorem spGood_4 (m : Nat) (v : Value) (l : List Int) (w : World) (hl : ints w.heap.size w v l) (hlen : l.length < 1000000000) (hn1 : 1 ≤ m) (hn2 : m ≤ 7) (hle : l.length ≤ p2 m) (hri : risB 0 (low m) l l.length = true) (hm0 : memB l 0 = true) (hml : memB l (low m) = false) :
    Calls Tryd.prog 32 #[.agg #[.int .i64 (m : Int), v]] w fun e w' => e = .returned (.bool false) ∧ Below w.heap.size w w' := by
  have hc0 : ∀ w', Below (w.alloc (.cells #[.int .i64 (m : Int), v] 29)).heap.size (w.alloc (.cells #[.int .i64 (m : Int), v] 29)) w' → w'.cell? ⟨w.heap.size, 0, none⟩ = some (.int .i64 (m : Int)) := fun w' h => by
    rw [h.cell (by simp)]; simp
  have hc1 : ∀ w', Below (w.alloc (.cells #[.int .i64 (m : Int), v] 29)).heap.size (w.alloc (.cells #[.int .i64 (m : Int), v] 29)) w' → w'.cell? ⟨w.heap.size, 1, none⟩ = some v := fun w' h => by
    rw [h.cell (by simp)]; simp
  have HSH := hide hl.shape
  have HL1 := hide (hl.alloc (.cells #[.int .i64 (m : Int), v] 29))
  have HN : Hid (1 ≤ (m : Int) ∧ (m : Int) ≤ 7) := ⟨by omega, by omega⟩
  have hp1 := wrap_p2 m hn2
  have hp2 : IntKind.i64.wrap (2 ^ m) = (p2 m : Int) := by rw [IntWalk.i64_left]; exact hp1
  have hp3 := wrap_low m hn2
  clear hl
  have hd : decide (p2 m < l.length) = false := by simp; omega
  have HIN := hide (risB_inc _ _ _ hri)
  have HRI := hide hri
  have HM0 := hide hm0
  have HML := hide hml
  clear hle hri hm0 hml
  go_enter Tryd.func32, Tryd.ntmps32
  go_wp2
  refine wp_region_old (by kernel_rfl) (by kernel_rfl) ?_
  repeat (first
    | go_big_quiet_skip
    | (refine q_load_cell rowI rfl (.tmp _) rfl _ rfl (.int .i64 (m : Int)) hc0 ?_; simp only [Act.put, List.setIfInBounds_toArray, List.set_cons_zero, List.set_cons_succ])
    | (refine q_load_cell rowS rfl (.tmp _) rfl _ rfl v hc1 ?_; simp only [Act.put, List.setIfInBounds_toArray, List.set_cons_zero, List.set_cons_succ])
    | (refine q_len sliceT rfl (.tmp _) rfl v rfl l.length HSH.out ?_; simp only [Act.put, List.setIfInBounds_toArray, List.set_cons_zero, List.set_cons_succ])
    | (refine q_pure rfl 50 ent_spItems _ _ rfl #[.int .i64 (m : Int)] rfl (.bool true) (fun w' _ => by have := spItems_c m w'; rw [decide_eq_true HN.out] at this; exact this) ?_; simp only [Act.put, List.setIfInBounds_toArray, List.set_cons_zero, List.set_cons_succ])
    | (refine q_pure rfl 60 ent_l1Rising _ _ rfl #[v, .int .i64 0, .int .i64 (low m : Int)] rfl (.bool _) (fun w' hb => by have := l1Rising_c v l 0 (low m : Int) w' ((HL1.out.below hb (by simp)).mono (by have := hb.size; simp at this; omega)) hlen; rw [HRI.out] at this; exact this) ?_; simp only [Act.put, List.setIfInBounds_toArray, List.set_cons_zero, List.set_cons_succ])
    | go_big_quiet_step ((first | exact fun _ => rfl | exact fun _ => ⟨rfl, rfl⟩)))
  refine wpQuiet_nil ?_
  intro w1 hb1
  have hsz1 := hb1.size
  simp at hsz1
  have hd0 : ∀ w', Below w1.heap.size w1 w' → w'.cell? ⟨w.heap.size, 0, none⟩ = some (.int .i64 (m : Int)) := fun w' h => (h.cell (p := ⟨w.heap.size, 0, none⟩) (by show w.heap.size < _; omega)).trans (hc0 w1 hb1)
  have hd1 : ∀ w', Below w1.heap.size w1 w' → w'.cell? ⟨w.heap.size, 1, none⟩ = some v := fun w' h => (h.cell (p := ⟨w.heap.size, 1, none⟩) (by show w.heap.size < _; omega)).trans (hc1 w1 hb1)
  have HL2 := hide ((HL1.out.below hb1 (by simp)).mono (show w.heap.size ≤ w1.heap.size by omega))
  have HB1 := hide ((Below.refl w.heap.size w).alloc (Nat.le_refl _) (.cells #[.int .i64 (m : Int), v] 29) |>.trans (hb1.mono (by simp)))
  clear hc0 hc1 hb1 HL1
  go_wp2
  refine wp_region_old (by kernel_rfl) (by kernel_rfl) ?_
  go_big_quiet_step ((first | exact fun _ => rfl | exact fun _ => ⟨rfl, rfl⟩))
  refine q_load_cell rowS rfl (.tmp _) rfl _ rfl v hd1 ?_
  simp only [Act.put, List.setIfInBounds_toArray, List.set_cons_zero, List.set_cons_succ]
  refine q_pure rfl 61 ent_spHas _ _ rfl #[v, .int .i64 0] rfl (.bool true) (fun w' hb => by have := spHas_c v l 0 w' ((HL2.out.below hb (Nat.le_refl _)).mono (by have := hb.size; omega)) HIN.out hlen; rw [HM0.out] at this; exact this) ?_
  simp only [Act.put, List.setIfInBounds_toArray, List.set_cons_zero, List.set_cons_succ]
  go_big_quiet_step ((first | exact fun _ => rfl | exact fun _ => ⟨rfl, rfl⟩))
  go_big_quiet_step ((first | exact fun _ => rfl | exact fun _ => ⟨rfl, rfl⟩))
  go_big_quiet_step ((first | exact fun _ => rfl | exact fun _ => ⟨rfl, rfl⟩))
  refine q_load_cell rowS rfl (.tmp _) rfl _ rfl v hd1 ?_
  simp only [Act.put, List.setIfInBounds_toArray, List.set_cons_zero, List.set_cons_succ]
  go_big_quiet_step ((first | exact fun _ => rfl | exact fun _ => ⟨rfl, rfl⟩))
  refine q_load_cell rowI rfl (.tmp _) rfl _ rfl (.int .i64 (m : Int)) hd0 ?_
  simp only [Act.put, List.setIfInBounds_toArray, List.set_cons_zero, List.set_cons_succ]
  go_big_quiet_step ((first | exact fun _ => rfl | exact fun _ => ⟨rfl, rfl⟩))
  go_big_quiet_step ((first | exact fun _ => rfl | exact fun _ => ⟨rfl, rfl⟩))
  refine q_pure rfl 61 ent_spHas _ _ rfl #[v, .int .i64 (low m : Int)] rfl (.bool false) (fun w' hb => by have := spHas_c v l (low m : Int) w' ((HL2.out.below hb (Nat.le_refl _)).mono (by have := hb.size; omega)) HIN.out hlen; rw [HML.out] at this; exact this) ?_
  simp only [Act.put, List.setIfInBounds_toArray, List.set_cons_zero, List.set_cons_succ]
  repeat (go_big_quiet_step ((first | exact fun _ => rfl | exact fun _ => ⟨rfl, rfl⟩)))
  refine wpQuiet_nil ?_
  intro w2 hb2
  go_wp2
  go_ret
  exact ⟨rfl, HB1.out.trans (hb2.mono (by omega))⟩

end Go.Proofs.YtblglkgmnaklbaaDoor
