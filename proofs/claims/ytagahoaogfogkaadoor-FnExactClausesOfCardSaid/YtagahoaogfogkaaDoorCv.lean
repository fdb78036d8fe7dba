/- Contracts: CoversOf: the specification's and the program's. -/
import Derived.Test.YtagahoaogfogkaaDoorRh
import Derived.Test.YtagahoaogfogkaaDoorPi
import Derived.Test.YtagahoaogfogkaaDoorTz
namespace Go.Proofs.YtagahoaogfogkaaDoor
open Go.RowKit
set_option maxRecDepth 100000
theorem or_neC (s i : Nat) : ((s ||| p2 i) != s) = !s.testBit i := by
  rw [Bool.eq_iff_iff]
  simp only [bne_iff_ne, ne_eq, Bool.not_eq_true']
  constructor
  · intro h
    cases hb : s.testBit i
    · rfl
    · exfalso
      apply h
      apply Nat.eq_of_testBit_eq
      intro j
      rw [Nat.testBit_or, p2_bit]
      by_cases hj : i = j
      · subst hj; simp [hb]
      · simp [hj]
  · intro h e
    have := congrArg (fun z => z.testBit i) e
    simp [p2_bit, h] at this
theorem outer_bitC (F : Nat → Bool) (n s i : Nat) : (outerOf F n s).testBit i = (decide (i < n) && (!s.testBit i && F (p2s s i))) := by
  unfold outerOf
  rw [itemsOf_bit, or_neC]; rfl
theorem outer_ltC (F : Nat → Bool) (n s : Nat) (h7 : n ≤ 7) : outerOf F n s < 128 := by
  have h1 : outerOf F n s < 2 ^ n := itemsOf_lt _ n
  have h2 := p2_le n 7 h7
  omega
/-- Whether a set has one item more than another one and all of its items. -/
def cov (a b : Nat) : Bool := (andNot a b == 0) && (pc b == pc a + 1)
/-- The covers of the first k sets, in order. -/
def cvTo (l : List Int) : Nat → List (List Int)
  | 0 => []
  | k + 1 => cvTo l k ++ (paTo (cov (nth l k)) l l.length).map fun b => [(nth l k : Int), b]
def cvL (n : Int) (l : List Int) : List (List Int) := if okSp n l then cvTo l l.length else []
theorem cvL_no {n : Int} {l : List Int} (h : okSp n l = false) : cvL n l = [] := by simp [cvL, h]
theorem cvL_yes {n : Int} {l : List Int} (h : okSp n l = true) : cvL n l = cvTo l l.length := by simp [cvL, h]
theorem cvTo_len (l : List Int) : ∀ k, (cvTo l k).length ≤ k * l.length
  | 0 => by simp [cvTo]
  | k + 1 => by
    have h1 := cvTo_len l k
    have h2 := paTo_len (cov (nth l k)) l l.length
    rw [cvTo, List.length_append, List.length_map, Nat.add_mul, Nat.one_mul]
    omega
theorem cvTo_two (l : List Int) : ∀ k, ∀ r ∈ cvTo l k, r.length = 2
  | 0 => by simp [cvTo]
  | k + 1 => by
    intro r hr
    rw [cvTo, List.mem_append] at hr
    rcases hr with hr | hr
    · exact cvTo_two l k r hr
    · rw [List.mem_map] at hr
      obtain ⟨b, _, rfl⟩ := hr
      rfl
theorem totTo_le (L : List (List Int)) (c : Nat) (h : ∀ r ∈ L, r.length ≤ c) : ∀ k, k ≤ L.length → totTo L k ≤ k * c
  | 0, _ => by simp [totTo]
  | k + 1, hk => by
    have h1 := totTo_le L c h k (by omega)
    have h2 := h (L[k]) (List.getElem_mem (by omega))
    rw [totTo, Nat.add_mul, Nat.one_mul, List.getElem?_eq_getElem (by omega), Option.getD_some]
    omega
theorem small2_of (L : List (List Int)) (c : Nat) (h : ∀ r ∈ L, r.length ≤ c) (hl : L.length < 1000000) (hc : L.length * c < 1000000) : small2 L :=
  ⟨hl, by have := totTo_le L c h L.length (Nat.le_refl _); unfold tot; omega⟩
theorem cvL_small (n : Int) (l : List Int) : small2 (cvL n l) := by
  cases h : okSp n l
  · rw [cvL_no h]; exact small2_nil
  · rw [cvL_yes h]
    have h1 := cvTo_len l l.length
    have h2 := okSp_len h
    have h3 : l.length * l.length ≤ 128 * 128 := Nat.mul_le_mul h2 h2
    refine small2_of _ 2 (fun r hr => by have := cvTo_two l _ r hr; omega) (by omega) (by omega)
theorem take_map_next {β : Type} (f : Int → β) (it : List Int) (j : Nat) (hj : j < it.length) : (it.take (j + 1)).map f = (it.take j).map f ++ [f (it[j]?.getD 0)] := by
  rw [List.take_add_one, List.map_append, List.getElem?_eq_getElem hj]
  rfl
theorem andNot_zero {a b : Nat} : andNot a b = 0 ↔ ∀ i, a.testBit i = true → b.testBit i = true := by
  constructor
  · intro h i hi
    have h1 := congrArg (fun z => z.testBit i) h
    simp only [andNot_bit, Nat.zero_testBit, hi, Bool.true_and] at h1
    cases hb : b.testBit i
    · rw [hb] at h1; cases h1
    · rfl
  · intro h
    apply Nat.eq_of_testBit_eq
    intro i
    rw [andNot_bit, Nat.zero_testBit]
    cases ha : a.testBit i
    · rfl
    · rw [h i ha]; rfl
theorem pc_sub : ∀ a, a < 128 → ∀ b, b < 128 → a &&& b = a → pc b = pc a + 1 → ∃ i, i < 7 ∧ a.testBit i = false ∧ b = a ||| 2 ^ i := by decide +kernel
theorem cov_iff {a b : Nat} (ha : a < 128) (hb : b < 128) : cov a b = true ↔ ∃ i, i < 7 ∧ a.testBit i = false ∧ b = a ||| p2 i := by
  unfold cov
  simp only [Bool.and_eq_true, beq_iff_eq]
  constructor
  · rintro ⟨h1, h2⟩
    refine pc_sub a ha b hb ?_ h2
    apply Nat.eq_of_testBit_eq
    intro i
    rw [Nat.testBit_and]
    cases hi : a.testBit i
    · rfl
    · rw [andNot_zero.1 h1 i hi]; rfl
  · rintro ⟨i, hi, hbit, rfl⟩
    refine ⟨andNot_zero.2 fun j hj => by rw [Nat.testBit_or, hj]; rfl, pc_or a ha i hi hbit⟩
theorem or_addC : ∀ a, a < 128 → ∀ i, i < 7 → a.testBit i = false → a ||| 2 ^ i = a + 2 ^ i := by decide +kernel
theorem or_mono (a : Nat) (ha : a < 128) (i : Nat) (hi : i < 7) (j : Nat) (hj : j < 7) (hij : i < j) (h1 : a.testBit i = false) (h2 : a.testBit j = false) : (a ||| 2 ^ i) < (a ||| 2 ^ j) := by
  rw [or_addC a ha i hi h1, or_addC a ha j hj h2]
  have := Nat.pow_lt_pow_right (a := 2) (by omega) hij
  omega
theorem itemsN_pair (x : Nat) : List.Pairwise (· < ·) (itemsN x) := List.Pairwise.filter _ List.pairwise_lt_range
/-- The program's covers of a set and the specification's. -/
theorem cov_same {n : Int} {l : List Int} (h : okSp n l = true) (a : Nat) (ha : a < 128) :
    (itemsL (outerOf (marksTo l l.length) n.toNat a)).map (fun i => ((a ||| p2 i.toNat : Nat) : Int)) = paTo (cov a) l l.length := by
  have hn := okSp_n h
  have hbit : ∀ i, (outerOf (marksTo l l.length) n.toNat a).testBit i = (decide (i < n.toNat) && (!a.testBit i && marksTo l l.length (p2s a i))) := fun i => outer_bitC _ _ _ i
  have hmem : ∀ i, i ∈ itemsN (outerOf (marksTo l l.length) n.toNat a) ↔ i < n.toNat ∧ a.testBit i = false ∧ marksTo l l.length (a ||| p2 i) = true := by
    intro i
    unfold itemsN
    rw [List.mem_filter, List.mem_range, hbit]
    simp only [Bool.and_eq_true, decide_eq_true_eq, Bool.not_eq_true']
    constructor
    · rintro ⟨_, h1, h2, h3⟩; exact ⟨h1, h2, h3⟩
    · rintro ⟨h1, h2, h3⟩; exact ⟨by omega, h1, h2, h3⟩
  refine inc_eq _ _ ?_ ?_ fun x => ?_
  · unfold itemsL
    rw [List.map_map, List.pairwise_map]
    refine List.Pairwise.imp_of_mem ?_ (itemsN_pair _)
    intro i j hi hj hij
    have h1 := (hmem i).1 hi
    have h2 := (hmem j).1 hj
    have := or_mono a ha i (by omega) j (by omega) hij h1.2.1 h2.2.1
    show ((a ||| p2 i : Nat) : Int) < ((a ||| p2 j : Nat) : Int)
    exact Int.ofNat_lt.2 this
  · rw [paTo_all]
    exact List.Pairwise.filter _ (okSp_pair h)
  · rw [paTo_all, List.mem_filter]
    unfold itemsL
    rw [List.map_map, List.mem_map]
    constructor
    · rintro ⟨i, hi, rfl⟩
      obtain ⟨h1, h2, h3⟩ := (hmem i).1 hi
      have hlt := okSp_lt128 h _ h3
      obtain ⟨j, hj, e⟩ := (okSp_has h _).1 h3
      refine ⟨mem_nth.2 ⟨j, hj, ?_⟩, ?_⟩
      · have := okSp_pos h j hj
        unfold nth at e
        show l[j]?.getD 0 = ((a ||| p2 i : Nat) : Int)
        omega
      · show cov a (((a ||| p2 i : Nat) : Int)).toNat = true
        rw [Int.toNat_natCast]
        exact (cov_iff ha hlt).2 ⟨i, by omega, h2, rfl⟩
    · rintro ⟨hx, hc⟩
      obtain ⟨j, hj, e⟩ := mem_nth.1 hx
      have hp := okSp_r128 h j hj
      have hm : marksTo l l.length x.toNat = true := (okSp_has h _).2 ⟨j, hj, by unfold nth; rw [e]⟩
      obtain ⟨i, hi, h2, h3⟩ := (cov_iff ha (by omega)).1 hc
      refine ⟨i, (hmem i).2 ⟨?_, h2, by rw [← h3]; exact hm⟩, ?_⟩
      · have hlt := okSp_lt h _ hm
        by_cases hin : i < n.toNat
        · exact hin
        · exfalso
          have h4 : 2 ^ n.toNat ≤ 2 ^ i := Nat.pow_le_pow_right (by omega) (by omega)
          have h5 : 2 ^ i ≤ x.toNat := Nat.ge_two_pow_of_testBit (by rw [h3, Nat.testBit_or, p2_bit]; simp)
          omega
      · show ((a ||| p2 i : Nat) : Int) = x
        rw [← h3]; omega
/-- A block of two numbers is a slice of one's own. -/
theorem own_pair (I : TypeId) (w : World) (x y : Int) : own I (w.alloc (.cells #[.int .i64 x, .int .i64 y] I)) w.heap.size (.slice (some ⟨w.heap.size, 0, none⟩) 2 2) [x, y] :=
  ⟨by simp, .inr ⟨w.heap.size, 2, #[.int .i64 x, .int .i64 y], rfl, Nat.le_refl _, hp_last _ _, Nat.le_refl _, by unfold maxLen; omega, by simp, by simp⟩⟩
end Go.Proofs.YtagahoaogfogkaaDoor
