/- Plain mathematics: the unions of sets each of which can lose an item within them are a space. -/
import Derived.Test.YtonimjpfaalniaaDoorSq
import Derived.Test.YtonimjpfaalniaaDoorWi
namespace Go.Proofs.YtonimjpfaalniaaDoor
open Go.RowKit
set_option maxRecDepth 100000
def gdTo (l : List Int) (a : Nat) : Nat → Bool
  | 0 => false
  | i + 1 => gdTo l a i || (a.testBit i && (wiTo l (andNot a (p2 i)) l.length == andNot a (p2 i)))
theorem gdTo_iff (l : List Int) (a : Nat) : ∀ k, gdTo l a k = true ↔ ∃ i, i < k ∧ a.testBit i = true ∧ wiTo l (andNot a (p2 i)) l.length = andNot a (p2 i)
  | 0 => by simp [gdTo]
  | k + 1 => by
    rw [gdTo, Bool.or_eq_true, gdTo_iff l a k, Bool.and_eq_true, beq_iff_eq]
    constructor
    · rintro (⟨i, h1, h2⟩ | h)
      · exact ⟨i, by omega, h2⟩
      · exact ⟨k, by omega, h⟩
    · rintro ⟨i, h1, h2⟩
      rcases Nat.lt_or_ge i k with h | h
      · exact .inl ⟨i, h, h2⟩
      · have : i = k := by omega
        subst this; exact .inr h2
def gdAll (l : List Int) (n : Nat) : Nat → Bool
  | 0 => true
  | k + 1 => gdAll l n k && gdTo l (nth l k) n
theorem gdAll_iff (l : List Int) (n : Nat) : ∀ k, gdAll l n k = true ↔ ∀ j, j < k → gdTo l (nth l j) n = true
  | 0 => by simp [gdAll]
  | k + 1 => by
    rw [gdAll, Bool.and_eq_true, gdAll_iff l n k]
    constructor
    · rintro ⟨h1, h2⟩ j hj
      rcases Nat.lt_or_ge j k with h | h
      · exact h1 j h
      · have : j = k := by omega
        subst this; exact h2
    · intro h
      exact ⟨fun j hj => h j (by omega), h k (by omega)⟩
theorem gdAll_false {l : List Int} {n k : Nat} (h : gdTo l (nth l k) n = false) (m : Nat) (hm : k < m) : gdAll l n m = false := by
  cases h2 : gdAll l n m
  · rfl
  · have := (gdAll_iff l n m).1 h2 k hm
    rw [h] at this; cases this
/-- A set is a union of listed ones just if it is the union of those within it. -/
theorem wi_uni {l : List Int} (hl : ∀ j, j < l.length → nth l j < 128) (x : Nat) : unionsF l x = true ↔ wiTo l x l.length = x := by
  constructor
  · intro h
    classical
    have hQ := uni_in l (fun y => decide (∀ b, y.testBit b = true → ∃ j, j < l.length ∧ andNot (nth l j) y = 0 ∧ (nth l j).testBit b = true))
      (by rw [decide_eq_true_iff]; intro b hb; simp at hb)
      (fun j hj => by rw [decide_eq_true_iff]; intro b hb; exact ⟨j, hj, sub_or.2 fun i hi => hi, hb⟩)
      (fun a b ha hb => by
        rw [decide_eq_true_iff] at ha hb ⊢
        intro i hi
        rw [Nat.testBit_or, Bool.or_eq_true] at hi
        rcases hi with hi | hi
        · obtain ⟨j, h1, h2, h3⟩ := ha i hi
          exact ⟨j, h1, sub_or.2 fun k hk => by rw [Nat.testBit_or, sub_or.1 h2 k hk]; rfl, h3⟩
        · obtain ⟨j, h1, h2, h3⟩ := hb i hi
          exact ⟨j, h1, sub_or.2 fun k hk => by rw [Nat.testBit_or, sub_or.1 h2 k hk, Bool.or_true], h3⟩) l.length (Nat.le_refl _) x h
    rw [decide_eq_true_iff] at hQ
    apply Nat.eq_of_testBit_eq
    intro i
    rw [Bool.eq_iff_iff, wiTo_bit]
    constructor
    · rintro ⟨j, _, h2, h3⟩; exact sub_or.1 h2 i h3
    · intro hi; exact hQ i hi
  · intro h
    have hU : ∀ k, k ≤ l.length → unionsF l (wiTo l x k) = true := by
      intro k
      induction k with
      | zero => intro _; exact uni_zero l _
      | succ k ih =>
        intro hk
        unfold wiTo
        split
        · exact unionsF_or hl _ (ih (by omega)) k (by omega)
        · exact ih (by omega)
    have := hU l.length (Nat.le_refl _)
    rwa [h] at this
/-- Losing an item, told by both. -/
theorem gd_inner {l : List Int} (hl : ∀ j, j < l.length → nth l j < 128) (a n : Nat) : gdTo l a n = !(innerOf (unionsF l) n a == 0) := by
  rw [Bool.eq_iff_iff, gdTo_iff, Bool.not_eq_true', beq_eq_false_iff_ne]
  rw [show (innerOf (unionsF l) n a ≠ 0) = (innerOf (unionsF l) n a ≠ 0) from rfl, inner_some]
  constructor
  · rintro ⟨i, h1, h2, h3⟩; exact ⟨i, h1, h2, (wi_uni hl _).2 h3⟩
  · rintro ⟨i, h1, h2, h3⟩; exact ⟨i, h1, h2, (wi_uni hl _).1 h3⟩
theorem andNot_lt_bit {g i : Nat} (hb : g.testBit i = true) : andNot g (p2 i) < g := by
  apply Nat.lt_of_le_of_ne
  · apply Nat.le_of_not_lt
    intro hgt
    have h3 : g ||| andNot g (p2 i) = g := by
      apply Nat.eq_of_testBit_eq
      intro j
      rw [Nat.testBit_or, andNot_bit]
      cases g.testBit j <;> simp
    have := Nat.right_le_or (n := g) (m := andNot g (p2 i))
    omega
  · intro e
    have := congrArg (fun z => z.testBit i) e
    simp [andNot_bit, p2_bit, hb] at this
/-- If all smaller ones can lose an item, so can a union with a smaller one. -/
theorem down_u (U : Nat → Bool) (n m : Nat) (hu : ∀ a b, U a = true → U b = true → U (a ||| b) = true)
    (hgr : ∀ g, g < m → U g = true → g ≠ 0 → ∃ i, i < n ∧ g.testBit i = true ∧ U (andNot g (p2 i)) = true) :
    ∀ g, g < m → U g = true → ∀ y, U y = true → andNot g y ≠ 0 → ∃ i, i < n ∧ (y ||| g).testBit i = true ∧ U (andNot (y ||| g) (p2 i)) = true := by
  intro g
  induction g using Nat.strongRecOn with
  | ind g ih =>
    intro hgm hg y hy hne
    have g0 : g ≠ 0 := by
      intro e; subst e; apply hne
      apply Nat.eq_of_testBit_eq
      intro i
      rw [andNot_bit]; simp
    obtain ⟨i, hi, hb, hf⟩ := hgr g hgm hg g0
    have hlt2 := andNot_lt_bit hb
    by_cases hyi : y.testBit i = true
    · have e : y ||| andNot g (p2 i) = y ||| g := by
        apply Nat.eq_of_testBit_eq
        intro j
        rw [Nat.testBit_or, Nat.testBit_or, andNot_bit, p2_bit]
        by_cases hij : i = j
        · subst hij; rw [hyi]; rfl
        · rw [decide_eq_false hij]; simp
      have := ih (andNot g (p2 i)) hlt2 (by omega) hf y hy (by
        intro h0
        apply hne
        rw [sub_or] at h0 ⊢
        intro j hj
        by_cases hij : i = j
        · subst hij; exact hyi
        · exact h0 j (by rw [andNot_bit, p2_bit, hj, decide_eq_false hij]; rfl))
      rwa [e] at this
    · refine ⟨i, hi, by rw [Nat.testBit_or, hb, Bool.or_true], ?_⟩
      have e : andNot (y ||| g) (p2 i) = y ||| andNot g (p2 i) := by
        apply Nat.eq_of_testBit_eq
        intro j
        rw [Nat.testBit_or, andNot_bit, andNot_bit, p2_bit, Nat.testBit_or]
        by_cases hij : i = j
        · subst hij
          simp at hyi
          rw [hyi]; simp
        · rw [decide_eq_false hij]; simp
      rw [e]
      exact hu _ _ hy hf
/-- A union that is not empty is one of a listed set with a smaller union. -/
theorem uni_last {l : List Int} : ∀ k, k ≤ l.length → ∀ y, unionsTo l k y = true → y ≠ 0 → ∃ x j, unionsF l x = true ∧ j < l.length ∧ x ||| nth l j = y ∧ x ≠ y := by
  intro k
  induction k with
  | zero =>
    intro _ y h h0
    simp only [unionsTo, upd, noSet] at h
    split at h
    · rename_i e; exact absurd e h0
    · cases h
  | succ k ih =>
    intro hk y h h0
    rcases (step_iff _ _ y 128).1 h with h | ⟨x, _, h1, h2⟩
    · exact ih (by omega) y h h0
    · change x ||| nth l k = y at h2
      by_cases hxy : x = y
      · subst hxy
        exact ih (by omega) x h1 h0
      · exact ⟨x, k, uni_mono l k l.length x (by omega) h1, by omega, h2, hxy⟩
theorem grad_u {l : List Int} {n : Nat} (hl : ∀ j, j < l.length → nth l j < 128) (hs : ∀ j, j < l.length → ∃ i, i < n ∧ (nth l j).testBit i = true ∧ unionsF l (andNot (nth l j) (p2 i)) = true) :
    ∀ y, unionsF l y = true → y ≠ 0 → ∃ i, i < n ∧ y.testBit i = true ∧ unionsF l (andNot y (p2 i)) = true := by
  intro y
  induction y using Nat.strongRecOn with
  | ind y ih =>
    intro hy h0
    obtain ⟨x, j, hx, hj, e, hne⟩ := uni_last l.length (Nat.le_refl _) y hy h0
    have ha := uni_has l hl j hj
    by_cases hay : nth l j = y
    · rw [← hay]; exact hs j hj
    · have hle := Nat.right_le_or (n := x) (m := nth l j)
      rw [e] at hle
      have := down_u (unionsF l) n y (unionsF_uni hl) (fun g hg hU hg0 => ih g hg hU hg0) (nth l j) (by omega) ha x hx (by
        intro h1
        apply hne
        rw [← e]
        apply Nat.eq_of_testBit_eq
        intro i
        rw [Nat.testBit_or]
        cases hi : (nth l j).testBit i
        · simp
        · rw [sub_or.1 h1 i hi]; rfl)
      rwa [e] at this

def spA (n : Int) (l : List Int) : Bool := decide (1 ≤ n ∧ n ≤ 7) && (decide (l.length ≤ 60) && allTo 0 (low n.toNat) l l.length)
def spG (n : Int) (l : List Int) : Bool := gdAll l n.toNat l.length
def spU (n : Int) (l : List Int) : Bool := unionsF l (low n.toNat)
def spB (n : Int) (l : List Int) : Bool := spA n l && (spG n l && spU n l)
def spN (n : Int) (l : List Int) : Int := if spB n l then n else 0
def spL (n : Int) (l : List Int) : List Int := if spB n l then setsTo (unionsF l) 128 else []
theorem spB_no1 {n : Int} {l : List Int} (h : spA n l = false) : spB n l = false := by simp [spB, h]
theorem spB_no2 {n : Int} {l : List Int} (h : spG n l = false) : spB n l = false := by simp [spB, h]
theorem spB_no3 {n : Int} {l : List Int} (h : spU n l = false) : spB n l = false := by simp [spB, h]
theorem spB_yes {n : Int} {l : List Int} (h : spA n l = true) (h2 : spG n l = true) (h3 : spU n l = true) : spB n l = true := by simp [spB, h, h2, h3]
theorem spN_no {n : Int} {l : List Int} (h : spB n l = false) : spN n l = 0 := by simp [spN, h]
theorem spN_yes {n : Int} {l : List Int} (h : spB n l = true) : spN n l = n := by simp [spN, h]
theorem spL_no {n : Int} {l : List Int} (h : spB n l = false) : spL n l = [] := by simp [spL, h]
theorem spL_yes {n : Int} {l : List Int} (h : spB n l = true) : spL n l = setsTo (unionsF l) 128 := by simp [spL, h]
theorem spL_len (n : Int) (l : List Int) : (spL n l).length < 1000000000 := by
  unfold spL
  split
  · have := setsTo_len (unionsF l) 128; omega
  · simp
theorem spA_in {n : Int} {l : List Int} (h : spA n l = true) : (1 ≤ n ∧ n ≤ 7) ∧ l.length ≤ 60 ∧ ∀ j, j < l.length → 0 ≤ l[j]?.getD 0 ∧ l[j]?.getD 0 ≤ (low n.toNat : Int) := by
  simp only [spA, Bool.and_eq_true, decide_eq_true_eq] at h
  exact ⟨h.1, h.2.1, (allTo_iff _ _ l _).1 h.2.2⟩
theorem spA_lt {n : Int} {l : List Int} (h : spA n l = true) (j : Nat) (hj : j < l.length) : nth l j < 2 ^ n.toNat ∧ l[j]?.getD 0 = (nth l j : Int) := by
  have h1 := (spA_in h).2.2 j hj
  have h2 := low_succ n.toNat
  unfold nth; omega
theorem spA_128 {n : Int} {l : List Int} (h : spA n l = true) (j : Nat) (hj : j < l.length) : nth l j < 128 := by
  have h1 := (spA_lt h j hj).1
  have h2 := p2_le n.toNat 7 (by have := (spA_in h).1; omega)
  omega
theorem sp_good {n : Int} {l : List Int} (h : spA n l = true) (h2 : spG n l = true) : goodB n (setsTo (unionsF l) 128) = spU n l := by
  obtain ⟨m, rfl⟩ := Int.eq_ofNat_of_zero_le (show 0 ≤ n by have := (spA_in h).1; omega)
  have hn := (spA_in h).1
  have hl := fun j hj => spA_128 h j hj
  have hU : ∀ x, unionsF l x = true → x < 2 ^ m := by
    intro x hx
    have := uni_in l (fun x => decide (x < 2 ^ m)) (decide_eq_true (p2_pos m)) (fun j hj => by have := (spA_lt h j hj).1; rw [Int.toNat_natCast] at this; simpa using this) (fun a b ha hb => by
      rw [decide_eq_true_eq] at ha hb ⊢; exact Nat.or_lt_two_pow ha hb) l.length (Nat.le_refl _) x hx
    simpa using this
  rw [← ok_good, okSp_sets m (unionsF l) (by omega) (by omega) hU]
  unfold spU
  unfold spG at h2
  rw [Int.toNat_natCast] at h2 ⊢
  rw [Bool.eq_iff_iff, spc_iff (by omega) hU]
  constructor
  · intro hs; exact hs.full
  · intro hf
    refine ⟨hU, uni_zero l _, hf, ?_, unionsF_uni hl⟩
    intro s hs h0
    refine grad_u hl (fun j hj => ?_) s hs h0
    have h3 := (gdAll_iff l m l.length).1 h2 j hj
    rw [gd_inner hl, Bool.not_eq_true', beq_eq_false_iff_ne] at h3
    exact inner_some.1 h3
/-- The program's test of all given sets. -/
def shTo (F : Nat → Bool) (n : Nat) (l : List Int) : Nat → Bool
  | 0 => true
  | k + 1 => shTo F n l k && !(innerOf F n (nth l k) == 0)
theorem shTo_false {F : Nat → Bool} {n : Nat} {l : List Int} {k : Nat} (h : shTo F n l k = false) : ∀ m, k ≤ m → shTo F n l m = false := by
  intro m hm
  induction m with
  | zero => have : k = 0 := by omega
            subst this; exact h
  | succ m ih =>
    rcases Nat.lt_or_ge k (m + 1) with h1 | h1
    · rw [shTo, ih (by omega)]; rfl
    · have : k = m + 1 := by omega
      subst this; exact h
theorem sh_same {l : List Int} (hl : ∀ j, j < l.length → nth l j < 128) (n : Nat) : ∀ k, shTo (unionsF l) n l k = gdAll l n k
  | 0 => rfl
  | k + 1 => by rw [shTo, gdAll, sh_same hl n k, gd_inner hl]
end Go.Proofs.YtonimjpfaalniaaDoor
/- Contracts: SpaceOfPaths, the specification's. -/
namespace Go.Proofs.YtonimjpfaalniaaDoor
open Go.RowKit
set_option maxRecDepth 100000
theorem gdTo_next (l : List Int) (a i : Nat) : gdTo l a (i + 1) = (gdTo l a i || (a.testBit i && (wiTo l (andNot a (p2 i)) l.length == andNot a (p2 i)))) := rfl
theorem wiTo_next (l : List Int) (lim k : Nat) : wiTo l lim (k + 1) = if andNot (nth l k) lim == 0 then wiTo l lim k ||| nth l k else wiTo l lim k := rfl
theorem gdAll_next (l : List Int) (n k : Nat) : gdAll l n (k + 1) = (gdAll l n k && gdTo l (nth l k) n) := rfl
attribute [local irreducible] p2 low memB risB
theorem spNL_no {n : Int} {l : List Int} (h : spB n l = false) : spN n l = 0 ∧ spL n l = [] ∧ spB n l = false := ⟨spN_no h, spL_no h, h⟩
theorem spNL_yes {n : Int} {l : List Int} (h : spB n l = true) : spN n l = n ∧ spL n l = setsTo (unionsF l) 128 ∧ spB n l = true := ⟨spN_yes h, spL_yes h, h⟩
end Go.Proofs.YtonimjpfaalniaaDoor
/- Contracts: SpaceOfPaths, the program's. -/
namespace Go.Proofs.YtonimjpfaalniaaDoor
open Go.RowKit
set_option maxRecDepth 100000
theorem shTo_next (F : Nat → Bool) (n : Nat) (l : List Int) (k : Nat) : shTo F n l (k + 1) = (shTo F n l k && !(innerOf F n (nth l k) == 0)) := rfl
attribute [local irreducible] p2 low memB risB
set_option maxHeartbeats 1000000 in
theorem areSets_c (n : Int) (F : Nat → Bool) (u : Value) (l : List Int) (w : World) (hl : ints w.heap.size w u l) (hlen : l.length < 1000000000) (h0 : 0 ≤ n) (h7 : n ≤ 7) :
    Calls Tryd.prog 185 #[.agg (fam n F), u] w fun e w' => e = .returned (.bool (allTo 0 (low n.toNat) l l.length)) ∧ Below w.heap.size w w' := by
  have HL := hide (hl.alloc (.cells (fam n F) 83))
  have H0 := hide ((Below.refl w.heap.size w).alloc (Nat.le_refl _) (.cells (fam n F) 83))
  have HF := hide (famAt.new 83 w n F)
  have HZ := hide (show (w.alloc (.cells (fam n F) 83)).heap.size = w.heap.size + 1 by simp)
  have HIS := hide (fun (s : Int) (w1 : World) => isSet_c n F s w1 h0 h7)
  have HAI := hide (allTo_iff 0 (low n.toNat) l l.length)
  clear hl
  generalize low n.toNat = L at HIS HAI ⊢
  go_enter Tryd.func185, Tryd.ntmps185
  go_wp2_with (refine wpList_len sliceT rfl (.tmp _) rfl u rfl w.heap.size l HL.out ?_)
  go_loopw [9] (fun i wr => ∃ k : Nat, k ≤ l.length ∧ i = .int .i64 (k : Int) ∧ Hid (∀ j, j < k → 0 ≤ l[j]?.getD 0 ∧ l[j]?.getD 0 ≤ (L : Int)) ∧ Hid (Below (w.heap.size + 1) (w.alloc (.cells (fam n F) 83)) wr)) (fun i _ => l.length - (intOf i).toNat)
  case atStart => exact ⟨0, Nat.zero_le _, rfl, fun j hj => by omega, Below.refl _ _⟩
  case round =>
    obtain ⟨k, hk, rfl, HJ, HB⟩ := hrel
    have hsz := HB.out.size
    rw [HZ.out] at hsz
    have HLW := hide (HL.out.below HB.out (by omega))
    have HFW := hide (HF.out.below HB.out (by omega))
    by_cases hlt : k < l.length
    · generalize hx : l[k]?.getD 0 = x
      have HX := hide hx
      clear hx
      by_cases hin : 0 ≤ x ∧ x ≤ (L : Int)
      · have HIN := hide hin
        clear hin
        go_wp2_with (first
          | (refine wpList_at sliceT intS rfl (.tmp _) (.tmp _) rfl u rfl k rfl w.heap.size l HLW.out hlt ?_; intro ad hcell hblk; rw [HX.out] at hcell)
          | (refine wpList_load_fam rowT sizeT rfl (.tmp _) rfl _ rfl n F HFW.out ?_)
          | (go_at_call 143; refine (HIS.out x _).mono ?_; rw [decide_eq_true HIN.out]; rintro e w3 ⟨rfl, hb3⟩; have HB3 := hide (HB.out.trans (hb3.mono hsz)); clear hb3))
        go_roundw
        case rel => exact ⟨k + 1, by omega, by go_num, hide (fun j hj => by
          rcases Nat.lt_or_ge j k with h | h
          · exact HJ.out j h
          · rw [show j = k by omega, HX.out]; exact HIN.out), HB3⟩
        case measure => simp [intOf]; omega
      · have HIN := hide hin
        have HNO := hide (show allTo 0 (L : Int) l l.length = false by
          rw [← Bool.not_eq_true, HAI.out]
          intro h
          exact hin (by rw [← HX.out]; exact h k hlt))
        clear hin
        go_wp2_with (first
          | (refine wpList_at sliceT intS rfl (.tmp _) (.tmp _) rfl u rfl k rfl w.heap.size l HLW.out hlt ?_; intro ad hcell hblk; rw [HX.out] at hcell)
          | (refine wpList_load_fam rowT sizeT rfl (.tmp _) rfl _ rfl n F HFW.out ?_)
          | (go_at_call 143; refine (HIS.out x _).mono ?_; rw [decide_eq_false HIN.out]; rintro e w3 ⟨rfl, hb3⟩; have HB3 := hide (HB.out.trans (hb3.mono hsz)); clear hb3))
        go_ret
        exact ⟨ret_b HNO.out.symm, H0.out.trans (HB3.out.mono (by omega))⟩
    · have HKE := hide (show k = l.length by omega)
      have HYES := hide (show allTo 0 (L : Int) l l.length = true by rw [HAI.out]; exact fun j hj => HJ.out j (by rw [HKE.out]; exact hj))
      have hlt' : ¬ ((k : Int) < (l.length : Int)) := by omega
      go_wp2
      go_ret
      exact ⟨ret_b HYES.out.symm, H0.out.trans (HB.out.mono (by omega))⟩

end Go.Proofs.YtonimjpfaalniaaDoor
