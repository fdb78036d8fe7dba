/- Contracts: the specification's table of answers: a new one, what is left and known. -/
import Derived.Test.YtijgngnjhmkhaaaDoorHr
import Derived.Test.YtijgngnjhmkhaaaDoorHp
import Derived.Test.YtijgngnjhmkhaaaDoorMk
import Derived.Test.YtijgngnjhmkhaaaDoorTw
namespace Go.Proofs.YtijgngnjhmkhaaaDoor
open Go.RowKit
set_option maxRecDepth 100000
set_option linter.unusedSimpArgs false
/-- As `Below`, but two blocks may have turned. -/
structure Blz (b1 b2 : Nat) (B : Nat) (w w' : World) : Prop where
  os : w'.os = w.os
  tape : w'.tape = w.tape
  output : w'.output = w.output
  size : w.heap.size ≤ w'.heap.size
  block : ∀ k, k < B → k ≠ b1 → k ≠ b2 → w'.heap[k]? = w.heap[k]?
theorem Blz.of {b1 b2 B : Nat} {w w' : World} (h : Below B w w') : Blz b1 b2 B w w' := ⟨h.os, h.tape, h.output, h.size, fun k hk _ _ => h.block k hk⟩
theorem Blz.refl (b1 b2 B : Nat) (w : World) : Blz b1 b2 B w w := Blz.of (Below.refl _ _)
theorem Blz.trans {b1 b2 B : Nat} {a b c : World} (h : Blz b1 b2 B a b) (k : Blz b1 b2 B b c) : Blz b1 b2 B a c :=
  ⟨k.os.trans h.os, k.tape.trans h.tape, k.output.trans h.output, Nat.le_trans h.size k.size, fun i hi h1 h2 => (k.block i hi h1 h2).trans (h.block i hi h1 h2)⟩
theorem Blz.mono {b1 b2 B B' : Nat} {w w' : World} (h : Blz b1 b2 B w w') (hB : B' ≤ B) : Blz b1 b2 B' w w' := ⟨h.os, h.tape, h.output, h.size, fun k hk => h.block k (Nat.lt_of_lt_of_le hk hB)⟩
theorem Blz.to {b1 b2 B : Nat} {w w' : World} (h : Blz b1 b2 B w w') {B' : Nat} (hB : B' ≤ B) (h1 : B' ≤ b1) (h2 : B' ≤ b2) : Below B' w w' := ⟨h.os, h.tape, h.output, h.size, fun k hk => h.block k (by omega) (by omega) (by omega)⟩
theorem Blz.set {b1 b2 B : Nat} {a w : World} (h : Blz b1 b2 B a w) (b j : Nat) (hb : b = b1 ∨ b = b2) (x : Value) : Blz b1 b2 B a (w.setCell ⟨b, j, none⟩ x) :=
  h.trans ⟨rfl, rfl, rfl, by simp [World.setCell], fun k _ h1 h2 => Below.heap_setCell _ _ _ _ (by show k ≠ b; omega)⟩
/-- The table in memory. -/
def tbA (T : TypeId) (w : World) (g : Nat) (n : Int) (v : Value) (b1 b2 N : Nat) : Prop := w.heap[g]? = some (.cells #[.int .i64 n, v, .slice (some ⟨b1, 0, none⟩) N N, .slice (some ⟨b2, 0, none⟩) N N] T)
section
variable {T : TypeId} {w : World} {g : Nat} {n : Int} {v : Value} {b1 b2 N : Nat} (h : tbA T w g n v b1 b2 N)
include h
theorem tbA.c0 : w.cell? ⟨g, 0, none⟩ = some (.int .i64 n) := by rw [hp_cell h]; rfl
theorem tbA.c1 : w.cell? ⟨g, 1, none⟩ = some v := by rw [hp_cell h]; rfl
theorem tbA.c2 : w.cell? ⟨g, 2, none⟩ = some (.slice (some ⟨b1, 0, none⟩) N N) := by rw [hp_cell h]; rfl
theorem tbA.c3 : w.cell? ⟨g, 3, none⟩ = some (.slice (some ⟨b2, 0, none⟩) N N) := by rw [hp_cell h]; rfl
theorem tbA.lt : g < w.heap.size := hp_lt h
theorem tbA.blz {w' : World} {B : Nat} (hb : Blz b1 b2 B w w') (hB : g < B) (h1 : g ≠ b1) (h2 : g ≠ b2) : tbA T w' g n v b1 b2 N := (hb.block g hB h1 h2).trans h
end
/-! Mathematics. -/
def mnH (a b : Int) : Int := if a < b then a else b
def mvTo (c : Nat → Int) (O : Nat) : Nat → Int
  | 0 => 1073741824
  | k + 1 => if O.testBit k = true then mnH (mvTo c O k) (c k) else mvTo c O k
theorem mv_yes {c : Nat → Int} {O k : Nat} (h : O.testBit k = true) : mvTo c O (k + 1) = mnH (mvTo c O k) (c k) := by rw [mvTo, if_pos h]
theorem mv_no {c : Nat → Int} {O k : Nat} (h : O.testBit k = false) : mvTo c O (k + 1) = mvTo c O k := by rw [mvTo, if_neg (by rw [h]; simp)]
theorem mv_is (c : Nat → Int) (O : Nat) : ∀ k, (∀ j, j < k → O.testBit j = true → mvTo c O k ≤ c j) ∧ mvTo c O k ≤ 1073741824 ∧ (mvTo c O k = 1073741824 ∨ ∃ j, j < k ∧ O.testBit j = true ∧ mvTo c O k = c j)
  | 0 => ⟨fun j hj => absurd hj (by omega), Int.le_refl _, .inl rfl⟩
  | k + 1 => by
    obtain ⟨h1, h2, h3⟩ := mv_is c O k
    cases hb : O.testBit k
    · rw [mv_no hb]
      refine ⟨fun j hj hjb => ?_, h2, ?_⟩
      · rcases Nat.lt_or_ge j k with h | h
        · exact h1 j h hjb
        · rw [show j = k by omega, hb] at hjb; cases hjb
      · rcases h3 with h3 | ⟨j, hj, hjb, e⟩
        · exact .inl h3
        · exact .inr ⟨j, by omega, hjb, e⟩
    · rw [mv_yes hb]
      unfold mnH
      by_cases hc : mvTo c O k < c k
      · rw [if_pos hc]
        refine ⟨fun j hj hjb => ?_, h2, ?_⟩
        · rcases Nat.lt_or_ge j k with h | h
          · exact h1 j h hjb
          · rw [show j = k by omega]; omega
        · rcases h3 with h3 | ⟨j, hj, hjb, e⟩
          · exact .inl h3
          · exact .inr ⟨j, by omega, hjb, e⟩
      · rw [if_neg hc]
        refine ⟨fun j hj hjb => ?_, by omega, .inr ⟨k, by omega, hb, rfl⟩⟩
        rcases Nat.lt_or_ge j k with h | h
        · have := h1 j h hjb; omega
        · rw [show j = k by omega]; exact Int.le_refl _
theorem mv_end {c : Nat → Int} {O m : Nat} (hm : O < 2 ^ m) (hO : O < 128) (h0 : O ≠ 0) (hc : ∀ i, O.testBit i = true → c i < 1073741824) : mvTo c O m = c (mnI c O) := by
  obtain ⟨h1, h2, h3⟩ := mv_is c O m
  have hn := next_ex (c := c) hO h0
  have ha := h1 (mnI c O) (bit_ltK hm hn.1) hn.1
  rcases h3 with h3 | ⟨j, hj, hjb, e⟩
  · have := hc _ hn.1; omega
  · have := hn.2.1 j hjb; omega
/-- What a table may hold: at answers that tell all that they tell, one more than both least numbers. -/
def tbOk (m : Nat) (M : Nat → Bool) (W Q : List Int) : Prop := W.length = 2 ^ (2 * m) ∧ Q.length = 2 ^ (2 * m) ∧ ∀ i j, i < 2 ^ m → j < 2 ^ m → 0 < W[i * 2 ^ m + j]?.getD 0 → W[i * 2 ^ m + j]?.getD 0 = (vmN gW m (leF M i j) : Int) + 1 ∧ Q[i * 2 ^ m + j]?.getD 0 = (vmN gT m (leF M i j) : Int) + 1
theorem tbOk_new (m : Nat) (M : Nat → Bool) : tbOk m M (List.replicate (2 ^ (2 * m)) 0) (List.replicate (2 ^ (2 * m)) 0) := by
  refine ⟨by simp, by simp, fun i j _ _ h => ?_⟩
  rw [List.getElem?_replicate] at h
  split at h <;> simp at h
theorem at_inj {m i j a b : Nat} (hj : j < 2 ^ m) (hb : b < 2 ^ m) (h : i * 2 ^ m + j = a * 2 ^ m + b) : i = a ∧ j = b := by
  have h1 : (i * 2 ^ m + j) / 2 ^ m = i := by rw [Nat.mul_comm, Nat.mul_add_div (Nat.two_pow_pos m), Nat.div_eq_of_lt hj]; rfl
  have h2 : (a * 2 ^ m + b) / 2 ^ m = a := by rw [Nat.mul_comm, Nat.mul_add_div (Nat.two_pow_pos m), Nat.div_eq_of_lt hb]; rfl
  have : i = a := by rw [← h1, ← h2, h]
  subst this
  exact ⟨rfl, by omega⟩
theorem at_lt {m i j : Nat} (hi : i < 2 ^ m) (hj : j < 2 ^ m) : i * 2 ^ m + j < 2 ^ (2 * m) := by
  have e : 2 ^ (2 * m) = 2 ^ m * 2 ^ m := by rw [← Nat.pow_add]; congr 1; omega
  rw [e]
  have := Nat.mul_le_mul_right (2 ^ m) (show i + 1 ≤ 2 ^ m by omega)
  rw [Nat.add_mul, Nat.one_mul] at this
  omega
theorem tbOk_set {m : Nat} {M : Nat → Bool} {W Q : List Int} {i j : Nat} (h : tbOk m M W Q) (hi : i < 2 ^ m) (hj : j < 2 ^ m) :
    tbOk m M (W.set (i * 2 ^ m + j) ((vmN gW m (leF M i j) : Int) + 1)) (Q.set (i * 2 ^ m + j) ((vmN gT m (leF M i j) : Int) + 1)) := by
  obtain ⟨h1, h2, h3⟩ := h
  refine ⟨by rw [List.length_set]; exact h1, by rw [List.length_set]; exact h2, fun a b ha hb => ?_⟩
  by_cases he : i * 2 ^ m + j = a * 2 ^ m + b
  · obtain ⟨rfl, rfl⟩ := at_inj hj hb he
    intro _
    have hl := at_lt hi hj
    rw [List.getElem?_set_self (by rw [h1]; exact hl), List.getElem?_set_self (by rw [h2]; exact hl)]
    exact ⟨rfl, rfl⟩
  · rw [List.getElem?_set_ne he, List.getElem?_set_ne he]
    exact h3 a b ha hb
/-- What is known of answers tells the same sets. -/
theorem leF_known {m : Nat} {M : Nat → Bool} (hm7 : m ≤ 7) (hM : ∀ x, M x = true → x ≤ low m) {y z : Nat} (hy : y < 2 ^ m) (hz : z < 2 ^ m) :
    leF M (kaL (setsTo (leF M y z) 128) (low m)) (knL (setsTo (leF M y z) 128) (low m)) = leF M y z := by
  funext s
  unfold leF
  cases hs : M s
  · rfl
  · rw [Bool.true_and, Bool.true_and, Bool.eq_iff_iff, leB_iff, leB_iff]
    have hka := fun i => kaTo_bit (setsTo (leF M y z) 128) (low m) i (setsTo (leF M y z) 128).length
    have hkn := fun i => knTo_bit (setsTo (leF M y z) 128) (low m) i (setsTo (leF M y z) 128).length
    have hat : ∀ j, j < (setsTo (leF M y z) 128).length → leB y z (nth (setsTo (leF M y z) 128) j) = true := fun j hj => by
      have := ((sets_iff (leF M y z) _ 128).1 ⟨j, hj, rfl⟩).2
      unfold leF at this
      rw [Bool.and_eq_true] at this
      exact this.2
    constructor
    · intro h i
      refine ⟨fun hyi => (h i).1 ?_, fun hzi => (h i).2 ?_⟩
      · exact (hka i).2 ⟨by rw [low_bit, decide_eq_true_eq]; exact bit_ltK hy hyi, fun j hj => ((leB_iff y z _).1 (hat j hj) i).1 hyi⟩
      · exact (hkn i).2 ⟨by rw [low_bit, decide_eq_true_eq]; exact bit_ltK hz hzi, fun j hj => ((leB_iff y z _).1 (hat j hj) i).2 hzi⟩
    · intro h i
      have hsm : ∃ j, j < (setsTo (leF M y z) 128).length ∧ nth (setsTo (leF M y z) 128) j = s := by
        refine (sets_iff (leF M y z) s 128).2 ⟨?_, ?_⟩
        · have := hM s hs
          have := low_lt m hm7
          omega
        · unfold leF; rw [hs, Bool.true_and, leB_iff]; exact h
      obtain ⟨j, hj, e⟩ := hsm
      refine ⟨fun hki => ?_, fun hki => ?_⟩
      · have := ((hka i).1 hki).2 j hj; rw [e] at this; exact this
      · have := ((hkn i).1 hki).2 j hj; rw [e] at this; exact this
end Go.Proofs.YtijgngnjhmkhaaaDoor
