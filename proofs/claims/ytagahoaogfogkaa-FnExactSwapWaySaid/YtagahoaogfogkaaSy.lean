/- Mathematics: the places of swaps that lead from a full word to another one; slices that grow side by side. -/
import Derived.Test.YtagahoaogfogkaaFp
import Derived.Test.YtagahoaogfogkaaIx
import Derived.Test.YtagahoaogfogkaaAp
namespace Go.Proofs.Ytagahoaogfogkaa
open Go.RowKit
set_option maxRecDepth 100000
theorem okFu_perm {n : Int} {l m : List Int} (h : okFu n l m = true) : Perm n.toNat m := by
  obtain ⟨h1, h2⟩ := okFu_wd h
  have hn := okSp_n (okWd_sp h1)
  have hw : wordTo (marksTo l l.length) n.toNat m m.length = true := (okWd_yes (okWd_sp h1)).symm.trans h1
  exact word_perm (by omega) hw (by omega)
/-- The first place of a number. -/
def plc (l : List Int) (x : Int) : Nat := ((List.range l.length).find? fun j => l[j]?.getD 0 == x).getD 0
theorem plc_spec {l : List Int} {x : Int} (h : ∃ j, j < l.length ∧ l[j]?.getD 0 = x) : plc l x < l.length ∧ l[plc l x]?.getD 0 = x ∧ ∀ j, j < plc l x → l[j]?.getD 0 ≠ x := by
  obtain ⟨j, hj, e⟩ := h
  unfold plc
  cases hf : (List.range l.length).find? fun j => l[j]?.getD 0 == x with
  | none =>
    have := List.find?_eq_none.1 hf j (List.mem_range.2 hj)
    simp [e] at this
  | some p =>
    have h1 := List.mem_of_find?_eq_some hf
    have h2 := List.find?_some hf
    rw [List.mem_range] at h1
    refine ⟨h1, by simpa using h2, fun i hi he => ?_⟩
    rw [Option.getD_some] at hi
    have h3 := hf
    rw [List.find?_range_eq_some] at h3
    have := h3.2.2 i hi
    simp [he] at this
/-- The word behind the first k moves, and all places so far. -/
def swW (a b : List Int) : Nat → List Int
  | 0 => a
  | k + 1 => bub (swW a b k) (plc (swW a b k) (b[k]?.getD 0)) (plc (swW a b k) (b[k]?.getD 0) - k)
def swQ (a b : List Int) : Nat → List Int
  | 0 => []
  | k + 1 => swQ a b k ++ bubP (plc (swW a b k) (b[k]?.getD 0)) (plc (swW a b k) (b[k]?.getD 0) - k)
structure SwAt (n : Nat) (a b : List Int) (k : Nat) : Prop where
  perm : Perm n (swW a b k)
  front : ∀ i, i < k → (swW a b k)[i]?.getD 0 = b[i]?.getD 0
theorem sw_plc {n : Nat} {a b : List Int} (hb : Perm n b) {k : Nat} (hk : k < n) (h : SwAt n a b k) :
    plc (swW a b k) (b[k]?.getD 0) < n ∧ k ≤ plc (swW a b k) (b[k]?.getD 0) ∧ (swW a b k)[plc (swW a b k) (b[k]?.getD 0)]?.getD 0 = b[k]?.getD 0 ∧ ∀ j, j < plc (swW a b k) (b[k]?.getD 0) → (swW a b k)[j]?.getD 0 ≠ b[k]?.getD 0 := by
  have hr := hb.rng k hk
  obtain ⟨j, hj, e⟩ := h.perm.sur _ hr.1 hr.2
  obtain ⟨h1, h2, h3⟩ := plc_spec (l := swW a b k) (x := b[k]?.getD 0) ⟨j, by rw [h.perm.len]; exact hj, e⟩
  rw [h.perm.len] at h1
  refine ⟨h1, ?_, h2, h3⟩
  apply Nat.le_of_not_lt
  intro hlt
  have h4 := h.front _ hlt
  rw [h2] at h4
  have := hb.inj _ _ hk h1 h4
  omega
theorem sw_at {n : Nat} {a b : List Int} (ha : Perm n a) (hb : Perm n b) : ∀ k, k ≤ n → SwAt n a b k
  | 0, _ => ⟨ha, fun i hi => by omega⟩
  | k + 1, hk => by
    have h := sw_at ha hb k (by omega)
    obtain ⟨h1, h2, h3, h4⟩ := sw_plc hb (by omega) h
    obtain ⟨h5, h6⟩ := bub_at h.perm _ h1 (plc (swW a b k) (b[k]?.getD 0) - k) (by omega)
    refine ⟨bub_perm h.perm _ h1 _ (by omega), fun i hi => ?_⟩
    rw [swW]
    rcases Nat.lt_or_ge i k with hik | hik
    · rw [h6 i (by omega), h.front i hik]
    · have : i = k := by omega
      subst this
      rw [show plc (swW a b i) (b[i]?.getD 0) - (plc (swW a b i) (b[i]?.getD 0) - i) = i by omega] at h5
      rw [h5, h3]
theorem swQ_len {n : Nat} {a b : List Int} (ha : Perm n a) (hb : Perm n b) : ∀ k, k ≤ n → (swQ a b k).length ≤ k * n
  | 0, _ => by simp [swQ]
  | k + 1, hk => by
    have h := swQ_len ha hb k (by omega)
    have h2 := sw_plc hb (show k < n by omega) (sw_at ha hb k (by omega))
    rw [swQ, List.length_append, bubP_len, Nat.add_mul, Nat.one_mul]
    omega
def wyB (n : Int) (l a b : List Int) : Bool := okFu n l a && okFu n l b
def wyL (n : Int) (l a b : List Int) : List Int := if wyB n l a b then swQ a b n.toNat else []
theorem wyB_no1 {n : Int} {l a b : List Int} (h : okFu n l a = false) : wyB n l a b = false := by simp [wyB, h]
theorem wyB_no2 {n : Int} {l a b : List Int} (h : okFu n l b = false) : wyB n l a b = false := by simp [wyB, h]
theorem wyB_yes {n : Int} {l a b : List Int} (h : okFu n l a = true) (h2 : okFu n l b = true) : wyB n l a b = true := by simp [wyB, h, h2]
theorem wyL_no {n : Int} {l a b : List Int} (h : wyB n l a b = false) : wyL n l a b = [] := by simp [wyL, h]
theorem wyL_yes {n : Int} {l a b : List Int} (h : wyB n l a b = true) : wyL n l a b = swQ a b n.toNat := by simp [wyL, h]
theorem wyB_in {n : Int} {l a b : List Int} (h : wyB n l a b = true) : okFu n l a = true ∧ okFu n l b = true := by simpa [wyB] using h
theorem wyL_len (n : Int) (l a b : List Int) : (wyL n l a b).length < 1000000000 := by
  cases h : wyB n l a b
  · rw [wyL_no h]; simp
  · rw [wyL_yes h]
    obtain ⟨h1, h2⟩ := wyB_in h
    have h3 := swQ_len (okFu_perm h1) (okFu_perm h2) n.toNat (Nat.le_refl _)
    have h4 := okSp_n (okWd_sp (okFu_wd h1).1)
    have h5 : n.toNat * n.toNat ≤ 7 * 7 := Nat.mul_le_mul (by omega) (by omega)
    omega
theorem ints.other {B : Nat} {w w' : World} {u v : Value} {l : List Int} (h : ints B w v l) (ho : Other u w w') (hne : ∀ g, v.ownBlock = some g → u.ownBlock ≠ some g) : ints B w' v l := by
  rcases h with h | ⟨b, o, c, h1, h2, h3, h4⟩
  · exact .inl h
  · exact .inr ⟨b, o, c, h1, h2, Nat.lt_of_lt_of_le h3 ho.size, fun j hj => (World.cell?_of_block (ho.block b h3 (hne b (by subst h1; rfl)))).trans (h4 j hj)⟩
theorem ints.lt {B : Nat} {w : World} {v : Value} {l : List Int} (h : ints B w v l) (hl : 0 < l.length) : ∀ g, v.ownBlock = some g → g < w.heap.size ∧ g < B := by
  intro g hg
  rcases h with ⟨e, _⟩ | ⟨b, o, c, h1, h2, h3, h4⟩
  · subst e; simp at hl
  · subst h1
    simp [Value.ownBlock] at hg
    omega
end Go.Proofs.Ytagahoaogfogkaa
