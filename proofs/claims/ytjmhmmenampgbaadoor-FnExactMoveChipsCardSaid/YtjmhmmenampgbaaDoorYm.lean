/- Contracts: piles of chips, the program's. -/
import Derived.Test.YtjmhmmenampgbaaDoorYk
import Derived.Test.YtjmhmmenampgbaaDoorBx
import Derived.OwnWalk
namespace Go.Proofs.YtjmhmmenampgbaaDoor
open Go.RowKit
set_option maxRecDepth 100000
set_option linter.unusedSimpArgs false
/-- Numbers laid over others from one on. -/
def spl (m : List Int) (o : Nat) (R : List Int) : List Int := m.take o ++ R ++ m.drop (o + R.length)
theorem spl_len {m R : List Int} {o : Nat} (h : o + R.length ≤ m.length) : (spl m o R).length = m.length := by unfold spl; simp; omega
theorem spl_get {m R : List Int} {o : Nat} (h : o + R.length ≤ m.length) (i : Nat) : (spl m o R)[i]?.getD 0 = if o ≤ i ∧ i < o + R.length then R[i - o]?.getD 0 else m[i]?.getD 0 := by
  have ht : (m.take o).length = o := by rw [List.length_take]; omega
  unfold spl
  rcases Nat.lt_or_ge i o with h1 | h1
  · rw [List.append_assoc, List.getElem?_append_left (by omega), if_neg (by omega), List.getElem?_take, if_pos h1]
  · rw [List.append_assoc, List.getElem?_append_right (by omega), ht]
    rcases Nat.lt_or_ge (i - o) R.length with h2 | h2
    · rw [List.getElem?_append_left h2, if_pos (by omega)]
    · rw [List.getElem?_append_right h2, if_neg (by omega), List.getElem?_drop]
      congr 2; omega
theorem plR_getD (n : Nat) (L : Nat → Nat → Int) (a : Nat → Int) {i : Nat} (hi : i < 31) : (plR n L a)[i]?.getD 0 = if i = 0 then (n : Int) else if i < 26 then L ((i - 1) / 5) ((i - 1) % 5) else a (i - 26) := by
  by_cases h0 : i = 0
  · subst h0; rfl
  · rw [if_neg h0]
    by_cases h1 : i < 26
    · rw [if_pos h1]
      have h := plR_line n L a (i := (i - 1) / 5) (j := (i - 1) % 5) (by omega) (by omega)
      rwa [show 1 + (i - 1) / 5 * 5 + (i - 1) % 5 = i by omega] at h
    · rw [if_neg h1]
      have h := plR_at n L a (j := i - 26) (by omega)
      rwa [show 26 + (i - 26) = i by omega] at h
/-- The lines of the first k rows. -/
def lnK (M : List (List Int)) (n k : Nat) (i j : Nat) : Int := if i < k ∧ j < n then lnN M i j else 0
theorem spl_line (M : List (List Int)) (n k : Nat) (hk : k < 5) (hn : n ≤ 5) (hr : (M[k]?.getD []).length = n) : spl (plR n (lnK M n k) zA) (1 + k * 5) (M[k]?.getD []) = plR n (lnK M n (k + 1)) zA := by
  have hl : 1 + k * 5 + (M[k]?.getD []).length ≤ (plR n (lnK M n k) zA).length := by rw [plR_len]; omega
  apply eq_of_getD (by rw [spl_len hl, plR_len, plR_len])
  intro i hi
  rw [plR_len] at hi
  rw [spl_get hl, plR_getD _ _ _ hi, plR_getD _ _ _ hi, hr]
  by_cases h0 : i = 0
  · rw [if_neg (by omega), if_pos h0, if_pos h0]
  · rw [if_neg h0, if_neg h0]
    by_cases h1 : i < 26
    · rw [if_pos h1, if_pos h1]
      unfold lnK lnN
      by_cases h2 : 1 + k * 5 ≤ i ∧ i < 1 + k * 5 + n
      · have e1 : (i - 1) / 5 = k := by omega
        have e2 : (i - 1) % 5 = i - (1 + k * 5) := by omega
        rw [if_pos h2, e1, e2, if_pos ⟨by omega, by omega⟩]
      · rw [if_neg h2]
        by_cases h3 : (i - 1) / 5 < k
        · by_cases h4 : (i - 1) % 5 < n
          · rw [if_pos ⟨h3, h4⟩, if_pos ⟨by omega, h4⟩]
          · rw [if_neg (by omega), if_neg (by omega)]
        · rw [if_neg (by omega), if_neg (by omega)]
    · rw [if_neg (by omega), if_neg h1, if_neg h1]
theorem spl_at (n : Nat) (L : Nat → Nat → Int) (A : List Int) (hA : A.length ≤ 5) : spl (plR n L zA) 26 A = plR n L (atN A) := by
  have hl : 26 + A.length ≤ (plR n L zA).length := by rw [plR_len]; omega
  apply eq_of_getD (by rw [spl_len hl, plR_len, plR_len])
  intro i hi
  rw [plR_len] at hi
  rw [spl_get hl, plR_getD _ _ _ hi, plR_getD _ _ _ hi]
  by_cases h0 : i = 0
  · rw [if_neg (by omega), if_pos h0, if_pos h0]
  · rw [if_neg h0, if_neg h0]
    by_cases h1 : i < 26
    · rw [if_neg (by omega), if_pos h1, if_pos h1]
    · rw [if_neg h1, if_neg h1]
      unfold atN
      by_cases h2 : i < 26 + A.length
      · rw [if_pos ⟨by omega, h2⟩]
      · rw [if_neg (by omega), List.getElem?_eq_none (by omega)]; rfl
theorem copyY (T : TypeId) (w : World) (g o dc : Nat) (m R : List Int) (ad : Addr) (n c : Nat) (hn : n = R.length) (hg : blk T w g m) (h5 : R.length ≤ 5) (hfit : o + R.length ≤ m.length) (hsrc : ∀ (j : Nat) (v : Value), (R.map (Value.int .i64))[j]? = some v → w.cell? (ad.add j) = some v) :
    (Builtin.copy_ #[23, 23] 3 #[.slice (some ⟨g, o, none⟩) 5 dc, .slice (some ad) n c]).run Tryd.prog w = .ok (.int .i64 (n : Int)) (w.setRow g (rowV (spl m o R))) := by
  subst hn
  have h := run_copy_row (P := Tryd.prog) w 23 23 3 3 g o 5 dc ad R.length c (rowV m) T (R.map (Value.int .i64)) sliceT intS hg
    (by rw [List.length_map]; exact (Nat.min_eq_left h5).symm) hsrc (by rw [List.length_map, rowV_size]; exact hfit) (fun v hv => by obtain ⟨x, _, rfl⟩ := List.mem_map.1 hv; rfl)
  rw [h, List.length_map]
  have e : ((rowV m).toList.take o ++ R.map (Value.int .i64) ++ (rowV m).toList.drop (o + R.length)).toArray = rowV (spl m o R) := by
    unfold rowV spl
    simp [List.map_take, List.map_drop]
  rw [e]
  rfl
theorem ints_srcY {B : Nat} {w : World} {v : Value} {l : List Int} (h : ints B w v l) (h0 : 0 < l.length) : ∃ (ad : Addr) (c : Nat), v = .slice (some ad) l.length c ∧ (∀ j, (ad.add j).block < B) ∧ ∀ (j : Nat) (u : Value), (l.map (Value.int .i64))[j]? = some u → w.cell? (ad.add j) = some u := by
  rcases h with ⟨rfl, _⟩ | ⟨b, o, c, rfl, h1, h2, h3⟩
  · simp at h0
  · refine ⟨⟨b, o, none⟩, c, rfl, fun j => (by have : (Addr.add ⟨b, o, none⟩ j).block = b := (by unfold Addr.add; split <;> rfl); omega), fun j u hj => ?_⟩
    have hjl : j < l.length := by
      rcases Nat.lt_or_ge j l.length with h | h
      · exact h
      · rw [List.getElem?_eq_none (by simpa using h)] at hj; cases hj
    have h4 := h3 j hjl
    rw [List.getElem?_map, List.getElem?_eq_getElem hjl] at hj
    rw [List.getElem?_eq_getElem hjl] at h4
    have e5 : (⟨b, o, none⟩ : Addr).add j = ⟨b, o + j, none⟩ := by
      unfold Addr.add
      split
      · rename_i h; simp_all
      · rfl
    rw [e5, h4]
    simpa using hj
/-- When chips are ones: the program's way. -/
theorem cp_way {M : List (List Int)} {A : List Int} : ChP M A ↔ (1 ≤ A.length ∧ A.length ≤ 5 ∧ M.length = A.length ∧ (∀ i, i < A.length → (M[i]?.getD []).length = A.length ∧ allTo 0 3 (M[i]?.getD []) A.length = true) ∧ allTo 0 30 A A.length = true ∧ smF (atN A) A.length ≤ 30 ∧ LnSy (lnK M A.length A.length)) := by
  constructor
  · intro h
    refine ⟨h.n1, h.n5, h.ml, fun i hi => ⟨h.rl i hi, (allTo_iff _ _ _ _).2 fun j hj => h.l0 i j hi hj⟩, (allTo_iff _ _ _ _).2 fun j hj => h.a0 j hj, h.sm, fun i j _ _ => ⟨?_, ?_⟩⟩
    · unfold lnK
      by_cases h1 : i < A.length ∧ j < A.length
      · rw [if_pos h1, if_pos ⟨h1.2, h1.1⟩]; exact h.sy i j h1.1 h1.2
      · rw [if_neg h1, if_neg (by omega)]
    · intro e
      subst e
      unfold lnK
      split
      · rename_i h1; exact h.dz i h1.1
      · rfl
  · rintro ⟨h1, h2, h3, h4, h5, h6, h7⟩
    refine ⟨h1, h2, h3, fun i hi => (allTo_iff _ _ _ _).1 h5 i hi, fun i hi => (h4 i hi).1, fun i j hi hj => (allTo_iff _ _ _ _).1 (h4 i hi).2 j hj, fun i hi => ?_, fun i j hi hj => ?_, h6⟩
    · have h := (h7 i i (by omega) (by omega)).2 rfl
      unfold lnK at h
      rwa [if_pos ⟨hi, hi⟩] at h
    · have h := (h7 i j (by omega) (by omega)).1
      unfold lnK at h
      rwa [if_pos ⟨hi, hj⟩, if_pos ⟨hj, hi⟩] at h
theorem lnK_pl {M : List (List Int)} {A : List Int} (h : ChP M A) : lnK M A.length A.length = plL M A := by
  funext i j
  unfold lnK plL
  rw [if_pos (cpB_iff.2 h)]
theorem builtPK : ∀ n : Nat, Tryd.prog.built 55 [(0, .int .i64 (n : Int))] = some (rowV (plR n zL zA)) := fun _ => by kernel_rfl
theorem builtPK0 : Tryd.prog.built 55 [] = some (rowV (plR 0 zL zA)) := by kernel_rfl
section
variable {ops : Array Oper} {rest : List Oper} {o : Oper} {a : Act} {w : World} {Q : Exit → Act → World → Prop}
theorem wpList_build_pk (hgd : o.guard = none) (x : Operand) (ho : o.op = .build 55 #[(0, x)]) (n : Nat) (hx : a.eval x = .int .i64 (n : Int))
    (h : wpList Tryd.prog ops Q rest (a.put o.dst (.agg (rowV (plR n zL zA)))) w) : wpList Tryd.prog ops Q (o :: rest) a w := by
  have e : (Tryd.prog.built 55 ((#[(0, x)] : Array (Nat × Operand)).map fun (i, x) => (i, a.eval x)).toList) = some (rowV (plR n zL zA)) := by
    simpa [hx] using builtPK n
  exact wpList_build hgd 55 #[(0, x)] ho (by rw [e]; rfl) (by rw [e]; exact h)
theorem wpList_build_pk0 (hgd : o.guard = none) (ho : o.op = .build 55 #[])
    (h : wpList Tryd.prog ops Q rest (a.put o.dst (.agg (rowV (plR 0 zL zA)))) w) : wpList Tryd.prog ops Q (o :: rest) a w := by
  have e : (Tryd.prog.built 55 ((#[] : Array (Nat × Operand)).map fun (i, x) => (i, a.eval x)).toList) = some (rowV (plR 0 zL zA)) := by
    simpa using builtPK0
  exact wpList_build hgd 55 #[] ho (by rw [e]; rfl) (by rw [e]; exact h)
end
end Go.Proofs.YtjmhmmenampgbaaDoor
