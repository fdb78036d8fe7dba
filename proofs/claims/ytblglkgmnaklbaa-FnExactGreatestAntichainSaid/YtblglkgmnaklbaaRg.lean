/- Contracts of the laws' functions for slices of slices that come in: sizes and copies. -/
import Derived.Test.YtblglkgmnaklbaaRh
namespace Go.Proofs.Ytblglkgmnaklbaa
open Go.RowKit
set_option maxRecDepth 100000
/-- The first k rows of a slice of rows that is being filled. -/
def half (T I : TypeId) (w : World) (base g0 : Nat) (us : List Value) (L : List (List Int)) (k : Nat) : Prop :=
  us.length = L.length ∧ w.heap[g0]? = some (.cells us.toArray T) ∧ base ≤ g0 ∧
    (∀ j, j < k → own I w base (us[j]?.getD nilS) (L[j]?.getD []) ∧ ∀ g, (us[j]?.getD nilS).ownBlock = some g → g0 ≠ g) ∧
    ∀ i j, i < j → j < k → ∀ g, (us[i]?.getD nilS).ownBlock = some g → (us[j]?.getD nilS).ownBlock ≠ some g
theorem half.kept {T I : TypeId} {w w' : World} {base g0 : Nat} {us : List Value} {L : List (List Int)} {k : Nat} (h : half T I w base g0 us L k) (hb : Below w.heap.size w w') : half T I w' base g0 us L k :=
  ⟨h.1, (hb.block g0 (hp_lt h.2.1)).trans h.2.1, h.2.2.1, fun j hj => ⟨(h.2.2.2.1 j hj).1.kept hb, (h.2.2.2.1 j hj).2⟩, h.2.2.2.2⟩
theorem half_step {T I : TypeId} {w w1 : World} {base g0 : Nat} {us : List Value} {L : List (List Int)} {k : Nat} (h : half T I w base g0 us L k) (hk : k < L.length) (hb : Below w.heap.size w w1) (hw : base ≤ w.heap.size) (u : Value) (hu : own I w1 w.heap.size u (L[k]?.getD [])) :
    half T I (w1.setCell ⟨g0, k, none⟩ u) base g0 (us.set k u) L (k + 1) := by
  have h1 := h.kept hb
  have hg0 := hp_lt h.2.1
  have hoth : ∀ (x : Value), x.ownBlock = some g0 → Other x w1 (w1.setCell ⟨g0, k, none⟩ u) := fun x hx => (Other.refl x w1).setCell hx k u
  have hmy := hoth (.slice (some ⟨g0, 0, none⟩) 0 0) rfl
  have hub := hu.base
  refine ⟨by rw [List.length_set]; exact h.1, ?_, h.2.2.1, fun j hj => ?_, fun i j hij hj g => ?_⟩
  · rw [hp_set _ _ _ _ _ _ h1.2.1]
    simp
  · rcases Nat.lt_or_ge j k with hjk | hjk
    · rw [List.getElem?_set_ne (by omega)]
      have h2 := h1.2.2.2.1 j hjk
      exact ⟨h2.1.other hmy fun g hg e => h2.2 g hg (by simpa [Value.ownBlock] using e), h2.2⟩
    · have : j = k := by omega
      subst this
      rw [List.getElem?_set_self (by rw [h.1]; exact hk)]
      refine ⟨(hu.other hmy fun g hg e => ?_).mono hw, fun g hg e => ?_⟩
      · have := hub g hg
        simp [Value.ownBlock] at e
        omega
      · have := hub g hg
        omega
  · rw [List.getElem?_set_ne (by omega)]
    rcases Nat.lt_or_ge j k with hjk | hjk
    · rw [List.getElem?_set_ne (by omega)]
      exact h1.2.2.2.2 i j hij hjk g
    · have : j = k := by omega
      subst this
      rw [List.getElem?_set_self (by rw [h.1]; exact hk)]
      intro hg e
      have h3 := ((h.2.2.2.1 i hij).1).blockLt g hg
      have h4 := hub g e
      omega
theorem half_done {T I : TypeId} {w : World} {base g0 : Nat} {us : List Value} {L : List (List Int)} (h : half T I w base g0 us L L.length) (hl : L.length ≤ maxLen) : own2 T I w base (.slice (some ⟨g0, 0, none⟩) L.length L.length) L :=
  ⟨us, h.1, ⟨by rw [h.1]; simp, .inr ⟨g0, L.length, us.toArray, rfl, h.2.2.1, h.2.1, Nat.le_refl _, hl, by simp [h.1], by rw [Nat.mul_one, ← h.1]; simp⟩⟩,
    fun j hj => ⟨(h.2.2.2.1 j hj).1, fun g hg e => (h.2.2.2.1 j hj).2 g hg (by simpa [Value.ownBlock] using e)⟩, h.2.2.2.2⟩
section
variable {P : Program}
theorem wpList_makeRows {t T : TypeId} (ht : P.underlying t = some (.slice T)) (hT : (P.info? T).map (fun i => (i.zero, i.size, i.bytes)) = some (some (.slice none 0 0), 1, 24)) {ops : Array Oper} {rest : List Oper} {o : Oper} {a : Act} {w : World} {Q : Exit → Act → World → Prop}
    (hw : Region.wanted o (yielded ops a.tmps) = true) (x y : Operand) (ho : o.op = .makeSlice t x y) (n : Nat) (hx : a.eval x = .int .i64 (n : Int)) (hy : a.eval y = .int .i64 (n : Int)) (hn : n < 1000000000)
    (h : ∀ w' : World, w'.heap.size = w.heap.size + 1 → w'.heap[w.heap.size]? = some (.cells (List.replicate n (Value.slice none 0 0)).toArray T) → Below w.heap.size w w' → wpList P ops Q rest (a.put o.dst (.slice (some ⟨w.heap.size, 0, none⟩) n n)) w') : wpList P ops Q (o :: rest) a w := by
  obtain ⟨i0, hi, hz0, hz1, hz2⟩ : ∃ i, P.info? T = some i ∧ i.zero = some (.slice none 0 0) ∧ i.size = 1 ∧ i.bytes = 24 := by
    cases hq : P.info? T with
    | none => simp [hq] at hT
    | some j => simp [hq] at hT; exact ⟨j, rfl, hT.1, hT.2.1, hT.2.2⟩
  have hr := run_make (P := P) w t T i0 (.slice none 0 0) ht hi hz0 .i64 .i64 n n (by omega) (Int.le_refl _) (by rw [hz2]; omega) (by omega)
  simp only [Int.toNat_natCast] at hr
  refine wpList_of_wp hw fun K hK => ?_
  unfold Oper.wp execOp
  simp only [ho, hx, hy, Sem.run_bind, Sem.run_pure, hr, Result.andThen_ok]
  refine hK _ _ (h _ (by simp) ?_ ((Below.refl _ _).alloc (Nat.le_refl _) _))
  rw [hp_last]
  congr 2
  apply Array.toList_inj.1
  rw [hz1, Nat.mul_one]
  show (madeCells #[Value.slice none 0 0] n).toList = _
  rw [toList_madeCells_one]
end
theorem half_start {T I : TypeId} {w : World} {g0 : Nat} {L : List (List Int)} (h : w.heap[g0]? = some (.cells (List.replicate L.length (Value.slice none 0 0)).toArray T)) : half T I w g0 g0 (List.replicate L.length (Value.slice none 0 0)) L 0 :=
  ⟨by simp, h, Nat.le_refl _, fun j hj => by omega, fun i j _ hj => by omega⟩
theorem szOf_big {left : Int} {n m : Nat} (h : left < (n : Int)) : szOf left (n + m) = -1 := by
  unfold szOf
  rw [if_pos (by omega)]
end Go.Proofs.Ytblglkgmnaklbaa
