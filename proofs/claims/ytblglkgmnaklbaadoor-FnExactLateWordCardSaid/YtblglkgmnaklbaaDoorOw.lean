/- Contracts of the laws' functions that write marks into an answer and ask whether they are held. -/
import Derived.Test.YtblglkgmnaklbaaDoorLawA
import Derived.Test.YtblglkgmnaklbaaDoorIs
namespace Go.Proofs.YtblglkgmnaklbaaDoor
open Go.RowKit
set_option maxRecDepth 100000

/-- All blocks but the one that v points into are as they were. -/
structure Other (v : Value) (w w' : World) : Prop where
  os : w'.os = w.os
  tape : w'.tape = w.tape
  output : w'.output = w.output
  size : w.heap.size ≤ w'.heap.size
  block : ∀ k, k < w.heap.size → v.ownBlock ≠ some k → w'.heap[k]? = w.heap[k]?
theorem Other.refl (v : Value) (w : World) : Other v w w := ⟨rfl, rfl, rfl, Nat.le_refl _, fun _ _ _ => rfl⟩
theorem Other.trans {v : Value} {a b c : World} (h : Other v a b) (k : Other v b c) : Other v a c :=
  ⟨k.os.trans h.os, k.tape.trans h.tape, k.output.trans h.output, Nat.le_trans h.size k.size, fun i hi hv => (k.block i (Nat.lt_of_lt_of_le hi h.size) hv).trans (h.block i hi hv)⟩
theorem Below.other {w w' : World} (v : Value) (h : Below w.heap.size w w') : Other v w w' := ⟨h.os, h.tape, h.output, h.size, fun k hk _ => h.block k hk⟩
theorem Other.setCell {v : Value} {a w : World} (h : Other v a w) {g : Nat} (hg : v.ownBlock = some g) (j : Nat) (u : Value) : Other v a (w.setCell ⟨g, j, none⟩ u) :=
  h.trans ⟨rfl, rfl, rfl, by simp [World.setCell], fun k _ hk => Below.heap_setCell _ _ _ _ (by intro e; subst e; exact hk hg)⟩
/-- What v points into lies from base on: below it all is as it was. -/
theorem Other.below {v : Value} {w w' : World} (h : Other v w w') (base : Nat) (hb : ∀ g, v.ownBlock = some g → base ≤ g) (hs : base ≤ w.heap.size) : Below base w w' :=
  ⟨h.os, h.tape, h.output, h.size, fun k hk => h.block k (by omega) (by intro e; have := hb k e; omega)⟩
theorem own.base {I : TypeId} {w : World} {base : Nat} {v : Value} {l : List Int} (h : own I w base v l) : ∀ g, v.ownBlock = some g → base ≤ g := by
  intro g hg
  rcases h.2 with ⟨e, _⟩ | ⟨g', cap, cur, e, hb, _⟩
  · subst e; simp [Value.ownBlock] at hg
  · subst e; simp [Value.ownBlock] at hg; omega
theorem own.blockLt {I : TypeId} {w : World} {base : Nat} {v : Value} {l : List Int} (h : own I w base v l) : ∀ g, v.ownBlock = some g → g < w.heap.size := by
  intro g hg
  rcases h.2 with ⟨e, _⟩ | ⟨g', cap, cur, e, hb, hh, _⟩
  · subst e; simp [Value.ownBlock] at hg
  · subst e; simp [Value.ownBlock] at hg; have := hp_lt hh; omega
/-- A slice whose block is another one keeps its numbers. -/
theorem own.other {I : TypeId} {w w' : World} {base : Nat} {u v : Value} {l : List Int} (h : own I w base v l) (ho : Other u w w') (hne : ∀ g, v.ownBlock = some g → u.ownBlock ≠ some g) : own I w' base v l := by
  obtain ⟨h1, h2⟩ := h
  refine ⟨h1, ?_⟩
  rcases h2 with h2 | ⟨g, cap, cur, e, hg, hh, r⟩
  · exact .inl h2
  · exact .inr ⟨g, cap, cur, e, hg, (ho.block g (hp_lt hh) (hne g (by subst e; rfl))).trans hh, r⟩
theorem own.set {I : TypeId} {w : World} {base g : Nat} {v : Value} {l : List Int} (h : own I w base v l) (hg : v.ownBlock = some g) (j : Nat) (x : Int) : own I (w.setCell ⟨g, j, none⟩ (.int .i64 x)) base v (l.set j x) := by
  obtain ⟨h1, h2⟩ := h
  rcases h2 with ⟨e, _⟩ | ⟨g', cap, cur, e, hb, hh, h3, h4, h5, h6⟩
  · subst e; simp [Value.ownBlock] at hg
  · subst e
    have : g' = g := by simpa [Value.ownBlock] using hg
    subst this
    refine ⟨by simp, .inr ⟨g', cap, cur.setIfInBounds j (.int .i64 x), by rw [List.length_set], hb, hp_set _ _ _ _ _ _ hh, by rw [List.length_set]; exact h3, h4, by simpa using h5, ?_⟩⟩
    rw [List.length_set, Array.toList_setIfInBounds, List.take_set, h6, List.map_set]
theorem own.cell {I : TypeId} {w : World} {base g : Nat} {v : Value} {l : List Int} (h : own I w base v l) (hg : v.ownBlock = some g) (j : Nat) (hj : j < l.length) : w.cell? ⟨g, j, none⟩ = some (.int .i64 (l[j]?.getD 0)) ∧ w.frozen? ⟨g, j, none⟩ = false := by
  obtain ⟨h1, h2⟩ := h
  rcases h2 with ⟨e, _⟩ | ⟨g', cap, cur, e, hb, hh, h3, h4, h5, h6⟩
  · subst e; simp [Value.ownBlock] at hg
  · subst e
    have : g' = g := by simpa [Value.ownBlock] using hg
    subst this
    refine ⟨?_, hp_free hh _⟩
    rw [hp_cell hh]
    have h7 : (cur.toList.take (l.length * 1))[j]? = (l.map (Value.int .i64))[j]? := by rw [h6]
    rw [List.getElem?_take, if_pos (by omega), List.getElem?_map, List.getElem?_eq_getElem hj] at h7
    rw [← Array.getElem?_toList, h7, List.getElem?_eq_getElem hj]
    rfl
section
variable {P : Program}
/-- The address of an element of a slice of one's own. -/
theorem wpList_atOwn {t I : TypeId} (ht : P.underlying t = some (.slice I)) (hI : (P.info? I).map (·.size) = some 1) {ops : Array Oper} {rest : List Oper} {o : Oper} {a : Act} {w : World} {Q : Exit → Act → World → Prop} (hw : Region.wanted o (yielded ops a.tmps) = true)
    (x y : Operand) (ho : o.op = .indexAddr t x y) (v : Value) (hx : a.eval x = v) (i : Int) (hy : a.eval y = .int .i64 i) (k : Nat) (hik : i = (k : Int)) (base : Nat) (l : List Int) (hl : own I w base v l) (hk : k < l.length)
    (h : ∀ g, v.ownBlock = some g → wpList P ops Q rest (a.put o.dst (.pointer (some ⟨g, k, none⟩))) w) : wpList P ops Q (o :: rest) a w := by
  subst hik
  rcases hl.2 with ⟨_, h0⟩ | ⟨g, cap, cur, e, hb, hh, h3, h4, h5, h6⟩
  · omega
  subst e
  have he : P.underlying t = some (.slice (P.elem t)) := by
    rw [ht]; simp [Program.elem, ht]
  have hE : P.elem t = I := by simp [Program.elem, ht]
  have hs : (sizeOf I).run P w = .ok 1 w := by
    cases hq : P.info? I with
    | none => simp [hq] at hI
    | some j =>
      have : j.size = 1 := by simpa [hq] using hI
      simp [sizeOf, typeInfo, hq, this]
  have hr : (Instr.indexAt t (.slice (some ⟨g, 0, none⟩) l.length cap) (.int .i64 (k : Int))).run P w = .ok (.pointer (some ⟨g, k, none⟩)) w := by
    rw [run_indexAt_slice (h := he), if_pos (by omega), hE, hs]
    simp [Addr.add]
    intro h0; omega
  refine wpList_of_wp hw fun K hK => ?_
  unfold Oper.wp execOp
  simp only [ho, hx, hy, Sem.run_bind, Sem.run_pure, hr, Result.andThen_ok]
  exact hK _ _ (h g rfl)
end

/-- k, k + 1, .., n of them. -/
def upFrom (k : Int) (n : Nat) : List Int := (List.range n).map fun j : Nat => k + (j : Int)
theorem upFrom_len (k : Int) (n : Nat) : (upFrom k n).length = n := by simp [upFrom]
theorem upFrom_at (k : Int) (n j : Nat) (h : j < n) : (upFrom k n)[j]?.getD 0 = k + j := by simp [upFrom, h]

set_option maxHeartbeats 400000 in
theorem markIntS_c (v : Value) (l : List Int) (k0 : Int) (w : World) (base : Nat) (hl : own 3 w base v l) (hlen : l.length < 1000000000) (h1 : 0 ≤ k0) (h2 : k0 < 1000000000) :
    Calls Tryd.prog 29 #[v, .int .i64 k0] w fun e w' => e = .returned (.int .i64 (k0 + l.length)) ∧ own 3 w' base v (upFrom k0 l.length) ∧ Other v w w' := by
  have HL := hide hl
  have HI := hide hl.ints
  clear hl
  go_enter Tryd.func29, Tryd.ntmps29
  go_wp2_with fail
  go_loopw [1, 5] (fun kk i wr => ∃ k : Nat, k ≤ l.length ∧ i = .int .i64 k ∧ kk = .int .i64 (k0 + k) ∧ Other v w wr ∧ Hid (∃ m : List Int, own 3 wr base v m ∧ m.length = l.length ∧ ∀ j, j < k → m[j]?.getD 0 = k0 + j)) (fun _ i _ => l.length - (intOf i).toNat)
  case atStart => exact ⟨0, Nat.zero_le _, rfl, by simp, Other.refl _ _, ⟨l, HL.out, rfl, fun j hj => by omega⟩⟩
  case round =>
    obtain ⟨k, hk, rfl, rfl, hb, HM⟩ := hrel
    have HB := hide hb
    obtain ⟨m, hm, hml, hmj⟩ := HM.out
    have HJ := hide hmj
    have HML := hide hml
    clear hb HM hmj
    have HMM := hide hm
    have HMI := hide hm.ints
    clear hm
    by_cases hlt : k < m.length
    · have hlt2 : k < l.length := by omega
      clear hml
      go_wp2_with (first
        | (refine wpList_len sliceT rfl (.tmp _) rfl v rfl wr.heap.size m HMI.out ?_)
        | (refine wpList_atOwn sliceT intS rfl (.tmp _) (.tmp _) rfl v rfl k rfl k rfl base m HMM.out hlt ?_; intro g hg; have hc := (HMM.out.cell hg k hlt).1; have hf := (HMM.out.cell hg k hlt).2; have HG := hide hg; clear hg))
      go_roundw
      case rel =>
        refine ⟨k + 1, by omega, by go_num, by go_num, HB.out.setCell HG.out _ _, ⟨m.set k (k0 + k), HMM.out.set HG.out k _, by rw [List.length_set]; exact HML.out, fun j hj => ?_⟩⟩
        rcases Nat.lt_or_ge j k with h | h
        · rw [List.getElem?_set_ne (by omega)]; exact HJ.out j h
        · have : j = k := by omega
          subst this
          simp [hlt]
      case measure => simp [intOf]; omega
    · have HK := hide (show k = l.length by omega)
      have hlt' : ¬ ((k : Int) < (m.length : Int)) := by omega
      clear hml
      go_wp2_with (refine wpList_len sliceT rfl (.tmp _) rfl v rfl wr.heap.size m HMI.out ?_)
      go_ret
      refine ⟨ret_i (by rw [HK.out]), ?_, HB.out⟩
      have e : m = upFrom k0 l.length := eq_of_getD (by rw [HML.out, upFrom_len]) fun j hj => by
        rw [upFrom_len] at hj
        rw [upFrom_at _ _ _ hj]
        exact HJ.out j (by rw [HK.out]; exact hj)
      rw [← e]; exact HMM.out

set_option maxHeartbeats 400000 in
theorem heldIntS_c (v : Value) (n : Nat) (k0 : Int) (w : World) (hl : ints w.heap.size w v (upFrom k0 n)) (hlen : n < 1000000000) (h1 : 0 ≤ k0) (h2 : k0 < 1000000000) :
    Calls Tryd.prog 30 #[v, .int .i64 k0] w fun e w' => e = .returned (.int .i64 (k0 + n)) ∧ w = w' := by
  have HL := hide hl
  have hn : (upFrom k0 n).length = n := upFrom_len k0 n
  have HAT := hide (fun j (h : j < n) => upFrom_at k0 n j h)
  generalize upFrom k0 n = l at HL hn HAT
  have HN := hide hn
  clear hl hn
  go_enter Tryd.func30, Tryd.ntmps30
  go_wp2_with fail
  go_loop [1, 5] (fun kk i => ∃ k : Nat, k ≤ l.length ∧ i = .int .i64 k ∧ kk = .int .i64 (k0 + k)) (fun _ i => l.length - (intOf i).toNat)
  case atStart => exact ⟨0, Nat.zero_le _, rfl, by simp⟩
  case round =>
    obtain ⟨k, hk, rfl, rfl⟩ := hrel
    by_cases hlt : k < l.length
    · have HX := hide (HAT.out k (by have := HN.out; omega))
      have hb : ((k0 + (k : Int)) != (k0 + (k : Int))) = false := by simp
      have hnn := HN.out
      go_wp2_with (first
        | (refine wpList_len sliceT rfl (.tmp _) rfl v rfl w.heap.size l HL.out ?_)
        | (refine wpList_at sliceT intS rfl (.tmp _) (.tmp _) rfl v rfl k rfl w.heap.size l HL.out hlt ?_; intro ad hcell hblk; rw [HX.out] at hcell))
      go_round
      case rel => exact ⟨k + 1, by omega, by go_num, by go_num⟩
      case measure => simp [intOf]; omega
    · have HK := hide (show k = n by have := HN.out; omega)
      have hlt' : ¬ ((k : Int) < (l.length : Int)) := by omega
      go_wp2_with (refine wpList_len sliceT rfl (.tmp _) rfl v rfl w.heap.size l HL.out ?_)
      go_ret
      exact ⟨ret_i (by rw [HK.out]), rfl⟩

set_option maxHeartbeats 400000 in
theorem markSpace_c (n : Int) (v : Value) (l : List Int) (k0 : Int) (w : World) (base : Nat) (hl : own 3 w base v l) (hlen : l.length < 1000000000) (h1 : 0 ≤ k0) (h2 : k0 < 1000000000) :
    Calls Tryd.prog 13 #[.agg #[.int .i64 n, v], .int .i64 k0] w fun e w' => e = .returned (.int .i64 (k0 + l.length)) ∧ own 3 w' base v (upFrom k0 l.length) ∧ Other v w w' := by
  have HL := hide (hl.alloc (.cells #[.int .i64 n, v] 29))
  have HB := hide (Below.other v ((Below.refl w.heap.size w).alloc (Nat.le_refl _) (.cells #[.int .i64 n, v] 29)))
  clear hl
  go_enter Tryd.func13, Tryd.ntmps13
  go_wp2_with (go_at_call 29; refine (markIntS_c v l k0 _ base HL.out hlen h1 h2).mono ?_; rintro e w' ⟨rfl, ho, hb⟩; have HO := hide ho; have HB2 := hide hb; clear ho hb)
  go_ret
  exact ⟨rfl, HO.out, HB.out.trans HB2.out⟩

end Go.Proofs.YtblglkgmnaklbaaDoor
