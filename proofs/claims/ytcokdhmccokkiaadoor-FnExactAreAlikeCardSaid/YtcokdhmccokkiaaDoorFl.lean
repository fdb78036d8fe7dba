/- Slices of families in memory: read, appended to; how many of them are counted. -/
import Derived.Test.YtcokdhmccokkiaaDoorFm
import Derived.Test.YtcokdhmccokkiaaDoorHar
import Derived.Test.YtcokdhmccokkiaaDoorOw
import Derived.Deep.MidRow
namespace Go.Proofs.YtcokdhmccokkiaaDoor
open Go.RowKit
set_option maxRecDepth 100000
set_option linter.unusedSimpArgs false
theorem fSl : Tryd.prog.underlying 54 = some (.slice 53) := by kernel_rfl
theorem fIn : ∃ z, (Tryd.prog.info? 53).map (fun i => (i.zero, i.size)) = some (some z, 129) ∧ z.cells.size = 129 := by
  refine ⟨.agg (fam 0 noSet), by kernel_rfl, ?_⟩
  show (fam 0 noSet).size = 129
  exact fam_size _ _
theorem fBy : ∃ b, (Tryd.prog.info? 53).map (·.bytes) = some b ∧ b ≤ 1000 := ⟨136, by kernel_rfl, by omega⟩
/-- The cells of families, one behind the other. -/
def flC (n : Int) (Fs : List (Nat → Bool)) : List Value := Fs.flatMap fun F => (fam n F).toList
theorem flC_len (n : Int) (Fs : List (Nat → Bool)) : (flC n Fs).length = Fs.length * 129 := by
  induction Fs with
  | nil => rfl
  | cons F Fs ih =>
    unfold flC at *
    rw [List.flatMap_cons, List.length_append, ih, Array.length_toList, fam_size, List.length_cons]
    omega
theorem flC_app (n : Int) (A B : List (Nat → Bool)) : flC n (A ++ B) = flC n A ++ flC n B := List.flatMap_append
theorem flC_one (n : Int) (F : Nat → Bool) : flC n [F] = (fam n F).toList := by simp [flC]
theorem flC_get (n : Int) : ∀ (Fs : List (Nat → Bool)) (j q : Nat), j < Fs.length → q < 129 → (flC n Fs)[j * 129 + q]? = (fam n (Fs[j]?.getD noSet))[q]?
  | [], j, q, h, _ => by simp at h
  | F :: Fs, 0, q, _, hq => by
    unfold flC
    rw [List.flatMap_cons, Nat.zero_mul, Nat.zero_add, List.getElem?_append_left (by rw [Array.length_toList, fam_size]; exact hq), Array.getElem?_toList]
    rfl
  | F :: Fs, j + 1, q, h, hq => by
    have ih := flC_get n Fs j q (by simpa using h) hq
    unfold flC at *
    rw [List.flatMap_cons, List.getElem?_append_right (by rw [Array.length_toList, fam_size]; omega), Array.length_toList, fam_size, show (j + 1) * 129 + q - 129 = j * 129 + q by omega, ih]
    rfl
theorem fam_oneL (n : Int) (F : Nat → Bool) : ∀ u ∈ (fam n F).toList, u.oneCell' = true := by
  have h := fam_one n F
  rw [Array.all_eq_true_iff_forall_mem] at h
  intro u hu
  exact h u (Array.mem_toList_iff.1 hu)
/-! ### Slices that come in, and of one's own -/
def fls (B : Nat) (w : World) (v : Value) (n : Int) (Fs : List (Nat → Bool)) : Prop :=
  (Fs = [] ∧ ∃ a c, v = .slice a 0 c) ∨
  ∃ b o c, v = .slice (some ⟨b, o, none⟩) Fs.length c ∧ b < B ∧ b < w.heap.size ∧ ∀ q, q < Fs.length * 129 → w.cell? ⟨b, o + q, none⟩ = (flC n Fs)[q]?
theorem fls.below {B B' : Nat} {w w' : World} {v : Value} {n : Int} {Fs : List (Nat → Bool)} (h : fls B w v n Fs) (hb : Below B' w w') (hB : B ≤ B') : fls B w' v n Fs := by
  rcases h with h | ⟨b, o, c, h1, h2, h3, h4⟩
  · exact .inl h
  · exact .inr ⟨b, o, c, h1, h2, Nat.lt_of_lt_of_le h3 hb.size, fun j hj => (hb.cell (p := ⟨b, o + j, none⟩) (by show b < B'; omega)).trans (h4 j hj)⟩
theorem fls.mono {B B' : Nat} {w : World} {v : Value} {n : Int} {Fs : List (Nat → Bool)} (h : fls B w v n Fs) (hB : B ≤ B') : fls B' w v n Fs := by
  rcases h with h | ⟨b, o, c, h1, h2, h3⟩
  · exact .inl h
  · exact .inr ⟨b, o, c, h1, by omega, h3⟩
theorem fls.shape {B : Nat} {w : World} {v : Value} {n : Int} {Fs : List (Nat → Bool)} (h : fls B w v n Fs) : ∃ a c, v = .slice a Fs.length c := by
  rcases h with ⟨rfl, h⟩ | ⟨b, o, c, h1, _⟩
  · exact h
  · exact ⟨_, _, h1⟩
def ownF (w : World) (base : Nat) (v : Value) (n : Int) (Fs : List (Nat → Bool)) : Prop := w.ownsRow base 53 129 v Fs.length (flC n Fs)
theorem ownF_nil (w : World) (base : Nat) (n : Int) : ownF w base (.slice none 0 0) n [] := World.ownsRow_nil _ _ _ _
theorem ownF.kept {w w' : World} {base : Nat} {v : Value} {n : Int} {Fs : List (Nat → Bool)} (h : ownF w base v n Fs) (hb : Below w.heap.size w w') : ownF w' base v n Fs := by
  obtain ⟨h1, h2⟩ := h
  refine ⟨h1, ?_⟩
  rcases h2 with h2 | ⟨g, cap, cur, e, hg, hh, r⟩
  · exact .inl h2
  · exact .inr ⟨g, cap, cur, e, hg, (hb.block g (hp_lt hh)).trans hh, r⟩
theorem ownF.mono {w : World} {base base' : Nat} {v : Value} {n : Int} {Fs : List (Nat → Bool)} (h : ownF w base v n Fs) (hb : base' ≤ base) : ownF w base' v n Fs := by
  obtain ⟨h1, h2⟩ := h
  refine ⟨h1, ?_⟩
  rcases h2 with h2 | ⟨g, cap, cur, e, hg, r⟩
  · exact .inl h2
  · exact .inr ⟨g, cap, cur, e, by omega, r⟩
theorem ownF.alloc {w : World} {base : Nat} {v : Value} {n : Int} {Fs : List (Nat → Bool)} (h : ownF w base v n Fs) (o : Obj) : ownF (w.alloc o) base v n Fs := World.ownsRow.alloc h o
theorem ownF.fls {w : World} {base : Nat} {v : Value} {n : Int} {Fs : List (Nat → Bool)} (h : ownF w base v n Fs) : fls w.heap.size w v n Fs := by
  obtain ⟨h1, h2⟩ := h
  rcases h2 with ⟨e, h2⟩ | ⟨g, cap, cur, e, hg, hh, h3, h4, h5, h6⟩
  · exact .inl ⟨List.eq_nil_of_length_eq_zero h2, none, 0, e⟩
  · refine .inr ⟨g, 0, cap, e, hp_lt hh, hp_lt hh, fun q hq => ?_⟩
    rw [← h6, List.getElem?_take, if_pos (by omega), Nat.zero_add, hp_cell hh, ← Array.getElem?_toList]
theorem ownF.shape {w : World} {base : Nat} {v : Value} {n : Int} {Fs : List (Nat → Bool)} (h : ownF w base v n Fs) : ∃ a c, v = .slice a Fs.length c := h.fls.shape
theorem wpList_lenF {ops : Array Oper} {rest : List Oper} {o : Oper} {a : Act} {w : World} {Q : Exit → Act → World → Prop} (hw : Region.wanted o (yielded ops a.tmps) = true)
    (x : Operand) (ho : o.op = .call { callee := .builtin .len, args := #[x], argTypes := #[54] }) (v : Value) (hx : a.eval x = v) (n : Nat) (hl : ∃ b c, v = .slice b n c)
    (h : wpList Tryd.prog ops Q rest (a.put o.dst (.int .i64 (n : Int))) w) : wpList Tryd.prog ops Q (o :: rest) a w := by
  obtain ⟨b, c, rfl⟩ := hl
  have ht := fSl
  have he : Tryd.prog.underlying 54 = some (.slice (Tryd.prog.elem 54)) := by
    rw [ht]; simp [Program.elem, ht]
  have hr : (Builtin.len_ #[54] o.type #[.slice b n c]).run Tryd.prog w = .ok (.int .i64 (n : Int)) w := by
    rw [run_len_slice (h := he)]
    simp [goInt]
  refine wpList_of_wp hw fun K hK => ?_
  unfold Oper.wp execOp
  simp only [ho, resolve, invoke, Sem.run_bind, Sem.run_pure, Result.andThen_ok, List.map_toArray, List.map_cons, List.map_nil, hx, BigFrame.builtin_len, hr]
  exact hK _ _ h
/-- An element's address, and its cells. -/
theorem wpList_atF {ops : Array Oper} {rest : List Oper} {o : Oper} {a : Act} {w : World} {Q : Exit → Act → World → Prop} (hw : Region.wanted o (yielded ops a.tmps) = true)
    (x y : Operand) (ho : o.op = .indexAddr 54 x y) (v : Value) (hx : a.eval x = v) (k : Nat) (hy : a.eval y = .int .i64 (k : Int)) (B : Nat) (n : Int) (Fs : List (Nat → Bool)) (hl : fls B w v n Fs) (hk : k < Fs.length)
    (h : ∀ b f, b < B → b < w.heap.size → w.rangeAt b f (fam n (Fs[k]?.getD noSet)).toList → wpList Tryd.prog ops Q rest (a.put o.dst (.pointer (some ⟨b, f, none⟩))) w) : wpList Tryd.prog ops Q (o :: rest) a w := by
  rcases hl with ⟨rfl, _⟩ | ⟨b, of, c, rfl, h2, h3, h4⟩
  · simp at hk
  have ht := fSl
  have he : Tryd.prog.underlying 54 = some (.slice (Tryd.prog.elem 54)) := by
    rw [ht]; simp [Program.elem, ht]
  have hE : Tryd.prog.elem 54 = 53 := by simp [Program.elem, ht]
  have hr : (Instr.indexAt 54 (.slice (some ⟨b, of, none⟩) Fs.length c) (.int .i64 (k : Int))).run Tryd.prog w = .ok (.pointer (some ⟨b, of + k * 129, none⟩)) w := by
    rw [run_indexAt_slice (h := he), if_pos (by omega), hE, run_sizeOf' sizeT]
    simp [Addr.add]
  refine wpList_of_wp hw fun K hK => ?_
  unfold Oper.wp execOp
  simp only [ho, hx, hy, Sem.run_bind, Sem.run_pure, hr, Result.andThen_ok]
  refine hK _ _ (h b (of + k * 129) h2 h3 fun j y hj => ?_)
  have hj2 : j < 129 := by
    have := (List.getElem?_eq_some_iff.1 hj).1
    rw [Array.length_toList, fam_size] at this
    exact this
  have hq : k * 129 + j < Fs.length * 129 := by
    have : (k + 1) * 129 ≤ Fs.length * 129 := Nat.mul_le_mul_right _ hk
    omega
  rw [Nat.add_assoc, h4 _ hq, flC_get n Fs k j hk hj2, ← Array.getElem?_toList]
  exact hj
theorem wpList_loadF {ops : Array Oper} {rest : List Oper} {o : Oper} {a : Act} {w : World} {Q : Exit → Act → World → Prop} (hw : Region.wanted o (yielded ops a.tmps) = true) (x : Operand) (ho : o.op = .load 53 x)
    (g off : Nat) (hx : a.eval x = .pointer (some ⟨g, off, none⟩)) (n : Int) (F : Nat → Bool) (hg : w.rangeAt g off (fam n F).toList)
    (h : wpList Tryd.prog ops Q rest (a.put o.dst (.agg (fam n F))) w) : wpList Tryd.prog ops Q (o :: rest) a w := by
  obtain ⟨d, hu, hd⟩ := rowTy_of rowT
  refine wpList_of_wp hw fun _ hK => wp_load_mid 53 x ho g off hx (fam n F).toList d hg hu hd (by rw [Array.length_toList, fam_size]; exact sizeT) ?_
  rw [Array.toArray_toList]
  exact hK _ _ h
/-- One family is appended. -/
theorem wpList_appendF {ops : Array Oper} {rest : List Oper} {o : Oper} {a : Act} {w : World} {Q : Exit → Act → World → Prop} (hgd : o.guard = none) (s x : Operand)
    (ho : o.op = .call { callee := .builtin .append, args := #[s, x], argTypes := #[54, 54] }) (base : Nat) (v : Value) (n : Int) (Fs : List (Nat → Bool)) (hs : a.eval s = v) (hown : ownF w base v n Fs)
    (g : Nat) (F : Nat → Bool) (hx : a.eval x = .slice (some ⟨g, 0, none⟩) 1 1) (hg : famAt 53 w g n F) (hbase : base ≤ w.heap.size) (hlen : Fs.length < 1000000)
    (h : ∀ v' w', ownF w' base v' n (Fs ++ [F]) → Below base w w' → wpList Tryd.prog ops Q rest (a.put o.dst v') w') : wpList Tryd.prog ops Q (o :: rest) a w := by
  obtain ⟨z, hz, hzc⟩ := fIn
  obtain ⟨by_, hby, hbl⟩ := fBy
  obtain ⟨i0, hi, hz0, hz1⟩ : ∃ i, Tryd.prog.info? 53 = some i ∧ i.zero = some z ∧ i.size = 129 := by
    cases hq : Tryd.prog.info? 53 with
    | none => rw [hq] at hz; simp at hz
    | some j => rw [hq] at hz; simp at hz; exact ⟨j, rfl, hz.1, hz.2⟩
  have hz2 : i0.bytes = by_ := by rw [hi] at hby; simpa using hby
  refine wpList_append_own w hgd s x 54 ho base 53 i0 z 129 by_ fSl hi hz0 hz1 hz2 hzc (by decide) v Fs.length (flC n Fs) hs hown ⟨g, 0, none⟩ 1 1 (fam n F).toList hx (by rw [Array.length_toList, fam_size]) ?_ (fam_oneL n F) (by unfold maxLen; omega) ?_ hbase ?_
  · intro j u hj
    rw [Array.getElem?_toList] at hj
    rw [add_at, Nat.zero_add, hp_cell hg]
    exact hj
  · have : (Fs.length + 1) * by_ ≤ 1000000 * 1000 := Nat.mul_le_mul (by omega) hbl
    omega
  · intro v' w' hown' hgrow _
    refine h v' w' ?_ ⟨hgrow.os, hgrow.tape, hgrow.output, hgrow.size, fun k hk => hgrow.block k (by omega) ?_⟩
    · unfold ownF
      rw [flC_app, flC_one, List.length_append]
      exact hown'
    · intro e
      have := (World.ownsRow.lt hown k e.symm).1
      omega
/-! ### How many are counted -/
def cnF (g : (Nat → Bool) → Bool) (Fs : List (Nat → Bool)) : Nat → Nat
  | 0 => 0
  | k + 1 => cnF g Fs k + (if g (Fs[k]?.getD noSet) then 1 else 0)
theorem cnF_next (g : (Nat → Bool) → Bool) (Fs : List (Nat → Bool)) (k : Nat) : cnF g Fs (k + 1) = cnF g Fs k + (if g (Fs[k]?.getD noSet) then 1 else 0) := rfl
theorem cnF_le (g : (Nat → Bool) → Bool) (Fs : List (Nat → Bool)) : ∀ k, cnF g Fs k ≤ k
  | 0 => Nat.le_refl 0
  | k + 1 => by
    have := cnF_le g Fs k
    rw [cnF_next]
    split <;> omega
attribute [local irreducible] p2 low memB risB
set_option maxHeartbeats 2000000 in
theorem countWhereF_c (u : Value) (n : Int) (Fs : List (Nat → Bool)) (kf : Nat) (pre caps : Array Value) (g : (Nat → Bool) → Bool) (w : World) (hch : fls w.heap.size w u n Fs) (hcl : Fs.length < 1000000000) (hk : enters Tryd.prog kf)
    (hg : ∀ (k : Nat) (w1 : World), k < Fs.length → Below w.heap.size w w1 → Calls Tryd.prog kf (pre ++ #[.agg (fam n (Fs[k]?.getD noSet))] ++ caps) w1 fun e w2 => e = .returned (.bool (g (Fs[k]?.getD noSet))) ∧ Below w1.heap.size w1 w2) :
    Calls Tryd.prog 31 #[u, .func (.func kf) pre caps] w fun e w' => e = .returned (.int .i64 (cnF g Fs Fs.length : Int)) ∧ Below w.heap.size w w' := by
  have hk1 : ∀ (args : Array Value) (w : World), Sem.run Tryd.prog (callFunc kf args) w = .ok (.enter kf args) w := hk
  obtain ⟨ua, uc, hu⟩ := hch.shape
  subst hu
  have HCH := hide hch
  have HG := hide hg
  clear hch hg
  go_enter Tryd.func31, Tryd.ntmps31
  go_wp2_with fail
  go_loopw [5, 10] (fun cv iv wr => ∃ k : Nat, k ≤ Fs.length ∧ cv = .int .i64 (cnF g Fs k : Int) ∧ iv = .int .i64 (k : Int) ∧ Hid (Below w.heap.size w wr)) (fun _ iv _ => Fs.length - (intOf iv).toNat)
  case atStart => exact ⟨0, by omega, rfl, rfl, Below.refl _ _⟩
  case round =>
    obtain ⟨k, hk, rfl, rfl, HB⟩ := hrel
    have HCW := hide (HCH.out.below HB.out (Nat.le_refl _))
    have hsz := HB.out.size
    have hle := cnF_le g Fs k
    by_cases hlt : k < Fs.length
    · have hlt' : (k : Int) < (Fs.length : Int) := by omega
      have HNX := hide (cnF_next g Fs k)
      have HA := hide (fun w1 h => HG.out k w1 hlt h)
      generalize hF : Fs[k]?.getD noSet = F at HNX HA
      have HF := hide hF
      clear hF
      generalize hd : g F = d at HNX HA
      clear hd
      generalize cnF g Fs k = c at *
      have HN1 := hide (famAt.new 53 wr 0 noSet)
      have HK1 := hide (HN1.out.row n F)
      have HB1 := hide (bl_row (HB.out.alloc hsz (.cells (fam 0 noSet) 53)) (show w.heap.size ≤ wr.heap.size by omega) (fam n F))
      cases d
      all_goals
        go_wp2_with (first
          | (refine wpList_atF rfl (.tmp _) (.tmp _) rfl _ rfl k rfl w.heap.size n Fs HCW.out hlt ?_; intro b f hb1 hb2 hrg; rw [HF.out] at hrg)
          | (refine wpList_loadF rfl (.tmp 12) rfl b f rfl n F hrg ?_)
          | (refine wpList_alloc_fam zeroT rfl rfl _ rfl ?_)
          | (refine wpList_store_fam sizeT rfl (.tmp 7) (.tmp _) rfl wr.heap.size _ _ rfl rfl _ _ HN1.out ?_)
          | (refine wpList_load_fam rowT sizeT rfl (.tmp 7) rfl wr.heap.size rfl n F HK1.out ?_))
        refine (HA.out _ HB1.out).mono ?_
        rintro e w4 ⟨rfl, hb4⟩
        have HB4 := hide (HB1.out.trans (hb4.mono (by simp [World.setRow]; omega)))
        clear hb4
        go_wp2
        go_roundw
        case rel => exact ⟨k + 1, by omega, by rw [HNX.out]; go_num, by go_num, HB4⟩
        case measure => (simp [intOf] <;> omega)
    · have HE := hide (show k = Fs.length by omega)
      have hlt' : ¬ ((k : Int) < (Fs.length : Int)) := by omega
      go_wp2
      go_ret
      exact ⟨ret_i (by rw [HE.out]), HB.out⟩
end Go.Proofs.YtcokdhmccokkiaaDoor
