/- Contracts: a slice appended to one's own; a number put into an increasing list. -/
import Derived.Test.YtcokdhmccokkiaaDoorFam
import Derived.Test.YtcokdhmccokkiaaDoorSpc
namespace Go.Proofs.YtcokdhmccokkiaaDoor
open Go.RowKit
set_option maxRecDepth 100000
theorem add_at (b o j : Nat) : (⟨b, o, none⟩ : Addr).add j = ⟨b, o + j, none⟩ := by
  unfold Addr.add
  split
  · rename_i h; simp_all
  · rfl
section
variable {P : Program}
/-- All numbers of a slice are appended to one of one's own. -/
theorem wpList_appendN {t I : TypeId} (ht : P.underlying t = some (.slice I)) (hI : (P.info? I).map (fun i => (i.zero, i.size, i.bytes)) = some (some (.int .i64 0), 1, 8))
    {ops : Array Oper} {rest : List Oper} {o : Oper} {a : Act} {w : World} {Q : Exit → Act → World → Prop} (hgd : o.guard = none) (s x : Operand)
    (ho : o.op = .call { callee := .builtin .append, args := #[s, x], argTypes := #[t, t] }) (base : Nat) (v : Value) (l : List Int) (hs : a.eval s = v) (hown : own I w base v l)
    (u : Value) (m : List Int) (B : Nat) (hx : a.eval x = u) (hu : ints B w u m) (hbase : base ≤ w.heap.size) (hlen : l.length + m.length < 1000000000)
    (h : ∀ v' w', own I w' base v' (l ++ m) → Below base w w' → wpList P ops Q rest (a.put o.dst v') w') : wpList P ops Q (o :: rest) a w := by
  obtain ⟨i0, hi, hz0, hz1, hz2⟩ := info_parts hI
  have key : ∀ (ad : Addr) (c : Nat), u = .slice (some ad) m.length c → (∀ (j : Nat) (y : Value), (m.map (Value.int .i64))[j]? = some y → w.cell? (ad.add j) = some y) → wpList P ops Q (o :: rest) a w := by
    intro ad c hu2 hcells
    refine wpList_append_own w hgd s x t ho base I i0 (.int .i64 0) 1 8 ht hi hz0 hz1 hz2 rfl (by decide) v l.length _ hs hown ad m.length c (m.map (Value.int .i64)) (by rw [hx, hu2]) (by simp) hcells ?_ (by unfold maxLen; omega) (by omega) hbase ?_
    · intro y hy
      obtain ⟨z, _, rfl⟩ := List.mem_map.1 hy
      rfl
    · intro v' w' hown' hgrow _
      refine h v' w' ?_ ?_
      · simpa [own] using hown'
      · refine ⟨hgrow.os, hgrow.tape, hgrow.output, hgrow.size, fun k hk => hgrow.block k (by omega) ?_⟩
        intro e
        have := (World.ownsRow.lt hown k e.symm).1
        omega
  rcases hu with ⟨rfl, ao, c, rfl⟩ | ⟨b, of, c, rfl, h2, h3, h4⟩
  · cases ao with
    | some ad => exact key ad c rfl (fun j y hj => by simp at hj)
    | none =>
      have hr : (Builtin.append_ #[t, t] o.type #[v, .slice none 0 c]).run P w = .ok v w := by
        rcases hown.2 with ⟨rfl, h0⟩ | ⟨g, cap, cur, rfl, _, _, hnc, _⟩
        · simp [Builtin.append_, run_underlying ht, sizeOf, typeInfo, hi, Builtin.lenOf, Builtin.firstCells]
        · simp [Builtin.append_, run_underlying ht, sizeOf, typeInfo, hi, Builtin.lenOf, Builtin.firstCells, hnc, storeCells]
      have hh := h v w (by simpa using hown) (Below.refl _ _)
      refine wpList_plain hgd fun K hK => ?_
      unfold Oper.wp execOp
      simp only [ho, resolve, invoke, builtin, Sem.run_bind, Sem.run_pure, Result.andThen_ok, List.map_toArray, List.map_cons, List.map_nil, hs, hx, hr]
      exact hK _ _ hh
  · refine key ⟨b, of, none⟩ c rfl fun j y hj => ?_
    rw [List.getElem?_map] at hj
    rcases Nat.lt_or_ge j m.length with hlt | hge
    · rw [List.getElem?_eq_getElem hlt] at hj
      simp at hj
      subst hj
      have := h4 j hlt
      rw [List.getElem?_eq_getElem hlt] at this
      rw [add_at]
      simpa using this
    · rw [List.getElem?_eq_none hge] at hj; cases hj
/-- A new slice of no numbers. -/
theorem own_empty (I : TypeId) (w : World) : own I (w.alloc (.cells #[] I)) w.heap.size (.slice (some ⟨w.heap.size, 0, none⟩) 0 0) [] :=
  ⟨by simp, .inr ⟨w.heap.size, 0, #[], rfl, Nat.le_refl _, hp_last _ _, Nat.le_refl _, by unfold maxLen; omega, by simp, by simp⟩⟩
end
theorem drop_own {I : TypeId} {w : World} {base g : Nat} {c : Nat} {n : Nat} {l : List Int} (h : own I w base (.slice (some ⟨g, 0, none⟩) n c) l) (k : Nat) (_ : k ≤ n) (c' : Nat) : ints w.heap.size w (.slice (some ⟨g, k, none⟩) (n - k) c') (l.drop k) := by
  obtain ⟨a, c2, hv⟩ := h.shape
  have hn : n = l.length := by injection hv
  subst hn
  refine .inr ⟨g, k, c', by simp, h.blockLt g rfl, h.blockLt g rfl, fun j hj => ?_⟩
  simp at hj
  have := (h.cell (g := g) rfl (k + j) (by omega)).1
  rw [this, List.getElem?_drop]
theorem take_own {I : TypeId} {w : World} {base g : Nat} {c : Nat} {n : Nat} {l : List Int} (h : own I w base (.slice (some ⟨g, 0, none⟩) n c) l) (k : Nat) (hk : k ≤ n) (c' : Nat) : ints w.heap.size w (.slice (some ⟨g, 0, none⟩) k c') (l.take k) := by
  obtain ⟨a, c2, hv⟩ := h.shape
  have hn : n = l.length := by injection hv
  subst hn
  have hl : (l.take k).length = k := by simp; omega
  refine .inr ⟨g, 0, c', by rw [hl], h.blockLt g rfl, h.blockLt g rfl, fun j hj => ?_⟩
  rw [hl] at hj
  have := (h.cell (g := g) rfl j (by omega)).1
  rw [Nat.zero_add, this, List.getElem?_take, if_pos hj]

set_option maxHeartbeats 1000000 in
theorem l1Own_c (v : Value) (l : List Int) (w : World) (hl : ints w.heap.size w v l) (hlen : l.length < 1000000000) :
    Calls Tryd.prog 51 #[v] w fun e w' => ∃ v', e = .returned v' ∧ own 3 w' w.heap.size v' l ∧ Below w.heap.size w w' := by
  have HL := hide (hl.alloc (.cells #[] 3))
  have HE := hide (own_empty 3 w)
  have H0 := hide ((Below.refl w.heap.size w).alloc (Nat.le_refl _) (.cells #[] 3))
  clear hl
  go_enter Tryd.func51, Tryd.ntmps51
  go_wp2_with (at_builtin; refine wpList_appendN sliceT intI rfl _ _ rfl w.heap.size _ [] rfl HE.out v l w.heap.size rfl HL.out (by simp) (by simp; omega) ?_; intro v' w' ho' hb')
  have HO := hide ho'
  have HB := hide (H0.out.trans hb')
  clear ho' hb'
  go_wp2
  go_ret
  exact ⟨_, rfl, by simpa using HO.out, HB.out⟩

/-- n put behind A and ahead of B. -/
def putIn (A B : List Int) (n : Int) : List Int := if B.head? = some n then A ++ B else A ++ n :: B

set_option maxHeartbeats 2000000 in
theorem l1Put_c (v : Value) (A B : List Int) (n : Int) (w : World) (base : Nat) (hl : own 3 w base v (A ++ B)) (hb : base ≤ w.heap.size) (hlen : (A ++ B).length < 900000000) (hA : ∀ a ∈ A, a < n) (hB : ∀ b ∈ B, n ≤ b) :
    Calls Tryd.prog 78 #[v, .int .i64 n] w fun e w' => ∃ v', e = .returned v' ∧ own 3 w' base v' (putIn A B n) ∧ Below w.heap.size w w' := by
  have HL := hide hl
  have HI := hide hl.ints
  have hal : A.length ≤ (A ++ B).length := by simp
  have hbl : A.length + B.length < 900000000 := by simpa using hlen
  have HAT := hide (fun j (h : j < A.length) => show (A ++ B)[j]?.getD 0 < n by
    rw [List.getElem?_append_left h, List.getElem?_eq_getElem h]
    exact hA _ (List.getElem_mem h))
  have HBT := hide (fun (h : A.length < (A ++ B).length) => show ∃ b, B.head? = some b ∧ (A ++ B)[A.length]?.getD 0 = b ∧ n ≤ b by
    cases B with
    | nil => simp at h
    | cons b B => exact ⟨b, rfl, by simp, hB b (by simp)⟩)
  have HN := hide (fun (h : A.length = (A ++ B).length) => show B = [] by
    cases B with
    | nil => rfl
    | cons b B => simp at h)
  have HTK := hide (show (A ++ B).take A.length = A by simp)
  have HDR := hide (show (A ++ B).drop A.length = B by simp)
  clear hl hA hB
  generalize hL : A ++ B = L at HL HI hal HAT HBT HN HTK HDR hlen
  have HLL := hide hL
  clear hL
  go_enter Tryd.func78, Tryd.ntmps78
  go_wp2_with fail
  go_loop [5] (fun i => ∃ k : Nat, k ≤ A.length ∧ i = .int .i64 k) (fun i => A.length - (intOf i).toNat)
  case atStart => exact ⟨0, Nat.zero_le _, rfl⟩
  case round =>
    obtain ⟨k, hk, rfl⟩ := hrel
    by_cases hlt : k < A.length
    · have h1 := HAT.out k hlt
      have hkl : k < L.length := by omega
      generalize hx : L[k]?.getD 0 = x at h1
      have HX := hide hx
      clear hx
      go_wp2_with (first
        | (refine wpList_len sliceT rfl (.tmp _) rfl v rfl w.heap.size L HI.out ?_)
        | (refine wpList_at sliceT intS rfl (.tmp _) (.tmp _) rfl v rfl k rfl w.heap.size L HI.out hkl ?_; intro ad hcell hblk; rw [HX.out] at hcell))
      go_round
      case rel => exact ⟨k + 1, by omega, by go_num⟩
      case measure => simp [intOf]; omega
    · have hke : k = A.length := by omega
      subst hke
      clear hk hlt
      have HE := hide (own_empty 3 w)
      have H0 := hide ((Below.refl w.heap.size w).alloc (Nat.le_refl _) (.cells #[] 3))
      rcases HL.out.2 with ⟨hv, h0⟩ | ⟨g, cap, cur, hv, hg1, hg2, hcap, hg3, hg4, hg5⟩
      · have hA0 : A = [] := List.eq_nil_of_length_eq_zero (by omega)
        subst hv hA0
        have hL0 : L = [] := List.eq_nil_of_length_eq_zero h0
        subst hL0
        have HB0 := hide (HN.out rfl)
        clear hal h0 hlen
        go_wp2_with (first
          | (refine wpList_len sliceT rfl (.tmp _) rfl _ rfl w.heap.size [] HI.out ?_)
          | (at_builtin; refine wpList_appendN sliceT intI rfl (.tmp 43) (.tmp 46) rfl w.heap.size _ _ rfl HO2.out _ [] w.heap.size rfl (ints_nil _ _ _ _) (by omega) (by simp) ?_; intro v3 w3 ho3 hb3; have HO3 := hide ho3; have HB3 := hide (HB2.out.trans hb3); clear ho3 hb3)
          | (at_builtin; refine wpList_append1 sliceT intI rfl (.tmp 39) (.tmp 41) rfl w.heap.size _ _ rfl (HO1.out.alloc _) _ n rfl (by simp [go_sem]) (by simp; omega) (by simp; try omega) ?_; intro v2 w2 ho2 hb2; have HO2 := hide ho2; have HB2 := hide ((HB1.out.alloc (by omega) _).trans hb2); have hz2 := hb2.size; simp at hz2; clear ho2 hb2)
          | (at_builtin; refine wpList_appendN sliceT intI rfl (.tmp 34) (.tmp 37) rfl w.heap.size _ [] rfl HE.out _ [] w.heap.size rfl (ints_nil _ _ _ _) (by simp) (by simp; try omega) ?_; intro v1 w1 ho1 hb1; have HO1 := hide ho1; have HB1 := hide (H0.out.trans hb1); have hz1 := hb1.size; simp at hz1; clear ho1 hb1))
        go_ret
        refine ⟨_, rfl, ?_, HB3.out⟩
        rw [HB0.out]
        exact HO3.out.mono hb
      · subst hv
        have hne : A.length < L.length ∨ A.length = L.length := by omega
        have HT := hide ((take_own HL.out A.length (by omega) cap).alloc (.cells #[] 3))
        rw [HTK.out] at HT
        clear hg1 hg2 hg3 hg4 hg5
        rcases hne with hlt | heq
        · obtain ⟨b, hb1, hb2, hb3⟩ := HBT.out hlt
          have HX := hide hb2
          have HH := hide hb1
          clear hb1 hb2
          by_cases hbn : b = n
          · subst hbn
            clear hb3
            go_wp2_with (first
              | (refine wpList_len sliceT rfl (.tmp _) rfl _ rfl w.heap.size L HI.out ?_)
              | (refine wpList_at sliceT intS rfl (.tmp _) (.tmp _) rfl _ rfl A.length rfl w.heap.size L HI.out hlt ?_; intro ad hcell hblk; rw [HX.out] at hcell))
            go_ret
            refine ⟨_, rfl, ?_, Below.refl _ _⟩
            rw [putIn, if_pos HH.out, HLL.out]
            exact HL.out
          · have hbn1 : n < b := by omega
            have hbn2 : ¬ b < n := by omega
            have HNB := hide (show putIn A B n = A ++ n :: B by rw [putIn, if_neg (by rw [HH.out]; simp; omega)])
            have hq : (b == n) = false := by simpa using hbn
            clear hb3 hbn
            go_wp2_with (first
              | (refine wpList_len sliceT rfl (.tmp _) rfl _ rfl w.heap.size L HI.out ?_)
              | (refine wpList_at sliceT intS rfl (.tmp _) (.tmp _) rfl _ rfl A.length rfl w.heap.size L HI.out hlt ?_; intro ad hcell hblk; rw [HX.out] at hcell)
              | (at_builtin; have HD := hide (drop_own (HL.out.kept HB2.out) A.length (by omega) (cap - A.length)); rw [HDR.out] at HD; refine wpList_appendN sliceT intI rfl (.tmp 43) (.tmp 46) rfl w.heap.size _ _ rfl HO2.out _ B _ rfl HD.out (by omega) (by simp; try omega) ?_; intro v3 w3 ho3 hb3; have HO3 := hide ho3; have HB3 := hide (HB2.out.trans hb3); clear ho3 hb3)
              | (at_builtin; refine wpList_append1 sliceT intI rfl (.tmp 39) (.tmp 41) rfl w.heap.size _ _ rfl (HO1.out.alloc _) _ n rfl (by simp [go_sem]) (by simp; omega) (by simp; try omega) ?_; intro v2 w2 ho2 hb2; have HO2 := hide ho2; have HB2 := hide ((HB1.out.alloc (by omega) _).trans hb2); have hz2 := hb2.size; simp at hz2; clear ho2 hb2)
              | (at_builtin; refine wpList_appendN sliceT intI rfl (.tmp 34) (.tmp 37) rfl w.heap.size _ [] rfl HE.out _ A w.heap.size rfl HT.out (by simp) (by simp; try omega) ?_; intro v1 w1 ho1 hb1; have HO1 := hide ho1; have HB1 := hide (H0.out.trans hb1); have hz1 := hb1.size; simp at hz1; clear ho1 hb1))
            go_ret
            refine ⟨_, rfl, ?_, HB3.out⟩
            rw [HNB.out, show A ++ n :: B = [] ++ A ++ [n] ++ B by simp]
            exact HO3.out.mono hb
        · have HB0 := hide (HN.out heq)
          have hle : ¬ A.length < L.length := by omega
          have hsub : L.length - A.length = 0 := by omega
          clear heq
          have HNB := hide (show putIn A B n = A ++ n :: B by rw [putIn, HB0.out]; simp)
          go_wp2_with (first
            | (refine wpList_len sliceT rfl (.tmp _) rfl _ rfl w.heap.size L HI.out ?_)
            | (at_builtin; refine wpList_appendN sliceT intI rfl (.tmp 43) (.tmp 46) rfl w.heap.size _ _ rfl HO2.out _ [] w.heap.size rfl (ints_nil _ _ _ _) (by omega) (by simp; try omega) ?_; intro v3 w3 ho3 hb3; have HO3 := hide ho3; have HB3 := hide (HB2.out.trans hb3); clear ho3 hb3)
            | (at_builtin; refine wpList_append1 sliceT intI rfl (.tmp 39) (.tmp 41) rfl w.heap.size _ _ rfl (HO1.out.alloc _) _ n rfl (by simp [go_sem]) (by simp; omega) (by simp; try omega) ?_; intro v2 w2 ho2 hb2; have HO2 := hide ho2; have HB2 := hide ((HB1.out.alloc (by omega) _).trans hb2); have hz2 := hb2.size; simp at hz2; clear ho2 hb2)
            | (at_builtin; refine wpList_appendN sliceT intI rfl (.tmp 34) (.tmp 37) rfl w.heap.size _ [] rfl HE.out _ A w.heap.size rfl HT.out (by simp) (by simp; try omega) ?_; intro v1 w1 ho1 hb1; have HO1 := hide ho1; have HB1 := hide (H0.out.trans hb1); have hz1 := hb1.size; simp at hz1; clear ho1 hb1))
          all_goals
            go_ret
            refine ⟨_, rfl, ?_, HB3.out⟩
            rw [HNB.out, HB0.out, show A ++ n :: [] = [] ++ A ++ [n] ++ [] by simp]
            exact HO3.out.mono hb
end Go.Proofs.YtcokdhmccokkiaaDoor
