/- Contracts: ParseSpace, the specification's. -/
import Derived.Test.YtdhhcgamhihpjaaDoorTc
import Derived.Test.YtdhhcgamhihpjaaDoorTb
import Derived.Test.YtdhhcgamhihpjaaDoorSq
import Derived.Test.YtdhhcgamhihpjaaDoorAx
import Derived.Test.YtdhhcgamhihpjaaDoorNm
namespace Go.Proofs.YtdhhcgamhihpjaaDoor
open Go.RowKit
set_option maxRecDepth 100000
set_option linter.unusedSimpArgs false
/-- v is a slice of texts, whose block lies in A .. B. -/
def texts (A B : Nat) (w : World) (v : Value) (L : List (List UInt8)) : Prop :=
  ∃ b o c, v = .slice (some ⟨b, o, none⟩) L.length c ∧ (A ≤ b ∧ b < B) ∧ b < w.heap.size ∧ ∀ j, j < L.length → w.cell? ⟨b, o + j, none⟩ = some (strV (L[j]?.getD []))
theorem texts.below {A B B' : Nat} {w w' : World} {v : Value} {L : List (List UInt8)} (h : texts A B w v L) (hb : Below B' w w') (hB : B ≤ B') : texts A B w' v L := by
  obtain ⟨b, o, c, h1, h2, h3, h4⟩ := h
  exact ⟨b, o, c, h1, h2, Nat.lt_of_lt_of_le h3 hb.size, fun j hj => (hb.cell (p := ⟨b, o + j, none⟩) (by show b < B'; omega)).trans (h4 j hj)⟩
theorem texts.setLow {A B : Nat} {w : World} {v : Value} {L : List (List UInt8)} (h : texts A B w v L) (g i : Nat) (hg : g < A) (u : Value) : texts A B (w.setCell ⟨g, i, none⟩ u) v L := by
  obtain ⟨b, o, c, h1, h2, h3, h4⟩ := h
  refine ⟨b, o, c, h1, h2, by simpa [World.setCell] using h3, fun j hj => ?_⟩
  rw [← h4 j hj]
  simp only [World.cell?]
  rw [hp_setO w ⟨g, i, none⟩ b u (by show b ≠ g; omega)]
theorem ownT.texts {w : World} {base : Nat} {v : Value} {L : List (List UInt8)} (h : ownT w base v L) (h0 : 0 < L.length) : texts base w.heap.size w v L := by
  obtain ⟨g, c, h1, h2, _, h4⟩ := h.cells h0
  have h5 := h.lt g (by rw [h1]; rfl)
  refine ⟨g, 0, c, h1, ⟨h5.1, h2⟩, h2, fun j hj => h4 j ⟨(L[j]?.getD []).toArray⟩ ?_⟩
  rw [List.getElem?_map, List.getElem?_eq_getElem hj]
  rfl
theorem texts.shape {A B : Nat} {w : World} {v : Value} {L : List (List UInt8)} (h : texts A B w v L) : ∃ a c, v = .slice a L.length c := by
  obtain ⟨b, o, c, h1, _⟩ := h
  exact ⟨_, _, h1⟩
section
variable {P : Program}
theorem wpList_lenT {t I : TypeId} (ht : P.underlying t = some (.slice I)) {ops : Array Oper} {rest : List Oper} {o : Oper} {a : Act} {w : World} {Q : Exit → Act → World → Prop} (hw : Region.wanted o (yielded ops a.tmps) = true)
    (x : Operand) (ho : o.op = .call { callee := .builtin .len, args := #[x], argTypes := #[t] }) (v : Value) (hx : a.eval x = v) (A B : Nat) (L : List (List UInt8)) (hl : texts A B w v L)
    (h : wpList P ops Q rest (a.put o.dst (.int .i64 (L.length : Int))) w) : wpList P ops Q (o :: rest) a w := by
  obtain ⟨b, c, rfl⟩ := hl.shape
  have he : P.underlying t = some (.slice (P.elem t)) := by
    rw [ht]; simp [Program.elem, ht]
  have hr : (Builtin.len_ #[t] o.type #[.slice b L.length c]).run P w = .ok (.int .i64 (L.length : Int)) w := by
    rw [run_len_slice (h := he)]
    simp [goInt]
  refine wpList_of_wp hw fun K hK => ?_
  unfold Oper.wp execOp
  simp only [ho, resolve, invoke, Sem.run_bind, Sem.run_pure, Result.andThen_ok, List.map_toArray, List.map_cons, List.map_nil, hx, BigFrame.builtin_len, hr]
  exact hK _ _ h
theorem wpList_atT {t I : TypeId} (ht : P.underlying t = some (.slice I)) (hI : (P.info? I).map (·.size) = some 1) {ops : Array Oper} {rest : List Oper} {o : Oper} {a : Act} {w : World} {Q : Exit → Act → World → Prop} (hw : Region.wanted o (yielded ops a.tmps) = true)
    (x y : Operand) (ho : o.op = .indexAddr t x y) (v : Value) (hx : a.eval x = v) (i : Int) (hy : a.eval y = .int .i64 i) (k : Nat) (hik : i = (k : Int)) (A B : Nat) (L : List (List UInt8)) (hl : texts A B w v L) (hk : k < L.length)
    (h : ∀ (ad : Addr), w.cell? ad = some (.string ⟨(L[k]?.getD []).toArray⟩) → wpList P ops Q rest (a.put o.dst (.pointer (some ad))) w) : wpList P ops Q (o :: rest) a w := by
  subst hik
  obtain ⟨b, of, c, rfl, h2, h3, h4⟩ := hl
  have he : P.underlying t = some (.slice (P.elem t)) := by
    rw [ht]; simp [Program.elem, ht]
  have hE : P.elem t = I := by simp [Program.elem, ht]
  have hs : (sizeOf I).run P w = .ok 1 w := by
    cases hq : P.info? I with
    | none => simp [hq] at hI
    | some j =>
      have : j.size = 1 := by simpa [hq] using hI
      simp [sizeOf, typeInfo, hq, this]
  have hr : (Instr.indexAt t (.slice (some ⟨b, of, none⟩) L.length c) (.int .i64 (k : Int))).run P w = .ok (.pointer (some ⟨b, of + k, none⟩)) w := by
    rw [run_indexAt_slice (h := he), if_pos (by omega), hE, hs]
    simp [Addr.add]
  refine wpList_of_wp hw fun K hK => ?_
  unfold Oper.wp execOp
  simp only [ho, hx, hy, Sem.run_bind, Sem.run_pure, hr, Result.andThen_ok]
  exact hK _ _ (h ⟨b, of + k, none⟩ (h4 k hk))
end
theorem sizeStr : (Tryd.prog.info? 9).map (·.size) = some 1 := by kernel_rfl
theorem ent_l1Read : enters Tryd.prog 36 := enters_of Tryd.func36 (by kernel_rfl) (by kernel_rfl)
attribute [local irreducible] p2 low memB risB
set_option maxHeartbeats 4000000 in
theorem spParse_c (S : List UInt8) (w : World) (hS : S.length ≤ 2000000) :
    Calls Tryd.prog 17 #[.string ⟨S.toArray⟩] w fun e w' => ∃ v', e = .returned (.tuple #[.agg #[.int .i64 (psN S), v'], .bool (psOk S)]) ∧ own 3 w' w.heap.size v' (psL S) ∧ Below w.heap.size w w' := by
  have HR0 := hide (hp_last w (.cells #[.int .i64 0, .slice none 0 0] 24))
  have H0 := hide ((Below.refl w.heap.size w).alloc (Nat.le_refl _) (.cells #[.int .i64 0, .slice none 0 0] 24))
  have HZ0 := hide (show (w.alloc (.cells #[.int .i64 0, .slice none 0 0] 24)).heap.size = w.heap.size + 1 by simp)
  have HS1 := hide (fun (w' : World) => l1Split_c S 58 w' hS)
  have hs0 := spl_ne 58 S
  by_cases h2 : (spl 58 S).length = 2
  · obtain ⟨x, y, hxy⟩ : ∃ x y, spl 58 S = [x, y] := by
      match h : spl 58 S, h2 with
      | [x, y], _ => exact ⟨x, y, rfl⟩
    have h2b : (((spl 58 S).length : Int) != 2) = false := by rw [h2]; rfl
    have hpl := spl_piece_le 58 S
    rw [hxy] at HS1 h2b hpl
    have HXY := hide hxy
    have hxl := hpl x (by simp)
    have hyl := hpl y (by simp)
    have HSy := hide (fun (w' : World) => l1Split_c y 44 w' (by omega))
    have HRx := hide (fun (w' : World) => l1Read_c x w' (by omega))
    have hyp : 0 < (spl 44 y).length := by
      cases h : spl 44 y with
      | nil => exact absurd h (spl_ne 44 y)
      | cons _ _ => simp
    have HYP := hide (spl_piece_le 44 y)
    have hylen := spl_length_le 44 y
    have hp : 0 < [x, y].length := by simp
    clear hpl hs0 hxy h2
    go_enter Tryd.func17, Tryd.ntmps17
    go_wp2_with (first
      | (go_at_call 35; refine (HS1.out _).mono ?_; rintro e w1 ⟨v1, rfl, ho1, hb1⟩; have HT1 := hide (ho1.texts hp); have hr1 := (hb1.block w.heap.size (by rw [HZ0.out]; omega)).trans HR0.out; have HR1 := hide hr1; have HB1 := hide (H0.out.trans (hb1.mono (by rw [HZ0.out]; omega))); have hz1 := hb1.size; rw [HZ0.out] at hz1; clear ho1 hb1 hr1 HS1)
      | (refine wpList_lenT sliceStr rfl (.tmp 10) rfl _ rfl _ _ [x, y] HT1.out ?_)
      | (refine wpList_atT sliceStr sizeStr rfl (.tmp 14) (.const _) rfl _ rfl 0 rfl 0 rfl _ _ [x, y] HT1.out (by simp) ?_; intro ad0 hc0; have hcell0 : w1.cell? ad0 = some (.string ⟨x.toArray⟩) := hc0; clear hc0)
      | (go_at_call 36; refine (HRx.out _).mono ?_; rintro e w' ⟨rfl, rfl⟩)
      | (refine wpList_atT sliceStr sizeStr rfl (.tmp 19) (.const _) rfl _ rfl 1 rfl 1 rfl _ _ [x, y] (HT1.out.below ((Below.refl _ _).alloc (Nat.le_refl _) (.cells #[.int .i64 (rdI x), .slice none 0 0] 24)) (Nat.le_refl _)) (by simp) ?_; intro ad1 hc1; have hcell1 : (w1.alloc (.cells #[.int .i64 (rdI x), .slice none 0 0] 24)).cell? ad1 = some (.string ⟨y.toArray⟩) := hc1; clear hc1 hcell0; have HZ2 := hide (show (w1.alloc (.cells #[.int .i64 (rdI x), .slice none 0 0] 24)).heap.size = w1.heap.size + 1 by simp))
      | (go_at_call 35; refine (HSy.out _).mono ?_; rintro e w3 ⟨v3, rfl, ho3, hb3⟩; have HT3 := hide (ho3.texts hyp); have HC3 := hide ((hb3.block w1.heap.size (by rw [HZ2.out]; omega)).trans (hp_last w1 (.cells #[.int .i64 (rdI x), .slice none 0 0] 24))); have hz3 := hb3.size; rw [HZ2.out] at hz3 HT3; have HB3 := hide (((Below.refl w1.heap.size w1).alloc (Nat.le_refl _) (.cells #[.int .i64 (rdI x), .slice none 0 0] 24)).trans (hb3.mono (by rw [HZ2.out]; omega))); clear ho3 hb3 hcell1)
      | (refine wpList_lenT sliceStr rfl (.tmp 22) rfl _ rfl _ _ (spl 44 y) HT3.out ?_))
    have HN2 := hide (fun h => ps_no (spec_no2 HXY.out h))
    have HN3 := hide (fun h => ps_no (spec_no3 HXY.out h))
    have HYS := hide (fun h => ps_yes (s := S) (n := rdI x) (l := (spl 44 y).map rdI) h)
    generalize hY : spl 44 y = Y at HT3 hyp HYP hylen HN2 HN3 HYS ⊢
    clear hY
    generalize rdI x = I at HC3 HN3 HYS ⊢
    go_loopw [24] (fun iv wr => ∃ (k : Nat) (v' : Value), k ≤ Y.length ∧ k ≤ 128 ∧ iv = .int .i64 (k : Int) ∧ Hid (wr.heap[w1.heap.size]? = some (.cells #[.int .i64 I, v'] 24)) ∧ Hid (own 3 wr w3.heap.size v' ((Y.take k).map rdI)) ∧ Hid (texts (w1.heap.size + 1) w3.heap.size wr v3 Y) ∧ w3.heap.size ≤ wr.heap.size ∧ Hid (Below w1.heap.size w1 wr)) (fun iv _ => Y.length - (intOf iv).toNat)
    case atStart => exact ⟨0, _, Nat.zero_le _, by omega, rfl, HC3, own_nil _ _ _, HT3, Nat.le_refl _, HB3⟩
    case round =>
      obtain ⟨k, v', hk, hk128, rfl, HC, HO, HTX, hsz, HB⟩ := hrel
      clear HC3 HT3 HB3
      have c0 := cells_at0 HC.out
      have c1 := cells_at1 HC.out
      have hr := (HB.out.block w.heap.size (by omega)).trans HR1.out
      have HBW := hide (HB1.out.trans (HB.out.mono (by omega)))
      have hml : ((Y.take k).map rdI).length = k := by rw [List.length_map, List.length_take]; omega
      obtain ⟨va, vc, hv⟩ := HO.out.shape
      rw [hml] at hv
      subst hv
      by_cases hlt : k < Y.length
      · have hlt2 : (k : Int) < (Y.length : Int) := by omega
        have HTK := hide (show (Y.take (k + 1)).map rdI = (Y.take k).map rdI ++ [rdI (Y[k]?.getD [])] by rw [List.take_add_one, List.map_append, List.getElem?_eq_getElem hlt]; rfl)
        have hzy := HYP.out (Y[k]?.getD []) (by rw [List.getElem?_eq_getElem hlt]; exact List.getElem_mem hlt)
        generalize hzz : Y[k]?.getD [] = z at HTK hzy
        have HZZ := hide hzz
        clear hzz
        generalize (Y.take k).map rdI = M at HO HTK hml
        by_cases h128 : k = 128
        · have hb : ((k : Int) == 128) = true := by rw [h128]; rfl
          have HN := hide (HN2.out (by omega))
          obtain ⟨q0, q1, q2, q3⟩ := zero_slotsQ hr
          go_wp2_with (first
            | (refine wpList_atT sliceStr sizeStr rfl (.tmp 22) (.tmp 24) rfl _ rfl _ rfl k rfl _ _ Y HTX.out hlt ?_; intro ad hc; rw [HZZ.out] at hc))
          refine bodyPost_ret (v := .tuple #[.agg #[.int .i64 0, .slice none 0 0], .bool false]) (by simp [results, Tryd.results17, go_sem, q0, q1]) rfl ⟨_, by rw [HN.out.1, HN.out.2.2], by rw [HN.out.2.1]; exact own_nil _ _ _, ?_⟩
          first | exact HBW.out | exact (HBW.out.setCell (by show w.heap.size ≤ w.heap.size; omega) _).setCell (by show w.heap.size ≤ w.heap.size; omega) _
        · have hb : ((k : Int) == 128) = false := by simp; omega
          have HRz := hide (fun (w' : World) => l1Read_c z w' (by omega))
          go_wp2_with (first
            | (refine wpList_atT sliceStr sizeStr rfl (.tmp 22) (.tmp 24) rfl _ rfl _ rfl k rfl _ _ Y HTX.out hlt ?_; intro ad hc; rw [HZZ.out] at hc))
          clear hc
          refine wp_region_held (S := fun _ => True) (by kernel_rfl) ?_
          have hS : True := trivial
          refine wpAnyH_take (i := 0) (v := .pointer (some ⟨w1.heap.size, 1, none⟩)) rfl (by kernel_rfl) (by kernel_rfl) (by kernel_rfl) (fun _ _ _ h => h) (.inl ⟨rfl, fun w' _ => by go_simp⟩) hS ?_
          refine wpAnyH_take (i := 2) (v := .string ⟨z.toArray⟩) rfl (by kernel_rfl) (by kernel_rfl) (by kernel_rfl) (fun _ _ _ h => h) (.inl ⟨rfl, fun w' _ => by go_simp⟩) hS ?_
          simp only [Act.put, List.getElem_toArray, List.getElem_cons_zero, List.getElem_cons_succ, List.setIfInBounds_toArray, List.set_cons_zero, List.set_cons_succ]
          have c1d : wr.drew.cell? ⟨w1.heap.size, 1, none⟩ = some (.slice va k vc) := c1
          have c1a : (wr.alloc (.cells #[.int .i64 (rdI z)] 3)).cell? ⟨w1.heap.size, 1, none⟩ = some (.slice va k vc) := (((Below.refl wr.heap.size wr).alloc (Nat.le_refl _) (.cells #[.int .i64 (rdI z)] 3)).cell (p := ⟨w1.heap.size, 1, none⟩) (by show w1.heap.size < wr.heap.size; omega)).trans c1
          have hza : (wr.drew.alloc (.cells #[.int .i64 (rdI z)] 3)).heap.size = wr.heap.size + 1 := by simp
          have hcg : (wr.drew.alloc (.cells #[.int .i64 (rdI z)] 3)).cell? ⟨wr.heap.size, 0, none⟩ = some (.int .i64 (rdI z)) := by
            show (wr.drew.alloc (.cells #[.int .i64 (rdI z)] 3)).cell? ⟨wr.drew.heap.size, 0, none⟩ = _
            rw [hp_cell (hp_last _ _)]; rfl
          refine wpAnyH_all (rs := [1, 3]) (by kernel_rfl) (by simp) fun y hy => ?_
          rcases (show y = 1 ∨ y = 3 by simpa using hy) with rfl | rfl
          · refine wpOp_op (i := 1) rfl rfl (.slice va k vc) wr.drew (by simp [go_sem, c1d]) ⟨trivial, ?_⟩
            simp only [Act.put, List.getElem_toArray, List.getElem_cons_zero, List.getElem_cons_succ, List.setIfInBounds_toArray, List.set_cons_zero, List.set_cons_succ]
            refine anyH_call (i := 3) (by kernel_rfl) rfl rfl 36 ent_l1Read _ _ rfl #[.string ⟨z.toArray⟩] rfl (HRz.out _) ?_
            rintro e _ ⟨rfl, rfl⟩
            refine ⟨_, rfl, trivial, ?_⟩
            simp only [Act.put, List.getElem_toArray, List.getElem_cons_zero, List.getElem_cons_succ, List.setIfInBounds_toArray, List.set_cons_zero, List.set_cons_succ]
            refine anyH_op (i := 4) (by kernel_rfl) rfl rfl (.slice (some ⟨wr.heap.size, 0, none⟩) 1 1) (wr.drew.alloc (.cells #[.int .i64 (rdI z)] 3)) (by simp [go_sem]) trivial ?_
            simp only [Act.put, List.getElem_toArray, List.getElem_cons_zero, List.getElem_cons_succ, List.setIfInBounds_toArray, List.set_cons_zero, List.set_cons_succ]
            refine anyH_oneX (i := 5) (by kernel_rfl) rfl rfl ?_
            intro Q1 hQ1
            refine wpList_append1 sliceT intI rfl (.tmp 34) (.tmp 37) rfl w3.heap.size _ M rfl (HO.out.kept ((Below.refl _ _).drew.alloc (Nat.le_refl _) _)) wr.heap.size (rdI z) rfl hcg (by rw [hza]; omega) (by omega) ?_
            intro v38 w6 ho6 hb6
            obtain ⟨sa, sc, hv38⟩ := ho6.shape
            rw [List.length_append, List.length_singleton, hml] at hv38
            subst hv38
            refine wpList_nil ?_
            refine hQ1 _ _ trivial ?_
            simp only [Act.put, List.getElem_toArray, List.getElem_cons_zero, List.getElem_cons_succ, List.setIfInBounds_toArray, List.set_cons_zero, List.set_cons_succ]
            refine anyH_op (i := 6) (by kernel_rfl) rfl rfl (.pointer (some ⟨w1.heap.size, 1, none⟩)) w6 (by simp [go_sem]) trivial ?_
            simp only [Act.put, List.getElem_toArray, List.getElem_cons_zero, List.getElem_cons_succ, List.setIfInBounds_toArray, List.set_cons_zero, List.set_cons_succ]
            have hz6 : wr.heap.size + 1 ≤ w6.heap.size := by rw [← hza]; exact hb6.size
            have hbw : Below w3.heap.size wr w6 := ((Below.refl wr.heap.size wr).drew.alloc (Nat.le_refl _) (.cells #[.int .i64 (rdI z)] 3) |>.mono hsz).trans hb6
            have HC6 := hide ((hbw.block w1.heap.size (by omega)).trans HC.out)
            have c16 := cells_at1 HC6.out
            have f16 := hp_free HC6.out 1
            refine anyH_skip (i := 7) (by kernel_rfl) rfl rfl (w6.setCell ⟨w1.heap.size, 1, none⟩ (.slice sa (k + 1) sc)) ?hq trivial ?_
            case hq => simp [go_sem, c16, f16]
            refine wpAnyH_done (by kernel_rfl) ?_ _
            simp only [Act.put, List.getElem_toArray, List.getElem_cons_zero, List.getElem_cons_succ, List.setIfInBounds_toArray, List.set_cons_zero, List.set_cons_succ]
            have HC7 := hide (bareN HC6.out (.slice sa (k + 1) sc))
            have HO7 := hide (show own 3 (w6.setCell ⟨w1.heap.size, 1, none⟩ (.slice sa (k + 1) sc)) w3.heap.size (.slice sa (k + 1) sc) ((Y.take (k + 1)).map rdI) by rw [HTK.out]; exact ho6.setLow ⟨w1.heap.size, 1, none⟩ (by show w1.heap.size < w3.heap.size; omega) (.slice sa (k + 1) sc))
            have HT7 := hide ((HTX.out.below hbw (Nat.le_refl _)).setLow w1.heap.size 1 (by omega) (.slice sa (k + 1) sc))
            have HB7 := hide ((HB.out.trans (hbw.mono (by omega))).setCell (p := ⟨w1.heap.size, 1, none⟩) (Nat.le_refl _) (.slice sa (k + 1) sc))
            have hz7 : w3.heap.size ≤ (w6.setCell ⟨w1.heap.size, 1, none⟩ (.slice sa (k + 1) sc)).heap.size := by simp [World.setCell]; omega
            clear ho6 hb6 hbw c16 f16
            go_wp2
            go_roundw
            case rel => exact ⟨k + 1, (.slice sa (k + 1) sc), by omega, by omega, by go_num, HC7, HO7, HT7, hz7, HB7⟩
            case measure => simp [intOf]; omega
          · refine wpOp_callT (j := 3) rfl rfl 36 ent_l1Read _ _ rfl #[.string ⟨z.toArray⟩] rfl (HRz.out _) ?_
            rintro e _ ⟨rfl, rfl⟩
            refine ⟨_, rfl, trivial, ?_⟩
            simp only [Act.put, List.getElem_toArray, List.getElem_cons_zero, List.getElem_cons_succ, List.setIfInBounds_toArray, List.set_cons_zero, List.set_cons_succ]
            refine wpAnyH_all (rs := [1, 4]) (by kernel_rfl) (by simp) fun y hy => ?_
            rcases (show y = 1 ∨ y = 4 by simpa using hy) with rfl | rfl
            · refine wpOp_op (i := 1) rfl rfl (.slice va k vc) wr.drew (by simp [go_sem, c1d]) ⟨trivial, ?_⟩
              simp only [Act.put, List.getElem_toArray, List.getElem_cons_zero, List.getElem_cons_succ, List.setIfInBounds_toArray, List.set_cons_zero, List.set_cons_succ]
              refine anyH_op (i := 4) (by kernel_rfl) rfl rfl (.slice (some ⟨wr.heap.size, 0, none⟩) 1 1) (wr.drew.alloc (.cells #[.int .i64 (rdI z)] 3)) (by simp [go_sem]) trivial ?_
              simp only [Act.put, List.getElem_toArray, List.getElem_cons_zero, List.getElem_cons_succ, List.setIfInBounds_toArray, List.set_cons_zero, List.set_cons_succ]
              refine anyH_oneX (i := 5) (by kernel_rfl) rfl rfl ?_
              intro Q1 hQ1
              refine wpList_append1 sliceT intI rfl (.tmp 34) (.tmp 37) rfl w3.heap.size _ M rfl (HO.out.kept ((Below.refl _ _).drew.alloc (Nat.le_refl _) _)) wr.heap.size (rdI z) rfl hcg (by rw [hza]; omega) (by omega) ?_
              intro v38 w6 ho6 hb6
              obtain ⟨sa, sc, hv38⟩ := ho6.shape
              rw [List.length_append, List.length_singleton, hml] at hv38
              subst hv38
              refine wpList_nil ?_
              refine hQ1 _ _ trivial ?_
              simp only [Act.put, List.getElem_toArray, List.getElem_cons_zero, List.getElem_cons_succ, List.setIfInBounds_toArray, List.set_cons_zero, List.set_cons_succ]
              refine anyH_op (i := 6) (by kernel_rfl) rfl rfl (.pointer (some ⟨w1.heap.size, 1, none⟩)) w6 (by simp [go_sem]) trivial ?_
              simp only [Act.put, List.getElem_toArray, List.getElem_cons_zero, List.getElem_cons_succ, List.setIfInBounds_toArray, List.set_cons_zero, List.set_cons_succ]
              have hz6 : wr.heap.size + 1 ≤ w6.heap.size := by rw [← hza]; exact hb6.size
              have hbw : Below w3.heap.size wr w6 := ((Below.refl wr.heap.size wr).drew.alloc (Nat.le_refl _) (.cells #[.int .i64 (rdI z)] 3) |>.mono hsz).trans hb6
              have HC6 := hide ((hbw.block w1.heap.size (by omega)).trans HC.out)
              have c16 := cells_at1 HC6.out
              have f16 := hp_free HC6.out 1
              refine anyH_skip (i := 7) (by kernel_rfl) rfl rfl (w6.setCell ⟨w1.heap.size, 1, none⟩ (.slice sa (k + 1) sc)) ?hq trivial ?_
              case hq => simp [go_sem, c16, f16]
              refine wpAnyH_done (by kernel_rfl) ?_ _
              simp only [Act.put, List.getElem_toArray, List.getElem_cons_zero, List.getElem_cons_succ, List.setIfInBounds_toArray, List.set_cons_zero, List.set_cons_succ]
              have HC7 := hide (bareN HC6.out (.slice sa (k + 1) sc))
              have HO7 := hide (show own 3 (w6.setCell ⟨w1.heap.size, 1, none⟩ (.slice sa (k + 1) sc)) w3.heap.size (.slice sa (k + 1) sc) ((Y.take (k + 1)).map rdI) by rw [HTK.out]; exact ho6.setLow ⟨w1.heap.size, 1, none⟩ (by show w1.heap.size < w3.heap.size; omega) (.slice sa (k + 1) sc))
              have HT7 := hide ((HTX.out.below hbw (Nat.le_refl _)).setLow w1.heap.size 1 (by omega) (.slice sa (k + 1) sc))
              have HB7 := hide ((HB.out.trans (hbw.mono (by omega))).setCell (p := ⟨w1.heap.size, 1, none⟩) (Nat.le_refl _) (.slice sa (k + 1) sc))
              have hz7 : w3.heap.size ≤ (w6.setCell ⟨w1.heap.size, 1, none⟩ (.slice sa (k + 1) sc)).heap.size := by simp [World.setCell]; omega
              clear ho6 hb6 hbw c16 f16
              go_wp2
              go_roundw
              case rel => exact ⟨k + 1, (.slice sa (k + 1) sc), by omega, by omega, by go_num, HC7, HO7, HT7, hz7, HB7⟩
              case measure => simp [intOf]; omega
            · refine wpOp_op (i := 4) rfl rfl (.slice (some ⟨wr.heap.size, 0, none⟩) 1 1) (wr.drew.alloc (.cells #[.int .i64 (rdI z)] 3)) (by simp [go_sem]) ⟨trivial, ?_⟩
              simp only [Act.put, List.getElem_toArray, List.getElem_cons_zero, List.getElem_cons_succ, List.setIfInBounds_toArray, List.set_cons_zero, List.set_cons_succ]
              refine anyH_op (i := 1) (by kernel_rfl) rfl rfl (.slice va k vc) (wr.drew.alloc (.cells #[.int .i64 (rdI z)] 3)) (by simp [go_sem, c1a]) trivial ?_
              simp only [Act.put, List.getElem_toArray, List.getElem_cons_zero, List.getElem_cons_succ, List.setIfInBounds_toArray, List.set_cons_zero, List.set_cons_succ]
              refine anyH_oneX (i := 5) (by kernel_rfl) rfl rfl ?_
              intro Q1 hQ1
              refine wpList_append1 sliceT intI rfl (.tmp 34) (.tmp 37) rfl w3.heap.size _ M rfl (HO.out.kept ((Below.refl _ _).drew.alloc (Nat.le_refl _) _)) wr.heap.size (rdI z) rfl hcg (by rw [hza]; omega) (by omega) ?_
              intro v38 w6 ho6 hb6
              obtain ⟨sa, sc, hv38⟩ := ho6.shape
              rw [List.length_append, List.length_singleton, hml] at hv38
              subst hv38
              refine wpList_nil ?_
              refine hQ1 _ _ trivial ?_
              simp only [Act.put, List.getElem_toArray, List.getElem_cons_zero, List.getElem_cons_succ, List.setIfInBounds_toArray, List.set_cons_zero, List.set_cons_succ]
              refine anyH_op (i := 6) (by kernel_rfl) rfl rfl (.pointer (some ⟨w1.heap.size, 1, none⟩)) w6 (by simp [go_sem]) trivial ?_
              simp only [Act.put, List.getElem_toArray, List.getElem_cons_zero, List.getElem_cons_succ, List.setIfInBounds_toArray, List.set_cons_zero, List.set_cons_succ]
              have hz6 : wr.heap.size + 1 ≤ w6.heap.size := by rw [← hza]; exact hb6.size
              have hbw : Below w3.heap.size wr w6 := ((Below.refl wr.heap.size wr).drew.alloc (Nat.le_refl _) (.cells #[.int .i64 (rdI z)] 3) |>.mono hsz).trans hb6
              have HC6 := hide ((hbw.block w1.heap.size (by omega)).trans HC.out)
              have c16 := cells_at1 HC6.out
              have f16 := hp_free HC6.out 1
              refine anyH_skip (i := 7) (by kernel_rfl) rfl rfl (w6.setCell ⟨w1.heap.size, 1, none⟩ (.slice sa (k + 1) sc)) ?hq trivial ?_
              case hq => simp [go_sem, c16, f16]
              refine wpAnyH_done (by kernel_rfl) ?_ _
              simp only [Act.put, List.getElem_toArray, List.getElem_cons_zero, List.getElem_cons_succ, List.setIfInBounds_toArray, List.set_cons_zero, List.set_cons_succ]
              have HC7 := hide (bareN HC6.out (.slice sa (k + 1) sc))
              have HO7 := hide (show own 3 (w6.setCell ⟨w1.heap.size, 1, none⟩ (.slice sa (k + 1) sc)) w3.heap.size (.slice sa (k + 1) sc) ((Y.take (k + 1)).map rdI) by rw [HTK.out]; exact ho6.setLow ⟨w1.heap.size, 1, none⟩ (by show w1.heap.size < w3.heap.size; omega) (.slice sa (k + 1) sc))
              have HT7 := hide ((HTX.out.below hbw (Nat.le_refl _)).setLow w1.heap.size 1 (by omega) (.slice sa (k + 1) sc))
              have HB7 := hide ((HB.out.trans (hbw.mono (by omega))).setCell (p := ⟨w1.heap.size, 1, none⟩) (Nat.le_refl _) (.slice sa (k + 1) sc))
              have hz7 : w3.heap.size ≤ (w6.setCell ⟨w1.heap.size, 1, none⟩ (.slice sa (k + 1) sc)).heap.size := by simp [World.setCell]; omega
              clear ho6 hb6 hbw c16 f16
              go_wp2
              go_roundw
              case rel => exact ⟨k + 1, (.slice sa (k + 1) sc), by omega, by omega, by go_num, HC7, HO7, HT7, hz7, HB7⟩
              case measure => simp [intOf]; omega
      · have hkl : k = Y.length := by omega
        have hlt2 : ¬ ((k : Int) < (Y.length : Int)) := by omega
        have hY128 : Y.length ≤ 128 := by omega
        have hmt : (Y.take k).map rdI = Y.map rdI := by rw [hkl, List.take_length]
        rw [hmt] at HO hml
        clear hmt hkl
        generalize Y.map rdI = M at HO hml HN3 HYS
        obtain ⟨q0, q1, q2, q3⟩ := zero_slotsQ hr
        have hMl : M.length < 1000000000 := by omega
        cases hok : okSp I M
        · have HG := hide (show goodB I M = false by rw [← ok_good]; exact hok)
          have HN := hide (HN3.out (fun h => by rw [h.1] at hok; cases hok))
          clear hok
          have HIX := hide (show ints wr.heap.size wr (.slice va k vc) M from HO.out.ints)
          clear q0 q1 q2 q3
          go_wp2_with (go_at_call 26; refine (spGood_c I _ M _ HIX.out hMl).mono ?_; rw [HG.out]; rintro e w4 ⟨rfl, hb4⟩; have hz4 := hb4.size; have HB4 := hide (HBW.out.trans (hb4.mono (by have := HBW.out.size; omega))); have hc4 := (hb4.block w1.heap.size (by omega)).trans HC.out; have e0 := cells_at0 hc4; have e1 := cells_at1 hc4; have HC4 := hide hc4; obtain ⟨q0, q1, q2, q3⟩ := zero_slotsQ ((hb4.block w.heap.size (by omega)).trans hr); have HO4 := hide (HO.out.kept hb4); have HI4 := hide ((HIX.out.below hb4 (Nat.le_refl _)).mono hb4.size); clear hb4 hc4 c0 c1)
          refine bodyPost_ret (v := .tuple #[.agg #[.int .i64 0, .slice none 0 0], .bool false]) (by simp [results, Tryd.results17, go_sem, q0, q1]) rfl ⟨_, by rw [HN.out.1, HN.out.2.2], by rw [HN.out.2.1]; exact own_nil _ _ _, ?_⟩
          first | exact HB4.out | exact (HB4.out.setCell (by show w.heap.size ≤ w.heap.size; omega) _).setCell (by show w.heap.size ≤ w.heap.size; omega) _
        · have HG := hide (show goodB I M = true by rw [← ok_good]; exact hok)
          have HIX := hide (show ints wr.heap.size wr (.slice va k vc) M from HO.out.ints)
          have hn := okSp_n hok
          obtain ⟨N, rfl⟩ := Int.eq_ofNat_of_zero_le (show 0 ≤ I by omega)
          have hrg := good_range hok
          have HTX2 := hide (fun (w' : World) (h : ints w'.heap.size w' (.slice va k vc) M) => spText_c N _ M w' h (by omega) (fun j hj => hrg.2.2 _ (by rw [List.getElem?_eq_getElem hj]; exact List.getElem_mem hj)) hrg.2.1)
          clear q0 q1 q2 q3
          by_cases hst : stA N M M.length = S
          · have HG2 := hide (HYS.out ⟨hok, by rw [Int.toNat_natCast]; exact hst⟩)
            rw [hst] at HTX2
            have hnn : ((S != S) : Bool) = false := by simp
            have hnn2 : ((S == S) : Bool) = true := by simp
            clear hst hok hn hrg
            go_wp2_with (first
              | (go_at_call 26; refine (spGood_c (N : Int) _ M _ HIX.out hMl).mono ?_; rw [HG.out]; rintro e w4 ⟨rfl, hb4⟩; have hz4 := hb4.size; have HB4 := hide (HBW.out.trans (hb4.mono (by have := HBW.out.size; omega))); have hc4 := (hb4.block w1.heap.size (by omega)).trans HC.out; have e0 := cells_at0 hc4; have e1 := cells_at1 hc4; have HC4 := hide hc4; have HR4 := hide ((hb4.block w.heap.size (by omega)).trans hr); have HO4 := hide (HO.out.kept hb4); have HI4 := hide ((HIX.out.below hb4 (Nat.le_refl _)).mono hb4.size); clear hb4 hc4 c0 c1)
              | (go_at_call 37; refine (HTX2.out _ HI4.out).mono ?_; rintro e w5 ⟨rfl, hb5⟩; have HB5 := hide (HB4.out.trans (hb5.mono HB4.out.size)); have hc5 := (hb5.block w1.heap.size (by omega)).trans HC4.out; have g0 := cells_at0 hc5; have g1 := cells_at1 hc5; obtain ⟨q0, q1, q2, q3⟩ := zero_slotsQ ((hb5.block w.heap.size (by omega)).trans HR4.out); have HO5 := hide (HO4.out.kept hb5); clear hb5 hc5 e0 e1))
            refine bodyPost_ret (v := .tuple #[.agg #[.int .i64 (N : Int), .slice va k vc], .bool true]) (by simp [results, Tryd.results17, go_sem, q0, q1]) rfl ⟨_, by rw [HG2.out.1, HG2.out.2.2], ?_, ?_⟩
            · rw [HG2.out.2.1]
              exact ((HO5.out.setLow ⟨w.heap.size, 0, none⟩ (by show w.heap.size < w3.heap.size; omega) _).setLow ⟨w.heap.size, 1, none⟩ (by show w.heap.size < w3.heap.size; omega) _).mono (by omega)
            · exact (HB5.out.setCell (by show w.heap.size ≤ w.heap.size; omega) _).setCell (by show w.heap.size ≤ w.heap.size; omega) _
          · have HN := hide (HN3.out (fun h => hst (by have h1 := h.2; rw [Int.toNat_natCast] at h1; exact h1)))
            generalize stA N M M.length = A at HTX2 hst
            have hnn : ((A != S) : Bool) = true := by simpa using hst
            have hnn2 : ((A == S) : Bool) = false := by simpa using hst
            clear hst hok hn hrg
            go_wp2_with (first
              | (go_at_call 26; refine (spGood_c (N : Int) _ M _ HIX.out hMl).mono ?_; rw [HG.out]; rintro e w4 ⟨rfl, hb4⟩; have hz4 := hb4.size; have HB4 := hide (HBW.out.trans (hb4.mono (by have := HBW.out.size; omega))); have hc4 := (hb4.block w1.heap.size (by omega)).trans HC.out; have e0 := cells_at0 hc4; have e1 := cells_at1 hc4; have HC4 := hide hc4; have HR4 := hide ((hb4.block w.heap.size (by omega)).trans hr); have HO4 := hide (HO.out.kept hb4); have HI4 := hide ((HIX.out.below hb4 (Nat.le_refl _)).mono hb4.size); clear hb4 hc4 c0 c1)
              | (go_at_call 37; refine (HTX2.out _ HI4.out).mono ?_; rintro e w5 ⟨rfl, hb5⟩; have HB5 := hide (HB4.out.trans (hb5.mono HB4.out.size)); have hc5 := (hb5.block w1.heap.size (by omega)).trans HC4.out; have g0 := cells_at0 hc5; have g1 := cells_at1 hc5; obtain ⟨q0, q1, q2, q3⟩ := zero_slotsQ ((hb5.block w.heap.size (by omega)).trans HR4.out); have HO5 := hide (HO4.out.kept hb5); clear hb5 hc5 e0 e1))
            refine bodyPost_ret (v := .tuple #[.agg #[.int .i64 0, .slice none 0 0], .bool false]) (by simp [results, Tryd.results17, go_sem, q0, q1]) rfl ⟨_, by rw [HN.out.1, HN.out.2.2], by rw [HN.out.2.1]; exact own_nil _ _ _, ?_⟩
            first | exact HB5.out | exact (HB5.out.setCell (by show w.heap.size ≤ w.heap.size; omega) _).setCell (by show w.heap.size ≤ w.heap.size; omega) _
  · have HN := hide (ps_no (spec_no1 h2))
    have h2b : (((spl 58 S).length : Int) != 2) = true := by simp; omega
    have hp : 0 < (spl 58 S).length := by
      cases h : spl 58 S with
      | nil => exact absurd h hs0
      | cons _ _ => simp
    clear hs0
    generalize spl 58 S = X at HS1 h2 h2b hp
    generalize (⟨S.toArray⟩ : ByteArray) = T at HS1 ⊢
    go_enter Tryd.func17, Tryd.ntmps17
    go_wp2_with (first
      | (go_at_call 35; refine (HS1.out _).mono ?_; rintro e w1 ⟨v1, rfl, ho1, hb1⟩; have HT1 := hide (ho1.texts hp); have hr1 := (hb1.block w.heap.size (by rw [HZ0.out]; omega)).trans HR0.out; obtain ⟨q0, q1, q2, q3⟩ := zero_slotsQ hr1; have HB1 := hide (H0.out.trans (hb1.mono (by rw [HZ0.out]; omega))); clear ho1 hb1 hr1)
      | (refine wpList_lenT sliceStr rfl (.tmp _) rfl _ rfl _ _ X HT1.out ?_))
    refine bodyPost_ret (v := .tuple #[.agg #[.int .i64 0, .slice none 0 0], .bool false]) (by simp [results, Tryd.results17, go_sem, q0, q1]) rfl ⟨_, by rw [HN.out.1, HN.out.2.2], by rw [HN.out.2.1]; exact own_nil _ _ _, ?_⟩
    first | exact HB1.out | exact (HB1.out.setCell (by show w.heap.size ≤ w.heap.size; omega) _).setCell (by show w.heap.size ≤ w.heap.size; omega) _
set_option maxHeartbeats 1000000 in
theorem specParseSpace_c (S : List UInt8) (w : World) (hS : S.length ≤ 2000000) (_ : tab w) :
    Calls Tryd.prog 5 #[.string ⟨S.toArray⟩] w fun e w' => ∃ v', e = .returned (.tuple #[.agg #[.int .i64 (psN S), v'], .bool (psOk S)]) ∧ own 3 w' w.heap.size v' (psL S) ∧ Below w.heap.size w w' := by
  have HR0 := hide (hp_last w (.cells #[.int .i64 0, .slice none 0 0] 24))
  have H0 := hide ((Below.refl w.heap.size w).alloc (Nat.le_refl _) (.cells #[.int .i64 0, .slice none 0 0] 24))
  have HZ0 := hide (show (w.alloc (.cells #[.int .i64 0, .slice none 0 0] 24)).heap.size = w.heap.size + 1 by simp)
  have HP := hide (fun (w' : World) => spParse_c S w' hS)
  generalize psN S = N at HP ⊢
  generalize psL S = L at HP ⊢
  generalize psOk S = ok at HP ⊢
  generalize (⟨S.toArray⟩ : ByteArray) = T at HP ⊢
  go_enter Tryd.func5, Tryd.ntmps5
  go_wp2_with (go_at_call 17; refine (HP.out _).mono ?_; rintro e w1 ⟨v1, rfl, ho1, hb1⟩; obtain ⟨a1, c1, hv1⟩ := ho1.shape; subst hv1; obtain ⟨q0, q1, q2, q3⟩ := zero_slotsQ ((hb1.block w.heap.size (by rw [HZ0.out]; omega)).trans HR0.out); have hz1 := hb1.size; rw [HZ0.out] at hz1 ho1; have HB1 := hide (H0.out.trans (hb1.mono (by rw [HZ0.out]; omega))); have HO1 := hide ho1; clear ho1 hb1)
  refine bodyPost_ret (v := .tuple #[.agg #[.int .i64 N, .slice a1 L.length c1], .bool ok]) (by simp [results, Tryd.results5, go_sem, q0, q1]) rfl ⟨_, rfl, ?_, ?_⟩
  · exact ((HO1.out.setLow ⟨w.heap.size, 0, none⟩ (by show w.heap.size < w.heap.size + 1; omega) _).setLow ⟨w.heap.size, 1, none⟩ (by show w.heap.size < w.heap.size + 1; omega) _).mono (by omega)
  · exact (HB1.out.setCell (by show w.heap.size ≤ w.heap.size; omega) _).setCell (by show w.heap.size ≤ w.heap.size; omega) _
end Go.Proofs.YtdhhcgamhihpjaaDoor
