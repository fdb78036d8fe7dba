/- Contracts: AreWordsOf, the specification's. -/
import Derived.Test.YtknjiomagdfgfaaDoorQs
import Derived.Test.YtknjiomagdfgfaaDoorAn
import Derived.Test.YtknjiomagdfgfaaDoorWw
import Derived.Test.YtknjiomagdfgfaaDoorTz
import Derived.Test.YtknjiomagdfgfaaDoorAp
namespace Go.Proofs.YtknjiomagdfgfaaDoor
open Go.RowKit
set_option maxRecDepth 100000
set_option linter.unusedSimpArgs false
section
variable {P : Program}
/-- A slice of the call's own whose rows are others' slices, which lie below B. -/
def ownR (T : TypeId) (w : World) (base B : Nat) (v : Value) (L : List (List Int)) : Prop :=
  ∃ us : List Value, us.length = L.length ∧ w.ownsRow base T 1 v L.length us ∧ ∀ j, j < L.length → ints B w (us[j]?.getD nilS) (L[j]?.getD [])
theorem ownR_nil (T : TypeId) (w : World) (base B : Nat) : ownR T w base B (.slice none 0 0) [] := ⟨[], rfl, World.ownsRow_nil _ _ _ _, fun j hj => by simp at hj⟩
theorem ownR.kept {T : TypeId} {w w' : World} {base B : Nat} {v : Value} {L : List (List Int)} (h : ownR T w base B v L) (hB : B ≤ w.heap.size) (hb : Below w.heap.size w w') : ownR T w' base B v L := by
  obtain ⟨us, h1, h2, h3⟩ := h
  exact ⟨us, h1, row_kept h2 hb, fun j hj => (h3 j hj).below hb hB⟩
theorem ownR.rows {T : TypeId} {w : World} {base B : Nat} {v : Value} {L : List (List Int)} (h : ownR T w base B v L) (hB : B ≤ w.heap.size) : rows w.heap.size w v L := by
  obtain ⟨us, h1, ⟨h2, h2'⟩, h3⟩ := h
  rcases h2' with ⟨e, h0⟩ | ⟨g, cap, cur, e, hg, hh, h5, h6, h7, h8⟩
  · have : L = [] := List.eq_nil_of_length_eq_zero h0
    subst this
    exact .inl ⟨rfl, none, 0, e⟩
  · refine .inr ⟨g, 0, cap, e, hp_lt hh, hp_lt hh, fun j hj => ⟨us[j]?.getD nilS, ?_, (h3 j hj).mono hB⟩⟩
    rw [Nat.zero_add, hp_cell hh]
    have h9 : (cur.toList.take (L.length * 1))[j]? = us[j]? := by rw [h8]
    rw [List.getElem?_take, if_pos (by omega)] at h9
    rw [← Array.getElem?_toList, h9, List.getElem?_eq_getElem (by omega)]
    rfl
/-- A row that lies below B is appended. -/
theorem wpList_appendR {t T : TypeId} {bytes : Nat} (ht : P.underlying t = some (.slice T)) (hT : (P.info? T).map (fun i => (i.zero, i.size, i.bytes)) = some (some (.slice none 0 0), 1, bytes)) (hby : bytes ≤ 64)
    {ops : Array Oper} {rest : List Oper} {o : Oper} {a : Act} {w : World} {Q : Exit → Act → World → Prop} (hgd : o.guard = none) (s x : Operand)
    (ho : o.op = .call { callee := .builtin .append, args := #[s, x], argTypes := #[t, t] }) (base B : Nat) (v : Value) (L : List (List Int)) (hs : a.eval s = v) (w0 : World) (hown : ownR T w0 base B v L) (hb0 : Below w0.heap.size w0 w)
    (g : Nat) (u : Value) (l : List Int) (hx : a.eval x = .slice (some ⟨g, 0, none⟩) 1 1) (hg : w.cell? ⟨g, 0, none⟩ = some u) (hu : ints B w u l) (hBb : B ≤ base) (hbase : base ≤ w0.heap.size) (hlen : L.length < 1000000000)
    (h : ∀ v' w', ownR T w' base B v' (L ++ [l]) → Below base w w' → wpList P ops Q rest (a.put o.dst v') w') : wpList P ops Q (o :: rest) a w := by
  obtain ⟨i0, hi, hz0, hz1, hz2⟩ : ∃ i, P.info? T = some i ∧ i.zero = some (.slice none 0 0) ∧ i.size = 1 ∧ i.bytes = bytes := by
    cases hq : P.info? T with
    | none => simp [hq] at hT
    | some j => simp [hq] at hT; exact ⟨j, rfl, hT.1, hT.2.1, hT.2.2⟩
  have hz := hb0.size
  obtain ⟨us, h1, h2, h3⟩ := hown
  have hlt0 := World.ownsRow.lt h2
  refine wpList_append_own_at w hgd s x t ho base T i0 (.slice none 0 0) 1 bytes ht hi hz0 hz1 hz2 rfl (by decide) v L.length us hs (row_kept h2 hb0) ⟨g, 0, none⟩ 1 1 [u] hx rfl ?_ ?_ (by unfold maxLen; omega) ?_ (by omega) ?_
  · intro j y hj
    match j, hj with
    | 0, hj => simp at hj; subst hj; simpa [Addr.add] using hg
  · intro y hy
    simp at hy; subst hy
    exact hu.one
  · have : (L.length + 1) * bytes ≤ 1000000000 * 64 := Nat.mul_le_mul (by omega) hby
    omega
  · intro v' w' hown' hgrow _ hlie
    have hbl : Below base w w' := ⟨hgrow.os, hgrow.tape, hgrow.output, hgrow.size, fun k hk => hgrow.block k (by omega) fun e => by
      have := hlt0 k e.symm
      omega⟩
    refine h v' w' ⟨us ++ [u], by simp [h1], by simpa using hown', fun j hj => ?_⟩ hbl
    rw [List.length_append, List.length_singleton] at hj
    rcases Nat.lt_or_ge j L.length with hj2 | hj2
    · rw [List.getElem?_append_left (by omega), List.getElem?_append_left (by omega)]
      exact ((h3 j hj2).below hb0 (by omega)).below hbl hBb
    · have hjL : j = L.length := by omega
      rw [List.getElem?_append_right (by omega), List.getElem?_append_right (by omega), h1, hjL, Nat.sub_self]
      exact hu.below hbl hBb
end
theorem takeK_next {α : Type} (f : α → Bool) (M : List α) (d : α) (k : Nat) (h : k < M.length) : (M.take (k + 1)).any f = ((M.take k).any f || f (M[k]?.getD d)) := by
  rw [List.take_add_one, List.any_append, List.getElem?_eq_getElem h]
  simp
attribute [local irreducible] p2 low memB risB
set_option maxHeartbeats 4000000 in
theorem specAreWordsOf_c (n : Int) (v : Value) (l : List Int) (u : Value) (L : List (List Int)) (w : World) (hl : ints w.heap.size w v l) (hlen : l.length < 1000000000) (hu : rows w.heap.size w u L) (hs : small2 L) (_ : tab w) :
    Calls Tryd.prog 35 #[.agg #[.int .i64 n, v], u] w fun e w' => e = .returned (.tuple #[.bool (arB n l L), .bool (arOk n l L)]) ∧ Below w.heap.size w w' := by
  have HL := hide ((hl.alloc (.cells #[.int .i64 n, v] 28)).mono (show w.heap.size ≤ (w.alloc (.cells #[.int .i64 n, v] 28)).heap.size by simp))
  have HU := hide (hu.alloc (.cells #[.int .i64 n, v] 28))
  have H0 := hide ((Below.refl w.heap.size w).alloc (Nat.le_refl _) (.cells #[.int .i64 n, v] 28))
  have HS0 := hide (hp_last w (.cells #[.int .i64 n, v] 28))
  have HZ := hide (show (w.alloc (.cells #[.int .i64 n, v] 28)).heap.size = w.heap.size + 1 by simp)
  have HSM := hide hs
  clear hl hu hs
  cases hok : okSp n l
  · have HG := hide (show goodB n l = false by rw [← ok_good]; exact hok)
    have HX := hide (ar_no (n := n) (l := l) (L := L) (by unfold arOk; rw [hok]; rfl))
    rw [HX.out.1, HX.out.2]
    clear hok
    go_enter Tryd.func35, Tryd.ntmps35
    go_wp2_with (first
      | (go_at_call 48; refine (spGood_c n v l _ HL.out hlen).mono ?_; rw [HG.out]; rintro e w' ⟨rfl, hb⟩; have HB := hide (H0.out.trans (hb.mono (by rw [HZ.out]; omega))); clear hb))
    refine bodyPost_ret (v := .tuple #[.bool false, .bool false]) (by simp [results, Tryd.results35, go_sem]) rfl ⟨rfl, HB.out⟩
  · have HG := hide (show goodB n l = true by rw [← ok_good]; exact hok)
    by_cases h200 : 200 < L.length
    · have HX := hide (ar_no (n := n) (l := l) (L := L) (by unfold arOk; rw [decide_eq_false (by omega), Bool.and_false]))
      have hgt : (200 : Int) < (L.length : Int) := by omega
      rw [HX.out.1, HX.out.2]
      clear hok
      go_enter Tryd.func35, Tryd.ntmps35
      go_wp2_with (first
        | (go_at_call 48; refine (spGood_c n v l _ HL.out hlen).mono ?_; rw [HG.out]; rintro e w1 ⟨rfl, hb⟩; have HB := hide (H0.out.trans (hb.mono (by rw [HZ.out]; omega))); have HU1 := hide (HU.out.below hb (by rw [HZ.out]; omega)); clear hb)
        | (refine wpList_len2 sliceT2 rfl (.tmp _) rfl u rfl w.heap.size L HU1.out ?_))
      refine bodyPost_ret (v := .tuple #[.bool false, .bool false]) (by simp [results, Tryd.results35, go_sem]) rfl ⟨rfl, HB.out⟩
    · have hgt : ¬ ((200 : Int) < (L.length : Int)) := by omega
      have HX := hide (ar_yes (n := n) (l := l) (L := L) (by unfold arOk; rw [hok, decide_eq_true (by omega)]; rfl))
      rw [HX.out.1, HX.out.2]
      have HOK := hide hok
      have hpos := okSp_ne hok
      have HW0 := hide (show (wRow l (cnt (marksTo l l.length) n.toNat) 0)[0]?.getD 0 = (cnt (marksTo l l.length) n.toNat 0 : Int) by
        rw [wRow_get _ _ _ _ hpos, if_pos (Nat.le_refl _)]
        congr 2
        obtain ⟨j, hj, e⟩ := (okSp_has hok 0).1 (okSp_spc hok).zero
        rcases Nat.eq_zero_or_pos j with h0 | h0
        · rw [h0] at e; exact e
        · have := okSp_nth_inc hok 0 j h0 hj; omega)
      have hml : 0 < (wRow l (cnt (marksTo l l.length) n.toNat) 0).length := by rw [wRow_len]; exact hpos
      have hdl := dif_len L L.length
      have HDL := hide (dif_len L)
      clear hok
      go_enter Tryd.func35, Tryd.ntmps35
      go_wp2_with (first
        | (go_at_call 48; refine (spGood_c n v l _ HL.out hlen).mono ?_; rw [HG.out]; rintro e w1 ⟨rfl, hb⟩; have HB := hide (H0.out.trans (hb.mono (by rw [HZ.out]; omega))); have HU1 := hide (HU.out.below hb (by rw [HZ.out]; omega)); have hs1 := (hb.block w.heap.size (by rw [HZ.out]; omega)).trans HS0.out; have HS1 := hide hs1; have hz1 := hb.size; rw [HZ.out] at hz1; have HL1 := hide ((HL.out.below hb (Nat.le_refl _)).mono hb.size); clear hb hs1)
        | (refine wpList_len2 sliceT2 rfl (.tmp _) rfl u rfl w.heap.size L HU1.out ?_))
      go_loopw [6, 22] (fun dv i wr => ∃ k : Nat, k ≤ L.length ∧ i = .int .i64 (k : Int) ∧ Hid (fulB n l L k = true) ∧ Hid (ownR 22 wr w1.heap.size w.heap.size dv (difL L k)) ∧ Hid (w1.heap.size ≤ wr.heap.size ∧ Below w1.heap.size w1 wr)) (fun _ i _ => L.length - (intOf i).toNat)
      case atStart => exact ⟨0, Nat.zero_le _, rfl, rfl, ownR_nil _ _ _ _, Nat.le_refl _, Below.refl _ _⟩
      case round =>
        obtain ⟨k, hk, rfl, HF, HO, HW⟩ := hrel
        have hsz := HW.out.1
        have HUW := hide (HU1.out.below HW.out.2 (by omega))
        have HLW := hide ((HL1.out.below HW.out.2 (Nat.le_refl _)).mono hsz)
        have hsr := (HW.out.2.block w.heap.size (by omega)).trans HS1.out
        have c0 := cells_at0 hsr
        have c1 := cells_at1 hsr
        have HSR := hide hsr
        have HBW := hide (HB.out.trans (HW.out.2.mono (by omega)))
        have hdk := HDL.out k
        clear hsr
        obtain ⟨da, dc, hdv⟩ := (HO.out.rows (by omega)).shape
        subst hdv
        by_cases hlt : k < L.length
        · have HNX := hide (show fulB n l L (k + 1) = (fulB n l L k && okFu n l (L[k]?.getD [])) from rfl)
          have HDN := hide (show difL L (k + 1) = if (difL L k).any (fun m => decide (m = L[k]?.getD [])) then difL L k else difL L k ++ [L[k]?.getD []] from rfl)
          have HFA := hide (fun h => fulB_false (n := n) (l := l) (L := L) (k := k) h L.length hlt)
          have hrl := HSM.out.row k hlt
          have HDR := hide (show ∀ j, j < (difL L k).length → ((difL L k)[j]?.getD []).length < 2000000 from fun j hj => by
            obtain ⟨i, hi, e⟩ := dif_in L k ((difL L k)[j]?.getD []) (by rw [List.getElem?_eq_getElem hj]; exact List.getElem_mem hj)
            rw [e]; exact HSM.out.row i (by omega))
          have HTA := hide (fun f j h => takeK_next (α := List Int) f (difL L k) [] j h)
          generalize hr : L[k]?.getD [] = r at HNX HDN HFA hrl
          have HR := hide hr
          clear hr
          generalize difL L k = D at HO HDN HDR HTA hdk ⊢
          cases hfu : okFu n l r
          · have HFU := hide hfu
            clear hfu
            go_wp2_with (first
              | (refine wpList_at2 sliceT2 rowS2 rfl (.tmp _) (.tmp _) rfl u rfl _ rfl k rfl w.heap.size L HUW.out hlt ?_; intro ad uu hcell hblk hu; rw [HR.out] at hu; obtain ⟨ua, uc, hus⟩ := hu.shape; subst hus; have HUU := hide hu; clear hu)
              | (go_at_call 58; refine (woFull_c n v l _ r _ HLW.out hlen (HUU.out.mono (by omega)) (by omega)).mono ?_; rw [HFU.out]; rintro e w3 ⟨rfl, hb3⟩; have HB3 := hide (HBW.out.trans (hb3.mono (by omega))); clear hb3))
            refine bodyPost_ret (v := .tuple #[.bool false, .bool true]) (by simp [results, Tryd.results35, go_sem]) rfl ⟨by rw [HFA.out HFU.out]; rfl, HB3.out⟩
          · have HFU := hide hfu
            have HNF := hide (show fulB n l L (k + 1) = true by rw [HNX.out, HF.out, hfu]; rfl)
            clear hfu
            go_wp2_with (first
              | (refine wpList_at2 sliceT2 rowS2 rfl (.tmp _) (.tmp _) rfl u rfl _ rfl k rfl w.heap.size L HUW.out hlt ?_; intro ad uu hcell hblk hu; rw [HR.out] at hu; obtain ⟨ua, uc, hus⟩ := hu.shape; subst hus; have HUU := hide hu; clear hu)
              | (go_at_call 58; refine (woFull_c n v l _ r _ HLW.out hlen (HUU.out.mono (by omega)) (by omega)).mono ?_; rw [HFU.out]; rintro e w3 ⟨rfl, hb3⟩; have hz3 := hb3.size; have HB3 := hide (HW.out.2.trans (hb3.mono hsz)); have HO3 := hide (HO.out.kept (by omega) hb3); have HU3 := hide (HUU.out.below hb3 (by omega)); clear hb3)
              | (refine wpList_len2 sliceT2 rfl (.tmp 30) rfl _ rfl _ D (HO3.out.rows (by omega)) ?_))
            go_loopw [9, 32] (fun fv jv wr => ∃ j : Nat, j ≤ D.length ∧ jv = .int .i64 (j : Int) ∧ fv = .bool ((D.take j).any fun m => decide (m = r)) ∧ Hid (w3.heap.size ≤ wr.heap.size ∧ Below w3.heap.size w3 wr)) (fun _ jv _ => D.length - (intOf jv).toNat)
            case atStart => exact ⟨0, Nat.zero_le _, rfl, rfl, Nat.le_refl _, Below.refl _ _⟩
            case round =>
              obtain ⟨j, hj, rfl, rfl, HQ⟩ := hrel
              have hsq := HQ.out.1
              have HOQ := hide (HO3.out.kept (by omega) HQ.out.2)
              have HUQ := hide (HU3.out.below HQ.out.2 (by omega))
              by_cases hjl : j < D.length
              · have hml2 := HDR.out j hjl
                have HTN := hide (HTA.out (fun m => decide (m = r)) j hjl)
                generalize hm : D[j]?.getD [] = m at hml2 HTN
                have HM := hide hm
                clear hm
                generalize hfb : ((D.take j).any fun m => decide (m = r)) = fb at HTN ⊢
                clear hfb
                cases fb
                · go_wp2_with (first
                    | (refine wpList_at2 sliceT2 rowS2 rfl (.tmp _) (.tmp _) rfl _ rfl _ rfl j rfl _ D (HOQ.out.rows (by omega)) hjl ?_; intro ad2 u2 hcell2 hblk2 hu2; rw [HM.out] at hu2; have HU2 := hide hu2; clear hu2)
                    | (go_at_call 62; refine (l1Same_c u2 _ m r _ HU2.out (HUQ.out.mono (by omega)) (by omega)).mono ?_; rintro e w4 ⟨rfl, hb4⟩; have hz4 := hb4.size; have HQ4 := hide (HQ.out.2.trans (hb4.mono hsq)); clear hb4))
                  go_roundw
                  case rel => exact ⟨j + 1, by omega, by go_num, by rw [HTN.out, Bool.false_or], by omega, HQ4.out⟩
                  case measure => simp [intOf]; omega
                · go_wp2_with (first
                    | (refine wpList_at2 sliceT2 rowS2 rfl (.tmp _) (.tmp _) rfl _ rfl _ rfl j rfl _ D (HOQ.out.rows (by omega)) hjl ?_; intro ad2 u2 hcell2 hblk2 hu2; rw [HM.out] at hu2; have HU2 := hide hu2; clear hu2))
                  go_roundw
                  case rel => exact ⟨j + 1, by omega, by go_num, by rw [HTN.out, Bool.true_or], HQ⟩
                  case measure => simp [intOf]; omega
              · have hjl' : ¬ ((j : Int) < (D.length : Int)) := by omega
                rw [show (D.take j).any (fun m => decide (m = r)) = D.any (fun m => decide (m = r)) by rw [List.take_of_length_le (by omega)]]
                cases hany : D.any fun m => decide (m = r)
                · have HD2 := hide (show difL L (k + 1) = D ++ [r] by rw [HDN.out, hany]; rfl)
                  clear hany
                  go_wp2_with (at_builtin; refine wpList_appendR sliceT2 rowI2 (by decide) rfl (.tmp 45) (.tmp 47) rfl w1.heap.size w.heap.size _ D rfl wr HOQ.out ((Below.refl _ _).alloc (Nat.le_refl _) _) _ (.slice ua r.length uc) r rfl (by simp [go_sem]) (HUQ.out.alloc _) (by omega) (by omega) (by omega) ?_; intro v6 w6 ho6 hb6; have HO6 := hide ho6; have hz6 := hb6.size; have HB6 := hide (((HB3.out.trans (HQ.out.2.mono (by omega))).alloc (by omega) _).trans hb6); clear ho6 hb6)
                  go_roundw
                  case rel => exact ⟨k + 1, by omega, by go_num, HNF, hide (by rw [HD2.out]; exact HO6.out), hide ⟨HB6.out.size, HB6.out⟩⟩
                  case measure => simp [intOf]; omega
                · have HD2 := hide (show difL L (k + 1) = D by rw [HDN.out, hany]; rfl)
                  clear hany
                  go_wp2
                  go_roundw
                  case rel => exact ⟨k + 1, by omega, by go_num, HNF, hide (by rw [HD2.out]; exact HOQ.out), hide ⟨by omega, HB3.out.trans (HQ.out.2.mono (by omega))⟩⟩
                  case measure => simp [intOf]; omega
        · have HK := hide (show k = L.length by omega)
          have hlt' : ¬ ((k : Int) < (L.length : Int)) := by omega
          go_wp2_with (first
            | (refine wpList_len2 sliceT2 rfl (.tmp 50) rfl _ rfl _ (difL L k) (HO.out.rows (by omega)) ?_)
            | (go_at_call 49; refine (woWays_c n v l _ HLW.out hlen HOK.out).mono ?_; rintro e w2 ⟨v2, rfl, ho2, hb2⟩; have HI2 := hide ho2.ints; have HB2 := hide (HBW.out.trans (hb2.mono (by omega))); clear ho2 hb2)
            | (refine wpList_at sliceT intS rfl (.tmp _) (.const _) rfl v2 rfl 0 rfl _ _ HI2.out hml ?_; intro ad hcell hblk; rw [HW0.out] at hcell))
          refine bodyPost_ret (v := .tuple #[.bool (((difL L k).length : Int) == (cnt (marksTo l l.length) n.toNat 0 : Int)), .bool true]) (by simp [results, Tryd.results35, go_sem]) rfl ⟨by rw [cast_eq_dec, ← HK.out, HF.out, Bool.true_and], HB2.out⟩
end Go.Proofs.YtknjiomagdfgfaaDoor
