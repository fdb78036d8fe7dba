/- Contracts: points, the specification's test; ArePoints, both. -/
import Derived.Test.YtonimjpfaalniaaDoorQc
import Derived.Test.YtonimjpfaalniaaDoorQs
import Derived.Test.YtonimjpfaalniaaDoorRt
import Derived.Test.YtonimjpfaalniaaDoorPs
namespace Go.Proofs.YtonimjpfaalniaaDoor
open Go.RowKit
set_option maxRecDepth 100000
set_option linter.unusedSimpArgs false
/-- A slice of slices with its capacity, which is at least its length. -/
def rowsK (B : Nat) (w : World) (v : Value) (L : List (List Int)) : Prop := rows B w v L ∧ ∃ p c, v = .slice p L.length c ∧ L.length ≤ c
theorem rowsK.below {B B' : Nat} {w w' : World} {v : Value} {L : List (List Int)} (h : rowsK B w v L) (hb : Below B' w w') (hB : B ≤ B') : rowsK B w' v L := ⟨h.1.below hb hB, h.2⟩
theorem rowsK.mono {B B' : Nat} {w : World} {v : Value} {L : List (List Int)} (h : rowsK B w v L) (hB : B ≤ B') : rowsK B' w v L := ⟨h.1.mono hB, h.2⟩
theorem own2.rowsK {T I : TypeId} {w : World} {base : Nat} {v : Value} {L : List (List Int)} (h : own2 T I w base v L) : rowsK w.heap.size w v L := by
  refine ⟨h.rows, ?_⟩
  obtain ⟨us, h1, ⟨h2, h2'⟩, h3, h4⟩ := h
  rcases h2' with ⟨e, h0⟩ | ⟨g, cap, cur, e, hg, hh, h5, h6, h7, h8⟩
  · exact ⟨none, 0, by rw [h0]; exact e, by omega⟩
  · exact ⟨_, cap, e, h5⟩
theorem own2T.rowsK {T I : TypeId} {w : World} {base top : Nat} {v : Value} {L : List (List Int)} (h : own2T T I w base top v L) : rowsK w.heap.size w v L := h.plain.rowsK
theorem rows_take {B : Nat} {w : World} {b o n c : Nat} {L : List (List Int)} (h : rows B w (.slice (some ⟨b, o, none⟩) n c) L) (k : Nat) (hk : k ≤ L.length) (c' : Nat) : rows B w (.slice (some ⟨b, o, none⟩) k c') (L.take k) := by
  have hlk : (L.take k).length = k := by simp; omega
  rcases h with ⟨rfl, _⟩ | ⟨b', o', c2, e, h2, h3, h4⟩
  · left
    exact ⟨by simp, some ⟨b, o, none⟩, c', by simp at hk; rw [hk]⟩
  · cases e
    right
    refine ⟨b, o, c', by rw [hlk], h2, h3, fun j hj => ?_⟩
    rw [hlk] at hj
    obtain ⟨u, hu, hi⟩ := h4 j (by omega)
    refine ⟨u, hu, ?_⟩
    rw [List.getElem?_take, if_pos hj]
    exact hi
theorem two_eq {l m : List Int} (hl : l.length = 2) (hm : m.length = 2) : l = m ↔ l[0]?.getD 0 = m[0]?.getD 0 ∧ l[1]?.getD 0 = m[1]?.getD 0 := by
  match l, hl, m, hm with
  | [a, b], _, [c, d], _ => simp
theorem row_two {L : List (List Int)} {k j : Nat} (h : ptTo L k = true) (hj : j < k) : (L[j]?.getD []).length = 2 := by
  have := ((ptTo_iff L k).1 h j hj).1
  unfold ptRow at this
  rw [Bool.and_eq_true, decide_eq_true_eq] at this
  exact this.1
theorem row_all {r : List Int} (h : r.length = 2) : ptRow r = allTo (-20) 20 r r.length := by
  rw [h]
  unfold ptRow plB allTo allTo allTo
  rw [decide_eq_true h, Bool.true_and, Bool.true_and]
theorem row_long {r : List Int} (h : ¬ r.length = 2) : ptRow r = false := by unfold ptRow; rw [decide_eq_false h]; rfl
theorem has_row {L : List (List Int)} {k j : Nat} (h : ptTo L k = true) (hj : j < k) (hk : (L[k]?.getD []).length = 2) : (L[k]?.getD [] = L[j]?.getD []) ↔ (ptX L j = ptX L k ∧ ptY L j = ptY L k) := by
  rw [two_eq hk (row_two h hj)]
  unfold ptX ptY
  constructor
  · rintro ⟨h1, h2⟩; exact ⟨h1.symm, h2.symm⟩
  · rintro ⟨h1, h2⟩; exact ⟨h1.symm, h2.symm⟩
theorem new_iff (L : List (List Int)) (k : Nat) : ptNew L k = true ↔ ∀ j, j < k → ¬ (ptX L j = ptX L k ∧ ptY L j = ptY L k) := by
  rw [ptNew_has, Bool.not_eq_true', ← Bool.not_eq_true, plHas_iff]
  constructor
  · intro h j hj he; exact h ⟨j, hj, he⟩
  · rintro h ⟨j, hj, he⟩; exact h j hj he
attribute [local irreducible] p2 low memB risB
set_option maxHeartbeats 4000000 in
theorem shPoints_c (u : Value) (L : List (List Int)) (w : World) (hl : rowsK w.heap.size w u L) (hs : small2 L) :
    Calls Tryd.prog 121 #[u] w fun e w' => e = .returned (.bool (ptB L)) ∧ Below w.heap.size w w' := by
  have HL := hide hl.1
  have HS := hide hs
  by_cases hn : 1 ≤ (L.length : Int) ∧ (L.length : Int) ≤ 7
  · have HN := hide hn
    have hl7 : L.length ≤ 7 := by omega
    have HYES := hide (fun h => pt_yes (L := L) HN.out h)
    obtain ⟨b, of, c, hv, hcap⟩ : ∃ b of c, u = .slice (some ⟨b, of, none⟩) L.length c ∧ L.length ≤ c := by
      obtain ⟨h1, p, c, e, hc⟩ := hl
      rcases h1 with ⟨rfl, _⟩ | ⟨b, o, c2, e2, _⟩
      · simp at hn
      · rw [e2] at e; cases e
        exact ⟨b, o, _, e2, hc⟩
    subst hv
    clear hn hl hs
    go_enter Tryd.func121, Tryd.ntmps121
    go_wp2_with (go_at_call 72; refine (spItems_c _ _).mono ?_; rw [decide_eq_true HN.out]; rintro e w1 ⟨rfl, rfl⟩)
    go_loopw [13] (fun i wr => ∃ k : Nat, k ≤ L.length ∧ i = .int .i64 (k : Int) ∧ Hid (ptTo L k = true) ∧ Hid (Below w.heap.size w wr)) (fun i _ => L.length - (intOf i).toNat)
    case atStart => exact ⟨0, Nat.zero_le _, rfl, rfl, Below.refl _ _⟩
    case round =>
      obtain ⟨k, hk, rfl, HJ, HB⟩ := hrel
      have HLW := hide (HL.out.below HB.out (Nat.le_refl _))
      have hwz := HB.out.size
      by_cases hlt : k < L.length
      · have HNX := hide (ptTo_next L k)
        have HBAD := hide (fun h => pt_bad (L := L) hlt h)
        have HNI := hide (new_iff L k)
        have HHR := hide (fun j hj h2 => has_row (L := L) (k := k) (j := j) HJ.out hj h2)
        have hrl := HS.out.row k hlt
        have HRA := hide (fun h => row_all (r := L[k]?.getD []) h)
        have HRL := hide (fun h => row_long (r := L[k]?.getD []) h)
        generalize hr : L[k]?.getD [] = r at *
        have HR := hide hr
        clear hr
        by_cases h2 : r.length = 2
        · have hd : ((r.length : Int) != 2) = false := by rw [h2]; rfl
          have hd2 : (r.length != 2) = false := by rw [h2]; rfl
          have HR2 := hide (HRA.out h2)
          cases ha : allTo (-20) 20 r r.length
          · have HA := hide ha
            have HNO := hide (HBAD.out (by rw [HNX.out, HR2.out, ha]; simp))
            clear ha
            go_wp2_with (first
              | (refine wpList_at2 sliceT2 rowS2 rfl (.tmp _) (.tmp _) rfl _ rfl _ rfl k rfl w.heap.size L HLW.out hlt ?_; intro ad uu hcell hblk hu; rw [HR.out] at hu; have HU := hide (hu.mono hwz); clear hu)
              | (refine wpList_len sliceT rfl (.tmp _) rfl uu rfl wr.heap.size r HU.out ?_)
              | (go_at_call 73; refine (l1All_c uu r (-20) 20 _ HU.out (by omega)).mono ?_; rw [HA.out]; rintro e w2 ⟨rfl, rfl⟩))
            go_ret
            exact ⟨ret_b HNO.out.symm, HB.out⟩
          · have HA := hide ha
            clear ha
            go_wp2_with (first
              | (refine wpList_at2 sliceT2 rowS2 rfl (.tmp _) (.tmp _) rfl _ rfl _ rfl k rfl w.heap.size L HLW.out hlt ?_; intro ad uu hcell hblk hu; rw [HR.out] at hu; have HU := hide (hu.mono hwz); clear hu)
              | (refine wpList_len sliceT rfl (.tmp _) rfl uu rfl wr.heap.size r HU.out ?_)
              | (go_at_call 73; refine (l1All_c uu r (-20) 20 _ HU.out (by omega)).mono ?_; rw [HA.out]; rintro e w2 ⟨rfl, rfl⟩))
            have HTK := hide (rows_take HL.out k (by omega) c)
            have hlk : (L.take k).length = k := by simp; omega
            have HLK := hide hlk
            have HTA := hide (fun j (hj : j < k) => show (L.take k)[j]?.getD [] = L[j]?.getD [] by rw [List.getElem?_take, if_pos hj])
            clear hlk hcell
            generalize L.take k = T at *
            go_loopw [30] (fun i ws => ∃ j : Nat, j ≤ k ∧ i = .int .i64 (j : Int) ∧ Hid (∀ m, m < j → ¬ (ptX L m = ptX L k ∧ ptY L m = ptY L k)) ∧ Hid (Below wr.heap.size wr ws)) (fun i _ => k - (intOf i).toNat)
            case atStart => exact ⟨0, Nat.zero_le _, rfl, fun m hm => by omega, Below.refl _ _⟩
            case round =>
              obtain ⟨j, hj, rfl, HM, HBI⟩ := hrel
              have hsz := HBI.out.size
              have HTW := hide (HTK.out.below ((HB.out).trans (HBI.out.mono hwz)) (Nat.le_refl _))
              have HBW := hide (HB.out.trans (HBI.out.mono hwz))
              by_cases hlj : j < k
              · have HRJ := hide (HTA.out j hlj)
                have HEQ := hide (HHR.out j hlj h2)
                generalize hm : L[j]?.getD [] = m at *
                have hjT : j < T.length := by rw [HLK.out]; exact hlj
                cases he : decide (r = m)
                all_goals
                  have HE := hide he
                  clear he
                  go_wp2_with (first
                    | (refine wpList_at2 sliceT2 rowS2 rfl (.tmp _) (.tmp _) rfl _ rfl _ rfl j rfl w.heap.size T HTW.out hjT ?_; intro ad2 qq hcell2 hblk2 hq; rw [HRJ.out] at hq; have HQ := hide (hq.mono HBW.out.size); clear hq)
                    | (go_at_call 165; refine (l1Same_c uu qq r m _ ((HU.out.below HBI.out (Nat.le_refl _)).mono hsz) HQ.out (by omega)).mono ?_; rw [HE.out]; rintro e w5 ⟨rfl, hb5⟩; have HB5 := hide (HBI.out.trans (hb5.mono hsz)); clear hb5))
                · go_roundw
                  case rel => exact ⟨j + 1, by omega, by go_num, hide (fun i hi => by
                    rcases Nat.lt_or_ge i j with h | h
                    · exact HM.out i h
                    · rw [show i = j by omega, ← HEQ.out]; have := HE.out; rw [decide_eq_false_iff_not] at this; exact this), HB5⟩
                  case measure => simp [intOf]; omega
                · have HNO := hide (HBAD.out (by
                    have h1 : ptNew L k = false := by
                      rw [← Bool.not_eq_true, HNI.out]
                      intro h
                      exact h j hlj (HEQ.out.1 (by have := HE.out; rw [decide_eq_true_eq] at this; exact this))
                    rw [HNX.out, h1]; simp))
                  go_ret
                  exact ⟨ret_b HNO.out.symm, HB.out.trans (HB5.out.mono hwz)⟩
              · have HNW := hide (HNI.out.2 (fun m hm => HM.out m (by omega)))
                have HN2 := hide (show ptTo L (k + 1) = true by rw [HNX.out, HJ.out, HR2.out, HA.out, HNW.out]; rfl)
                have hlj' : ¬ ((j : Int) < (k : Int)) := by omega
                go_wp2
                go_roundw
                case rel => exact ⟨k + 1, by omega, by go_num, HN2, HBW⟩
                case measure => simp [intOf]; omega
        · have hd : ((r.length : Int) != 2) = true := by simp; omega
          have hd2 : (r.length != 2) = true := by simp; exact h2
          have HNO := hide (HBAD.out (by rw [HNX.out, HRL.out h2]; simp))
          go_wp2_with (first
            | (refine wpList_at2 sliceT2 rowS2 rfl (.tmp _) (.tmp _) rfl _ rfl _ rfl k rfl w.heap.size L HLW.out hlt ?_; intro ad uu hcell hblk hu; rw [HR.out] at hu; have HU := hide (hu.mono hwz); clear hu)
            | (refine wpList_len sliceT rfl (.tmp _) rfl uu rfl wr.heap.size r HU.out ?_))
          go_ret
          exact ⟨ret_b HNO.out.symm, HB.out⟩
      · have HE := hide (HYES.out (by rw [← show k = L.length by omega]; exact HJ.out))
        have hlt' : ¬ ((k : Int) < (L.length : Int)) := by omega
        go_wp2
        go_ret
        exact ⟨ret_b HE.out.symm, HB.out⟩
  · have HN := hide hn
    have HNO := hide (pt_no hn)
    obtain ⟨sa, sc, hv⟩ := hl.1.shape
    subst hv
    clear hn hl
    go_enter Tryd.func121, Tryd.ntmps121
    go_wp2_with (go_at_call 72; refine (spItems_c _ _).mono ?_; rw [decide_eq_false HN.out]; rintro e w1 ⟨rfl, rfl⟩)
    go_ret
    exact ⟨ret_b HNO.out.symm, Below.refl _ _⟩

end Go.Proofs.YtonimjpfaalniaaDoor
