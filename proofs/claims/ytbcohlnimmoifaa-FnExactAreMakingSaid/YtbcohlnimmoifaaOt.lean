/- Slices of slices whose rows' capacities are told as well; spOrder of such a row. -/
import Derived.Test.YtbcohlnimmoifaaRt
import Derived.Test.YtbcohlnimmoifaaCh
namespace Go.Proofs.Ytbcohlnimmoifaa
open Go.RowKit
set_option maxRecDepth 100000
/-- A slice of numbers with its capacity, which is at least its length. -/
def intsC (B : Nat) (w : World) (v : Value) (l : List Int) : Prop := ints B w v l ∧ ∃ p c, v = .slice p l.length c ∧ l.length ≤ c ∧ (1 ≤ l.length → ∃ b o, p = some ⟨b, o, none⟩)
theorem intsC.plain {B : Nat} {w : World} {v : Value} {l : List Int} (h : intsC B w v l) : ints B w v l := h.1
theorem intsC.below {B B' : Nat} {w w' : World} {v : Value} {l : List Int} (h : intsC B w v l) (hb : Below B' w w') (hB : B ≤ B') : intsC B w' v l := ⟨h.1.below hb hB, h.2⟩
theorem intsC.mono {B B' : Nat} {w : World} {v : Value} {l : List Int} (h : intsC B w v l) (hB : B ≤ B') : intsC B' w v l := ⟨h.1.mono hB, h.2⟩
theorem own.intsC {I : TypeId} {w : World} {base : Nat} {v : Value} {l : List Int} (h : own I w base v l) : intsC w.heap.size w v l := by
  refine ⟨h.ints, ?_⟩
  rcases h.2 with ⟨e, h0⟩ | ⟨g, cap, cur, e, hg1, hg2, hcap, _⟩
  · exact ⟨none, 0, by rw [h0]; exact e, by omega, fun h1 => by omega⟩
  · exact ⟨_, cap, e, by omega, fun _ => ⟨g, 0, rfl⟩⟩
def rowsC (B : Nat) (w : World) (v : Value) (L : List (List Int)) : Prop :=
  (L = [] ∧ ∃ a c, v = .slice a 0 c) ∨
  ∃ b o c, v = .slice (some ⟨b, o, none⟩) L.length c ∧ b < B ∧ b < w.heap.size ∧ ∀ j, j < L.length → ∃ u, w.cell? ⟨b, o + j, none⟩ = some u ∧ intsC B w u (L[j]?.getD [])
theorem rowsC.plain {B : Nat} {w : World} {v : Value} {L : List (List Int)} (h : rowsC B w v L) : rows B w v L := by
  rcases h with h | ⟨b, o, c, h1, h2, h3, h4⟩
  · exact .inl h
  · exact .inr ⟨b, o, c, h1, h2, h3, fun j hj => let ⟨u, h5, h6⟩ := h4 j hj; ⟨u, h5, h6.1⟩⟩
theorem rowsC.below {B B' : Nat} {w w' : World} {v : Value} {L : List (List Int)} (h : rowsC B w v L) (hb : Below B' w w') (hB : B ≤ B') : rowsC B w' v L := by
  rcases h with h | ⟨b, o, c, h1, h2, h3, h4⟩
  · exact .inl h
  · refine .inr ⟨b, o, c, h1, h2, Nat.lt_of_lt_of_le h3 hb.size, fun j hj => ?_⟩
    obtain ⟨u, hu, hi⟩ := h4 j hj
    exact ⟨u, (hb.cell (p := ⟨b, o + j, none⟩) (by show b < B'; omega)).trans hu, hi.below hb hB⟩
theorem rowsC.mono {B B' : Nat} {w : World} {v : Value} {L : List (List Int)} (h : rowsC B w v L) (hB : B ≤ B') : rowsC B' w v L := by
  rcases h with h | ⟨b, o, c, h1, h2, h3, h4⟩
  · exact .inl h
  · refine .inr ⟨b, o, c, h1, by omega, h3, fun j hj => ?_⟩
    obtain ⟨u, hu, hi⟩ := h4 j hj
    exact ⟨u, hu, hi.mono hB⟩
theorem own2.rowsC {T I : TypeId} {w : World} {base : Nat} {v : Value} {L : List (List Int)} (h : own2 T I w base v L) : rowsC w.heap.size w v L := by
  obtain ⟨us, h1, ⟨h2, h2'⟩, h3, h4⟩ := h
  rcases h2' with ⟨e, h0⟩ | ⟨g, cap, cur, e, hg, hh, h5, h6, h7, h8⟩
  · have : L = [] := List.eq_nil_of_length_eq_zero h0
    subst this
    exact .inl ⟨rfl, none, 0, e⟩
  · refine .inr ⟨g, 0, cap, e, hp_lt hh, hp_lt hh, fun j hj => ⟨us[j]?.getD nilS, ?_, (h3 j hj).1.intsC⟩⟩
    rw [Nat.zero_add, hp_cell hh]
    have h9 : (cur.toList.take (L.length * 1))[j]? = us[j]? := by rw [h8]
    rw [List.getElem?_take, if_pos (by omega)] at h9
    rw [← Array.getElem?_toList, h9, List.getElem?_eq_getElem (by omega)]
    rfl
theorem own2T.rowsC {T I : TypeId} {w : World} {base top : Nat} {v : Value} {L : List (List Int)} (h : own2T T I w base top v L) : rowsC w.heap.size w v L := h.plain.rowsC
/-- A row is looked up: with its capacity. -/
theorem rowsC.at {B : Nat} {w : World} {v : Value} {L : List (List Int)} (h : rowsC B w v L) {k : Nat} (hk : k < L.length) {ad : Addr} {u : Value} (hu : w.cell? ad = some u)
    (hv : ∃ b o c, v = .slice (some ⟨b, o, none⟩) L.length c ∧ ad = ⟨b, o + k, none⟩) : intsC B w u (L[k]?.getD []) := by
  rcases h with ⟨rfl, _⟩ | ⟨b, o, c, h1, h2, h3, h4⟩
  · simp at hk
  · obtain ⟨b', o', c', e1, e2⟩ := hv
    rw [h1] at e1
    cases e1
    obtain ⟨u', h5, h6⟩ := h4 k hk
    rw [e2, h5] at hu
    cases hu
    exact h6
theorem take_ints {B : Nat} {w : World} {b o c c' : Nat} {l : List Int} (h : ints B w (.slice (some ⟨b, o, none⟩) l.length c) l) (k : Nat) (hk : k ≤ l.length) : ints B w (.slice (some ⟨b, o, none⟩) k c') (l.take k) := by
  rcases h with ⟨h0, _⟩ | ⟨b2, o2, c2, h1, h2, h3, h4⟩
  · subst h0
    have : k = 0 := by simpa using hk
    subst this
    exact .inl ⟨rfl, _, _, rfl⟩
  · cases h1
    refine .inr ⟨b, o, c', by rw [List.length_take, Nat.min_eq_left hk], h2, h3, fun j hj => ?_⟩
    rw [List.length_take] at hj
    rw [h4 j (by omega), List.getElem?_take, if_pos (by omega)]
attribute [local irreducible] p2 low memB risB
set_option maxHeartbeats 1000000 in
theorem spOrderC_c (v : Value) (l : List Int) (w : World) (hl : intsC w.heap.size w v l) (hlen : l.length < 1000000000) :
    Calls Try.prog 28 #[v] w fun e w' => e = .returned (.bool (okOrd l)) ∧ w = w' := by
  obtain ⟨hli, p, cap, rfl, hcap, hp⟩ := hl
  have HL := hide hli
  have HS := hide (ord_same l)
  by_cases hn : 1 ≤ (l.length : Int) ∧ (l.length : Int) ≤ 7
  · have HN := hide hn
    have hn7 : l.length ≤ 7 := by omega
    have HE := hide (show okOrd l = wordTo anySet l.length l l.length by rw [okOrd, decide_eq_true hn]; rfl)
    obtain ⟨g, o, rfl⟩ := hp (by omega)
    clear hp hn hli
    cases hall : allTo 0 ((l.length : Int) - 1) l l.length
    · have HA := hide hall
      have HR := hide (show okOrd l = false by rw [HE.out, ← HS.out, hall]; rfl)
      clear hall
      go_enter Try.func28, Try.ntmps28
      go_wp2_with (first
        | (refine wpList_len sliceT rfl (.tmp _) rfl _ rfl w.heap.size l HL.out ?_)
        | (go_at_call 24; refine (spItems_c _ _).mono ?_; rw [decide_eq_true HN.out]; rintro e w' ⟨rfl, rfl⟩)
        | (go_at_call 43; refine (l1All_c _ l 0 ((l.length : Int) - 1) _ HL.out hlen).mono ?_; rw [HA.out]; rintro e w' ⟨rfl, rfl⟩))
      go_ret
      exact ⟨ret_b HR.out.symm, rfl⟩
    · have HA := hide hall
      have HR := hide (show okOrd l = dupTo l l.length by rw [HE.out, ← HS.out, hall]; rfl)
      have HDI := hide (dupTo_iff l l.length)
      clear hall
      go_enter Try.func28, Try.ntmps28
      go_wp2_with (first
        | (refine wpList_len sliceT rfl (.tmp _) rfl _ rfl w.heap.size l HL.out ?_)
        | (go_at_call 24; refine (spItems_c _ _).mono ?_; rw [decide_eq_true HN.out]; rintro e w' ⟨rfl, rfl⟩)
        | (go_at_call 43; refine (l1All_c _ l 0 ((l.length : Int) - 1) _ HL.out hlen).mono ?_; rw [HA.out]; rintro e w' ⟨rfl, rfl⟩))
      go_loop [19] (fun i => ∃ k : Nat, k ≤ l.length ∧ i = .int .i64 k ∧ Hid (∀ j, j < k → memB (l.take j) (l[j]?.getD 0) = false)) (fun i => l.length - (intOf i).toNat)
      case atStart => exact ⟨0, Nat.zero_le _, rfl, fun j hj => by omega⟩
      case round =>
        obtain ⟨k, hk, rfl, HJ⟩ := hrel
        by_cases hlt : k < l.length
        · have HT := hide (take_ints (c' := cap) HL.out k (by omega))
          have hkc : k ≤ cap := by omega
          have htl : (l.take k).length < 1000000000 := by simp; omega
          have HTL := hide htl
          clear htl
          generalize hx : l[k]?.getD 0 = x
          have HX := hide hx
          clear hx
          cases hm : memB (l.take k) x
          · have HM := hide hm
            clear hm
            generalize htk : l.take k = tk at HT HM HTL
            have HTK := hide htk
            clear htk
            go_wp2_with (first
              | (refine wpList_at sliceT intS rfl (.tmp _) (.tmp _) rfl _ rfl k rfl w.heap.size l HL.out hlt ?_; intro ad hcell hblk; rw [HX.out] at hcell)
              | (go_at_call 44; refine (l1Has_c _ tk x _ HT.out HTL.out).mono ?_; rw [HM.out]; rintro e w' ⟨rfl, rfl⟩))
            go_round
            case rel =>
              refine ⟨k + 1, by omega, by go_num, fun j hj => ?_⟩
              rcases Nat.lt_or_ge j k with h | h
              · exact HJ.out j h
              · rw [show j = k by omega, HX.out, HTK.out]; exact HM.out
            case measure => simp [intOf]; omega
          · have HNO := hide (show okOrd l = false by
              rw [HR.out, ← Bool.not_eq_true, HDI.out]
              intro h
              have := h k hlt
              rw [HX.out, hm] at this; cases this)
            have HM := hide hm
            clear hm
            generalize htk : l.take k = tk at HT HM HTL
            clear htk
            go_wp2_with (first
              | (refine wpList_at sliceT intS rfl (.tmp _) (.tmp _) rfl _ rfl k rfl w.heap.size l HL.out hlt ?_; intro ad hcell hblk; rw [HX.out] at hcell)
              | (go_at_call 44; refine (l1Has_c _ tk x _ HT.out HTL.out).mono ?_; rw [HM.out]; rintro e w' ⟨rfl, rfl⟩))
            go_ret
            exact ⟨ret_b HNO.out.symm, rfl⟩
        · have HK := hide (show k = l.length by omega)
          have hlt' : ¬ ((k : Int) < (l.length : Int)) := by omega
          clear hk
          go_wp2
          go_ret
          refine ⟨ret_b (Eq.symm ?_), rfl⟩
          rw [HR.out, HDI.out]
          exact fun j hj => HJ.out j (by rw [HK.out]; exact hj)
  · have HN := hide hn
    have HR := hide (show okOrd l = false by rw [okOrd, decide_eq_false hn]; rfl)
    clear hn
    go_enter Try.func28, Try.ntmps28
    go_wp2_with (first
      | (refine wpList_len sliceT rfl (.tmp _) rfl _ rfl w.heap.size l HL.out ?_)
      | (go_at_call 24; refine (spItems_c _ _).mono ?_; rw [decide_eq_false HN.out]; rintro e w' ⟨rfl, rfl⟩))
    go_ret
    exact ⟨ret_b HR.out.symm, rfl⟩
end Go.Proofs.Ytbcohlnimmoifaa
