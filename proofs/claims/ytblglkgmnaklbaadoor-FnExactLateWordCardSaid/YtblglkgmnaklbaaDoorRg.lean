/- Contracts of the laws' functions for slices of slices that come in: sizes and copies. -/
import Derived.Test.YtblglkgmnaklbaaDoorRh
namespace Go.Proofs.YtblglkgmnaklbaaDoor
open Go.RowKit
set_option maxRecDepth 100000
/-- The first k rows of a slice of rows that is being filled. -/
def half (T I : TypeId) (w : World) (base g0 : Nat) (us : List Value) (L : List (List Int)) (k : Nat) : Prop :=
  us.length = L.length ∧ w.heap[g0]? = some (.cells us.toArray T) ∧ base ≤ g0 ∧
    (∀ j, j < k → own I w base (us[j]?.getD nilS) (L[j]?.getD []) ∧ ∀ g, (us[j]?.getD nilS).ownBlock = some g → g0 ≠ g) ∧
    ∀ i j, i < j → j < k → ∀ g, (us[i]?.getD nilS).ownBlock = some g → (us[j]?.getD nilS).ownBlock ≠ some g
theorem half.kept {T I : TypeId} {w w' : World} {base g0 : Nat} {us : List Value} {L : List (List Int)} {k : Nat} (h : half T I w base g0 us L k) (hb : Below w.heap.size w w') : half T I w' base g0 us L k :=
  ⟨h.1, (hb.block g0 (hp_lt h.2.1)).trans h.2.1, h.2.2.1, fun j hj => ⟨(h.2.2.2.1 j hj).1.kept hb, (h.2.2.2.1 j hj).2⟩, h.2.2.2.2⟩
theorem half_step {T I : TypeId} {w w1 : World} {base g0 : Nat} {us : List Value} {L : List (List Int)} {k : Nat} (h : half T I w base g0 us L k) (hk : k < L.length) (hb : Below w.heap.size w w1) (hw : base ≤ w.heap.size) (u : Value) (hu : own I w1 w.heap.size u (L[k]?.getD [])) :
    half T I (w1.setCell ⟨g0, k, none⟩ u) base g0 (us.set k u) L (k + 1) := by
  have h1 := h.kept hb
  have hg0 := hp_lt h.2.1
  have hoth : ∀ (x : Value), x.ownBlock = some g0 → Other x w1 (w1.setCell ⟨g0, k, none⟩ u) := fun x hx => (Other.refl x w1).setCell hx k u
  have hmy := hoth (.slice (some ⟨g0, 0, none⟩) 0 0) rfl
  have hub := hu.base
  refine ⟨by rw [List.length_set]; exact h.1, ?_, h.2.2.1, fun j hj => ?_, fun i j hij hj g => ?_⟩
  · rw [hp_set _ _ _ _ _ _ h1.2.1]
    simp
  · rcases Nat.lt_or_ge j k with hjk | hjk
    · rw [List.getElem?_set_ne (by omega)]
      have h2 := h1.2.2.2.1 j hjk
      exact ⟨h2.1.other hmy fun g hg e => h2.2 g hg (by simpa [Value.ownBlock] using e), h2.2⟩
    · have : j = k := by omega
      subst this
      rw [List.getElem?_set_self (by rw [h.1]; exact hk)]
      refine ⟨(hu.other hmy fun g hg e => ?_).mono hw, fun g hg e => ?_⟩
      · have := hub g hg
        simp [Value.ownBlock] at e
        omega
      · have := hub g hg
        omega
  · rw [List.getElem?_set_ne (by omega)]
    rcases Nat.lt_or_ge j k with hjk | hjk
    · rw [List.getElem?_set_ne (by omega)]
      exact h1.2.2.2.2 i j hij hjk g
    · have : j = k := by omega
      subst this
      rw [List.getElem?_set_self (by rw [h.1]; exact hk)]
      intro hg e
      have h3 := ((h.2.2.2.1 i hij).1).blockLt g hg
      have h4 := hub g e
      omega
theorem half_done {T I : TypeId} {w : World} {base g0 : Nat} {us : List Value} {L : List (List Int)} (h : half T I w base g0 us L L.length) (hl : L.length ≤ maxLen) : own2 T I w base (.slice (some ⟨g0, 0, none⟩) L.length L.length) L :=
  ⟨us, h.1, ⟨by rw [h.1]; simp, .inr ⟨g0, L.length, us.toArray, rfl, h.2.2.1, h.2.1, Nat.le_refl _, hl, by simp [h.1], by rw [Nat.mul_one, ← h.1]; simp⟩⟩,
    fun j hj => ⟨(h.2.2.2.1 j hj).1, fun g hg e => (h.2.2.2.1 j hj).2 g hg (by simpa [Value.ownBlock] using e)⟩, h.2.2.2.2⟩
section
variable {P : Program}
theorem wpList_makeRows {t T : TypeId} (ht : P.underlying t = some (.slice T)) (hT : (P.info? T).map (fun i => (i.zero, i.size, i.bytes)) = some (some (.slice none 0 0), 1, 24)) {ops : Array Oper} {rest : List Oper} {o : Oper} {a : Act} {w : World} {Q : Exit → Act → World → Prop}
    (hw : Region.wanted o (yielded ops a.tmps) = true) (x y : Operand) (ho : o.op = .makeSlice t x y) (n : Nat) (hx : a.eval x = .int .i64 (n : Int)) (hy : a.eval y = .int .i64 (n : Int)) (hn : n < 1000000000)
    (h : ∀ w' : World, w'.heap.size = w.heap.size + 1 → w'.heap[w.heap.size]? = some (.cells (List.replicate n (Value.slice none 0 0)).toArray T) → Below w.heap.size w w' → wpList P ops Q rest (a.put o.dst (.slice (some ⟨w.heap.size, 0, none⟩) n n)) w') : wpList P ops Q (o :: rest) a w := by
  obtain ⟨i0, hi, hz0, hz1, hz2⟩ : ∃ i, P.info? T = some i ∧ i.zero = some (.slice none 0 0) ∧ i.size = 1 ∧ i.bytes = 24 := by
    cases hq : P.info? T with
    | none => simp [hq] at hT
    | some j => simp [hq] at hT; exact ⟨j, rfl, hT.1, hT.2.1, hT.2.2⟩
  have hr := run_make (P := P) w t T i0 (.slice none 0 0) ht hi hz0 .i64 .i64 n n (by omega) (Int.le_refl _) (by rw [hz2]; omega) (by omega)
  simp only [Int.toNat_natCast] at hr
  refine wpList_of_wp hw fun K hK => ?_
  unfold Oper.wp execOp
  simp only [ho, hx, hy, Sem.run_bind, Sem.run_pure, hr, Result.andThen_ok]
  refine hK _ _ (h _ (by simp) ?_ ((Below.refl _ _).alloc (Nat.le_refl _) _))
  rw [hp_last]
  congr 2
  apply Array.toList_inj.1
  rw [hz1, Nat.mul_one]
  show (madeCells #[Value.slice none 0 0] n).toList = _
  rw [toList_madeCells_one]
end
theorem half_start {T I : TypeId} {w : World} {g0 : Nat} {L : List (List Int)} (h : w.heap[g0]? = some (.cells (List.replicate L.length (Value.slice none 0 0)).toArray T)) : half T I w g0 g0 (List.replicate L.length (Value.slice none 0 0)) L 0 :=
  ⟨by simp, h, Nat.le_refl _, fun j hj => by omega, fun i j _ hj => by omega⟩
set_option maxHeartbeats 1000000 in
theorem toIntSS_c (v : Value) (L : List (List Int)) (w : World) (hl : rows w.heap.size w v L) (hs : small2 L ∨ (L.length < 2000000 ∧ ∀ j, j < L.length → (L[j]?.getD []).length < 2000000)) :
    Calls Tryd.prog 25 #[v] w fun e w' => ∃ v', e = .returned v' ∧ own2 22 3 w' w.heap.size v' L ∧ Below w.heap.size w w' := by
  have hs2 : L.length < 2000000 ∧ ∀ j, j < L.length → (L[j]?.getD []).length < 2000000 := by
    rcases hs with h | h
    · exact ⟨by have := h.1; omega, fun j hj => by have := h.row j hj; omega⟩
    · exact h
  have HL := hide hl
  have hll := hs2.1
  have HRL := hide hs2.2
  clear hl hs hs2
  go_enter Tryd.func25, Tryd.ntmps25
  go_wp2_with (first
    | (refine wpList_len2 sliceT2 rfl (.tmp _) rfl v rfl w.heap.size L HL.out ?_)
    | (refine wpList_makeRows sliceT2 rowI2 rfl (.tmp _) (.tmp _) rfl L.length rfl rfl (by omega) ?_; intro w1 hz1 hb1 hw1; have HH1 := hide (half_start (I := 3) (L := L) hb1); have HW1 := hide hw1; clear hb1 hw1))
  go_loopw [4] (fun i wr => ∃ k : Nat, k ≤ L.length ∧ i = .int .i64 (k : Int) ∧ Hid (∃ us, half 22 3 wr w.heap.size w.heap.size us L k) ∧ Hid (Below w.heap.size w wr) ∧ w.heap.size + 1 ≤ wr.heap.size) (fun i _ => L.length - (intOf i).toNat)
  case atStart => exact ⟨0, Nat.zero_le _, rfl, ⟨_, HH1.out⟩, HW1, by omega⟩
  case round =>
    obtain ⟨k, hk, rfl, HH, HB, hsz⟩ := hrel
    obtain ⟨us, hh⟩ := HH.out
    have HHH := hide hh
    have HLW := hide ((HL.out.below HB.out (Nat.le_refl _)).mono HB.out.size)
    clear HH hh
    by_cases hlt : k < L.length
    · have hrl := HRL.out k hlt
      have hltm : (k : Int) < (L.length : Int) := by omega
      generalize hr : L[k]?.getD [] = r at hrl
      have HR := hide hr
      clear hr
      go_wp2_with (first
        | (refine wpList_len2 sliceT2 rfl (.tmp _) rfl v rfl wr.heap.size L HLW.out ?_)
        | (refine wpList_at2 sliceT2 rowS2 rfl (.tmp 16) (.tmp _) rfl v rfl _ rfl k rfl wr.heap.size L HLW.out hlt ?_; intro ad u hcell hblk hu; rw [HR.out] at hu; have HU := hide hu; clear hu)
        | (go_at_call 26; refine (toIntS_c u _ wr HU.out (by omega)).mono ?_; rintro e w2 ⟨rfl, hk2, hb2⟩; have HK2 := hide (hk2.own (Nat.le_refl _) (by unfold maxLen; omega)); have HB2 := hide hb2; have hz2 := hb2.size; have hh2 := HHH.out.kept hb2; have hcl : w2.cell? ⟨w.heap.size, k, none⟩ = some (us[k]?.getD nilS) := (by rw [hp_cell hh2.2.1, ← Array.getElem?_toList]; simp [hh2.1, hlt]); have hfr := hp_free hh2.2.1 k; clear hk2 hb2 hh2))
      have hst := half_step HHH.out hlt HB2.out (by omega) (.slice (some ⟨wr.heap.size, 0, none⟩) r.length r.length) (by rw [HR.out]; exact HK2.out)
      have HST := hide hst
      clear hst
      go_roundw
      case rel => exact ⟨k + 1, by omega, by go_num, ⟨_, HST.out⟩, hide ((HB.out.trans (HB2.out.mono (by omega))).setCell (Nat.le_refl _) _), by simp [World.setCell]; omega⟩
      case measure => (simp [intOf] <;> omega)
    · have HK := hide (show k = L.length by omega)
      have hlt' : ¬ ((k : Int) < (L.length : Int)) := by omega
      go_wp2_with (refine wpList_len2 sliceT2 rfl (.tmp _) rfl v rfl wr.heap.size L HLW.out ?_)
      go_ret
      refine ⟨_, rfl, ?_, HB.out⟩
      have h := HHH.out
      rw [HK.out] at h
      exact half_done h (by unfold maxLen; omega)
theorem szOf_big {left : Int} {n m : Nat} (h : left < (n : Int)) : szOf left (n + m) = -1 := by
  unfold szOf
  rw [if_pos (by omega)]
set_option maxHeartbeats 1000000 in
theorem szIntSS_c (v : Value) (L : List (List Int)) (left : Int) (w : World) (hl : rows w.heap.size w v L) (hlen : L.length ≤ 9223372036854775807) (hrow : ∀ j, j < L.length → (L[j]?.getD []).length ≤ 9223372036854775807) (h1 : 0 ≤ left) (h2 : left ≤ 1048576) :
    Calls Tryd.prog 23 #[v, .int .i64 left] w fun e w' => e = .returned (.int .i64 (szOf left (L.length + tot L))) ∧ w = w' := by
  have HL := hide hl
  have HRW := hide hrow
  clear hl hrow
  by_cases hbig : left < (L.length : Int)
  · have HR := hide (szOf_big (m := tot L) hbig)
    have hneg : left - (L.length : Int) < 0 := by omega
    have hwr : IntKind.i64.wrap (left - (L.length : Int)) = left - (L.length : Int) := IntWalk.i64_in _ (by omega)
    go_enter Tryd.func23, Tryd.ntmps23
    go_wp2_with (refine wpList_len2 sliceT2 rfl (.tmp _) rfl v rfl w.heap.size L HL.out ?_)
    go_ret
    exact ⟨ret_i (by rw [HR.out]), rfl⟩
  · have hneg : ¬ (left - (L.length : Int) < 0) := by omega
    have hwr : IntKind.i64.wrap (left - (L.length : Int)) = left - (L.length : Int) := IntWalk.i64_in _ (by omega)
    go_enter Tryd.func23, Tryd.ntmps23
    go_wp2_with (refine wpList_len2 sliceT2 rfl (.tmp _) rfl v rfl w.heap.size L HL.out ?_)
    go_loop [1, 5] (fun lf i => ∃ k : Nat, k ≤ L.length ∧ i = .int .i64 (k : Int) ∧ lf = .int .i64 (left - (L.length : Int) - (totTo L k : Int)) ∧ 0 ≤ left - (L.length : Int) - (totTo L k : Int)) (fun _ i => L.length - (intOf i).toNat)
    case atStart => exact ⟨0, Nat.zero_le _, rfl, by simp [totTo], by simp [totTo]; omega⟩
    case round =>
      obtain ⟨k, hk, rfl, rfl, hpos⟩ := hrel
      have HTN := hide (show totTo L (k + 1) = totTo L k + (L[k]?.getD []).length from rfl)
      by_cases hlt : k < L.length
      · have hrl := HRW.out k hlt
        have hmono := totTo_mono L (k + 1) L.length hlt
        have htd : totTo L L.length = tot L := rfl
        have hltm : (k : Int) < (L.length : Int) := by omega
        have HSZ := hide (fun (u : Value) (h : ints w.heap.size w u (L[k]?.getD [])) => szIntS_c u (L[k]?.getD []) (left - (L.length : Int) - (totTo L k : Int)) w h hrl hpos (by omega))
        have HTT := hide (show (totTo L (k + 1) : Int) = (totTo L k : Int) + ((L[k]?.getD []).length : Int) by rw [HTN.out]; simp)
        generalize (L[k]?.getD []).length = r at hrl HTN HSZ HTT
        by_cases hov : left - (L.length : Int) - (totTo L k : Int) < (r : Int)
        · have hsz : szOf (left - (L.length : Int) - (totTo L k : Int)) r = -1 := by unfold szOf; rw [if_pos hov]
          rw [hsz] at HSZ
          have HFIN := hide (show szOf left (L.length + tot L) = -1 by
            unfold szOf
            rw [if_pos]
            have := HTT.out
            omega)
          clear hsz hmono htd
          go_wp2_with (first
            | (refine wpList_len2 sliceT2 rfl (.tmp _) rfl v rfl w.heap.size L HL.out ?_)
            | (refine wpList_at2 sliceT2 rowS2 rfl (.tmp _) (.tmp _) rfl v rfl _ rfl k rfl w.heap.size L HL.out hlt ?_; intro ad u hcell hblk hu; have HU := hide hu; clear hu)
            | (go_at_call 31; refine (HSZ.out u HU.out).mono ?_; rintro e w2 ⟨rfl, rfl⟩))
          go_ret
          exact ⟨ret_i (by rw [HFIN.out]), rfl⟩
        · have hsz : szOf (left - (L.length : Int) - (totTo L k : Int)) r = left - (L.length : Int) - (totTo L k : Int) - (r : Int) := by unfold szOf; rw [if_neg hov]
          rw [hsz] at HSZ
          have hnn : ¬ (left - (L.length : Int) - (totTo L k : Int) - (r : Int) < 0) := by omega
          clear hsz hmono htd
          go_wp2_with (first
            | (refine wpList_len2 sliceT2 rfl (.tmp _) rfl v rfl w.heap.size L HL.out ?_)
            | (refine wpList_at2 sliceT2 rowS2 rfl (.tmp _) (.tmp _) rfl v rfl _ rfl k rfl w.heap.size L HL.out hlt ?_; intro ad u hcell hblk hu; have HU := hide hu; clear hu)
            | (go_at_call 31; refine (HSZ.out u HU.out).mono ?_; rintro e w2 ⟨rfl, rfl⟩))
          go_round
          case rel => exact ⟨k + 1, by omega, by go_num, by have := HTT.out; go_num, by have := HTT.out; omega⟩
          case measure => (simp [intOf] <;> omega)
      · have HK := hide (show k = L.length by omega)
        have hlt' : ¬ ((k : Int) < (L.length : Int)) := by omega
        go_wp2_with (refine wpList_len2 sliceT2 rfl (.tmp _) rfl v rfl w.heap.size L HL.out ?_)
        go_ret
        refine ⟨ret_i ?_, rfl⟩
        unfold szOf tot
        rw [← HK.out] at hpos ⊢
        rw [if_neg (by omega)]
        omega
end Go.Proofs.YtblglkgmnaklbaaDoor
