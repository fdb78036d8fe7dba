/- Slices of slices whose blocks lie in a known stretch; marks written into them beside what lies outside. -/
import Derived.Test.YtblglkgmnaklbaaDoorRg
import Derived.Deep.Matrix
import Derived.OpenShut
namespace Go.Proofs.YtblglkgmnaklbaaDoor
open Go.RowKit
set_option maxRecDepth 100000
/-- All blocks outside of a stretch are as they were. -/
structure Span (base top : Nat) (w w' : World) : Prop where
  os : w'.os = w.os
  tape : w'.tape = w.tape
  output : w'.output = w.output
  size : w.heap.size ≤ w'.heap.size
  block : ∀ k, k < w.heap.size → (k < base ∨ top ≤ k) → w'.heap[k]? = w.heap[k]?
theorem Span.refl (base top : Nat) (w : World) : Span base top w w := ⟨rfl, rfl, rfl, Nat.le_refl _, fun _ _ _ => rfl⟩
theorem Span.trans {base top : Nat} {a b c : World} (h : Span base top a b) (k : Span base top b c) : Span base top a c :=
  ⟨k.os.trans h.os, k.tape.trans h.tape, k.output.trans h.output, Nat.le_trans h.size k.size, fun i hi hv => (k.block i (Nat.lt_of_lt_of_le hi h.size) hv).trans (h.block i hi hv)⟩
theorem Span.below {base top : Nat} {w w' : World} (h : Span base top w w') (hb : base ≤ w.heap.size) : Below base w w' := ⟨h.os, h.tape, h.output, h.size, fun k hk => h.block k (by omega) (.inl hk)⟩
theorem Other.span {base top : Nat} {u : Value} {w w' : World} (h : Other u w w') (hu : ∀ g, u.ownBlock = some g → base ≤ g ∧ g < top) : Span base top w w' :=
  ⟨h.os, h.tape, h.output, h.size, fun k hk ho => h.block k hk fun e => by have := hu k e; omega⟩
theorem own.span {I : TypeId} {w w' : World} {base top b0 : Nat} {v : Value} {l : List Int} (h : own I w b0 v l) (ho : Span base top w w') (hne : ∀ g, v.ownBlock = some g → g < base ∨ top ≤ g) : own I w' b0 v l := by
  obtain ⟨h1, h2⟩ := h
  refine ⟨h1, ?_⟩
  rcases h2 with h2 | ⟨g, cap, cur, e, hg, hh, r⟩
  · exact .inl h2
  · exact .inr ⟨g, cap, cur, e, hg, (ho.block g (hp_lt hh) (hne g (by subst e; rfl))).trans hh, r⟩
def own2T (T I : TypeId) (w : World) (base top : Nat) (v : Value) (L : List (List Int)) : Prop :=
  ∃ us : List Value, us.length = L.length ∧ w.ownsRow base T 1 v L.length us ∧
    (∀ j, j < L.length → own I w base (us[j]?.getD nilS) (L[j]?.getD []) ∧ ∀ g, (us[j]?.getD nilS).ownBlock = some g → v.ownBlock ≠ some g) ∧
    (∀ i j, i < j → j < L.length → ∀ g, (us[i]?.getD nilS).ownBlock = some g → (us[j]?.getD nilS).ownBlock ≠ some g) ∧
    (∀ g, v.ownBlock = some g → g < top) ∧ ∀ j, j < L.length → ∀ g, (us[j]?.getD nilS).ownBlock = some g → g < top
theorem own2T.plain {T I : TypeId} {w : World} {base top : Nat} {v : Value} {L : List (List Int)} (h : own2T T I w base top v L) : own2 T I w base v L := by
  obtain ⟨us, h1, h2, h3, h4, _⟩ := h
  exact ⟨us, h1, h2, h3, h4⟩
theorem own2.toT {T I : TypeId} {w : World} {base : Nat} {v : Value} {L : List (List Int)} (h : own2 T I w base v L) : own2T T I w base w.heap.size v L := by
  obtain ⟨us, h1, h2, h3, h4⟩ := h
  exact ⟨us, h1, h2, h3, h4, fun g hg => (World.ownsRow.lt h2 g hg).2, fun j hj g hg => (h3 j hj).1.blockLt g hg⟩
theorem own2T.rows {T I : TypeId} {w : World} {base top : Nat} {v : Value} {L : List (List Int)} (h : own2T T I w base top v L) : rows w.heap.size w v L := h.plain.rows
theorem own2T.kept {T I : TypeId} {w w' : World} {base top : Nat} {v : Value} {L : List (List Int)} (h : own2T T I w base top v L) (hb : Below w.heap.size w w') : own2T T I w' base top v L := by
  obtain ⟨us, h1, h2, h3, h4, h5, h6⟩ := h
  exact ⟨us, h1, row_kept h2 hb, fun j hj => ⟨(h3 j hj).1.kept hb, (h3 j hj).2⟩, h4, h5, h6⟩
theorem own2T.alloc {T I : TypeId} {w : World} {base top : Nat} {v : Value} {L : List (List Int)} (h : own2T T I w base top v L) (o : Obj) : own2T T I (w.alloc o) base top v L :=
  h.kept ((Below.refl _ _).alloc (Nat.le_refl _) o)
/-- What another slice's block holds changes; that block lies outside of the stretch. -/
theorem own2T.otherB {T I : TypeId} {w w' : World} {base top : Nat} {u v : Value} {L : List (List Int)} (h : own2T T I w base top v L) (ho : Other u w w') (hu : ∀ g, u.ownBlock = some g → g < base ∨ top ≤ g) : own2T T I w' base top v L := by
  obtain ⟨us, h1, ⟨h2, h2'⟩, h3, h4, h5, h6⟩ := h
  refine ⟨us, h1, ⟨h2, ?_⟩, fun j hj => ⟨(h3 j hj).1.other ho fun g hg e => ?_, (h3 j hj).2⟩, h4, h5, h6⟩
  · rcases h2' with h7 | ⟨g, cap, cur, e, hg, hh, r⟩
    · exact .inl h7
    · exact .inr ⟨g, cap, cur, e, hg, (ho.block g (hp_lt hh) fun e2 => by
        have h8 := hu g e2
        have h9 := h5 g (by subst e; rfl)
        omega).trans hh, r⟩
  · have h8 := (h3 j hj).1.base g hg
    have h9 := h6 j hj g hg
    have h10 := hu g e
    omega
theorem own2T.row {T I : TypeId} {w : World} {base top : Nat} {v : Value} {L : List (List Int)} (h : own2T T I w base top v L) (k : Nat) (hk : k < L.length) :
    ∃ b c u, v = .slice (some ⟨b, 0, none⟩) L.length c ∧ w.cell? ⟨b, k, none⟩ = some u ∧ own I w base u (L[k]?.getD []) ∧ (∀ g, u.ownBlock = some g → g < top) ∧ ∀ l' w', own I w' base u l' → Other u w w' → own2T T I w' base top v (L.set k l') := by
  obtain ⟨us, h1, ⟨h2, h2'⟩, h3, h4, ht, ht2⟩ := h
  rcases h2' with ⟨e, h0⟩ | ⟨g, cap, cur, e, hg, hh, h5, h6, h7, h8⟩
  · omega
  · refine ⟨g, cap, us[k]?.getD nilS, e, ?_, (h3 k hk).1, ht2 k hk, fun l' w' hl' ho => ⟨us, by simp [h1], ?_, fun j hj => ?_, fun i j hij hj => h4 i j hij (by simpa using hj), ht, fun j hj => ht2 j (by simpa using hj)⟩⟩
    · rw [hp_cell hh]
      have h9 : (cur.toList.take (L.length * 1))[k]? = us[k]? := by rw [h8]
      rw [List.getElem?_take, if_pos (by omega)] at h9
      rw [← Array.getElem?_toList, h9, List.getElem?_eq_getElem (by omega)]
      rfl
    · rw [List.length_set]
      refine ⟨h2, .inr ⟨g, cap, cur, e, hg, (ho.block g (hp_lt hh) fun e2 => ?_).trans hh, h5, h6, h7, h8⟩⟩
      exact (h3 k hk).2 g e2 (by subst e; rfl)
    · rw [List.length_set] at hj
      rcases Nat.lt_trichotomy j k with hjk | hjk | hjk
      · rw [List.getElem?_set_ne (by omega)]
        exact ⟨(h3 j hj).1.other ho fun x hx e2 => h4 j k hjk hk x hx e2, (h3 j hj).2⟩
      · subst hjk
        rw [List.getElem?_set_self (by omega)]
        exact ⟨hl', (h3 j hj).2⟩
      · rw [List.getElem?_set_ne (by omega)]
        exact ⟨(h3 j hj).1.other ho fun x hx e2 => h4 k j hjk hj x e2 hx, (h3 j hj).2⟩
set_option maxHeartbeats 1000000 in
theorem markIntSST_c (v : Value) (L : List (List Int)) (k0 : Nat) (w : World) (base top : Nat) (hl : own2T 22 3 w base top v L) (hs : small2 L) (hk0 : k0 < 3000000) :
    Calls Tryd.prog 14 #[v, .int .i64 (k0 : Int)] w fun e w' => e = .returned (.int .i64 ((k0 : Int) + (tot L : Int))) ∧ own2T 22 3 w' base top v (marksR k0 L) ∧ Span base top w w' := by
  have HL := hide hl
  have HS := hide hs
  have hll := hs.1
  have htt := hs.2
  clear hl hs
  go_enter Tryd.func14, Tryd.ntmps14
  go_wp2_with fail
  go_loopw [1, 5] (fun kk i wr => ∃ k : Nat, k ≤ L.length ∧ i = .int .i64 (k : Int) ∧ kk = .int .i64 ((k0 : Int) + (totTo L k : Int)) ∧ Hid (Span base top w wr) ∧ Hid (∃ M, own2T 22 3 wr base top v M ∧ M.length = L.length ∧ (∀ j, j < k → M[j]?.getD [] = upFrom ((k0 : Int) + (totTo L j : Int)) (L[j]?.getD []).length) ∧ ∀ j, k ≤ j → M[j]?.getD [] = L[j]?.getD [])) (fun _ i _ => L.length - (intOf i).toNat)
  case atStart => exact ⟨0, Nat.zero_le _, rfl, by simp [totTo], Span.refl _ _ _, ⟨L, HL.out, rfl, fun j hj => by omega, fun _ _ => rfl⟩⟩
  case round =>
    obtain ⟨k, hk, rfl, rfl, HB, HM⟩ := hrel
    obtain ⟨M, hm, hml, hm1, hm2⟩ := HM.out
    have HMM := hide hm
    have HML := hide hml
    have HM1 := hide hm1
    have HM2 := hide hm2
    have HMR := hide hm.rows
    have hsz := HB.out.size
    have htk := totTo_mono L k L.length hk
    have htd : totTo L L.length = tot L := rfl
    have HTN := hide (show totTo L (k + 1) = totTo L k + (L[k]?.getD []).length from rfl)
    clear HM hm hm1 hm2
    by_cases hlt : k < L.length
    · have hrl := row_le L k hlt
      have hlt2 : k < M.length := by omega
      have hltm : (k : Int) < (M.length : Int) := by omega
      obtain ⟨b, c, u, hv, hcell, hu, hut, hset⟩ := HMM.out.row k hlt2
      rw [HM2.out k (Nat.le_refl _)] at hu
      have HV := hide hv
      have HU := hide hu
      have HUT := hide hut
      have HSET := hide hset
      generalize hlk : L[k]?.getD [] = r at hrl hu HU HTN
      generalize htt2 : totTo L k = T at htk hrl HTN
      have HLK := hide hlk
      have HTT := hide htt2
      clear hv hu hut hset hml hlk htt2
      go_wp2_with (first
        | (refine wpList_len2 sliceT2 rfl (.tmp _) rfl v rfl wr.heap.size M HMR.out ?_)
        | (refine wpList_atB sliceT2 rowS2 rfl (.tmp _) (.tmp _) rfl b M.length c (Eq.trans rfl HV.out) _ rfl k rfl hlt2 ?_)
        | (go_at_call 29; refine (markIntS_c u r ((k0 : Int) + (T : Int)) wr base HU.out (by omega) (by omega) (by omega)).mono ?_; rintro e w2 ⟨rfl, ho2, hb2⟩; have HO2 := hide ho2; have HB2 := hide hb2; clear ho2 hb2))
      go_roundw
      case rel =>
        refine ⟨k + 1, by omega, by go_num, by rw [HTN.out]; go_num, HB.out.trans (HB2.out.span fun g hg => ⟨HU.out.base g hg, HUT.out g hg⟩), ⟨M.set k (upFrom ((k0 : Int) + (T : Int)) r.length), HSET.out _ _ HO2.out HB2.out, by rw [List.length_set]; exact HML.out, fun j hj => ?_, fun j hj => ?_⟩⟩
        · rcases Nat.lt_or_ge j k with h | h
          · rw [List.getElem?_set_ne (by omega)]; exact HM1.out j h
          · have : j = k := by omega
            subst this
            rw [List.getElem?_set_self hlt2, HTT.out, HLK.out]; rfl
        · rw [List.getElem?_set_ne (by omega)]; exact HM2.out j (by omega)
      case measure => simp [intOf]; omega
    · have HK := hide (show k = L.length by omega)
      have hlt' : ¬ ((k : Int) < (M.length : Int)) := by omega
      clear hml
      go_wp2_with (refine wpList_len2 sliceT2 rfl (.tmp _) rfl v rfl wr.heap.size M HMR.out ?_)
      go_ret
      refine ⟨ret_i (by rw [HK.out]; rfl), ?_, HB.out⟩
      have e : M = marksR k0 L := rows_eq (by rw [HML.out, marksR_len]) fun j hj => by
        rw [marksR_len] at hj
        rw [marksR_at _ _ _ hj]
        exact HM1.out j (by rw [HK.out]; exact hj)
      rw [← e]; exact HMM.out
theorem markIntSST1_c (v : Value) (L : List (List Int)) (w : World) (base top : Nat) (hl : own2T 22 3 w base top v L) (hs : small2 L) :
    Calls Tryd.prog 14 #[v, .int .i64 1] w fun e w' => e = .returned (.int .i64 (1 + (tot L : Int))) ∧ own2T 22 3 w' base top v (marksR 1 L) ∧ Span base top w w' :=
  markIntSST_c v L 1 w base top hl hs (by omega)
/-- What a row is, as it comes in. -/
theorem row_in {W : World} {A : Option Addr} {ln c : Nat} {zs : List Int} (hl : ln ≤ c) (hz : zs.length = c) (hn : A = none → c = 0) (hc : ∀ a', A = some a' → ∀ i, i < c → W.cell? (a'.add i) = some (.int .i64 (zs.getD i 0))) : ints W.heap.size W (.slice A ln c) (zs.take ln) := by
  have htk : (zs.take ln).length = ln := by rw [List.length_take]; omega
  rcases Nat.eq_zero_or_pos ln with h0 | h0
  · subst h0
    exact .inl ⟨by simp, A, c, rfl⟩
  · cases A with
    | none => have := hn rfl; omega
    | some a' =>
      obtain ⟨b, off, rfl, hcc⟩ := ints_at (w := W) (a := a') (k := .i64) (zs := zs) (fun i hi => hc a' rfl i (by omega)) (by omega)
      have hbl := block_lt_of_cell (hcc 0 (by omega))
      refine .inr ⟨b, off, c, by rw [htk], hbl, hbl, fun j hj => ?_⟩
      rw [htk] at hj
      rw [hcc j (by omega), List.getElem?_take, if_pos hj]
      rfl
theorem rows_in {W : World} {x : Addr} {len cap : Nat} {A : Nat → Option Addr} {Ln C : Nat → Nat} {Z : Nat → List Int} (hl : len ≤ cap)
    (hr : ∀ r, r < cap → W.cell? (x.add r) = some (.slice (A r) (Ln r) (C r)) ∧ Ln r ≤ C r ∧ C r ≤ maxLen ∧ (Z r).length = C r ∧ (∀ n ∈ Z r, (Lit.int .i64 n).wf = true) ∧ (A r = none → C r = 0) ∧ ∀ a', A r = some a' → 0 ≤ a'.block ∧ ∀ c, c < C r → W.cell? (a'.add c) = some (.int .i64 ((Z r).getD c 0))) :
    rows W.heap.size W (.slice (some x) len cap) ((List.range len).map fun j => (Z j).take (Ln j)) ∧ ∀ j, j < len → (((List.range len).map fun j => (Z j).take (Ln j))[j]?.getD []).length ≤ 9223372036854775807 := by
  have hat : ∀ j, j < len → ((List.range len).map fun j => (Z j).take (Ln j))[j]?.getD [] = (Z j).take (Ln j) := fun j hj => by simp [hj]
  refine ⟨?_, fun j hj => ?_⟩
  · rcases Nat.eq_zero_or_pos len with h0 | h0
    · subst h0; exact .inl ⟨rfl, _, _, rfl⟩
    · obtain ⟨b, off, spot⟩ := x
      have hspot : spot = none := by simpa [Addr.add] using World.cell?_spot (hr 0 (by omega)).1
      subst hspot
      have hc0 := (hr 0 (by omega)).1
      rw [Go.WideShapes.add_plain] at hc0
      have hbl := block_lt_of_cell hc0
      refine .inr ⟨b, off, cap, by simp, hbl, hbl, fun j hj => ?_⟩
      simp only [List.length_map, List.length_range] at hj
      obtain ⟨h1, h2, h3, h4, _, h5, h6⟩ := hr j (by omega)
      rw [Go.WideShapes.add_plain] at h1
      rw [hat j hj]
      exact ⟨_, h1, row_in h2 h4 h5 fun a' e => (h6 a' e).2⟩
  · rw [hat j hj, List.length_take]
    have := (hr j (by omega))
    have h3 := this.2.2.1
    unfold maxLen at h3
    omega
end Go.Proofs.YtblglkgmnaklbaaDoor
