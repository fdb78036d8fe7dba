/- Contracts: the program's set of lists (a map whose keys are arrays). -/
import Derived.Test.YtknjiomagdfgfaaDoorAk
import Derived.Test.YtknjiomagdfgfaaDoorRt
import Derived.Test.YtknjiomagdfgfaaDoorWc
import Derived.Laws.CopyOwn
import Derived.Maps.OwnOps
namespace Go.Proofs.YtknjiomagdfgfaaDoor
open Go.RowKit
open Go.WideMaps
set_option maxRecDepth 100000
theorem row7 : (Tryd.prog.underlying 102).map TypeDesc.isRow = some true := by kernel_rfl
theorem size7 : (Tryd.prog.info? 102).map (·.size) = some 7 := by kernel_rfl
theorem zero7 : ((Tryd.prog.info? 102).bind (·.zero)).map Value.cells = some (rowV [0, 0, 0, 0, 0, 0, 0]) := by kernel_rfl
section
variable {P : Program}
theorem wpList_load_7 {T : TypeId} (hT : (P.underlying T).map TypeDesc.isRow = some true) (hS : (P.info? T).map (·.size) = some 7)
    {ops : Array Oper} {rest : List Oper} {o : Oper} {a : Act} {w : World} {Q : Exit → Act → World → Prop} (hw : Region.wanted o (yielded ops a.tmps) = true) (x : Operand) (ho : o.op = .load T x)
    (g : Nat) (hx : a.eval x = .pointer (some ⟨g, 0, none⟩)) (m : List Int) (hm : m.length = 7) (hg : blk T w g m)
    (h : wpList P ops Q rest (a.put o.dst (.agg (rowV m))) w) : wpList P ops Q (o :: rest) a w := by
  obtain ⟨d, hu, hd⟩ := rowTy_of hT
  exact wpList_of_wp hw fun _ hK => wp_load_row T x ho g hx T (rowV m) (0, 0) d hg hu (by cases d <;> first | rfl | (cases hd)) (by rw [hS, rowV_size, hm]) (hK _ _ h)
theorem wpList_store_7 {T : TypeId} (hS : (P.info? T).map (·.size) = some 7)
    {ops : Array Oper} {rest : List Oper} {o : Oper} {a : Act} {w : World} {Q : Exit → Act → World → Prop} (hw : Region.wanted o (yielded ops a.tmps) = true) (x y : Operand) (ho : o.op = .store T x y)
    (g : Nat) (m : List Int) (hm : m.length = 7) (hx : a.eval x = .pointer (some ⟨g, 0, none⟩)) (hy : a.eval y = .agg (rowV m)) (m0 : List Int) (hm0 : m0.length = 7) (hg : blk T w g m0)
    (h : wpList P ops Q rest (a.put o.dst undef) (w.setRow g (rowV m))) : wpList P ops Q (o :: rest) a w :=
  wpList_of_wp hw fun _ hK => wp_store_row T x y ho g (rowV m) hx hy T (rowV m0) hg (by rw [hS, rowV_size, hm]) (by rw [rowV_size, rowV_size, hm, hm0]) (rowV_one m) (hK _ _ h)
end
def pad7 (l : List Int) : List Int := l ++ (List.range (7 - l.length)).map fun _ => 0
theorem pad7_len {l : List Int} (h : l.length ≤ 7) : (pad7 l).length = 7 := by simp [pad7]; omega
theorem pad7_wf {l : List Int} (h : i64s l) : i64s (pad7 l) := fun x hx => by
  unfold pad7 at hx
  rw [List.mem_append] at hx
  rcases hx with hx | hx
  · exact h x hx
  · obtain ⟨_, _, rfl⟩ := List.mem_map.1 hx
    decide
theorem pad7_inj {l m : List Int} (h : l.length = m.length) (e : pad7 l = pad7 m) : l = m := by
  unfold pad7 at e
  exact (List.append_inj e h).1
theorem splice7 {l : List Int} (h : l.length ≤ 7) : (splice ([0, 0, 0, 0, 0, 0, 0].map (Value.int .i64)) 0 (l.map (Value.int .i64))).toArray = rowV (pad7 l) := by
  have e : splice ([0, 0, 0, 0, 0, 0, 0].map (Value.int .i64)) 0 (l.map (Value.int .i64)) = (pad7 l).map (Value.int .i64) := by
    unfold splice pad7
    rw [List.map_append]
    simp only [List.take_zero, List.nil_append, List.length_map, Nat.zero_add]
    congr 1
    have : l.length = 0 ∨ l.length = 1 ∨ l.length = 2 ∨ l.length = 3 ∨ l.length = 4 ∨ l.length = 5 ∨ l.length = 6 ∨ l.length = 7 := by omega
    rcases this with h | h | h | h | h | h | h | h <;> rw [h] <;> rfl
  rw [e]
  rfl
/-- Whether the first k lists have n numbers. -/
def lenB (n : Nat) (L : List (List Int)) : Nat → Bool
  | 0 => true
  | k + 1 => lenB n L k && decide ((L[k]?.getD []).length = n)
theorem lenB_iff (n : Nat) (L : List (List Int)) : ∀ k, lenB n L k = true ↔ ∀ j, j < k → (L[j]?.getD []).length = n
  | 0 => by simp [lenB]
  | k + 1 => by
    rw [lenB, Bool.and_eq_true, lenB_iff n L k, decide_eq_true_eq]
    constructor
    · rintro ⟨h1, h2⟩ j hj
      rcases Nat.lt_or_ge j k with h | h
      · exact h1 j h
      · have : j = k := by omega
        subst this; exact h2
    · intro h
      exact ⟨fun j hj => h j (by omega), h k (by omega)⟩
theorem lenB_false {n : Nat} {L : List (List Int)} {k : Nat} (h : (L[k]?.getD []).length ≠ n) (m : Nat) (hm : k < m) : lenB n L m = false := by
  cases h2 : lenB n L m
  · rfl
  · exact absurd ((lenB_iff n L m).1 h2 k hm) h
def bT : DataW Unit := .lit (.bool true)
def keysOf (L : List (List Int)) (k : Nat) : List Lit := (L.take k).map fun l => kk (pad7 l)
def mapD (L : List (List Int)) (k : Nat) : DataW Unit := Maps.setOf bT (keysOf L k)
theorem mapD_next (L : List (List Int)) (k : Nat) (hk : k < L.length) : mapD L (k + 1) = (mapD L k).put (kk (pad7 (L[k]?.getD []))) bT := by
  unfold mapD keysOf
  rw [List.take_add_one, List.map_append, List.getElem?_eq_getElem hk, ← Maps.setOf_snoc]
  rfl
theorem ints_src {B : Nat} {w : World} {sa : Option Addr} {n sc : Nat} {l : List Int} (h : ints B w (.slice sa n sc) l) (h0 : 0 < l.length) :
    ∃ ad : Addr, sa = some ad ∧ ad.block < B ∧ ad.block < w.heap.size ∧ ∀ (j : Nat) (v : Value), (l.map (Value.int .i64))[j]? = some v → w.cell? (ad.add j) = some v := by
  rcases h with ⟨rfl, _⟩ | ⟨b, o, c, e, h1, h2, h3⟩
  · simp at h0
  · injection e with e1 e2 e3
    refine ⟨⟨b, o, none⟩, e1, h1, h2, fun j v hj => ?_⟩
    have hjl : j < l.length := by
      rcases Nat.lt_or_ge j l.length with h | h
      · exact h
      · rw [List.getElem?_eq_none (by simpa using h)] at hj; cases hj
    have h4 := h3 j hjl
    rw [List.getElem?_map, List.getElem?_eq_getElem hjl] at hj
    rw [List.getElem?_eq_getElem hjl] at h4
    have e5 : (⟨b, o, none⟩ : Addr).add j = ⟨b, o + j, none⟩ := by
      unfold Addr.add
      split
      · rename_i h; simp_all
      · rfl
    rw [e5, h4]
    simpa using hj
theorem below_grown {w w' : World} (h : Below w.heap.size w w') : w.grownBy w' none := ⟨h.os, h.tape, h.output, h.size, fun i hi _ => h.block i hi⟩
theorem grown_below {w w' : World} {B b : Nat} (h : w.grownBy w' (some b)) (hb : B ≤ b) (hB : B ≤ w.heap.size) : Below B w w' :=
  ⟨h.os, h.tape, h.output, h.size, fun k hk => h.block k (by omega) (by simp; omega)⟩
def ownsW (w : World) (b n : Nat) (D : DataW Unit) : Prop := w.ownsMap Tryd.prog 102 (plainElem Tryd.prog 4) b n D
theorem copy7 (r : List Int) (hr : r.length ≤ 7) (w : World) (ad : Addr) (n c : Nat) (hn : n = r.length) (hb : ad.block < w.heap.size) (hsrc : ∀ (j : Nat) (v : Value), (r.map (Value.int .i64))[j]? = some v → w.cell? (ad.add j) = some v) :
    (Builtin.copy_ #[22, 22] 3 #[.slice (some ⟨w.heap.size, 0, none⟩) 7 7, .slice (some ad) n c]).run Tryd.prog (w.alloc (.cells (rowV [0, 0, 0, 0, 0, 0, 0]) 102)) =
      .ok (.int .i64 (n : Int)) ((w.alloc (.cells (rowV [0, 0, 0, 0, 0, 0, 0]) 102)).setRow w.heap.size (rowV (pad7 r))) := by
  subst hn
  have h := run_copy_row (P := Tryd.prog) (w.alloc (.cells (rowV [0, 0, 0, 0, 0, 0, 0]) 102)) 22 22 3 3 w.heap.size 0 7 7 ad r.length c (rowV [0, 0, 0, 0, 0, 0, 0]) 102 (r.map (Value.int .i64)) sliceT intS (hp_last _ _)
    (by rw [List.length_map]; exact (Nat.min_eq_left hr).symm)
    (fun j v hj => (((Below.refl w.heap.size w).alloc (Nat.le_refl _) (.cells (rowV [0, 0, 0, 0, 0, 0, 0]) 102)).cell (p := ad.add j) (by have : (ad.add j).block = ad.block := (by unfold Addr.add; split <;> rfl); omega)).trans (hsrc j v hj))
    (by rw [List.length_map, rowV_size]; simpa using hr) (fun v hv => by obtain ⟨x, _, rfl⟩ := List.mem_map.1 hv; rfl)
  rw [h, List.length_map]
  have e := splice7 hr
  unfold splice at e
  rw [← e]
  rw [List.length_map]
  rfl
attribute [local irreducible] p2 low memB risB
set_option maxHeartbeats 2000000 in
theorem wordSetOf_c (n : Nat) (u : Value) (L : List (List Int)) (w : World) (hl : rows w.heap.size w u L) (hs : small2 L) (h200 : L.length ≤ 200) (h1 : 1 ≤ n) (h7 : n ≤ 7) (hw : ∀ j, j < L.length → i64s (L[j]?.getD [])) :
    Calls Tryd.prog 63 #[.int .i64 (n : Int), u] w fun e w' => ∃ v', e = .returned (.tuple #[v', .bool (lenB n L L.length)]) ∧ (lenB n L L.length = true → ∃ b, v' = .map (some b) ∧ w.heap.size ≤ b ∧ ownsW w' b 200 (mapD L L.length)) ∧ Below w.heap.size w w' := by
  have HL := hide (hl.alloc (.map #[] 0))
  have HB0 := hide ((Below.refl w.heap.size w).alloc (Nat.le_refl _) (.map #[] 0))
  have HZ := hide (show (w.alloc (.map #[] 0)).heap.size = w.heap.size + 1 by simp)
  have HM := hide (show ownsW (w.alloc (.map #[] 0)) w.heap.size 0 (mapD L 0) from World.ownsMap_made w Tryd.prog 102 _)
  have HWF := hide hw
  have hmm := @run_makeMap Tryd.prog
  have hll := hs.1
  clear hl hw hs
  go_enter Tryd.func63, Tryd.ntmps63
  go_wp2_with (refine wpList_len2 sliceT2 rfl (.tmp _) rfl u rfl w.heap.size L HL.out ?_)
  clear hmm
  generalize (w.alloc (.map #[] 0)) = W at HL HB0 HZ HM ⊢
  go_loopw [13] (fun i wr => ∃ k : Nat, k ≤ L.length ∧ i = .int .i64 (k : Int) ∧ Hid (lenB n L k = true) ∧ Hid (ownsW wr w.heap.size k (mapD L k)) ∧ Hid (W.heap.size ≤ wr.heap.size ∧ Below w.heap.size W wr)) (fun i _ => L.length - (intOf i).toNat)
  case atStart => exact ⟨0, Nat.zero_le _, rfl, rfl, HM, Nat.le_refl _, Below.refl _ _⟩
  case round =>
    obtain ⟨k, hk, rfl, HJ, HO, HB⟩ := hrel
    have hsz := HB.out.1
    rw [HZ.out] at hsz
    have HLW := hide (HL.out.below HB.out.2 (Nat.le_refl _))
    by_cases hlt : k < L.length
    · have HNX := hide (show lenB n L (k + 1) = (lenB n L k && decide ((L[k]?.getD []).length = n)) from rfl)
      have HFA := hide (fun h => lenB_false (n := n) (L := L) (k := k) h L.length hlt)
      have HDN := hide (mapD_next L k hlt)
      have HWR := hide (HWF.out k hlt)
      generalize hr : L[k]?.getD [] = r at HNX HFA HDN HWR
      have HR := hide hr
      clear hr
      by_cases hrn : r.length = n
      · have hbn : ((r.length : Int) != (n : Int)) = false := by rw [hrn]; simp
        have HRN := hide hrn
        have hr7 : r.length ≤ 7 := by omega
        have HPL := hide (pad7_len hr7)
        have HKO := hide (keyOf7 (pad7_len hr7) (pad7_wf HWR.out))
        have HSP := hide (splice7 hr7)
        have HNN := hide (show lenB n L (k + 1) = true by rw [HNX.out, HJ.out, decide_eq_true hrn]; rfl)
        generalize mapD L k = D at HO HDN
        clear hrn
        have hb5 : Below wr.heap.size wr ((wr.alloc (.cells (rowV [0, 0, 0, 0, 0, 0, 0]) 102)).setRow wr.heap.size (rowV (pad7 r))) := below_setRow ((Below.refl wr.heap.size wr).alloc (Nat.le_refl _) _) (Nat.le_refl _) _
        have HBK := hide ((blk.new 102 wr [0, 0, 0, 0, 0, 0, 0]).row (pad7 r))
        have HO5 := hide (show ownsW ((wr.alloc (.cells (rowV [0, 0, 0, 0, 0, 0, 0]) 102)).setRow wr.heap.size (rowV (pad7 r))) w.heap.size k D from World.ownsMap.kept HO.out (below_grown hb5) (by simp))
        have HZ5 := hide (show ((wr.alloc (.cells (rowV [0, 0, 0, 0, 0, 0, 0]) 102)).setRow wr.heap.size (rowV (pad7 r))).heap.size = wr.heap.size + 1 by simp [World.setRow])
        have HB5 := hide hb5
        clear hb5
        go_wp2_with (first
          | (refine wpList_at2 sliceT2 rowS2 rfl (.tmp _) (.tmp _) rfl u rfl _ rfl k rfl w.heap.size L HLW.out hlt ?_; intro ad uu hcell hblk hu; rw [HR.out] at hu; have HU := hide hu; obtain ⟨sa, sc, hsu⟩ := hu.shape; subst hsu; clear hu; obtain ⟨ad2, e2, hs1, hs2, hs3⟩ := ints_src HU.out (by rw [HRN.out]; omega); subst e2; have hcp := copy7 r hr7 wr ad2 r.length sc rfl hs2 hs3; clear hs1 hs3)
          | (refine wpList_len sliceT rfl (.tmp _) rfl _ rfl w.heap.size r HU.out ?_)
          | (refine wpList_alloc_arr zero7 rfl rfl _ rfl ?_)
          | (refine wpList_load_7 row7 size7 rfl (.tmp 9) rfl _ rfl (pad7 r) HPL.out HBK.out ?_)
          | (at_mapUpdate; refine wpList_mapUpdate_own _ rfl _ _ _ 80 rfl 102 4 law7 mapU _ w.heap.size k D rfl HO5.out (by unfold maxLen; omega) _ _ (kk (pad7 r)) rfl rfl HKO.out bT [] (plainElem_bool boolU true) ?_; intro w6 hown6 hgrow6; have HO6 := hide (show ownsW w6 w.heap.size (k + 1) (D.put (kk (pad7 r)) bT) from hown6); have HB6 := hide ((HB.out.2.trans (HB5.out.mono (by omega))).trans (grown_below hgrow6 (Nat.le_refl _) (by rw [HZ5.out]; omega))); have hz6 := hgrow6.size; rw [HZ5.out] at hz6; clear hown6 hgrow6))
        go_roundw
        case rel => exact ⟨k + 1, by omega, by go_num, HNN, by rw [HDN.out]; exact HO6, hide ⟨by rw [HZ.out]; omega, HB6.out⟩⟩
        case measure => (simp [intOf] <;> omega)
      · have hbn : ((r.length : Int) != (n : Int)) = true := by simp; omega
        have HRB := hide (HFA.out hrn)
        go_wp2_with (first
          | (refine wpList_at2 sliceT2 rowS2 rfl (.tmp _) (.tmp _) rfl u rfl _ rfl k rfl w.heap.size L HLW.out hlt ?_; intro ad uu hcell hblk hu; rw [HR.out] at hu; have HU := hide hu; clear hu)
          | (refine wpList_len sliceT rfl (.tmp _) rfl _ rfl w.heap.size r HU.out ?_))
        refine bodyPost_ret (v := .tuple #[.map none, .bool false]) (by simp [results, Tryd.results63, go_sem]) rfl ⟨_, by rw [HRB.out], fun h => ?_, HB0.out.trans HB.out.2⟩
        rw [HRB.out] at h
        cases h
    · have HK := hide (show k = L.length by omega)
      have hlt' : ¬ ((k : Int) < (L.length : Int)) := by omega
      go_wp2
      refine bodyPost_ret (v := .tuple #[.map (some w.heap.size), .bool true]) (by simp [results, Tryd.results63, go_sem]) rfl ⟨_, by rw [show lenB n L L.length = true by rw [← HK.out]; exact HJ.out], fun _ => ⟨_, rfl, Nat.le_refl _, ?_⟩, HB0.out.trans HB.out.2⟩
      have h := HO.out
      rw [HK.out] at h
      exact h.mono h200
end Go.Proofs.YtknjiomagdfgfaaDoor
