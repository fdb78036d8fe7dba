/- Contracts: one set is put behind another one, the specification's. -/
import Derived.Test.YtblglkgmnaklbaaWdc
namespace Go.Proofs.Ytblglkgmnaklbaa
open Go.RowKit
set_option maxRecDepth 100000
set_option linter.unusedSimpArgs false
/-- A block of marks. -/
def blkM (T : TypeId) (w : World) (g : Nat) (m : List Bool) : Prop := w.heap[g]? = some (.cells (m.map Value.bool).toArray T)
theorem blkM.cell {I : TypeId} {w : World} {g : Nat} {m : List Bool} (h : blkM I w g m) (j : Nat) (hj : j < m.length) : w.cell? ⟨g, j, none⟩ = some (.bool (m[j]?.getD false)) := by
  rw [hp_cell h, List.getElem?_toArray, List.getElem?_map]; simp [hj]
theorem blkM.free {I : TypeId} {w : World} {g : Nat} {m : List Bool} (h : blkM I w g m) (j : Nat) : w.frozen? ⟨g, j, none⟩ = false := hp_free h j
theorem blkM.lt {I : TypeId} {w : World} {g : Nat} {m : List Bool} (h : blkM I w g m) : g < w.heap.size := hp_lt h
theorem blkM.set {I : TypeId} {w : World} {g : Nat} {m : List Bool} (h : blkM I w g m) (j : Nat) (b : Bool) : blkM I (w.setCell ⟨g, j, none⟩ (.bool b)) g (m.set j b) := by
  unfold blkM
  rw [hp_set w g j _ I _ h, List.setIfInBounds_toArray, List.map_set]
theorem blkM.setO {I : TypeId} {w : World} {g : Nat} {m : List Bool} (h : blkM I w g m) (a : Addr) (ha : g ≠ a.block) (v : Value) : blkM I (w.setCell a v) g m := (hp_setO w a g v ha).trans h
theorem blk.setOW {I : TypeId} {w : World} {g : Nat} {m : List Int} (h : blk I w g m) (a : Addr) (ha : g ≠ a.block) (v : Value) : blk I (w.setCell a v) g m := (hp_setO w a g v ha).trans h
theorem cnPartsW_c (x y : Nat) (w : World) (hx : x < 128) : Calls Try.prog 63 #[.int .i64 (x : Int), .int .i64 (y : Int)] w fun e w' => e = .returned (.bool (andNot x y == 0)) ∧ w = w' := by
  have h := i64_andNot x y (by omega)
  generalize andNot x y = c at h
  by_cases hc : c = 0
  · subst hc
    go_enter Try.func63, Try.ntmps63
    go_wp2
    go_ret
    exact ⟨by simp, rfl⟩
  · have hb0 : ((c : Int) == 0) = false := by simp; omega
    go_enter Try.func63, Try.ntmps63
    go_wp2
    go_ret
    exact ⟨by simp [hc], rfl⟩
attribute [local irreducible] p2 low memB risB blk blkM
set_option maxHeartbeats 16000000 in
theorem cnGet_c (P : Nat → Bool) (h0 : P 0 = false) (v : Value) (bb fb tb B : Nat) (hbf : bb ≠ fb) (hbt : bb ≠ tb) (hft : fb ≠ tb) (hBb : B ≤ bb) (hBf : B ≤ fb) (hBt : B ≤ tb) :
    ∀ f i s r t, puM P f (nth (setsTo P 128) i) 0 s = some (r, t) → i < (setsTo P 128).length → inN P s → (∀ j, s.nx j < 128) → ∀ (w : World), ints B w v (setsTo P 128) → B ≤ w.heap.size → blk 3 w bb (bfL P s) → blk 3 w fb (nxL P s) → blkM 4 w tb (trL P s) →
    Calls Try.prog 56 #[v, .slice (some ⟨bb, 0, none⟩) (setsTo P 128).length (setsTo P 128).length, .slice (some ⟨fb, 0, none⟩) (setsTo P 128).length (setsTo P 128).length, .slice (some ⟨tb, 0, none⟩) (setsTo P 128).length (setsTo P 128).length, .int .i64 (i : Int)] w fun e w' =>
      e = .returned (.bool r) ∧ blk 3 w' bb (bfL P t) ∧ blk 3 w' fb (nxL P t) ∧ blkM 4 w' tb (trL P t) ∧ Below B w w' := by
  intro f
  induction f using Nat.strongRecOn with
  | ind f ih =>
    intro i s r t hpu hi hin hnx w hl hBw hbb hfb htb
    have IH := hide ih
    have HPU0 := hide hpu
    have HIN0 := hide hin
    have HNX0 := hide hnx
    have HL := hide hl
    have HBF0 := hide hbb
    have HNB0 := hide hfb
    have HTR0 := hide htb
    have hL128 := setsTo_len P 128
    have HXI := hide (nth_val (P := P) hi)
    have hx8 := nth_lt128 (P := P) hi
    have hxP := nth_in (P := P) hi
    clear ih hpu hin hnx hl hbb hfb htb
    go_enter Try.func56, Try.ntmps56
    go_wp2_with (refine wpList_len sliceT rfl (.tmp _) rfl _ rfl w.heap.size (setsTo P 128) (HL.out.mono hBw) ?_)
    go_loopw [15] (fun z wr => ∃ (j g : Nat) (s' : Mst), j ≤ (setsTo P 128).length ∧ z = .int .i64 (j : Int) ∧ g ≤ f ∧ Hid (puM P g (nth (setsTo P 128) i) (frJ (setsTo P 128) j) s' = some (r, t)) ∧ Hid (inN P s' ∧ ∀ j, s'.nx j < 128) ∧ Hid (blk 3 wr bb (bfL P s')) ∧ Hid (blk 3 wr fb (nxL P s')) ∧ Hid (blkM 4 wr tb (trL P s')) ∧ Hid (Below B w wr)) (fun z _ => (setsTo P 128).length - (intOf z).toNat)
    case atStart => exact ⟨0, f, s, Nat.zero_le _, rfl, Nat.le_refl _, HPU0, ⟨HIN0.out, HNX0.out⟩, HBF0, HNB0, HTR0, Below.refl _ _⟩
    case round =>
      clear HPU0 HIN0 HNX0 HBF0 HNB0 HTR0
      obtain ⟨j, g, s', hj, rfl, hg, HPU, HIN, HBF, HNXB, HTR, HB⟩ := hrel
      have hsz := HB.out.size
      by_cases hlt : j < (setsTo P 128).length
      · have HLW := hide ((HL.out.below HB.out (Nat.le_refl _)).mono (show B ≤ wr.heap.size by omega))
        have HXJ := hide (nth_val (P := P) hlt)
        have hK8 := nth_lt128 (P := P) hlt
        have hKP := nth_in (P := P) hlt
        have hfr := frJ_le (P := P) hlt
        obtain ⟨g1, hg1, hpK⟩ := puM_skipTo (P := P) (nth (setsTo P 128) j - frJ (setsTo P 128) j) g (frJ (setsTo P 128) j) HPU.out (fun k' a b => frJ_gap (P := P) hj a (by omega) (fun _ => by omega))
        rw [show frJ (setsTo P 128) j + (nth (setsTo P 128) j - frJ (setsTo P 128) j) = nth (setsTo P 128) j by omega] at hpK
        have hcp := HTR.out.cell j (by rw [trL_len]; exact hlt)
        rw [trL_at s' hlt] at hcp
        have hcn := HNXB.out.cell j (by rw [nxL_len]; exact hlt)
        rw [nxL_at s' hlt] at hcn
        have hne : j = i ∨ nth (setsTo P 128) j ≠ nth (setsTo P 128) i := by
          by_cases e : j = i
          · exact .inl e
          · exact .inr fun e2 => e (nth_inj hlt hi e2)
        have HCP := hide (fun w1 => cnPartsW_c (nth (setsTo P 128) j) (nth (setsTo P 128) i) w1 hK8)
        obtain ⟨g2, e0, hcs⟩ := puM_cases hpK
        subst e0
        clear hpK
        have hbtr := HTR.out.free j
        have hbfr := HBF.out.free i
        have hnfr := HNXB.out.free j
        have hcb := HBF.out.cell i (by rw [bfL_len]; exact hi)
        have htb' := hbt.symm
        have hfb' := hbf.symm
        have htf' := hft.symm
        rcases hcs with ⟨a1, a2, a3⟩ | ⟨a1, a2, a3⟩ | ⟨a1, a2, a3, a4, a5⟩ | ⟨a1, a2, a3, r1, t1, a4, a5⟩
        · have HN2 := hide (show puM P (g2 + 1) (nth (setsTo P 128) i) (nth (setsTo P 128) j + 1) s' = some (r, t) by rw [a2, a3]; exact puM_end (by omega))
          by_cases e : j = i
          · subst e
            clear hne a1 a2 a3
            go_wp2_with (first
              | (refine wpList_at sliceT intS rfl (.tmp 13) (.tmp 15) rfl _ rfl j rfl wr.heap.size (setsTo P 128) HLW.out hlt ?_; intro ad hcell hblk; rw [HXJ.out] at hcell)
              | (refine wpList_at sliceT intS rfl (.tmp 25) (.tmp 26) rfl _ rfl i rfl wr.heap.size (setsTo P 128) HLW.out hi ?_; intro ad2 hcell2 hblk2; rw [HXI.out] at hcell2)
              | (go_at_call 63; refine (HCP.out _).mono ?_; rintro e w' ⟨rfl, rfl⟩)
              )
            go_roundw
            case rel => exact ⟨j + 1, g2 + 1, s', by omega, by go_num, by omega, hide (by rw [frJ_succ]; exact HN2.out), HIN, HBF, HNXB, HTR, HB⟩
            case measure => (simp [intOf] <;> omega)
          · have hij : ((i : Int) == (j : Int)) = false := by simp; omega
            have hKx : nth (setsTo P 128) j ≠ nth (setsTo P 128) i := fun e2 => e (nth_inj hlt hi e2)
            have hW : (andNot (nth (setsTo P 128) j) (nth (setsTo P 128) i) == 0) = false := by
              cases h : (andNot (nth (setsTo P 128) j) (nth (setsTo P 128) i) == 0)
              · rfl
              · have := part_leW (by simpa using h : andNot (nth (setsTo P 128) j) (nth (setsTo P 128) i) = 0); omega
            rw [hW] at HCP
            clear hne a1 a2 a3 hW hKx
            go_wp2_with (first
              | (refine wpList_at sliceT intS rfl (.tmp 13) (.tmp 15) rfl _ rfl j rfl wr.heap.size (setsTo P 128) HLW.out hlt ?_; intro ad hcell hblk; rw [HXJ.out] at hcell)
              | (refine wpList_at sliceT intS rfl (.tmp 25) (.tmp 26) rfl _ rfl i rfl wr.heap.size (setsTo P 128) HLW.out hi ?_; intro ad2 hcell2 hblk2; rw [HXI.out] at hcell2)
              | (go_at_call 63; refine (HCP.out _).mono ?_; rintro e w' ⟨rfl, rfl⟩)
              )
            go_roundw
            case rel => exact ⟨j + 1, g2 + 1, s', by omega, by go_num, by omega, hide (by rw [frJ_succ]; exact HN2.out), HIN, HBF, HNXB, HTR, HB⟩
            case measure => (simp [intOf] <;> omega)
        · have hijn : i ≠ j := fun e2 => by rw [e2] at a1; omega
          have hij : ((i : Int) == (j : Int)) = false := by simp; omega
          have HN2 := hide a3
          cases hW : (andNot (nth (setsTo P 128) j) (nth (setsTo P 128) i) == 0)
          · rw [hW] at HCP
            clear hne a1 a2 a3 hW
            go_wp2_with (first
              | (refine wpList_at sliceT intS rfl (.tmp 13) (.tmp 15) rfl _ rfl j rfl wr.heap.size (setsTo P 128) HLW.out hlt ?_; intro ad hcell hblk; rw [HXJ.out] at hcell)
              | (refine wpList_at sliceT intS rfl (.tmp 25) (.tmp 26) rfl _ rfl i rfl wr.heap.size (setsTo P 128) HLW.out hi ?_; intro ad2 hcell2 hblk2; rw [HXI.out] at hcell2)
              | (go_at_call 63; refine (HCP.out _).mono ?_; rintro e w' ⟨rfl, rfl⟩)
              )
            go_roundw
            case rel => exact ⟨j + 1, g2, s', by omega, by go_num, by omega, hide (by rw [frJ_succ]; exact HN2.out), HIN, HBF, HNXB, HTR, HB⟩
            case measure => (simp [intOf] <;> omega)
          · have htk : s'.tr (nth (setsTo P 128) j) = true := by
              unfold fitM at a2
              have : andNot (nth (setsTo P 128) j) (nth (setsTo P 128) i) = 0 := by simpa using hW
              rw [hKP, decide_eq_true this] at a2
              simpa using a2
            rw [hW] at HCP
            rw [htk] at hcp
            clear hne a1 a2 a3 hW htk
            go_wp2_with (first
              | (refine wpList_at sliceT intS rfl (.tmp 13) (.tmp 15) rfl _ rfl j rfl wr.heap.size (setsTo P 128) HLW.out hlt ?_; intro ad hcell hblk; rw [HXJ.out] at hcell)
              | (refine wpList_at sliceT intS rfl (.tmp 25) (.tmp 26) rfl _ rfl i rfl wr.heap.size (setsTo P 128) HLW.out hi ?_; intro ad2 hcell2 hblk2; rw [HXI.out] at hcell2)
              | (go_at_call 63; refine (HCP.out _).mono ?_; rintro e w' ⟨rfl, rfl⟩)
              )
            go_roundw
            case rel => exact ⟨j + 1, g2, s', by omega, by go_num, by omega, hide (by rw [frJ_succ]; exact HN2.out), HIN, HBF, HNXB, HTR, HB⟩
            case measure => (simp [intOf] <;> omega)
        · have hijn : i ≠ j := fun e2 => by rw [e2] at a1; omega
          have hij : ((i : Int) == (j : Int)) = false := by simp; omega
          obtain ⟨_, b2, b3⟩ := fitM_iff.1 a2
          have hW : (andNot (nth (setsTo P 128) j) (nth (setsTo P 128) i) == 0) = true := by rw [b2]; rfl
          rw [hW] at HCP
          rw [b3] at hcp
          rw [a3, ix_none h0] at hcn
          have HE := hide (show s'.bf = (s'.mark (nth (setsTo P 128) j)).bf from rfl)
          have HS := hide (show t = (s'.mark (nth (setsTo P 128) j)).put (nth (setsTo P 128) j) (nth (setsTo P 128) i) from a5)
          have HRR := hide (show true = r from a4.symm)
          clear hne a1 a2 a3 a4 a5 hW b2 b3
          go_wp2_with (first
            | (refine wpList_at sliceT intS rfl (.tmp 13) (.tmp 15) rfl _ rfl j rfl wr.heap.size (setsTo P 128) HLW.out hlt ?_; intro ad hcell hblk; rw [HXJ.out] at hcell)
            | (refine wpList_at sliceT intS rfl (.tmp 25) (.tmp 26) rfl _ rfl i rfl wr.heap.size (setsTo P 128) HLW.out hi ?_; intro ad2 hcell2 hblk2; rw [HXI.out] at hcell2)
            | (go_at_call 63; refine (HCP.out _).mono ?_; rintro e w' ⟨rfl, rfl⟩)
            )
          go_ret
          refine ⟨by rw [← HRR.out]; rfl, ?_, ?_, ?_, ?_⟩
          · rw [HS.out, ← bfL_put _ hi hlt]
            exact ((HBF.out.setOW ⟨tb, j, none⟩ hbt _).set i (j : Int)).setOW ⟨fb, j, none⟩ hbf _
          · rw [HS.out, ← nxL_put _ hi hlt]
            exact ((HNXB.out.setOW ⟨tb, j, none⟩ hft _).setOW ⟨bb, i, none⟩ hbf.symm _).set j (i : Int)
          · rw [HS.out]
            show blkM _ _ _ (trL P (s'.mark (nth (setsTo P 128) j)))
            rw [← trL_mark s' hlt]
            exact ((HTR.out.set j true).setO ⟨bb, i, none⟩ hbt.symm _).setO ⟨fb, j, none⟩ hft.symm _
          · exact ((HB.out.setCell (by show B ≤ tb; omega) _).setCell (by show B ≤ bb; omega) _).setCell (by show B ≤ fb; omega) _
        · have hijn : i ≠ j := fun e2 => by rw [e2] at a1; omega
          have hij : ((i : Int) == (j : Int)) = false := by simp; omega
          obtain ⟨_, b2, b3⟩ := fitM_iff.1 a2
          have hW : (andNot (nth (setsTo P 128) j) (nth (setsTo P 128) i) == 0) = true := by rw [b2]; rfl
          rw [hW] at HCP
          rw [b3] at hcp
          have hnxK := (HIN.out).2 (nth (setsTo P 128) j)
          have hnxP := (HIN.out).1 _ a3
          obtain ⟨i2, hi2, he2, hix2⟩ := nth_ix hnxK hnxP
          rw [hix2] at hcn
          have hi2n : ¬ ((i2 : Int) < 0) := by omega
          have hd2 : decide ((i2 : Int) < 0) = false := by simp
          have hb1 : Below B w (wr.setCell ⟨tb, j, none⟩ (.bool true)) := HB.out.setCell (by show B ≤ tb; omega) _
          have htr1 := HTR.out.set j true
          rw [trL_mark s' hlt] at htr1
          have HC := hide (IH.out g2 (by omega) i2 (s'.mark (nth (setsTo P 128) j)) r1 t1 (by rw [he2]; exact a4) hi2 HIN.out.1 HIN.out.2 (wr.setCell ⟨tb, j, none⟩ (.bool true)) (HL.out.below hb1 (Nat.le_refl _)) (by have := hb1.size; omega) (HBF.out.setOW ⟨tb, j, none⟩ hbt _) (HNXB.out.setOW ⟨tb, j, none⟩ hft _) htr1)
          have HIN1 := hide (show inN P t1 ∧ ∀ j, t1.nx j < 128 from ⟨puM_inN _ _ _ _ _ _ a4 hnxP HIN.out.1, puM_lt _ _ _ _ _ _ a4 hnxK HIN.out.2⟩)
          have HB1 := hide hb1
          clear hb1 htr1 hnxP hnxK he2 hix2 hW b2 b3 hne a2 a3 a4
          rcases a5 with ⟨c1, c2, c3⟩ | ⟨c1, c2⟩
          · subst c1
            have HS := hide c3
            have HRR := hide (show true = r from c2.symm)
            clear c2 c3
            go_wp2_with (first
              | (refine wpList_at sliceT intS rfl (.tmp 13) (.tmp 15) rfl _ rfl j rfl wr.heap.size (setsTo P 128) HLW.out hlt ?_; intro ad hcell hblk; rw [HXJ.out] at hcell)
              | (refine wpList_at sliceT intS rfl (.tmp 25) (.tmp 26) rfl _ rfl i rfl wr.heap.size (setsTo P 128) HLW.out hi ?_; intro ad2 hcell2 hblk2; rw [HXI.out] at hcell2)
              | (go_at_call 63; refine (HCP.out _).mono ?_; rintro e w' ⟨rfl, rfl⟩)
              | (go_at_call 56; refine HC.out.mono ?_; rintro e w4 ⟨rfl, hb4, hf4, ht4, hw4⟩; have HF4 := hide hf4; have HBB4 := hide hb4; have HT4 := hide ht4; have HB4 := hide (HB1.out.trans hw4); have xb := hb4.free i; have xf := hf4.free j; have yb := hb4.cell i (by rw [bfL_len]; exact hi); have yf := hf4.cell j (by rw [nxL_len]; exact hlt); clear hb4 hf4 ht4 hw4))
            go_ret
            refine ⟨by rw [← HRR.out]; rfl, ?_, ?_, ?_, ?_⟩
            · rw [HS.out, ← bfL_put _ hi hlt]
              exact (HBB4.out.set i (j : Int)).setOW ⟨fb, j, none⟩ hbf _
            · rw [HS.out, ← nxL_put _ hi hlt]
              exact (HF4.out.setOW ⟨bb, i, none⟩ hbf.symm _).set j (i : Int)
            · rw [HS.out]
              exact (HT4.out.setO ⟨bb, i, none⟩ hbt.symm _).setO ⟨fb, j, none⟩ hft.symm _
            · exact (HB4.out.setCell (by show B ≤ bb; omega) _).setCell (by show B ≤ fb; omega) _
          · subst c1
            have HN2 := hide c2
            clear c2
            go_wp2_with (first
              | (refine wpList_at sliceT intS rfl (.tmp 13) (.tmp 15) rfl _ rfl j rfl wr.heap.size (setsTo P 128) HLW.out hlt ?_; intro ad hcell hblk; rw [HXJ.out] at hcell)
              | (refine wpList_at sliceT intS rfl (.tmp 25) (.tmp 26) rfl _ rfl i rfl wr.heap.size (setsTo P 128) HLW.out hi ?_; intro ad2 hcell2 hblk2; rw [HXI.out] at hcell2)
              | (go_at_call 63; refine (HCP.out _).mono ?_; rintro e w' ⟨rfl, rfl⟩)
              | (go_at_call 56; refine HC.out.mono ?_; rintro e w4 ⟨rfl, hb4, hf4, ht4, hw4⟩; have HF4 := hide hf4; have HBB4 := hide hb4; have HT4 := hide ht4; have HB4 := hide (HB1.out.trans hw4); clear hb4 hf4 ht4 hw4))
            go_roundw
            case rel => exact ⟨j + 1, g2, t1, by omega, by go_num, by omega, hide (by rw [frJ_succ]; exact HN2.out), HIN1, HBB4, HF4, HT4, HB4⟩
            case measure => (simp [intOf] <;> omega)
      · have hjl : j = (setsTo P 128).length := by omega
        have hlt' : ¬ ((j : Int) < ((setsTo P 128).length : Int)) := by omega
        have hend : r = false ∧ t = s' := by
          rcases Nat.lt_or_ge (frJ (setsTo P 128) j) (nth (setsTo P 128) i) with e | e
          · exfalso
            unfold frJ at e
            rw [if_neg (by omega)] at e
            rcases Nat.lt_or_ge i (j - 1) with e2 | e2
            · have := nth_less (P := P) e2 (by omega); omega
            · rw [show i = j - 1 by omega] at e; omega
          · obtain ⟨g1, e0, hcs⟩ := puM_cases HPU.out
            rcases hcs with ⟨_, a2, a3⟩ | ⟨a1, _⟩ | ⟨a1, _⟩ | ⟨a1, _⟩
            · exact ⟨a2, a3⟩
            · omega
            · omega
            · omega
        have HR := hide (show false = r from hend.1.symm)
        have HS := hide hend.2
        clear hend hjl
        go_wp2
        go_ret
        exact ⟨by rw [← HR.out]; rfl, by rw [HS.out]; exact HBF.out, by rw [HS.out]; exact HNXB.out, by rw [HS.out]; exact HTR.out, HB.out⟩
end Go.Proofs.Ytblglkgmnaklbaa
