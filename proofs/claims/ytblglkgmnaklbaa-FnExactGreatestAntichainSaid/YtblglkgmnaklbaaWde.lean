/- Contracts: all sets are put behind others, the specification's. -/
import Derived.Test.YtblglkgmnaklbaaWdd
namespace Go.Proofs.Ytblglkgmnaklbaa
open Go.RowKit
set_option maxRecDepth 100000
set_option linter.unusedSimpArgs false
theorem maTo_gap {P : Nat → Bool} {x : Nat} : ∀ d, (∀ k, x ≤ k → k < x + d → P k = false) → maTo P (x + d) = maTo P x
  | 0, _ => rfl
  | d + 1, h => by
    have h1 := maTo_no (P := P) (k := x + d) (h (x + d) (by omega) (by omega))
    rw [show x + (d + 1) = x + d + 1 by omega, h1]
    exact maTo_gap d fun k a b => h k a (by omega)
theorem maTo_frJ {P : Nat → Bool} {j : Nat} (hj : j < (setsTo P 128).length) : maTo P (nth (setsTo P 128) j) = maTo P (frJ (setsTo P 128) j) := by
  have h1 := frJ_le (P := P) hj
  have h2 := nth_lt128 (P := P) hj
  have h := maTo_gap (P := P) (x := frJ (setsTo P 128) j) (nth (setsTo P 128) j - frJ (setsTo P 128) j) (fun k a b => frJ_gap (P := P) (Nat.le_of_lt hj) a (by omega) (fun _ => by omega))
  rwa [show frJ (setsTo P 128) j + (nth (setsTo P 128) j - frJ (setsTo P 128) j) = nth (setsTo P 128) j by omega] at h
theorem frJ_128 (P : Nat → Bool) : frJ (setsTo P 128) (setsTo P 128).length ≤ 128 := by
  unfold frJ
  split
  · omega
  · rename_i e
    have := nth_lt128 (P := P) (j := (setsTo P 128).length - 1) (by omega)
    omega
theorem maTo_end (P : Nat → Bool) : maTo P 128 = maTo P (frJ (setsTo P 128) (setsTo P 128).length) := by
  have h1 := frJ_128 P
  have h := maTo_gap (P := P) (x := frJ (setsTo P 128) (setsTo P 128).length) (128 - frJ (setsTo P 128) (setsTo P 128).length) (fun k a b => frJ_gap (P := P) (Nat.le_refl _) a (by omega) (fun e => by omega))
  rwa [show frJ (setsTo P 128) (setsTo P 128).length + (128 - frJ (setsTo P 128) (setsTo P 128).length) = 128 by omega] at h
theorem maTo_next {P : Nat → Bool} {j : Nat} (hj : j < (setsTo P 128).length) : maTo P (frJ (setsTo P 128) (j + 1)) = maSt P (nth (setsTo P 128) j) (maTo P (frJ (setsTo P 128) j)) := by
  rw [frJ_succ, maTo_yes (nth_in hj), maTo_frJ hj]
/-- A list whose first k numbers are -1. -/
def ngL (n k : Nat) : List Int := List.replicate k (-1) ++ List.replicate (n - k) 0
theorem ngL_zero (n : Nat) : List.replicate n (0 : Int) = ngL n 0 := by simp [ngL]
theorem ngL_len {n k : Nat} (h : k ≤ n) : (ngL n k).length = n := by simp [ngL]; omega
theorem ngL_set {n k : Nat} (h : k < n) : (ngL n k).set k (-1) = ngL n (k + 1) := by
  unfold ngL
  rw [List.set_append_right _ _ (by simp), List.length_replicate, Nat.sub_self, show n - k = (n - (k + 1)) + 1 by omega, List.replicate_succ, List.set_cons_zero, List.replicate_succ' (n := k), List.append_assoc]
  rfl
theorem ngL_all (n : Nat) : ngL n n = List.replicate n (-1) := by simp [ngL]
theorem map_const {α β : Type} (l : List α) (c : β) : l.map (fun _ => c) = List.replicate l.length c := by
  induction l with
  | nil => rfl
  | cons a l ih => rw [List.map_cons, ih]; rfl
theorem bfL_new {P : Nat → Bool} (h0 : P 0 = false) : bfL P (maTo P 0) = List.replicate (setsTo P 128).length (-1) := by
  unfold bfL
  rw [← map_const]
  exact List.map_congr_left fun a _ => ix_none h0
theorem nxL_new {P : Nat → Bool} (h0 : P 0 = false) : nxL P (maTo P 0) = List.replicate (setsTo P 128).length (-1) := by
  unfold nxL
  rw [← map_const]
  exact List.map_congr_left fun a _ => ix_none h0
theorem trL_new {P : Nat → Bool} (s : Mst) : trL P s.fresh = List.replicate (setsTo P 128).length false := by
  unfold trL
  rw [← map_const]
  exact List.map_congr_left fun a _ => rfl
section
variable {P : Program}
theorem wpList_makeMarks {t I : TypeId} (ht : P.underlying t = some (.slice I)) (hI : (P.info? I).map (fun i => (i.zero, i.size, i.bytes)) = some (some (.bool false), 1, 1)) {ops : Array Oper} {rest : List Oper} {o : Oper} {a : Act} {w : World} {Q : Exit → Act → World → Prop}
    (hw : Region.wanted o (yielded ops a.tmps) = true) (x y : Operand) (ho : o.op = .makeSlice t x y) (n : Nat) (hx : a.eval x = .int .i64 (n : Int)) (hy : a.eval y = .int .i64 (n : Int)) (hn : n < 1000000000)
    (h : ∀ w' : World, w'.heap.size = w.heap.size + 1 → blkM I w' w.heap.size (List.replicate n false) → Below w.heap.size w w' → wpList P ops Q rest (a.put o.dst (.slice (some ⟨w.heap.size, 0, none⟩) n n)) w') : wpList P ops Q (o :: rest) a w := by
  obtain ⟨i0, hi, hz0, hz1, hz2⟩ : ∃ i, P.info? I = some i ∧ i.zero = some (.bool false) ∧ i.size = 1 ∧ i.bytes = 1 := by
    cases hq : P.info? I with
    | none => simp [hq] at hI
    | some j => simp [hq] at hI; exact ⟨j, rfl, hI.1, hI.2.1, hI.2.2⟩
  have hr := run_make (P := P) w t I i0 (.bool false) ht hi hz0 .i64 .i64 n n (by omega) (Int.le_refl _) (by rw [hz2]; omega) (by omega)
  simp only [Int.toNat_natCast] at hr
  refine wpList_of_wp hw fun K hK => ?_
  unfold Oper.wp execOp
  simp only [ho, hx, hy, Sem.run_bind, Sem.run_pure, hr, Result.andThen_ok]
  refine hK _ _ (h _ (by simp) ?_ ((Below.refl _ _).alloc (Nat.le_refl _) _))
  unfold blkM
  rw [hp_last]
  congr 2
  apply Array.toList_inj.1
  rw [hz1, Nat.mul_one]
  show (madeCells #[Value.bool false] n).toList = _
  rw [toList_madeCells_one]
  simp
end
theorem sliceM : Try.prog.underlying 73 = some (.slice 4) := Try.underlying73
theorem boolM : (Try.prog.info? 4).map (fun i => (i.zero, i.size, i.bytes)) = some (some (.bool false), 1, 1) := by kernel_rfl
attribute [local irreducible] p2 low memB risB blk blkM
set_option maxHeartbeats 16000000 in
theorem cnMatch_c (P : Nat → Bool) (h0 : P 0 = false) (hP : ∀ x, P x = true → x < 128) (v : Value) (w : World) (hl : ints w.heap.size w v (setsTo P 128)) :
    Calls Try.prog 40 #[v] w fun e w' => ∃ g, e = .returned (.slice (some ⟨g, 0, none⟩) (setsTo P 128).length (setsTo P 128).length) ∧ w.heap.size ≤ g ∧ blk 3 w' g (bfL P (maTo P 128)) ∧ Below w.heap.size w w' := by
  have HL := hide hl
  have hL128 := setsTo_len P 128
  have HAT := hide (fun k => maTo_at h0 hP k)
  have HST := hide (fun k (h : P k = true) => maSt_some h0 hP (maTo_at h0 hP k) h)
  have HNB := hide (bfL_new h0)
  have HNN := hide (nxL_new h0)
  have HEND := hide (maTo_end P)
  clear hl
  go_enter Try.func40, Try.ntmps40
  go_wp2_with (first
    | (refine wpList_len sliceT rfl (.tmp 7) rfl _ rfl w.heap.size (setsTo P 128) HL.out ?_)
    | (refine wpList_makeInts sliceT intI rfl (.tmp 8) (.tmp 8) rfl (setsTo P 128).length rfl rfl (by omega) ?_; intro w1 hz1 hm1 hb1; have hy1 : w.heap.size < w1.heap.size := (by omega); have HM1 := hide hm1; have HB1 := hide hb1; have HL1 := hide ((HL.out.below hb1 (Nat.le_refl _)).mono hb1.size); clear hm1 hb1 hz1)
    | (refine wpList_len sliceT rfl (.tmp 10) rfl _ rfl w1.heap.size (setsTo P 128) HL1.out ?_)
    | (refine wpList_makeInts sliceT intI rfl (.tmp 11) (.tmp 11) rfl (setsTo P 128).length rfl rfl (by omega) ?_; intro w2 hz2 hm2 hb2; have hy2 : w1.heap.size < w2.heap.size := (by omega); have HM2 := hide (HM1.out.below hb2 (by omega)); have HN2 := hide hm2; have HB2 := hide (HB1.out.trans (hb2.mono HB1.out.size)); have HL2 := hide ((HL1.out.below hb2 (Nat.le_refl _)).mono hb2.size); clear hm2 hb2 hz2)
    | (refine wpList_len sliceT rfl (.tmp 13) rfl _ rfl w2.heap.size (setsTo P 128) HL2.out ?_))
  go_loopw [15] (fun z wr => ∃ k : Nat, k ≤ (setsTo P 128).length ∧ z = .int .i64 (k : Int) ∧ Hid (blk 3 wr w.heap.size (ngL (setsTo P 128).length k)) ∧ Hid (blk 3 wr w1.heap.size (ngL (setsTo P 128).length k)) ∧ Hid (w2.heap.size ≤ wr.heap.size) ∧ Hid (Below w.heap.size w wr)) (fun z _ => (setsTo P 128).length - (intOf z).toNat)
  case atStart => exact ⟨0, Nat.zero_le _, rfl, hide (by rw [← ngL_zero]; exact HM2.out), hide (by rw [← ngL_zero]; exact HN2.out), Nat.le_refl _, HB2⟩
  case round =>
    clear HM2 HN2 HB2 HM1 HB1 HL1
    obtain ⟨k, hk, rfl, HM, HN, HZ, HB⟩ := hrel
    have hz := HZ.out
    by_cases hlt : k < (setsTo P 128).length
    · have c0 := HM.out.cell k (by rw [ngL_len hk]; exact hlt)
      have c1 := HN.out.cell k (by rw [ngL_len hk]; exact hlt)
      have f0 := HM.out.free k
      have f1 := HN.out.free k
      have hne : w.heap.size ≠ w1.heap.size := by omega
      have hne2 : w1.heap.size ≠ w.heap.size := by omega
      have HS := hide (ngL_set hlt)
      go_wp2_with fail
      go_roundw
      case rel => exact ⟨k + 1, by omega, by go_num, hide (by rw [← HS.out]; exact (HM.out.set k (-1)).setOW _ (by show w.heap.size ≠ w1.heap.size; omega) _), hide (by rw [← HS.out]; exact (HN.out.setOW _ (by show w1.heap.size ≠ w.heap.size; omega) _).set k (-1)), hide (by simpa [World.setCell] using hz), hide ((HB.out.setCell (by show w.heap.size ≤ w.heap.size; omega) _).setCell (by show w.heap.size ≤ w1.heap.size; omega) _)⟩
      case measure => (simp [intOf] <;> omega)
    · have hkl : k = (setsTo P 128).length := by omega
      subst hkl
      have HM3 := hide (show blk 3 wr w.heap.size (bfL P (maTo P (frJ (setsTo P 128) 0))) by rw [show frJ (setsTo P 128) 0 = 0 from rfl, HNB.out, ← ngL_all]; exact HM.out)
      have HN3 := hide (show blk 3 wr w1.heap.size (nxL P (maTo P (frJ (setsTo P 128) 0))) by rw [show frJ (setsTo P 128) 0 = 0 from rfl, HNN.out, ← ngL_all]; exact HN.out)
      have HLr := hide ((HL.out.below HB.out (Nat.le_refl _)).mono HB.out.size)
      clear hlt hk
      go_wp2_with (refine wpList_len sliceT rfl (.tmp 25) rfl _ rfl wr.heap.size (setsTo P 128) HLr.out ?_)
      go_loopw [27] (fun z wq => ∃ k : Nat, k ≤ (setsTo P 128).length ∧ z = .int .i64 (k : Int) ∧ Hid (blk 3 wq w.heap.size (bfL P (maTo P (frJ (setsTo P 128) k)))) ∧ Hid (blk 3 wq w1.heap.size (nxL P (maTo P (frJ (setsTo P 128) k)))) ∧ Hid (w2.heap.size ≤ wq.heap.size) ∧ Hid (Below w.heap.size w wq)) (fun z _ => (setsTo P 128).length - (intOf z).toNat)
      case atStart => exact ⟨0, Nat.zero_le _, rfl, HM3, HN3, HZ, HB⟩
      case round =>
        clear HM HN HM3 HN3 HZ HB HLr hz
        obtain ⟨k, hk, rfl, HM, HN, HZ, HB⟩ := hrel
        have hz := HZ.out
        by_cases hlt : k < (setsTo P 128).length
        · have hxk := nth_in (P := P) hlt
          have hat := HAT.out (nth (setsTo P 128) k)
          obtain ⟨r, hpu, _⟩ := HST.out (nth (setsTo P 128) k) hxk
          have HLW := hide ((HL.out.below HB.out (Nat.le_refl _)).mono HB.out.size)
          have HNE := hide (maTo_next hlt)
          have hfj := maTo_frJ (P := P) hlt
          have hin : inN P (maTo P (nth (setsTo P 128) k)).fresh := fun j hj => (hat.ok.w j hj).2.1
          have HG := hide (fun (w' : World) (q1 : Below wr.heap.size wr w') (q2 : w'.heap.size = wr.heap.size + 1) (q3 : blkM 4 w' wr.heap.size (List.replicate (setsTo P 128).length false)) =>
            cnGet_c P h0 v w.heap.size w1.heap.size wr.heap.size w.heap.size (by omega) (by omega) (by omega) (by omega) (by omega) (by omega) fuM k (maTo P (nth (setsTo P 128) k)).fresh r _ hpu hlt hin hat.lt w' (HL.out.below (HB.out.trans (q1.mono (by omega))) (Nat.le_refl _)) (by omega)
              (show blk 3 w' w.heap.size (bfL P (maTo P (nth (setsTo P 128) k))) by rw [hfj]; exact HM.out.below q1 (by omega)) (show blk 3 w' w1.heap.size (nxL P (maTo P (nth (setsTo P 128) k))) by rw [hfj]; exact HN.out.below q1 (by omega)) (by rw [trL_new]; exact q3))
          have HFJ := hide hfj
          clear hat hpu hin hfj hxk
          go_wp2_with (first
            | (refine wpList_len sliceT rfl (.tmp 33) rfl _ rfl wr.heap.size (setsTo P 128) HLW.out ?_)
            | (refine wpList_makeMarks sliceM boolM rfl (.tmp 34) (.tmp 34) rfl (setsTo P 128).length rfl rfl (by omega) ?_; intro w4 hz4 hm4 hb4; have HG4 := hide (HG.out w4 hb4 hz4 hm4); have HB4 := hide (HB.out.trans (hb4.mono (by omega))); have hy4 : wr.heap.size < w4.heap.size := (by omega); clear hm4 hb4 hz4)
            | (go_at_call 56; refine HG4.out.mono ?_; rintro e w5 ⟨rfl, hm5, hn5, _, hb5⟩; have hz5 := hb5.size; have HM5 := hide hm5; have HN5 := hide hn5; have HB5 := hide (HB4.out.trans hb5); clear hm5 hn5 hb5))
          go_roundw
          case rel => exact ⟨k + 1, by omega, by go_num, hide (by rw [HNE.out, ← HFJ.out]; exact HM5.out), hide (by rw [HNE.out, ← HFJ.out]; exact HN5.out), hide (by omega), HB5⟩
          case measure => (simp [intOf] <;> omega)
        · have hkl : k = (setsTo P 128).length := by omega
          subst hkl
          clear hlt hk
          go_wp2
          go_ret
          exact ⟨_, rfl, Nat.le_refl _, by rw [HEND.out]; exact HM.out, HB.out⟩
end Go.Proofs.Ytblglkgmnaklbaa
