import Derived.Test.YtblglkgmnaklbaaDoorEa
import Derived.Test.YtblglkgmnaklbaaDoorAx
import Derived.Test.YtblglkgmnaklbaaDoorWs
import Derived.Test.YtblglkgmnaklbaaDoorHar
import Derived.Test.YtblglkgmnaklbaaDoorKa
import Derived.Test.YtblglkgmnaklbaaDoorWo
import Derived.Test.YtblglkgmnaklbaaDoorKh
import Derived.Test.YtblglkgmnaklbaaDoorPut
import Derived.Test.YtblglkgmnaklbaaDoorCh
import Derived.Test.YtblglkgmnaklbaaDoorXw
import Derived.Test.YtblglkgmnaklbaaDoorOs
import Derived.Test.YtblglkgmnaklbaaDoorSw
import Derived.Test.YtblglkgmnaklbaaDoorRows
import Derived.Test.YtblglkgmnaklbaaDoorRg
import Derived.Test.YtblglkgmnaklbaaDoorTie
import Derived.Test.YtblglkgmnaklbaaDoorCards
import Derived.LaidMore
import Derived.Stop.Joined
import Derived.Stop.LaidErr
import Derived.Lib.LaidTab
import Derived.SevenTiedAt
import Derived.ProofKit
import Derived.OpenShut
import Derived.Lib.SmallJoins
/- Contracts: EndsSpace, the program's. -/
namespace Go.Proofs.YtblglkgmnaklbaaDoor
open Go.RowKit
set_option maxRecDepth 100000
set_option linter.unusedSimpArgs false
def esL (n : Int) (L : List (List Int)) : List Int := if osB n L then setsTo (prOut (osL n L) (osL n (turnL L)) (osL n L).length) 128 else []
theorem esL_no {n : Int} {L : List (List Int)} (h : osB n L = false) : esL n L = [] := by simp [esL, h]
theorem esL_len (n : Int) (L : List (List Int)) : (esL n L).length < 1000000000 := by
  unfold esL
  split
  · have := setsTo_len (prOut (osL n L) (osL n (turnL L)) (osL n L).length) 128; omega
  · simp
theorem os_in {n : Int} {L : List (List Int)} (h : osB n L = true) : 1 ≤ n ∧ n ≤ 7 ∧ prA n L = true ∧ spaceB (osF n.toNat L) n.toNat = true := by
  unfold osB ordOk at h
  simp only [Bool.and_eq_true, decide_eq_true_eq] at h
  exact ⟨h.1.1, h.1.2, h.2.1, h.2.2⟩
theorem os_ok {n : Int} {L : List (List Int)} (h : osB n L = true) : okSp n (osL n L) = true := by
  obtain ⟨h1, h7, _, h4⟩ := os_in h
  rw [(osNL_yes h).2.1]
  obtain ⟨m, rfl⟩ := Int.eq_ofNat_of_zero_le (show 0 ≤ n by omega)
  rw [Int.toNat_natCast] at h4 ⊢
  have := okSp_sets m (osF m L) (by omega) (by omega) fun x hx => (osF_iff.1 hx).1
  rw [h4] at this
  exact this
theorem es_both {n : Int} {L : List (List Int)} (h : osB n L = true) : osB n (turnL L) = true := by
  obtain ⟨h1, h7, h3, _⟩ := os_in h
  obtain ⟨m, rfl⟩ := Int.eq_ofNat_of_zero_le (show 0 ≤ n by omega)
  rw [os_turn (by omega) (by omega) h3]; exact h
theorem es_us {n : Int} {L : List (List Int)} (h : osB n L = true) : usB (osN n L) (osL n L) (osN n (turnL L)) (osL n (turnL L)) = true ∧ usN (osN n L) (osL n L) (osN n (turnL L)) (osL n (turnL L)) = osN n L ∧ usL (osN n L) (osL n L) (osN n (turnL L)) (osL n (turnL L)) = esL n L := by
  have h2 := es_both h
  have e1 := (osNL_yes h).1
  have e2 := (osNL_yes h2).1
  have k : usB (osN n L) (osL n L) (osN n (turnL L)) (osL n (turnL L)) = true := by
    rw [e1, e2]; exact usB_yes (os_ok h) (os_ok h2) rfl
  exact ⟨k, usN_yes k, by rw [usL_yes k, esL, if_pos h]⟩
theorem turn_small {n : Int} {L : List (List Int)} (h : prA n L = true) : small2 (turnL L) := by
  have hl := (prA_in h).1
  refine small2_of _ 2 (fun r hr => ?_) (by rw [turn_len]; omega) (by rw [turn_len]; omega)
  unfold turnL at hr
  rw [List.mem_map] at hr
  obtain ⟨_, _, rfl⟩ := hr
  simp
theorem own_pairE (I : TypeId) (w : World) (x y : Int) : own I (w.alloc (.cells #[.int .i64 x, .int .i64 y] I)) w.heap.size (.slice (some ⟨w.heap.size, 0, none⟩) 2 2) [x, y] :=
  ⟨by simp, .inr ⟨w.heap.size, 2, #[.int .i64 x, .int .i64 y], rfl, Nat.le_refl _, hp_last _ _, Nat.le_refl _, by unfold maxLen; omega, by simp, by simp⟩⟩
theorem yields_atE {P : Program} {ops : Array Oper} {S : World → Prop} {a : Act} {t I : TypeId} (ht : P.underlying t = some (.slice I)) (hI : (P.info? I).map (·.size) = some 1) {o : Oper} (hw : Region.wanted o (yielded ops a.tmps) = true) (x y : Operand) (ho : o.op = .indexAddr t x y)
    (b of n c k : Nat) (hx : a.eval x = .slice (some ⟨b, of, none⟩) n c) (hy : a.eval y = .int .i64 (k : Int)) (hk : k < n) : YieldsIf P ops S o (.pointer (some ⟨b, of + k, none⟩)) a := by
  have he : P.underlying t = some (.slice (P.elem t)) := by
    rw [ht]; simp [Program.elem, ht]
  have hE : P.elem t = I := by simp [Program.elem, ht]
  refine .inl ⟨hw, fun w _ => ?_⟩
  have hr : (Instr.indexAt t (.slice (some ⟨b, of, none⟩) n c) (.int .i64 (k : Int))).run P w = .ok (.pointer (some ⟨b, of + k, none⟩)) w := by
    rw [run_indexAt_slice (h := he), if_pos (by omega), hE, run_sizeOf' hI]
    simp [Addr.add]
  unfold execOp
  simp only [ho, hx, hy, Sem.run_bind, Sem.run_pure, hr, Result.andThen_ok]
theorem turn_take (L : List (List Int)) (k : Nat) (hk : k < L.length) : turnL (L.take (k + 1)) = turnL (L.take k) ++ [[r1 (L[k]?.getD []), r0 (L[k]?.getD [])]] := by
  unfold turnL
  rw [List.take_add_one, List.map_append, List.getElem?_eq_getElem hk]
  rfl
attribute [local irreducible] p2 low memB risB
set_option maxHeartbeats 4000000 in
theorem turnedPairs_c (n : Int) (u : Value) (L : List (List Int)) (w : World) (hl : rows w.heap.size w u L) (hA : prA n L = true) :
    Calls Tryd.prog 57 #[u] w fun e w' => ∃ v, e = .returned v ∧ own2 22 3 w' w.heap.size v (turnL L) ∧ Below w.heap.size w w' := by
  have HL := hide hl
  have hll := (prA_in hA).1
  have HP := hide (fun j hj => (pairB_in ((prA_in hA).2 j hj)).1)
  clear hl hA
  go_enter Tryd.func57, Tryd.ntmps57
  go_wp2_with (refine wpList_len2 sliceT2 rfl (.tmp _) rfl u rfl w.heap.size L HL.out ?_)
  go_loopw [3, 8] (fun t i wr => ∃ k : Nat, k ≤ L.length ∧ i = .int .i64 (k : Int) ∧ Hid (own2 22 3 wr w.heap.size t (turnL (L.take k))) ∧ Hid (Below w.heap.size w wr)) (fun _ i _ => L.length - (intOf i).toNat)
  case atStart => exact ⟨0, Nat.zero_le _, rfl, own2_nil _ _ _ _, Below.refl _ _⟩
  case round =>
    obtain ⟨k, hk, rfl, HO, HB⟩ := hrel
    have hsz := HB.out.size
    have HLW := hide (HL.out.below HB.out (Nat.le_refl _))
    obtain ⟨oa, oc, hso⟩ := HO.out.shape
    by_cases hlt : k < L.length
    · have HNX := hide (turn_take L k hlt)
      have h2 := HP.out k hlt
      have hol : (turnL (L.take k)).length = k := by rw [turn_len, List.length_take]; omega
      rw [hol] at hso
      subst hso
      generalize turnL (L.take k) = A at HO HNX hol
      generalize hr : L[k]?.getD [] = r at h2 HNX
      have HR := hide hr
      generalize hx : r0 r = x at HNX
      generalize hy : r1 r = y at HNX
      have HX := hide (show r[0]?.getD 0 = x from hx)
      have HY := hide (show r[1]?.getD 0 = y from hy)
      clear hr hx hy
      go_wp2_with (refine wpList_at2 sliceT2 rowS2 rfl (.tmp _) (.tmp _) rfl u rfl _ rfl k rfl w.heap.size L HLW.out hlt ?_; intro ad uu hcell hblk hu; rw [HR.out] at hu; have HU := hide hu; clear hu)
      obtain ⟨bb, of, cc, hv, hbb, hcs⟩ : ∃ b of c, uu = .slice (some ⟨b, of, none⟩) 2 c ∧ b < w.heap.size ∧ (wr.cell? ⟨b, of + 0, none⟩ = some (.int .i64 x) ∧ wr.cell? ⟨b, of + 1, none⟩ = some (.int .i64 y)) := by
        rcases HU.out with ⟨h0, _⟩ | ⟨b, o, c, h3, h4, h5, h6⟩
        · rw [h0] at h2; cases h2
        · refine ⟨b, o, c, by rw [h3, h2], h4, ?_, ?_⟩
          · rw [h6 0 (by omega), HX.out]
          · rw [h6 1 (by omega), HY.out]
      subst hv
      clear hcell
      refine wp_region_held (S := Below w.heap.size wr) (by kernel_rfl) ?_
      have hT0 : Below wr.heap.size wr { wr with drawn := wr.drawn + 1 } := (Below.refl _ _).drew
      generalize ({ wr with drawn := wr.drawn + 1 } : World) = C0 at hT0 ⊢
      have hS0 := hT0.mono hsz
      have hz0 : wr.heap.size ≤ C0.heap.size := hT0.size
      refine wpAnyH_take (i := 0) (v := .slice oa k oc) rfl (by kernel_rfl) (by kernel_rfl) (by kernel_rfl) (fun _ _ _ h => h) (.inl ⟨rfl, fun w' _ => by go_simp⟩) hS0 ?_
      simp only [Act.put, List.getElem_toArray, List.getElem_cons_zero, List.getElem_cons_succ, List.setIfInBounds_toArray, List.set_cons_zero, List.set_cons_succ]
      refine wpAnyH_take (i := 1) (v := .slice (some ⟨bb, of, none⟩) 2 cc) rfl (by kernel_rfl) (by kernel_rfl) (by kernel_rfl) (fun _ _ _ h => h) (.inl ⟨rfl, fun w' _ => by go_simp⟩) hS0 ?_
      simp only [Act.put, List.getElem_toArray, List.getElem_cons_zero, List.getElem_cons_succ, List.setIfInBounds_toArray, List.set_cons_zero, List.set_cons_succ]
      refine wpAnyH_take (i := 2) rfl (by kernel_rfl) (by kernel_rfl) (by kernel_rfl) (fun _ _ _ h => h) (yields_atE sliceT intS rfl (.tmp _) _ rfl bb of 2 cc 1 rfl rfl (by omega)) hS0 ?_
      simp only [Act.put, List.getElem_toArray, List.getElem_cons_zero, List.getElem_cons_succ, List.setIfInBounds_toArray, List.set_cons_zero, List.set_cons_succ]
      refine wpAnyH_take (i := 3) rfl (by kernel_rfl) (by kernel_rfl) (by kernel_rfl) (fun _ _ _ h => h) (yields_load_cell rowI rfl (.tmp _) rfl ⟨bb, of + 1, none⟩ rfl (.int .i64 y) (fun w' h => (h.cell (p := ⟨bb, of + 1, none⟩) hbb).trans hcs.2)) hS0 ?_
      simp only [Act.put, List.getElem_toArray, List.getElem_cons_zero, List.getElem_cons_succ, List.setIfInBounds_toArray, List.set_cons_zero, List.set_cons_succ]
      refine wpAnyH_take (i := 4) (v := .slice (some ⟨bb, of, none⟩) 2 cc) rfl (by kernel_rfl) (by kernel_rfl) (by kernel_rfl) (fun _ _ _ h => h) (.inl ⟨rfl, fun w' _ => by go_simp⟩) hS0 ?_
      simp only [Act.put, List.getElem_toArray, List.getElem_cons_zero, List.getElem_cons_succ, List.setIfInBounds_toArray, List.set_cons_zero, List.set_cons_succ]
      refine wpAnyH_take (i := 5) rfl (by kernel_rfl) (by kernel_rfl) (by kernel_rfl) (fun _ _ _ h => h) (yields_atE sliceT intS rfl (.tmp _) _ rfl bb of 2 cc 0 rfl rfl (by omega)) hS0 ?_
      simp only [Act.put, List.getElem_toArray, List.getElem_cons_zero, List.getElem_cons_succ, List.setIfInBounds_toArray, List.set_cons_zero, List.set_cons_succ]
      refine wpAnyH_take (i := 6) rfl (by kernel_rfl) (by kernel_rfl) (by kernel_rfl) (fun _ _ _ h => h) (yields_load_cell rowI rfl (.tmp _) rfl ⟨bb, of + 0, none⟩ rfl (.int .i64 x) (fun w' h => (h.cell (p := ⟨bb, of + 0, none⟩) hbb).trans hcs.1)) hS0 ?_
      simp only [Act.put, List.getElem_toArray, List.getElem_cons_zero, List.getElem_cons_succ, List.setIfInBounds_toArray, List.set_cons_zero, List.set_cons_succ]
      obtain ⟨B, hBe⟩ : ∃ B, B = C0.heap.size := ⟨_, rfl⟩
      have hpw := own_pairE 3 C0 y x
      rw [← hBe] at hpw
      have hT1 : Below wr.heap.size wr (C0.alloc (.cells #[.int .i64 y, .int .i64 x] 3)) := hT0.alloc hz0 _
      refine anyH_op (i := 7) (by kernel_rfl) rfl rfl (.slice (some ⟨B, 0, none⟩) 2 2) (C0.alloc (.cells #[.int .i64 y, .int .i64 x] 3)) (by simp [go_sem, hBe]) (hT1.mono hsz) ?_
      have hz1 : (C0.alloc (.cells #[.int .i64 y, .int .i64 x] 3)).heap.size = B + 1 := by simp [hBe]
      generalize C0.alloc (.cells #[.int .i64 y, .int .i64 x] 3) = C1 at hpw hT1 hz1 ⊢
      simp only [Act.put, List.getElem_toArray, List.getElem_cons_zero, List.getElem_cons_succ, List.setIfInBounds_toArray, List.set_cons_zero, List.set_cons_succ]
      have how := own2_one (T := 22) hpw (by omega)
      have hT2 : Below wr.heap.size wr (C1.alloc (.cells #[.slice (some ⟨B, 0, none⟩) 2 2] 22)) := hT1.alloc hT1.size _
      obtain ⟨B2, hBe2⟩ : ∃ B2, B2 = C1.heap.size := ⟨_, rfl⟩
      rw [← hBe2] at how
      refine anyH_op (i := 8) (by kernel_rfl) rfl rfl (.slice (some ⟨B2, 0, none⟩) 1 1) (C1.alloc (.cells #[.slice (some ⟨B, 0, none⟩) 2 2] 22)) (by simp [go_sem, hBe2]) (hT2.mono hsz) ?_
      generalize C1.alloc (.cells #[.slice (some ⟨B, 0, none⟩) 2 2] 22) = C2 at how hT2 ⊢
      simp only [Act.put, List.getElem_toArray, List.getElem_cons_zero, List.getElem_cons_succ, List.setIfInBounds_toArray, List.set_cons_zero, List.set_cons_succ]
      refine anyH_oneX (i := 9) (by kernel_rfl) rfl rfl ?_
      intro Q1 hQ1
      refine wpList_append2N sliceT2 rowI2 (by decide) rfl (.tmp _) (.tmp _) rfl w.heap.size (.slice oa A.length oc) A (show _ = Value.slice oa A.length oc by rw [hol]; rfl) wr (by rw [hol]; exact HO.out) hT2 _ [[y, x]] rfl (how.mono (by omega)) hsz (by rw [hol]; simp; omega) ?_
      intro v3 C3 ho3 hb3
      refine wpList_nil ?_
      have hS3 : Below w.heap.size wr C3 := (hT2.mono hsz).trans hb3
      refine hQ1 _ _ hS3 ?_
      simp only [Act.put, List.getElem_toArray, List.getElem_cons_zero, List.getElem_cons_succ, List.setIfInBounds_toArray, List.set_cons_zero, List.set_cons_succ]
      refine anyH_op (i := 10) (by kernel_rfl) rfl rfl v3 C3 (by simp [go_sem]) hS3 ?_
      refine wpAnyH_done (by kernel_rfl) ?_ _
      simp only [Act.put, List.getElem_toArray, List.getElem_cons_zero, List.getElem_cons_succ, List.setIfInBounds_toArray, List.set_cons_zero, List.set_cons_succ]
      have HO3 := hide ho3
      have HB3 := hide (HB.out.trans hS3)
      clear hS0 hT0 hT1 hT2 hS3 hb3 ho3 hpw how hQ1
      go_wp2
      go_roundw
      case rel => exact ⟨k + 1, by omega, by go_num, by rw [HNX.out]; exact HO3.out, HB3⟩
      case measure => (simp [intOf] <;> omega)
    · have HK := hide (show L.take k = L by rw [show k = L.length by omega]; exact List.take_length)
      have hlt' : ¬ ((k : Int) < (L.length : Int)) := by omega
      clear hso
      go_wp2
      go_ret
      exact ⟨_, rfl, by have h := HO.out; rw [HK.out] at h; exact h, HB.out⟩
end Go.Proofs.YtblglkgmnaklbaaDoor
/- Contracts: full words. -/
namespace Go.Proofs.YtblglkgmnaklbaaDoor
open Go.RowKit
set_option maxRecDepth 100000
attribute [local irreducible] p2 low memB risB
def okFu (n : Int) (l m : List Int) : Bool := okWd n l m && decide ((m.length : Int) = n)
theorem okFu_wd {n : Int} {l m : List Int} (h : okFu n l m = true) : okWd n l m = true ∧ (m.length : Int) = n := by
  simp only [okFu, Bool.and_eq_true, decide_eq_true_eq] at h; exact h

theorem okFu_no1 {n : Int} {l m : List Int} (h : okSp n l = false) : okFu n l m = false := by simp [okFu, okWd_no h]
theorem okFu_no2 {n : Int} {l m : List Int} (h : ¬ (m.length : Int) = n) : okFu n l m = false := by simp [okFu, h]
theorem okFu_eq {n : Int} {l m : List Int} (h : (m.length : Int) = n) : okFu n l m = okWd n l m := by simp [okFu, h]

end Go.Proofs.YtblglkgmnaklbaaDoor
/- Mathematics: the greatest cost of a word, the least one of all words, and that the greedy word has it. No program is named here. -/
namespace Go.Proofs.YtblglkgmnaklbaaDoor
set_option maxRecDepth 100000
def mxi (a b : Int) : Int := if a < b then b else a
def mni (a b : Int) : Int := if b < a then b else a
theorem mxi_le {a b x : Int} : mxi a b ≤ x ↔ a ≤ x ∧ b ≤ x := by unfold mxi; split <;> omega
theorem le_mxi {a b x : Int} : x ≤ mxi a b ↔ x ≤ a ∨ x ≤ b := by unfold mxi; split <;> omega
theorem le_mni {a b x : Int} : x ≤ mni a b ↔ x ≤ a ∧ x ≤ b := by unfold mni; split <;> omega
theorem mni_le {a b x : Int} : mni a b ≤ x ↔ a ≤ x ∨ b ≤ x := by unfold mni; split <;> omega
theorem mxi_l (a b : Int) : a ≤ mxi a b := by unfold mxi; split <;> omega
theorem mxi_r (a b : Int) : b ≤ mxi a b := by unfold mxi; split <;> omega
/-- The greatest cost of the first items of a word, a at least. -/
def mxW (c : Nat → Nat → Int) (a : Int) (w : List Int) : Nat → Int
  | 0 => a
  | k + 1 => mxi (mxW c a w k) (c (setTo w k) (w[k]?.getD 0).toNat)
theorem mxW_next (c : Nat → Nat → Int) (a : Int) (w : List Int) (k : Nat) : mxW c a w (k + 1) = mxi (mxW c a w k) (c (setTo w k) (w[k]?.getD 0).toNat) := rfl
theorem mxW_least {c : Nat → Nat → Int} {a b : Int} {w : List Int} (h : ∀ j, j < w.length → b ≤ c (setTo w j) (w[j]?.getD 0).toNat) (hab : a ≤ b) : ∀ k, 0 < k → k ≤ w.length → mxW c a w k = mxW c b w k
  | 0, h0, _ => by omega
  | k + 1, _, hk => by
    rw [mxW, mxW]
    rcases Nat.eq_zero_or_pos k with h0 | h0
    · subst h0
      have := h 0 (by omega)
      rw [mxW, mxW]
      unfold mxi
      split <;> split <;> omega
    · rw [mxW_least h hab k h0 (by omega)]
theorem mxW_ge {c : Nat → Nat → Int} {a : Int} {w : List Int} : ∀ k j, j < k → c (setTo w j) (w[j]?.getD 0).toNat ≤ mxW c a w k
  | 0, j, h => by omega
  | k + 1, j, h => by
    rw [mxW, le_mxi]
    rcases Nat.lt_or_ge j k with h1 | h1
    · exact .inl (mxW_ge k j h1)
    · rw [show j = k by omega]; exact .inr (Int.le_refl _)
theorem mxW_base {c : Nat → Nat → Int} {a : Int} {w : List Int} : ∀ k, a ≤ mxW c a w k
  | 0 => Int.le_refl _
  | k + 1 => by rw [mxW, le_mxi]; exact .inl (mxW_base k)
theorem mxW_is {c : Nat → Nat → Int} {a : Int} {w : List Int} (h : ∀ j, j < w.length → a ≤ c (setTo w j) (w[j]?.getD 0).toNat) : ∀ k, 0 < k → k ≤ w.length → ∃ j, j < k ∧ c (setTo w j) (w[j]?.getD 0).toNat = mxW c a w k
  | 0, h0, _ => by omega
  | k + 1, _, hk => by
    rw [mxW]
    rcases Nat.eq_zero_or_pos k with h0 | h0
    · subst h0
      refine ⟨0, by omega, ?_⟩
      have := h 0 (by omega)
      rw [mxW]; unfold mxi; split <;> omega
    · obtain ⟨j, hj, e⟩ := mxW_is h k h0 (by omega)
      by_cases hlt : mxW c a w k < c (setTo w k) (w[k]?.getD 0).toNat
      · exact ⟨k, by omega, by unfold mxi; rw [if_pos hlt]⟩
      · exact ⟨j, by omega, by unfold mxi; rw [if_neg hlt, e]⟩
/-- The first item that costs so much. -/
def crK (c : Nat → Nat → Int) (g : Int) (w : List Int) : Nat → Option Nat
  | 0 => none
  | k + 1 => match crK c g w k with
    | some j => some j
    | none => if c (setTo w k) (w[k]?.getD 0).toNat = g then some k else none
theorem crK_none {c : Nat → Nat → Int} {g : Int} {w : List Int} : ∀ k, (∀ j, j < k → c (setTo w j) (w[j]?.getD 0).toNat ≠ g) → crK c g w k = none
  | 0, _ => rfl
  | k + 1, h => by rw [crK, crK_none k (fun j hj => h j (by omega))]; simp [h k (by omega)]
theorem crK_stay {c : Nat → Nat → Int} {g : Int} {w : List Int} {k j : Nat} (h : crK c g w k = some j) : ∀ m, k ≤ m → crK c g w m = some j
  | 0, hm => by have : k = 0 := by omega
                subst this; exact h
  | m + 1, hm => by
    rcases Nat.lt_or_ge m k with h1 | h1
    · rw [show m + 1 = k by omega]; exact h
    · rw [crK, crK_stay h m h1]
theorem crK_some {c : Nat → Nat → Int} {g : Int} {w : List Int} {k : Nat} (h : ∀ j, j < k → c (setTo w j) (w[j]?.getD 0).toNat ≠ g) (hk : c (setTo w k) (w[k]?.getD 0).toNat = g) : crK c g w (k + 1) = some k := by
  rw [crK, crK_none k h]; simp [hk]
/-! ### The least cost behind a set -/
def lcS (F : Nat → Bool) (c : Nat → Nat → Int) (A : Nat → Int) (s : Nat) : Nat → Int
  | 0 => 10000
  | i + 1 => if (!s.testBit i && F (p2s s i)) = true then mni (lcS F c A s i) (mxi (c s i) (A (p2s s i))) else lcS F c A s i
def lcF (F : Nat → Bool) (c : Nat → Nat → Int) (n : Nat) : Nat → Nat → Int
  | 0, _ => -10000
  | f + 1, s => if s = low n then -10000 else lcS F c (lcF F c n f) s n
def lc (F : Nat → Bool) (c : Nat → Nat → Int) (n : Nat) : Nat → Int := lcF F c n 8
theorem lcS_next (F : Nat → Bool) (c : Nat → Nat → Int) (A : Nat → Int) (s i : Nat) : lcS F c A s (i + 1) = if (!s.testBit i && F (p2s s i)) = true then mni (lcS F c A s i) (mxi (c s i) (A (p2s s i))) else lcS F c A s i := rfl
theorem lcS_congr {F : Nat → Bool} {c : Nat → Nat → Int} {A B : Nat → Int} {s : Nat} : ∀ k, (∀ i, i < k → s.testBit i = false → F (p2s s i) = true → A (p2s s i) = B (p2s s i)) → lcS F c A s k = lcS F c B s k
  | 0, _ => rfl
  | k + 1, h => by
    rw [lcS, lcS, lcS_congr k (fun i hi => h i (by omega))]
    split
    · rename_i hc
      simp only [Bool.and_eq_true, Bool.not_eq_true'] at hc
      rw [h k (by omega) hc.1 hc.2]
    · rfl
theorem lcF_more {F : Nat → Bool} {c : Nat → Nat → Int} {n : Nat} (h7 : n ≤ 7) : ∀ f s, s < 128 → 8 ≤ f + pc s → lcF F c n f s = lcF F c n (f + 1) s
  | 0, s, hs, h => by have := pc_le s; omega
  | f + 1, s, hs, h => by
    rw [lcF, lcF]
    split
    · rfl
    · refine lcS_congr n fun i hi hb _ => lcF_more h7 f _ (p2s_lt s i hs (by omega)) ?_
      have := pc_stepK s i hs (by omega) hb
      have e : p2s s i = s ||| p2 i := rfl
      rw [e]; omega
theorem lc_eq (F : Nat → Bool) (c : Nat → Nat → Int) {n : Nat} (h7 : n ≤ 7) (s : Nat) (hs : s < 128) : lc F c n s = if s = low n then -10000 else lcS F c (lc F c n) s n := by
  unfold lc
  rw [lcF_more h7 8 s hs (by omega), lcF]
attribute [local irreducible] p2 low memB risB
theorem lcS_le {F : Nat → Bool} {c : Nat → Nat → Int} {A : Nat → Int} {s : Nat} : ∀ k i, i < k → s.testBit i = false → F (p2s s i) = true → lcS F c A s k ≤ mxi (c s i) (A (p2s s i))
  | 0, i, h, _, _ => by omega
  | k + 1, i, h, hb, hF => by
    rw [lcS]
    rcases Nat.lt_or_ge i k with h1 | h1
    · have := lcS_le (c := c) (A := A) k i h1 hb hF
      split
      · rw [mni_le]; exact .inl this
      · exact this
    · have e : i = k := by omega
      subst e
      rw [hb, hF]
      simp only [Bool.not_false, Bool.and_self, if_true]
      rw [mni_le]; exact .inr (Int.le_refl _)
theorem le_lcS {F : Nat → Bool} {c : Nat → Nat → Int} {A : Nat → Int} {s : Nat} {B : Int} (hB : B ≤ 10000) : ∀ k, (∀ i, i < k → s.testBit i = false → F (p2s s i) = true → B ≤ mxi (c s i) (A (p2s s i))) → B ≤ lcS F c A s k
  | 0, _ => hB
  | k + 1, h => by
    have h1 := le_lcS (c := c) (A := A) hB k (fun i hi => h i (by omega))
    rw [lcS]
    split
    · rename_i hc
      simp only [Bool.and_eq_true, Bool.not_eq_true'] at hc
      rw [le_mni]
      exact ⟨h1, h k (by omega) hc.1 hc.2⟩
    · exact h1
/-- What is within a set at which all that can be learnt costs B at least leads on at a cost of B at least. -/
theorem lc_ge {F : Nat → Bool} {c : Nat → Nat → Int} {n : Nat} (h : Spc F n) (h7 : n ≤ 7) {g : Nat} {B : Int} (hg : F g = true) (hgn : g ≠ low n) (hB : B ≤ 10000)
    (hO : ∀ i, (outerOf F n g).testBit i = true → B ≤ c g i) (hmono : ∀ s t i, i < n → (∀ j, s.testBit j = true → t.testBit j = true) → c t i ≤ c s i) :
    ∀ m s, pc s + m = 8 → F s = true → (∀ j, s.testBit j = true → g.testBit j = true) → B ≤ lc F c n s
  | 0, s, hm, _, _ => by have := pc_le s; omega
  | m + 1, s, hm, hs, hsg => by
    have hp := p2_le n 7 h7
    have hsn := h.lt s hs
    have hgN := h.lt g hg
    rw [lc_eq F c h7 s (by omega)]
    have hne : s ≠ low n := by
      intro e
      apply hgn
      apply Nat.eq_of_testBit_eq
      intro i
      rw [Bool.eq_iff_iff]
      constructor
      · intro hi
        rw [low_bit, decide_eq_true_eq]; exact bit_ltK hgN hi
      · intro hi; rw [← e] at hi; exact hsg i hi
    rw [if_neg hne]
    refine le_lcS hB n fun i hi hb hF => ?_
    rw [le_mxi]
    cases hgi : g.testBit i
    · left
      have hu := h.uni g (p2s s i) hg hF
      have e : g ||| p2s s i = g ||| p2 i := by
        apply Nat.eq_of_testBit_eq
        intro j
        unfold p2s
        rw [Nat.testBit_or, Nat.testBit_or, Nat.testBit_or]
        cases hsj : s.testBit j
        · simp
        · simp [hsg j hsj]
      rw [e] at hu
      have h1 := hO i (outer_mem hi hgi hu)
      have h2 := hmono s g i hi hsg
      omega
    · right
      have hpcs := pc_stepK s i (by omega) (by omega) hb
      refine lc_ge h h7 hg hgn hB hO hmono m (p2s s i) ?_ hF ?_
      · have : p2s s i = s ||| p2 i := rfl
        rw [this]; omega
      · intro j hj
        unfold p2s at hj
        rw [Nat.testBit_or, Bool.or_eq_true] at hj
        rcases hj with hj | hj
        · exact hsg j hj
        · rw [p2_bit, decide_eq_true_eq] at hj
          rw [← hj]; exact hgi
/-- The greedy word costs least. -/
theorem greedy_best {F : Nat → Bool} {c : Nat → Nat → Int} {n : Nat} (h : Spc F n) (h1 : 1 ≤ n) (h7 : n ≤ 7) (hbd : ∀ s i, i < n → -10000 ≤ c s i ∧ c s i ≤ 10000)
    (hmono : ∀ s t i, i < n → (∀ j, s.testBit j = true → t.testBit j = true) → c t i ≤ c s i) :
    lc F c n 0 = mxW c (-10000) (grW c (outerOf F n) n) n := by
  have hcost : ∀ k, k < n → c (setTo (grW c (outerOf F n) n) k) ((grW c (outerOf F n) n)[k]?.getD 0).toNat = c (gs c (outerOf F n) k) (gi c (outerOf F n) k) := by
    intro k hk
    rw [gs_set _ _ n k (by omega), grW_at _ _ n k hk, Int.toNat_natCast]
  have hp := p2_le n 7 h7
  apply Int.le_antisymm
  · have key : ∀ k, k ≤ n → lc F c n 0 ≤ mxi (mxW c (-10000) (grW c (outerOf F n) n) k) (lc F c n (gs c (outerOf F n) k)) := by
      intro k
      induction k with
      | zero => intro _; rw [le_mxi]; exact .inr (Int.le_refl _)
      | succ k ih =>
        intro hk
        have h2 := ih (by omega)
        have hF := (gs_ok c h h7 k (by omega)).1
        have hlt := h.lt _ hF
        obtain ⟨g1, g2, g3⟩ := outer_in (gi_ok c h h7 (show k < n by omega)).1
        have h3 : lc F c n (gs c (outerOf F n) k) ≤ mxi (c (gs c (outerOf F n) k) (gi c (outerOf F n) k)) (lc F c n (gs c (outerOf F n) (k + 1))) := by
          rw [lc_eq F c h7 _ (by omega), if_neg (gs_ne c h h7 (by omega))]
          exact lcS_le n _ g1 g2 g3
        rw [mxW_next, hcost k (by omega)]
        rw [le_mxi] at h2 h3 ⊢
        rcases h2 with h2 | h2
        · left; rw [le_mxi]; exact .inl h2
        · rcases h3 with h3 | h3
          · left; rw [le_mxi]; right; omega
          · right; omega
    have h2 := key n (Nat.le_refl _)
    rw [gs_full c h h7, lc_eq F c h7 _ (low_lt n h7), if_pos rfl, le_mxi] at h2
    rcases h2 with h2 | h2
    · exact h2
    · exact Int.le_trans h2 (mxW_base n)
  · obtain ⟨k, hk, e⟩ := mxW_is (c := c) (a := -10000) (w := grW c (outerOf F n) n) (fun j hj => by rw [grW_len] at hj; rw [hcost j hj]; exact (hbd _ _ (gi_in c h h7 hj).1).1) n h1 (by rw [grW_len]; exact Nat.le_refl _)
    rw [hcost k hk] at e
    have hx := gi_ok c h h7 hk
    have hb := hbd (gs c (outerOf F n) k) (gi c (outerOf F n) k) (gi_in c h h7 hk).1
    rw [← e]
    exact lc_ge h h7 (gs_ok c h h7 k (by omega)).1 (gs_ne c h h7 hk) hb.2 (fun i hi => hx.2.1 i hi) hmono 8 0 (by show pc 0 + 8 = 8; decide) h.zero (fun j hj => by rw [Nat.zero_testBit] at hj; cases hj)
end Go.Proofs.YtblglkgmnaklbaaDoor
/- Contracts: the family of a space with the costs of tasks. -/
namespace Go.Proofs.YtblglkgmnaklbaaDoor
open Go.RowKit
set_option maxRecDepth 100000
set_option linter.unusedSimpArgs false
theorem ent_costsOf : enters Tryd.prog 79 := enters_of Tryd.func79 (by kernel_rfl) (by kernel_rfl)
theorem gv_in {n : Int} {l : List Int} {T : List Tsk} (h : gvB n l T = true) : okSp n l = true ∧ taB T n = true := by
  unfold gvB at h; rw [Bool.and_eq_true] at h; exact h
attribute [local irreducible] p2 low memB risB
set_option maxHeartbeats 2000000 in
theorem familyAndCosts_no (n : Int) (v : Value) (l : List Int) (u : Value) (T : List Tsk) (w : World) (hl : ints w.heap.size w v l) (hlen : l.length < 1000000000) (ht : tks w.heap.size w u T) (hs : T.length < 1000000000) (hno : gvB n l T = false) :
    Calls Tryd.prog 42 #[.agg #[.int .i64 n, v], u] w fun e w' => e = .returned (.tuple #[.agg (fam 0 noSet), .nilFunc, .bool false]) ∧ Below w.heap.size w w' := by
  have hf1 : famAt 57 ((w.alloc (.cells #[.int .i64 n, v] 29)).alloc (.cells (fam 0 noSet) 57)) (w.heap.size + 1) 0 noSet := by
    have := famAt.new 57 (w.alloc (.cells #[.int .i64 n, v] 29)) 0 noSet
    simpa using this
  have HF0 := hide hf1
  have hz0 : ((w.alloc (.cells #[.int .i64 n, v] 29)).alloc (.cells (fam 0 noSet) 57)).heap.size = w.heap.size + 2 := by simp
  have HB0 := hide (((Below.refl w.heap.size w).alloc (Nat.le_refl _) (.cells #[.int .i64 n, v] 29)).alloc (by simp) (.cells (fam 0 noSet) 57))
  have HL := hide (((hl.alloc (.cells #[.int .i64 n, v] 29)).alloc (.cells (fam 0 noSet) 57)).mono (show w.heap.size ≤ ((w.alloc (.cells #[.int .i64 n, v] 29)).alloc (.cells (fam 0 noSet) 57)).heap.size by simp; omega))
  have HTK := hide ht
  have HZ0 := hide hz0
  clear hl hf1 ht hz0
  unfold gvB at hno
  cases hok : okSp n l
  · have HK := hide hok
    clear hok hno
    go_enter Tryd.func42, Tryd.ntmps42
    go_wp2_with (first
      | (refine wpList_alloc_fam zeroT rfl rfl _ (by first | (simp only [World.size_alloc]; rfl) | rfl) ?_)
      | (go_at_call 36; refine (familyOf_c n v l _ HL.out hlen).mono ?_; rw [famVal_no n l HK.out]; rintro e w1 ⟨rfl, hb1⟩; have hz1 := hb1.size; rw [HZ0.out] at hz1; have hf2 := (HF0.out.below hb1 (by rw [HZ0.out]; omega)).alloc (.cells (fam 0 noSet) 57); have hg2 := hf2.rowO w1.heap.size (by omega) (fam 0 noSet); have HG2 := hide hg2; have HB1 := hide (bl_row ((HB0.out.trans (hb1.mono (by rw [HZ0.out]; omega))).alloc (by omega) (.cells (fam 0 noSet) 57)) (show w.heap.size ≤ w1.heap.size by omega) (fam 0 noSet)); clear hb1 hf2 hg2)
      | (refine wpList_store_fam sizeT rfl (.tmp 7) (.tmp _) rfl _ _ _ rfl rfl _ _ (famAt.new _ _ _ _) ?_)
      | (refine wpList_build_fam0 built0 rfl rfl ?_)
      | (refine wpList_store_fam sizeT rfl (.tmp 4) (.tmp _) rfl _ 0 noSet rfl rfl _ _ HG2.out ?_))
    refine bodyPost_ret (v := .tuple #[.agg (fam 0 noSet), .nilFunc, .bool false]) (results_fam3 (p := 4) (q := 5) (r := 6) rowT sizeT rfl _ _ (w.heap.size + 1) rfl _ _ (HG2.out.row _ _)) rfl ⟨rfl, bl_row HB1.out (by omega) _⟩
  · rw [hok, Bool.true_and] at hno
    have HK := hide hok
    have HTA := hide (fun w1 (h : Below w.heap.size w w1) => by have := implAreTasks_c u T n w1 (HTK.out.to h) hs; rw [hno] at this; exact this)
    clear hok hno
    go_enter Tryd.func42, Tryd.ntmps42
    go_wp2_with (first
      | (refine wpList_alloc_fam zeroT rfl rfl _ (by first | (simp only [World.size_alloc]; rfl) | rfl) ?_)
      | (go_at_call 36; refine (familyOf_c n v l _ HL.out hlen).mono ?_; rw [famVal_yes n l HK.out]; rintro e w1 ⟨rfl, hb1⟩; have hz1 := hb1.size; rw [HZ0.out] at hz1; have hf2 := (HF0.out.below hb1 (by rw [HZ0.out]; omega)).alloc (.cells (fam 0 noSet) 57); have hg2 := hf2.rowO w1.heap.size (by omega) (fam n (marksTo l l.length)); have HG2 := hide hg2; have hh2 := (famAt.new 57 w1 0 noSet).row n (marksTo l l.length); have c0 := hh2.get0; have HZ2 := hide (show w.heap.size + 2 ≤ ((w1.alloc (.cells (fam 0 noSet) 57)).setRow w1.heap.size (fam n (marksTo l l.length))).heap.size by simp [World.setRow]; omega); have HB1 := hide (bl_row ((HB0.out.trans (hb1.mono (by rw [HZ0.out]; omega))).alloc (by omega) (.cells (fam 0 noSet) 57)) (show w.heap.size ≤ w1.heap.size by omega) (fam n (marksTo l l.length))); clear hb1 hf2 hg2)
      | (refine wpList_store_fam sizeT rfl (.tmp 7) (.tmp _) rfl _ _ _ rfl rfl _ _ (famAt.new _ _ _ _) ?_)
      | (go_at_call 54; refine (HTA.out _ HB1.out).mono ?_; rintro e w3 ⟨rfl, hb3⟩; have HG3 := hide (HG2.out.below hb3 (by have := HZ2.out; omega)); have HB3 := hide (HB1.out.trans (hb3.mono (by have := HZ2.out; omega))); clear hb3)
      | (refine wpList_build_fam0 built0 rfl rfl ?_)
      | (refine wpList_store_fam sizeT rfl (.tmp 4) (.tmp _) rfl _ 0 noSet rfl rfl _ _ HG3.out ?_))
    refine bodyPost_ret (v := .tuple #[.agg (fam 0 noSet), .nilFunc, .bool false]) (results_fam3 (p := 4) (q := 5) (r := 6) rowT sizeT rfl _ _ (w.heap.size + 1) rfl _ _ (HG3.out.row _ _)) rfl ⟨rfl, bl_row HB3.out (by omega) _⟩
set_option maxHeartbeats 2000000 in
theorem familyAndCosts_yes (n : Int) (v : Value) (l : List Int) (u : Value) (T : List Tsk) (w : World) (hl : ints w.heap.size w v l) (hlen : l.length < 1000000000) (ht : tks w.heap.size w u T) (hs : T.length < 1000000000) (hT : tab w) (hyes : gvB n l T = true) :
    Calls Tryd.prog 42 #[.agg #[.int .i64 n, v], u] w fun e w' => ∃ caps, e = .returned (.tuple #[.agg (fam n (marksTo l l.length)), .func (.func 104) #[] caps, .bool true]) ∧ isCost w' 104 caps n.toNat (coT T) ∧ Below w.heap.size w w' := by
  obtain ⟨hok, hta⟩ := gv_in hyes
  have hf1 : famAt 57 ((w.alloc (.cells #[.int .i64 n, v] 29)).alloc (.cells (fam 0 noSet) 57)) (w.heap.size + 1) 0 noSet := by
    have := famAt.new 57 (w.alloc (.cells #[.int .i64 n, v] 29)) 0 noSet
    simpa using this
  have HF0 := hide hf1
  have hz0 : ((w.alloc (.cells #[.int .i64 n, v] 29)).alloc (.cells (fam 0 noSet) 57)).heap.size = w.heap.size + 2 := by simp
  have HB0 := hide (((Below.refl w.heap.size w).alloc (Nat.le_refl _) (.cells #[.int .i64 n, v] 29)).alloc (by simp) (.cells (fam 0 noSet) 57))
  have HL := hide (((hl.alloc (.cells #[.int .i64 n, v] 29)).alloc (.cells (fam 0 noSet) 57)).mono (show w.heap.size ≤ ((w.alloc (.cells #[.int .i64 n, v] 29)).alloc (.cells (fam 0 noSet) 57)).heap.size by simp; omega))
  have HTK := hide ht
  have HZ0 := hide hz0
  have HT := hide hT
  have HK := hide hok
  have HTAB := hide hta
  have HNT := hide (show T.length = n.toNat by have := taB_is hta; omega)
  have HTA := hide (fun w1 (h : Below w.heap.size w w1) => by have := implAreTasks_c u T n w1 (HTK.out.to h) hs; rw [hta] at this; exact this)
  clear hl hf1 ht hz0 hok hta hyes hT
  go_enter Tryd.func42, Tryd.ntmps42
  go_wp2_with (first
    | (refine wpList_alloc_fam zeroT rfl rfl _ (by first | (simp only [World.size_alloc]; rfl) | rfl) ?_)
    | (go_at_call 36; refine (familyOf_c n v l _ HL.out hlen).mono ?_; rw [famVal_yes n l HK.out]; rintro e w1 ⟨rfl, hb1⟩; have hz1 := hb1.size; rw [HZ0.out] at hz1; have hf2 := (HF0.out.below hb1 (by rw [HZ0.out]; omega)).alloc (.cells (fam 0 noSet) 57); have hg2 := hf2.rowO w1.heap.size (by omega) (fam n (marksTo l l.length)); have HG2 := hide hg2; have hh2 := (famAt.new 57 w1 0 noSet).row n (marksTo l l.length); have c0 := hh2.get0; have HH2 := hide hh2; have HZ2 := hide (show w.heap.size + 2 ≤ ((w1.alloc (.cells (fam 0 noSet) 57)).setRow w1.heap.size (fam n (marksTo l l.length))).heap.size by simp [World.setRow]; omega); have HB1 := hide (bl_row ((HB0.out.trans (hb1.mono (by rw [HZ0.out]; omega))).alloc (by omega) (.cells (fam 0 noSet) 57)) (show w.heap.size ≤ w1.heap.size by omega) (fam n (marksTo l l.length))); clear hb1 hf2 hg2 hh2)
    | (refine wpList_store_fam sizeT rfl (.tmp 7) (.tmp _) rfl _ _ _ rfl rfl _ _ (famAt.new _ _ _ _) ?_)
    | (go_at_call 54; refine (HTA.out _ HB1.out).mono ?_; rintro e w3 ⟨rfl, hb3⟩; have HG3 := hide (HG2.out.below hb3 (by have := HZ2.out; omega)); have HH3 := hide (HH2.out.below hb3 HH2.out.lt); have HB3 := hide (HB1.out.trans (hb3.mono (by have := HZ2.out; omega))); clear hb3))
  generalize hF : marksTo l l.length = F at HG3 HH3
  have HF := hide hF
  clear hF
  have hz1 := HG3.out.lt
  have hz3 := HB3.out.size
  have hlt := HH3.out.lt
  generalize hg : w1.heap.size = g at *
  have hS0 : famAt 57 ({ w3 with drawn := w3.drawn + 1 } : World) g n F ∧ Below (w.heap.size + 1) w3 { w3 with drawn := w3.drawn + 1 } := ⟨HH3.out, (Below.refl _ _).drew⟩
  have hg0 : famAt 57 ({ w3 with drawn := w3.drawn + 1 } : World) (w.heap.size + 1) 0 noSet := HG3.out
  have hT0 : Below w3.heap.size w3 { w3 with drawn := w3.drawn + 1 } := (Below.refl _ _).drew
  refine wp_region_held (S := fun w' => famAt 57 w' g n F ∧ Below (w.heap.size + 1) w3 w') (by kernel_rfl) ?_
  generalize ({ w3 with drawn := w3.drawn + 1 } : World) = C0 at hS0 hg0 hT0 ⊢
  have hz0 := hT0.size
  refine wpAnyH_take (i := 0) rfl (by kernel_rfl) (by kernel_rfl) (by kernel_rfl) (fun _ _ _ h => h) (yields_load_fam rowT sizeT rfl (.tmp _) rfl _ rfl n F (fun w' h => h.1)) hS0 ?_
  simp only [Act.put, List.getElem_toArray, List.getElem_cons_zero, List.getElem_cons_succ, List.setIfInBounds_toArray, List.set_cons_zero, List.set_cons_succ]
  refine wpAnyH_take (i := 1) (v := u) rfl (by kernel_rfl) (by kernel_rfl) (by kernel_rfl) (fun _ _ _ h => h) (.inl ⟨rfl, fun w' _ => by go_simp⟩) hS0 ?_
  simp only [Act.put, List.getElem_toArray, List.getElem_cons_zero, List.getElem_cons_succ, List.setIfInBounds_toArray, List.set_cons_zero, List.set_cons_succ]
  refine anyH_call (i := 2) (by kernel_rfl) rfl rfl 79 ent_costsOf _ _ rfl #[u] rfl (costsOf_c u T n C0 HTAB.out (HTK.out.to (HB3.out.trans (hT0.mono (by omega)))) (HT.out.below (HB3.out.trans (hT0.mono (by omega))))) ?_
  rintro e C1 ⟨g1, g2, rfl, hq1, hq2, hq3, hq4, hq5, hq6, hb1⟩
  have hS1 : famAt 57 C1 g n F ∧ Below (w.heap.size + 1) w3 C1 := ⟨hS0.1.below hb1 hS0.1.lt, hS0.2.trans (hb1.mono (by omega))⟩
  have hg1 := hg0.below hb1 hg0.lt
  refine ⟨_, rfl, hS1, ?_⟩
  simp only [Act.put, List.getElem_toArray, List.getElem_cons_zero, List.getElem_cons_succ, List.setIfInBounds_toArray, List.set_cons_zero, List.set_cons_succ]
  have hS2 : famAt 57 (C1.setRow (w.heap.size + 1) (fam n F)) g n F ∧ Below (w.heap.size + 1) w3 (C1.setRow (w.heap.size + 1) (fam n F)) := ⟨hS1.1.rowO (w.heap.size + 1) (by omega) _, bl_row hS1.2 (Nat.le_refl _) _⟩
  have hz4 : (C1.setRow (w.heap.size + 1) (fam n F)).heap.size = C1.heap.size := by simp [World.setRow]
  refine anyH_store_fam sizeT (i := 3) (by kernel_rfl) rfl rfl (.tmp _) (.tmp _) rfl (w.heap.size + 1) n F rfl rfl 0 noSet hg1 hS2 ?_
  simp only [Act.put, List.getElem_toArray, List.getElem_cons_zero, List.getElem_cons_succ, List.setIfInBounds_toArray, List.set_cons_zero, List.set_cons_succ]
  refine anyH_op (i := 4) (by kernel_rfl) rfl rfl (.func (.func 104) #[] #[.pointer (some ⟨g1, 0, none⟩), .pointer (some ⟨g2, 0, none⟩)]) _ (by simp [go_sem]) hS2 ?_
  simp only [Act.put, List.getElem_toArray, List.getElem_cons_zero, List.getElem_cons_succ, List.setIfInBounds_toArray, List.set_cons_zero, List.set_cons_succ]
  refine anyH_op (i := 5) (by kernel_rfl) rfl rfl (.bool true) _ (by simp [go_sem]) hS2 ?_
  refine wpAnyH_done (by kernel_rfl) ?_ _
  simp only [Act.put, List.getElem_toArray, List.getElem_cons_zero, List.getElem_cons_succ, List.setIfInBounds_toArray, List.set_cons_zero, List.set_cons_succ]
  have HR := hide (hg1.row n F)
  have hic2 : isCost (C1.setRow (w.heap.size + 1) (fam n F)) 104 #[.pointer (some ⟨g1, 0, none⟩), .pointer (some ⟨g2, 0, none⟩)] T.length (coT T) := isCost_of HTAB.out (HTK.out.to (HB3.out.trans (hS2.2.mono (by omega)))) (HT.out.below (HB3.out.trans (hS2.2.mono (by omega)))) (by omega) (by omega)
    (by rw [World.cell?_of_block (hp_rowO _ _ _ _ (by show g1 ≠ _; omega))]; exact hq5) (by rw [World.cell?_of_block (hp_rowO _ _ _ _ (by show g2 ≠ _; omega))]; exact hq6)
  rw [HNT.out] at hic2
  have HIC := hide hic2
  have HBF := hide (HB3.out.trans ((hS2.2).mono (show w.heap.size ≤ w.heap.size + 1 by omega)))
  clear hS0 hS1 hS2 hg0 hg1 hic2 hb1 hT0 hq5 hq6
  go_wp2
  refine bodyPost_ret (v := .tuple #[.agg (fam n F), .func (.func 104) #[] #[.pointer (some ⟨g1, 0, none⟩), .pointer (some ⟨g2, 0, none⟩)], .bool true]) (results_fam3 (p := 4) (q := 5) (r := 6) rowT sizeT rfl _ _ (w.heap.size + 1) rfl _ _ HR.out) rfl ⟨_, by rw [HF.out], HIC.out, HBF.out⟩
end Go.Proofs.YtblglkgmnaklbaaDoor
/- Contracts: the cost of a word; CostOfWord, both. -/
namespace Go.Proofs.YtblglkgmnaklbaaDoor
open Go.RowKit
set_option maxRecDepth 100000
set_option linter.unusedSimpArgs false
attribute [local irreducible] p2 low memB risB
/-- Words whose items are items, and the sets of their beginnings. -/
def wOk (n : Nat) (w : List Int) : Prop := ∀ k, k < w.length → 0 ≤ w[k]?.getD 0 ∧ w[k]?.getD 0 < (n : Int)
theorem setTo_ltK {n : Nat} {w : List Int} (h7 : n ≤ 7) (h : wOk n w) : ∀ k, k ≤ w.length → setTo w k < 128
  | 0, _ => by show 0 < 128; omega
  | k + 1, hk => by
    have h1 := setTo_ltK h7 h k (by omega)
    have h2 := h k (by omega)
    rw [setTo]
    exact or_lt128 _ _ h1 (p2_lt128 _ (by omega))
theorem setTo_next (w : List Int) (k : Nat) : setTo w (k + 1) = setTo w k ||| p2 (w[k]?.getD 0).toNat := rfl
theorem l1Most_c (a b : Int) (w : World) : Calls Tryd.prog 78 #[.int .i64 a, .int .i64 b] w fun e w' => e = .returned (.int .i64 (mxi a b)) ∧ w = w' := by
  have HM := hide (show mxi a b = if a < b then b else a from rfl)
  by_cases h : b < a
  all_goals
    go_enter Tryd.func78, Tryd.ntmps78
    go_wp2
    go_ret
    exact ⟨ret_i (by rw [HM.out]; split <;> omega), rfl⟩
set_option maxHeartbeats 1000000 in
theorem grOf_c (u : Value) (T : List Tsk) (n : Int) (v : Value) (l : List Int) (w : World) (hta : taB T n = true) (ht : tks w.heap.size w u T) (hl : ints w.heap.size w v l) (hlen : l.length < 1000000000) (hw : wOk T.length l) :
    Calls Tryd.prog 45 #[u, v] w fun e w' => e = .returned (.int .i64 (mxW (coT T) (-10000) l l.length)) ∧ Below w.heap.size w w' := by
  have h7 : T.length ≤ 7 := by have := taB_is hta; omega
  obtain ⟨va, vc, hv⟩ := hl.shape
  subst hv
  have HL := hide hl
  have HC := hide (fun w1 (h : Below w.heap.size w w1) s i hs hi => grCost_c u T n s i w1 hta (ht.to h) hs hi)
  have HST := hide (setTo_ltK h7 hw)
  have HW := hide hw
  clear hl hta ht hw
  go_enter Tryd.func45, Tryd.ntmps45
  go_wp2_with fail
  go_loopw [5, 6, 11] (fun sv gv iv wr => ∃ k : Nat, k ≤ l.length ∧ iv = .int .i64 (k : Int) ∧ sv = .int .i64 (setTo l k : Int) ∧ gv = .int .i64 (mxW (coT T) (-10000) l k) ∧ Hid (Below w.heap.size w wr)) (fun _ _ iv _ => l.length - (intOf iv).toNat)
  case atStart => exact ⟨0, Nat.zero_le _, rfl, rfl, rfl, Below.refl _ _⟩
  case round =>
    obtain ⟨k, hk2, rfl, rfl, rfl, HB⟩ := hrel
    have HNX := hide (mxW_next (coT T) (-10000) l k)
    have HSN := hide (setTo_next l k)
    have HLW := hide (HL.out.below HB.out (Nat.le_refl _))
    by_cases hlt : k < l.length
    · have hlt' : (k : Int) < (l.length : Int) := by omega
      have hs128 := HST.out k hk2
      have hx := HW.out k hlt
      obtain ⟨i, hi⟩ := Int.eq_ofNat_of_zero_le hx.1
      rw [hi, Int.toNat_natCast] at HNX HSN
      have HX := hide hi
      have hin : i < T.length := by omega
      clear hx hi
      generalize hs : setTo l k = s at *
      generalize hm : mxW (coT T) (-10000) l k = m at *
      clear hs hm
      have HCC := hide (HC.out wr HB.out s i hs128 hin)
      generalize coT T s i = co at HNX HCC
      have hp1 := wrap_p2 i (by omega)
      have hp2 : IntKind.i64.wrap (2 ^ i) = (p2 i : Int) := by rw [IntWalk.i64_left]; exact hp1
      have hpk := p2_lt128 i (by omega)
      have hor := i64_or s (p2 i) (Nat.lt_trans hs128 (by decide)) (Nat.lt_trans hpk (by decide))
      go_wp2_with (first
        | (refine wpList_at sliceT intS rfl (.tmp 9) (.tmp _) rfl _ rfl k rfl w.heap.size l HLW.out hlt ?_; intro ad hcell hblk; rw [HX.out] at hcell)
        | (go_at_call 76; refine HCC.out.mono ?_; rintro e w2 ⟨rfl, hb2⟩; have HB2 := hide (HB.out.trans (hb2.mono HB.out.size)); clear hb2)
        | (go_at_call 78; refine (l1Most_c m co _).mono ?_; rintro e w3 ⟨rfl, rfl⟩))
      go_roundw
      case rel => exact ⟨k + 1, by omega, by go_num, by rw [HSN.out], (by rw [HNX.out]; try rfl), HB2⟩
      case measure => (simp [intOf] <;> omega)
    · have HK := hide (show k = l.length by omega)
      have hlt' : ¬ ((k : Int) < (l.length : Int)) := by omega
      go_wp2
      go_ret
      exact ⟨ret_i (by rw [HK.out]), HB.out⟩
end Go.Proofs.YtblglkgmnaklbaaDoor
/- Contracts: CostOfWord, both. -/
namespace Go.Proofs.YtblglkgmnaklbaaDoor
open Go.RowKit
set_option maxRecDepth 100000
set_option linter.unusedSimpArgs false
attribute [local irreducible] p2 low memB risB
def fwB (n : Int) (l : List Int) (m : List Int) : Bool := decide (m.length = n.toNat) && wordB (marksTo l l.length) n.toNat m
def cwB (n : Int) (l : List Int) (T : List Tsk) (m : List Int) : Bool := gvB n l T && fwB n l m
def cwR (n : Int) (l : List Int) (T : List Tsk) (m : List Int) : Int := if cwB n l T m then mxW (coT T) (-10000) m m.length else 0
theorem cwR_no {n : Int} {l : List Int} {T : List Tsk} {m : List Int} (h : cwB n l T m = false) : cwR n l T m = 0 := by unfold cwR; rw [h]; rfl
theorem cwR_yes {n : Int} {l : List Int} {T : List Tsk} {m : List Int} (h : cwB n l T m = true) : cwR n l T m = mxW (coT T) (-10000) m m.length := by unfold cwR; rw [h]; rfl
theorem fw_wOk {n : Int} {l m : List Int} (h : fwB n l m = true) : m.length = n.toNat ∧ wOk n.toNat m := by
  unfold fwB at h
  rw [Bool.and_eq_true, decide_eq_true_eq] at h
  exact ⟨h.1, wordTo_len h.2⟩
/-- Both start values tell the same. -/
theorem mx_start {T : List Tsk} {n : Int} {m : List Int} (hta : taB T n = true) (hw : wOk T.length m) (hm : m.length = T.length) : mxW (coT T) (-9223372036854775808) m m.length = mxW (coT T) (-10000) m m.length := by
  refine mxW_least (fun j hj => ?_) (by omega) _ (by have := taB_is hta; omega) (Nat.le_refl _)
  have h1 := hw j hj
  have h2 := co_bd hta (setTo m j) (i := (m[j]?.getD 0).toNat) (by omega)
  omega
theorem fwB_no1 {n : Int} {l m : List Int} (h : ¬ m.length = n.toNat) : fwB n l m = false := by unfold fwB; rw [decide_eq_false h]; rfl
theorem any_word {F : Nat → Bool} {n : Nat} {m : List Int} : ∀ k, wordTo F n m k = true → wordTo anySet n m k = true
  | 0, _ => rfl
  | k + 1, h => by
    simp only [wordTo, stepB, Bool.and_eq_true] at h ⊢
    exact ⟨any_word k h.1, h.2.1, h.2.2.1, rfl⟩
theorem word_any {F : Nat → Bool} {n : Nat} {m : List Int} : ∀ k, wordTo anySet n m k = true → (∀ j, j < k → F (setTo m (j + 1)) = true) → wordTo F n m k = true
  | 0, _, _ => rfl
  | k + 1, h, hF => by
    have h2 := hF k (by omega)
    rw [setTo_next] at h2
    simp only [wordTo, stepB, Bool.and_eq_true] at h ⊢
    exact ⟨word_any k h.1 (fun j hj => hF j (by omega)), h.2.1, h.2.2.1, h2⟩
theorem word_in {F : Nat → Bool} {n : Nat} {m : List Int} : ∀ k j, wordTo F n m k = true → j < k → F (setTo m (j + 1)) = true
  | 0, j, _, h => by omega
  | k + 1, j, h, hj => by
    simp only [wordTo, stepB, Bool.and_eq_true] at h
    rcases Nat.lt_or_ge j k with h1 | h1
    · exact word_in k j h.1 h1
    · rw [show j = k by omega, setTo_next]; exact h.2.2.2
theorem fwB_no2 {n : Int} {l m : List Int} (hn : n.toNat ≤ 7) (h1 : 1 ≤ n.toNat) (hm : m.length = n.toNat) (h : okOrd m = false) : fwB n l m = false := by
  cases e : fwB n l m
  · rfl
  · unfold fwB at e
    rw [Bool.and_eq_true] at e
    have h2 := any_word _ e.2
    unfold okOrd at h
    rw [decide_eq_true (by omega), Bool.true_and, hm] at h
    rw [hm] at h2
    rw [h2] at h; cases h
theorem fwB_no3 {n : Int} {l m : List Int} {k : Nat} (hk : k < m.length) (h : marksTo l l.length (setTo m (k + 1)) = false) : fwB n l m = false := by
  cases e : fwB n l m
  · rfl
  · unfold fwB at e
    rw [Bool.and_eq_true] at e
    rw [word_in _ k e.2 hk] at h; cases h
theorem fwB_yes {n : Int} {l m : List Int} (hm : m.length = n.toNat) (h : okOrd m = true) (hF : ∀ k, k < m.length → marksTo l l.length (setTo m (k + 1)) = true) : fwB n l m = true := by
  unfold fwB
  rw [decide_eq_true hm, Bool.true_and]
  have := okOrd_word h
  rw [hm] at this
  unfold wordB
  rw [hm]
  exact word_any _ this (fun j hj => hF j (by omega))
theorem ord_wOk {m : List Int} (h : okOrd m = true) : wOk m.length m := wordTo_len (okOrd_word h)
end Go.Proofs.YtblglkgmnaklbaaDoor
/- Contracts: the least of a set's items for a cost (slices.MinFunc); a function value called in a quiet region. -/
namespace Go.Proofs.YtblglkgmnaklbaaDoor
open Go.RowKit
set_option maxRecDepth 100000
set_option linter.unusedSimpArgs false
/-- The items of a set, as numbers in order. -/
theorem items_seq {O : Nat} (hO : O < 128) : (∀ j, j < (itemsL O).length → (itemsL O)[j]?.getD 0 = (nth (itemsL O) j : Int) ∧ nth (itemsL O) j < 7 ∧ O.testBit (nth (itemsL O) j) = true) ∧
    (∀ i j, i < j → j < (itemsL O).length → nth (itemsL O) i < nth (itemsL O) j) ∧ ∀ b, O.testBit b = true → ∃ j, j < (itemsL O).length ∧ nth (itemsL O) j = b := by
  have hl : (itemsL O).length = (itemsN O).length := by simp [itemsL]
  have e : ∀ j, j < (itemsL O).length → (itemsL O)[j]?.getD 0 = ((itemsN O)[j]?.getD 0 : Nat) ∧ nth (itemsL O) j = (itemsN O)[j]?.getD 0 := by
    intro j hj
    unfold nth itemsL
    rw [List.getElem?_map, List.getElem?_eq_getElem (by omega)]
    simp
  have hp : List.Pairwise (· < ·) (itemsN O) := List.Pairwise.filter _ List.pairwise_lt_range
  have hm : ∀ j, (h : j < (itemsN O).length) → (itemsN O)[j] < 7 ∧ O.testBit (itemsN O)[j] = true := by
    intro j h
    have := List.getElem_mem h
    unfold itemsN at this
    rw [List.mem_filter, List.mem_range] at this
    exact this
  refine ⟨fun j hj => ?_, fun i j hij hj => ?_, fun b hb => ?_⟩
  · rw [(e j hj).1, (e j hj).2]
    refine ⟨rfl, ?_⟩
    rw [List.getElem?_eq_getElem (by omega)]
    exact hm j (by omega)
  · rw [(e i (by omega)).2, (e j hj).2, List.getElem?_eq_getElem (by omega), List.getElem?_eq_getElem (by omega)]
    exact List.pairwise_iff_getElem.1 hp i j (by omega) (by omega) hij
  · have h7 : b < 7 := bit_ltK (n := 7) hO hb
    have hmem : b ∈ itemsN O := by
      unfold itemsN
      rw [List.mem_filter]
      exact ⟨List.mem_range.2 h7, hb⟩
    obtain ⟨j, hj, hjb⟩ := List.mem_iff_getElem.1 hmem
    refine ⟨j, by omega, ?_⟩
    rw [(e j (by omega)).2, List.getElem?_eq_getElem hj]
    exact hjb
attribute [local irreducible] p2 low memB risB itemsL
/-- Of the first i items, this one is the least one of least cost. -/
def LeastOf (f : Nat → Int) (x : Nat → Nat) (i b : Nat) : Prop := ∀ j, j < i → f b ≤ f (x j) ∧ (f (x j) = f b → b ≤ x j)
set_option maxHeartbeats 2000000 in
theorem minFunc_c (kg : Nat) (caps : Array Value) (f : Nat → Int) (v : Value) (O : Nat) (w : World) (base : Nat) (hk : enters Tryd.prog kg) (hO : O < 128) (h0 : O ≠ 0) (hl : own 3 w base v (itemsL O)) (hbd : ∀ b, O.testBit b = true → -1000000 ≤ f b ∧ f b ≤ 1000000)
    (hcl : ∀ (w1 : World), Below w.heap.size w w1 → ∀ a b : Nat, O.testBit a = true → O.testBit b = true → Calls Tryd.prog kg (#[.int .i64 (a : Int), .int .i64 (b : Int)] ++ caps) w1 fun e w2 => e = .returned (.int .i64 (f a - f b)) ∧ Below w1.heap.size w1 w2) :
    Calls Tryd.prog 112 #[v, .func (.func kg) #[] caps] w fun e w' => e = .returned (.int .i64 (mnI f O : Int)) ∧ Below w.heap.size w w' := by
  have hk1 : ∀ (args : Array Value) (w : World), Sem.run Tryd.prog (callFunc kg args) w = .ok (.enter kg args) w := hk
  obtain ⟨hs1, hs2, hs3⟩ := items_seq hO
  have hlen7 : (itemsL O).length ≤ 7 := itemsL_len O hO
  have hpos : 0 < (itemsL O).length := by
    obtain ⟨j, hj, _⟩ := hs3 (tzN O) (tz_bit O hO h0)
    omega
  have HAT := hide hs1
  have HINC := hide hs2
  have HFIN := hide (show ∀ b, (∃ j, j < (itemsL O).length ∧ nth (itemsL O) j = b) → LeastOf f (nth (itemsL O)) (itemsL O).length b → mnI f O = b from fun b hb hL => by
    refine mnI_of hO ⟨?_, fun j hj => ?_, fun j hj he => ?_⟩
    · obtain ⟨j, hj, rfl⟩ := hb; exact (hs1 j hj).2.2
    · obtain ⟨i, hi, rfl⟩ := hs3 j hj; exact (hL i hi).1
    · obtain ⟨i, hi, rfl⟩ := hs3 j hj; exact (hL i hi).2 he)
  have HI := hide hl.ints
  have HBD := hide hbd
  have HCL := hide hcl
  obtain ⟨va, vc, hv⟩ := hl.shape
  subst hv
  clear hs1 hs2 hs3 hl hcl hbd
  generalize itemsL O = I at *
  have hge : ¬ ((I.length : Int) < 1) := by omega
  have h00 := HAT.out 0 hpos
  go_enter Tryd.func112, Tryd.ntmps112
  go_wp2_with (refine wpList_at sliceT intS rfl (.tmp 11) _ rfl _ rfl 0 rfl w.heap.size I HI.out hpos ?_; intro ad0 hcell0 hblk0; rw [h00.1] at hcell0)
  clear hcell0 hblk0
  go_loopw [5, 6] (fun mv iv wr => ∃ i j : Nat, 1 ≤ i ∧ i ≤ I.length ∧ j < i ∧ iv = .int .i64 (i : Int) ∧ mv = .int .i64 (nth I j : Int) ∧ Hid (LeastOf f (nth I) i (nth I j)) ∧ Hid (Below w.heap.size w wr)) (fun _ iv _ => I.length - (intOf iv).toNat)
  case atStart => exact ⟨1, 0, Nat.le_refl _, hpos, by omega, by go_num, rfl, hide (fun j hj => by rw [show j = 0 by omega]; exact ⟨Int.le_refl _, fun _ => Nat.le_refl _⟩), Below.refl _ _⟩
  case round =>
    obtain ⟨i, j, hi1, hi2, hji, rfl, rfl, HL, HB⟩ := hrel
    have HIW := hide (HI.out.below HB.out (Nat.le_refl _))
    by_cases hlt : i < I.length
    · have hlt' : (i : Int) < (I.length : Int) := by omega
      have hx := HAT.out i hlt
      have hm := HAT.out j (by omega)
      have HX := hide hx.1
      have b1 := HBD.out _ hx.2.2
      have b2 := HBD.out _ hm.2.2
      have HC := hide (HCL.out wr HB.out _ _ hx.2.2 hm.2.2)
      have HN1 := hide (fun (h : f (nth I i) < f (nth I j)) => show LeastOf f (nth I) (i + 1) (nth I i) from fun q hq => by
        rcases Nat.lt_or_ge q i with h1 | h1
        · have := HL.out q h1
          exact ⟨by omega, fun he => by omega⟩
        · rw [show q = i by omega]; exact ⟨Int.le_refl _, fun _ => Nat.le_refl _⟩)
      have HN2 := hide (fun (h : ¬ f (nth I i) < f (nth I j)) => show LeastOf f (nth I) (i + 1) (nth I j) from fun q hq => by
        rcases Nat.lt_or_ge q i with h1 | h1
        · exact HL.out q h1
        · rw [show q = i by omega]; exact ⟨by omega, fun _ => Nat.le_of_lt (HINC.out j i hji hlt)⟩)
      clear hx hm
      generalize f (nth I i) = fi at *
      generalize f (nth I j) = fj at *
      by_cases hc : fi - fj < 0
      · have HP := hide (HN1.out (by omega))
        go_wp2_with (refine wpList_at sliceT intS rfl (.tmp 21) (.tmp _) rfl _ rfl i rfl w.heap.size I HIW.out hlt ?_; intro ad hcell hblk; rw [HX.out] at hcell)
        refine HC.out.mono ?_
        rintro e w2 ⟨rfl, hb2⟩
        have HB2 := hide (HB.out.trans (hb2.mono HB.out.size))
        have HIW2 := hide (HI.out.below HB2.out (Nat.le_refl _))
        clear hb2 hcell hblk
        go_wp2_with (refine wpList_at sliceT intS rfl (.tmp 28) (.tmp _) rfl _ rfl i rfl w.heap.size I HIW2.out hlt ?_; intro ad2 hcell2 hblk2; rw [HX.out] at hcell2)
        go_roundw
        case rel => exact ⟨i + 1, i, by omega, by omega, by omega, by go_num, rfl, HP, HB2⟩
        case measure => (simp [intOf] <;> omega)
      · have HP := hide (HN2.out (by omega))
        go_wp2_with (refine wpList_at sliceT intS rfl (.tmp 21) (.tmp _) rfl _ rfl i rfl w.heap.size I HIW.out hlt ?_; intro ad hcell hblk; rw [HX.out] at hcell)
        refine HC.out.mono ?_
        rintro e w2 ⟨rfl, hb2⟩
        have HB2 := hide (HB.out.trans (hb2.mono HB.out.size))
        clear hb2 hcell hblk
        go_wp2
        go_roundw
        case rel => exact ⟨i + 1, j, by omega, by omega, by omega, by go_num, rfl, HP, HB2⟩
        case measure => (simp [intOf] <;> omega)
    · have hlt' : ¬ ((i : Int) < (I.length : Int)) := by omega
      have HV := hide (HFIN.out (nth I j) ⟨j, by omega, rfl⟩ (by rw [← show i = I.length by omega]; exact HL.out))
      go_wp2
      go_ret
      exact ⟨ret_i (by rw [HV.out]), HB.out⟩
/-- A function value is called, in a drawn region that only reads. -/
theorem q_callF {P : Program} {ops : Array Oper} {rest : List Oper} {o : Oper} {a : Act} {w : World} {Q : Act → Prop} (hw : Region.wanted o (yielded ops a.tmps) = true) (k : FuncId) (caps : Array Value) (hk : enters P k) (x : Operand) (xs : Array Operand) (ts : Array TypeId)
    (ho : o.op = .call { callee := .value x, args := xs, argTypes := ts }) (hx : a.eval x = .func (.func k) #[] caps) (args : Array Value) (hal : xs.toList.map a.eval = args.toList) (v : Value)
    (hc : ∀ w', Below w.heap.size w w' → Calls P k (args ++ caps) w' fun e w'' => e = .returned v ∧ Below w'.heap.size w' w'')
    (h : wpQuiet P ops (fun w' => Below w.heap.size w w') Q rest (a.put o.dst v)) : wpQuiet P ops (fun w' => Below w.heap.size w w') Q (o :: rest) a := by
  have ha : xs.map a.eval = args := Array.toList_inj.1 (by simpa using hal)
  refine BigFrame.wpQuiet_want hw fun K hK => ⟨v, fun w' hC => ?_, hK _ h⟩
  have he : execOp a.eval o = callFunc k (args ++ caps) := by
    unfold execOp
    simp only [ho, resolve, hx, ha, Deferred.ofValue, pure_bind, invoke, Array.empty_append]
  unfold Oper.quietAt
  rw [he, hk]
  exact ⟨rfl, (hc w' hC).mono fun e w'' ⟨he, hb⟩ => ⟨he, hC.trans (hb.mono hC.size)⟩⟩
end Go.Proofs.YtblglkgmnaklbaaDoor
/- Contracts: the greedy word, the program's. -/
namespace Go.Proofs.YtblglkgmnaklbaaDoor
open Go.RowKit
set_option maxRecDepth 100000
set_option linter.unusedSimpArgs false
theorem ent_greedy1 : enters Tryd.prog 113 := enters_of Tryd.func113 (by kernel_rfl) (by kernel_rfl)
theorem ent_fullG : enters Tryd.prog 74 := enters_of Tryd.func74 (by kernel_rfl) (by kernel_rfl)
theorem rowRule : (Tryd.prog.underlying 71).map TypeDesc.isRow = some false := by kernel_rfl
attribute [local irreducible] p2 low memB risB itemsL
/-- The comparison of two items by their costs. -/
theorem greedy1_c (kf : Nat) (caps : Array Value) (c : Nat → Nat → Int) (n s a b g1 g2 : Nat) (w : World) (hk : enters Tryd.prog kf) (hc : isCost w kf caps n c) (hs : s < 128) (ha : a < n) (hb : b < n) (hba : -1000000 ≤ c s a ∧ c s a ≤ 1000000) (hbb : -1000000 ≤ c s b ∧ c s b ≤ 1000000)
    (hc1 : w.cell? ⟨g1, 0, none⟩ = some (.func (.func kf) #[] caps)) (h1 : g1 < w.heap.size) (hc2 : w.cell? ⟨g2, 0, none⟩ = some (.int .i64 (s : Int))) (h2 : g2 < w.heap.size) :
    Calls Tryd.prog 113 #[.int .i64 (a : Int), .int .i64 (b : Int), .pointer (some ⟨g1, 0, none⟩), .pointer (some ⟨g2, 0, none⟩)] w fun e w' => e = .returned (.int .i64 (c s a - c s b)) ∧ Below w.heap.size w w' := by
  have hk1 : ∀ (args : Array Value) (w : World), Sem.run Tryd.prog (callFunc kf args) w = .ok (.enter kf args) w := hk
  have HC1 := hide (fun w' (h : Below w.heap.size w w') => (h.cell (p := ⟨g1, 0, none⟩) h1).trans hc1)
  have HC2 := hide (fun w' (h : Below w.heap.size w w') => (h.cell (p := ⟨g2, 0, none⟩) h2).trans hc2)
  have HA := hide (fun w1 (h : Below w.heap.size w w1) => hc w1 h s a hs ha)
  have HB := hide (fun w1 (h : Below w.heap.size w w1) => hc w1 h s b hs hb)
  clear hc1 hc2 hc
  generalize c s a = x at *
  generalize c s b = y at *
  have hw : IntKind.i64.wrap (x - y) = x - y := IntWalk.i64_in _ (by omega)
  go_enter Tryd.func113, Tryd.ntmps113
  go_wp2_with fail
  refine wp_region_old (by kernel_rfl) (by kernel_rfl) ?_
  refine q_load_cell rowRule rfl (.tmp _) rfl _ rfl _ HC1.out ?_
  simp only [Act.put, List.setIfInBounds_toArray, List.set_cons_zero, List.set_cons_succ]
  refine q_load_cell rowSetK rfl (.tmp _) rfl _ rfl _ HC2.out ?_
  simp only [Act.put, List.setIfInBounds_toArray, List.set_cons_zero, List.set_cons_succ]
  go_big_quiet_step ((first | exact fun _ => rfl | exact fun _ => ⟨rfl, rfl⟩))
  refine q_callF rfl kf caps hk (.tmp _) _ _ rfl rfl #[.int .i64 (s : Int), .int .i64 (a : Int)] rfl (.int .i64 x) (fun w' h => HA.out w' h) ?_
  simp only [Act.put, List.setIfInBounds_toArray, List.set_cons_zero, List.set_cons_succ]
  refine q_load_cell rowRule rfl (.tmp _) rfl _ rfl _ HC1.out ?_
  simp only [Act.put, List.setIfInBounds_toArray, List.set_cons_zero, List.set_cons_succ]
  refine q_load_cell rowSetK rfl (.tmp _) rfl _ rfl _ HC2.out ?_
  simp only [Act.put, List.setIfInBounds_toArray, List.set_cons_zero, List.set_cons_succ]
  go_big_quiet_step ((first | exact fun _ => rfl | exact fun _ => ⟨rfl, rfl⟩))
  refine q_callF rfl kf caps hk (.tmp _) _ _ rfl rfl #[.int .i64 (s : Int), .int .i64 (b : Int)] rfl (.int .i64 y) (fun w' h => HB.out w' h) ?_
  simp only [Act.put, List.setIfInBounds_toArray, List.set_cons_zero, List.set_cons_succ]
  repeat (go_big_quiet_step ((first | exact fun _ => rfl | exact fun _ => ⟨rfl, rfl⟩)))
  refine wpQuiet_nil ?_
  intro w2 hb2
  go_wp2
  go_ret
  exact ⟨rfl, hb2⟩
theorem cell1_at0G {w : World} {b : Nat} {x : Value} {T : TypeId} (h : w.heap[b]? = some (.cells #[x] T)) : w.cell? ⟨b, 0, none⟩ = some x := by rw [hp_cell h]; rfl
/-- The length of a slice. -/
def grLen : Value → Nat
  | .slice _ n _ => n
  | _ => 0
set_option maxHeartbeats 4000000 in
theorem greedyWord_c (kf : Nat) (caps : Array Value) (c : Nat → Nat → Int) (n : Nat) (F : Nat → Bool) (w : World) (h7 : n ≤ 7) (hsp : Spc F n) (hk : enters Tryd.prog kf) (hc : isCost w kf caps n c) (hbd : ∀ s i, i < n → -10000 ≤ c s i ∧ c s i ≤ 10000) (hT : tab w) :
    Calls Tryd.prog 95 #[.agg (fam (n : Int) F), .func (.func kf) #[] caps] w fun e w' => ∃ v', e = .returned v' ∧ own 3 w' w.heap.size v' (grW c (outerOf F n) n) ∧ Below w.heap.size w w' := by
  have hz0 : (((w.alloc (.cells (fam (n : Int) F) 57)).alloc (.cells #[.func (.func kf) #[] caps] 71)).alloc (.cells #[.int .i64 0] 81)).heap.size = w.heap.size + 3 := by simp
  have HB0 := hide ((((Below.refl w.heap.size w).alloc (Nat.le_refl _) (.cells (fam (n : Int) F) 57)).alloc (by simp) (.cells #[.func (.func kf) #[] caps] 71)).alloc (by simp; omega) (.cells #[.int .i64 0] 81))
  have HF := hide (((famAt.new 57 w (n : Int) F).alloc (.cells #[.func (.func kf) #[] caps] 71)).alloc (.cells #[.int .i64 0] 81))
  have hx1 : (((w.alloc (.cells (fam (n : Int) F) 57)).alloc (.cells #[.func (.func kf) #[] caps] 71)).alloc (.cells #[.int .i64 0] 81)).heap[w.heap.size + 1]? = some (.cells #[.func (.func kf) #[] caps] 71) := by
    refine (hp_old _ _ _ (by simp)).trans ?_
    have h := hp_last (w.alloc (.cells (fam (n : Int) F) 57)) (.cells #[.func (.func kf) #[] caps] 71)
    simpa using h
  have hx2 : (((w.alloc (.cells (fam (n : Int) F) 57)).alloc (.cells #[.func (.func kf) #[] caps] 71)).alloc (.cells #[.int .i64 0] 81)).heap[w.heap.size + 2]? = some (.cells #[.int .i64 0] 81) := by
    have h := hp_last ((w.alloc (.cells (fam (n : Int) F) 57)).alloc (.cells #[.func (.func kf) #[] caps] 71)) (.cells #[.int .i64 0] 81)
    simpa using h
  have HX1 := hide hx1
  have HX2 := hide hx2
  have HZ := hide hz0
  have HT := hide hT
  have HC := hide hc
  have HBD := hide hbd
  have HOK := hide (fun k hk => gs_ok c hsp h7 k hk)
  have HNE := hide (fun k hk => gs_ne c hsp h7 (k := k) hk)
  have HFU := hide (gs_full c hsp h7)
  have HGI := hide (fun k hk => gi_ok c hsp h7 (k := k) hk)
  have HLT := hide (fun x (hx : F x = true) => show x < 128 by have h1 := hsp.lt x hx; have h2 := p2_le n 7 h7; omega)
  have HGN := hide (fun k => gs_next c (outerOf F n) k)
  have HWN := hide (fun k => grW_next c (outerOf F n) k)
  have HWL := hide (fun k => grW_len c (outerOf F n) k)
  have HGD := hide (fun k => show gi c (outerOf F n) k = mnI (c (gs c (outerOf F n) k)) (outerOf F n (gs c (outerOf F n) k)) from rfl)
  clear hx1 hx2 hz0 hT hc hbd hsp
  go_enter Tryd.func95, Tryd.ntmps95
  go_wp2_with fail
  generalize ((w.alloc (.cells (fam (n : Int) F) 57)).alloc (.cells #[.func (.func kf) #[] caps] 71)).alloc (.cells #[.int .i64 0] 81) = W at HB0 HF HX1 HX2 HZ ⊢
  go_loopw [5] (fun o wr => ∃ k : Nat, k ≤ n ∧ Hid (own 3 wr (w.heap.size + 3) o (grW c (outerOf F n) k)) ∧ Hid (wr.heap[w.heap.size + 2]? = some (.cells #[.int .i64 (gs c (outerOf F n) k : Int)] 81)) ∧ Hid (Below (w.heap.size + 2) W wr) ∧ w.heap.size + 3 ≤ wr.heap.size) (fun o wr => 8 - (grLen o))
  case atStart => exact ⟨0, Nat.zero_le _, own_nil _ _ _, HX2, Below.refl _ _, by rw [HZ.out]; omega⟩
  case round =>
    obtain ⟨k, hk2, HO, HS, HB, hsz⟩ := hrel
    have hlenk := HWL.out k
    obtain ⟨oa, oc, ho⟩ := HO.out.shape
    rw [hlenk] at ho
    subst ho
    have hz := HZ.out
    have hok := HOK.out k hk2
    have hs128 := HLT.out _ hok.1
    have HFW := hide (fun w' (h : Below wr.heap.size wr w') => (HF.out.below HB.out (by omega)).below h (by omega))
    have HSW := hide (fun w' (h : Below wr.heap.size wr w') => (h.block (w.heap.size + 2) (by omega)).trans HS.out)
    have HXW := hide (fun w' (h : Below wr.heap.size wr w') => (h.block (w.heap.size + 1) (by omega)).trans ((HB.out.block (w.heap.size + 1) (by omega)).trans HX1.out))
    have HBW := hide (HB0.out.trans (HB.out.mono (show w.heap.size ≤ w.heap.size + 2 by omega)))
    have HFC := hide (fun w' => by have := full_c (n : Int) F w' (by omega) (by omega); rw [Int.toNat_natCast] at this; exact this)
    by_cases hlt : k < n
    · have hne := HNE.out k hlt
      have hnb : ((gs c (outerOf F n) k : Int) != (low n : Int)) = true := by simp; omega
      have hgi := HGI.out k hlt
      have hin := outer_in hgi.1
      have HGK := hide (HGN.out k)
      have HWK := hide (HWN.out k)
      have HGDK := hide (HGD.out k)
      have HBDK := hide (fun b (hb : (outerOf F n (gs c (outerOf F n) k)).testBit b = true) => And.intro (outer_in hb).1 (HBD.out (gs c (outerOf F n) k) b (outer_in hb).1))
      have hO0 : outerOf F n (gs c (outerOf F n) k) ≠ 0 := fun h => by have := hgi.1; rw [h, Nat.zero_testBit] at this; cases this
      have hO128 := outer_lt F n (gs c (outerOf F n) k) h7
      generalize gs c (outerOf F n) k = s at *
      generalize grW c (outerOf F n) k = L0 at *
      generalize gi c (outerOf F n) k = i at *
      have HOF := hide (fun w1 => by have := outerFringe_c (n : Int) F (s : Int) w1 (by omega) (by omega) (by omega) (by omega); rw [Int.toNat_natCast, Int.toNat_natCast] at this; exact this)
      generalize outerOf F n s = O at *
      clear hgi
      go_wp2_with fail
      refine wp_region_old (by kernel_rfl) (by kernel_rfl) ?_
      refine q_load_cell rowSetK rfl (.tmp _) rfl ⟨w.heap.size + 2, 0, none⟩ rfl (.int .i64 (s : Int)) (fun w' h => cell1_at0G (HSW.out w' h)) ?_
      simp only [Act.put, List.setIfInBounds_toArray, List.set_cons_zero, List.set_cons_succ]
      refine q_load_fam rowT sizeT rfl (.tmp _) rfl _ rfl (n : Int) F (fun w' h => HFW.out w' h) ?_
      simp only [Act.put, List.setIfInBounds_toArray, List.set_cons_zero, List.set_cons_succ]
      refine q_belowN rfl 74 ent_fullG _ _ rfl #[.agg (fam (n : Int) F)] rfl (.int .i64 (low n : Int)) (fun w' _ => HFC.out w') ?_
      simp only [Act.put, List.setIfInBounds_toArray, List.set_cons_zero, List.set_cons_succ]
      go_big_quiet_step ((first | exact fun _ => rfl | exact fun _ => ⟨rfl, rfl⟩))
      refine wpQuiet_nil ?_
      intro w2 hb2
      have hz2 := hb2.size
      have c2 := cell1_at0G (HSW.out w2 hb2)
      have HF2 := hide (HFW.out w2 hb2)
      have HS2 := hide (HSW.out w2 hb2)
      have HX3 := hide (HXW.out w2 hb2)
      have HB2 := hide (HB.out.trans (hb2.mono (show w.heap.size + 2 ≤ wr.heap.size by omega)))
      have HBW2 := hide (HBW.out.trans (hb2.mono (show w.heap.size ≤ wr.heap.size by omega)))
      have HO2 := hide (HO.out.kept hb2)
      clear hb2
      go_wp2_with (first
        | (refine wpList_load_fam rowT sizeT rfl (.tmp _) rfl _ rfl (n : Int) F HF2.out ?_)
        | (go_at_call 80; refine (HOF.out _).mono ?_; rintro e w3 ⟨rfl, hb3⟩; have hz3 := hb3.size; have HO3 := hide (HO2.out.kept hb3); have HS3 := hide ((hb3.block (w.heap.size + 2) (by omega)).trans HS2.out); have HX4 := hide ((hb3.block (w.heap.size + 1) (by omega)).trans HX3.out); have HB3 := hide (HB2.out.trans (hb3.mono (show w.heap.size + 2 ≤ w2.heap.size by omega))); have HBW3 := hide (HBW2.out.trans (hb3.mono (show w.heap.size ≤ w2.heap.size by omega))); clear hb3)
        | (go_at_call 81; refine (items_c O _ hO128 (HT.out.below HBW3.out)).mono ?_; rintro e w4 ⟨v4, rfl, ho4, hb4⟩; have hz4 := hb4.size; have HI4 := hide ho4; have HO4 := hide (HO3.out.kept hb4); have HS4 := hide ((hb4.block (w.heap.size + 2) (by omega)).trans HS3.out); have HX5 := hide ((hb4.block (w.heap.size + 1) (by omega)).trans HX4.out); have HB4 := hide (HB3.out.trans (hb4.mono (show w.heap.size + 2 ≤ w3.heap.size by omega))); have HBW4 := hide (HBW3.out.trans (hb4.mono (show w.heap.size ≤ w3.heap.size by omega))); clear ho4 hb4)
        | (go_at_call 112; refine (minFunc_c 113 #[.pointer (some ⟨w.heap.size + 1, 0, none⟩), .pointer (some ⟨w.heap.size + 2, 0, none⟩)] (c s) v4 O _ _ ent_greedy1 hO128 hO0 HI4.out (fun b hb => by have := (HBDK.out b hb).2; omega) (fun w1 h1 a b ha hb => greedy1_c kf caps c n s a b (w.heap.size + 1) (w.heap.size + 2) w1 hk (HC.out.below (HBW4.out.trans (h1.mono (show w.heap.size ≤ w4.heap.size by omega)))) hs128 (HBDK.out a ha).1 (HBDK.out b hb).1 (by have := (HBDK.out a ha).2; omega) (by have := (HBDK.out b hb).2; omega) (cell1_at0G ((h1.block (w.heap.size + 1) (by omega)).trans HX5.out)) (by have := h1.size; omega) (cell1_at0G ((h1.block (w.heap.size + 2) (by omega)).trans HS4.out)) (by have := h1.size; omega))).mono ?_; rw [← HGDK.out]; rintro e w5 ⟨rfl, hb5⟩; have hz5 := hb5.size; have HO5 := hide (HO4.out.kept hb5); have HS5 := hide ((hb5.block (w.heap.size + 2) (by omega)).trans HS4.out); have HB5 := hide (HB4.out.trans (hb5.mono (show w.heap.size + 2 ≤ w4.heap.size by omega))); clear hb5)
        | (at_builtin; refine wpList_append1 sliceT intI rfl (.tmp 18) (.tmp 20) rfl (w.heap.size + 3) _ _ rfl (HO5.out.alloc _) _ (i : Int) rfl (by simp [go_sem]) (by simp; omega) (by omega) ?_; intro v7 w7 ho7 hb7; have HO7 := hide ho7; have hb8 := ((Below.refl w5.heap.size w5).alloc (Nat.le_refl _) (.cells #[.int .i64 (i : Int)] 3)); have HS7 := hide ((hb7.block (w.heap.size + 2) (by omega)).trans ((hb8.block (w.heap.size + 2) (by omega)).trans HS5.out)); have c7 := cell1_at0G HS7.out; have f7 := hp_free HS7.out 0; have HB7 := hide ((HB5.out.trans (hb8.mono (by omega))).trans (hb7.mono (show w.heap.size + 2 ≤ w.heap.size + 3 by omega))); have hz7 := hb7.size; clear ho7 hb7 hb8)
        | (go_at_call 82; refine (with_c _ _ _ (by omega) (by omega) (by omega) (by omega)).mono ?_; rw [Int.toNat_natCast, Int.toNat_natCast]; rintro e w8 ⟨rfl, rfl⟩))
      go_roundw
      case rel => exact ⟨k + 1, by omega, by rw [HWK.out]; exact HO7.out.setLow ⟨w.heap.size + 2, 0, none⟩ (show w.heap.size + 2 < w.heap.size + 3 by omega) _, by rw [HGK.out]; have h := hp_set _ (w.heap.size + 2) 0 _ _ (.int .i64 ((s ||| p2 i : Nat) : Int)) HS7.out; exact h, HB7.out.setCell (by show w.heap.size + 2 ≤ w.heap.size + 2; omega) _, by simp [World.setCell]; simp at hz7; omega⟩
      case measure =>
        obtain ⟨xa, xc, hx⟩ := HO7.out.shape
        rw [hx, List.length_append, List.length_singleton, hlenk]
        simp [grLen]
        omega
    · have hkn : k = n := by omega
      subst hkn
      have hfu := HFU.out
      have hnb : ((gs c (outerOf F k) k : Int) != (low k : Int)) = false := by simp; omega
      generalize hW : grW c (outerOf F k) k = L0 at *
      have HWW := hide hW
      clear hW
      generalize gs c (outerOf F k) k = s at *
      go_wp2_with fail
      refine wp_region_old (by kernel_rfl) (by kernel_rfl) ?_
      refine q_load_cell rowSetK rfl (.tmp _) rfl ⟨w.heap.size + 2, 0, none⟩ rfl (.int .i64 (s : Int)) (fun w' h => cell1_at0G (HSW.out w' h)) ?_
      simp only [Act.put, List.setIfInBounds_toArray, List.set_cons_zero, List.set_cons_succ]
      refine q_load_fam rowT sizeT rfl (.tmp _) rfl _ rfl (k : Int) F (fun w' h => HFW.out w' h) ?_
      simp only [Act.put, List.setIfInBounds_toArray, List.set_cons_zero, List.set_cons_succ]
      refine q_belowN rfl 74 ent_fullG _ _ rfl #[.agg (fam (k : Int) F)] rfl (.int .i64 (low k : Int)) (fun w' _ => HFC.out w') ?_
      simp only [Act.put, List.setIfInBounds_toArray, List.set_cons_zero, List.set_cons_succ]
      go_big_quiet_step ((first | exact fun _ => rfl | exact fun _ => ⟨rfl, rfl⟩))
      refine wpQuiet_nil ?_
      intro w2 hb2
      have HO2 := hide (HO.out.kept hb2)
      have HBW2 := hide (HBW.out.trans (hb2.mono (show w.heap.size ≤ wr.heap.size by omega)))
      clear hb2
      go_wp2
      go_ret
      exact ⟨_, rfl, by rw [HWW.out]; exact HO2.out.mono (by omega), HBW2.out⟩
end Go.Proofs.YtblglkgmnaklbaaDoor
/- Contracts: the greedy word, the specification's. -/
namespace Go.Proofs.YtblglkgmnaklbaaDoor
open Go.RowKit
set_option maxRecDepth 100000
set_option linter.unusedSimpArgs false
attribute [local irreducible] p2 low memB risB
theorem spIn_natK (s k : Nat) (hs : s < 128) (hk : k < 7) (w1 : World) : Calls Tryd.prog 66 #[.int .i64 (s : Int), .int .i64 (k : Int)] w1 fun e w' => e = .returned (.bool (s.testBit k)) ∧ w1 = w' := by
  have := spIn_c (s : Int) (k : Int) w1 (by omega) (by omega) (by omega) (by omega)
  rw [Int.toNat_natCast, Int.toNat_natCast] at this
  exact this
theorem mnTo_lt (c : Nat → Int) (O k : Nat) : mnTo c O k = -1 ∨ ∃ b : Nat, mnTo c O k = (b : Int) ∧ b < k := by
  rcases mnTo_is c O k with ⟨h, _⟩ | ⟨i, h, hi, _⟩
  · exact .inl h
  · exact .inr ⟨i, h, hi⟩
/-- The length of a slice. -/
def grLen2 : Value → Nat
  | .slice _ n _ => n
  | _ => 0
set_option maxHeartbeats 4000000 in
theorem grGreedy_c (n : Nat) (v : Value) (l : List Int) (u : Value) (T : List Tsk) (w : World) (hl : ints w.heap.size w v l) (hlen : l.length < 1000000000) (ht : tks w.heap.size w u T) (hsp0 : okSp (n : Int) l = true) (hta : taB T (n : Int) = true) :
    Calls Tryd.prog 46 #[.agg #[.int .i64 (n : Int), v], u] w fun e w' => ∃ v', e = .returned v' ∧ own 3 w' w.heap.size v' (grW (coT T) (outerOf (marksTo l l.length) n) n) ∧ Below w.heap.size w w' := by
  obtain ⟨hn1, hn7⟩ := okSp_n hsp0
  have h7 : n ≤ 7 := by omega
  have htl : T.length = n := by have := (taB_is hta).2.1; omega
  have hsp := okSp_spc hsp0
  rw [Int.toNat_natCast] at hsp
  have HI := hide (okSp_inc hsp0)
  have HMK := hide (okSp_marks hsp0)
  obtain ⟨ua, uc, hu⟩ := ht.shape
  subst hu
  have HL := hide (hl.alloc (.cells #[.int .i64 (n : Int), v] 29))
  have HTK := hide ht
  have H0 := hide ((Below.refl w.heap.size w).alloc (Nat.le_refl _) (.cells #[.int .i64 (n : Int), v] 29))
  have HX := hide (hp_last w (.cells #[.int .i64 (n : Int), v] 29))
  have HZ := hide (show (w.alloc (.cells #[.int .i64 (n : Int), v] 29)).heap.size = w.heap.size + 1 by simp)
  have HTAB := hide hta
  generalize marksTo l l.length = F at hsp HMK ⊢
  have HOK := hide (fun k hk => gs_ok (coT T) hsp h7 k hk)
  have HGI := hide (fun k hk => gi_ok (coT T) hsp h7 (k := k) hk)
  have HLT := hide (fun x (hx : F x = true) => hsp.lt x hx)
  have HGN := hide (fun k => gs_next (coT T) (outerOf F n) k)
  have HWN := hide (fun k => grW_next (coT T) (outerOf F n) k)
  have HWL := hide (fun k => grW_len (coT T) (outerOf F n) k)
  clear hl ht hsp hsp0 hta
  have HTL := hide htl
  clear htl
  go_enter Tryd.func46, Tryd.ntmps46
  go_wp2_with fail
  generalize w.alloc (.cells #[.int .i64 (n : Int), v] 29) = W at HL H0 HX HZ ⊢
  go_loopw [5, 6] (fun o sv wr => ∃ k : Nat, k ≤ n ∧ sv = .int .i64 (gs (coT T) (outerOf F n) k : Int) ∧ Hid (own 3 wr (w.heap.size + 1) o (grW (coT T) (outerOf F n) k)) ∧ Hid (Below (w.heap.size + 1) W wr)) (fun o _ _ => 8 - (grLen2 o))
  case atStart => exact ⟨0, Nat.zero_le _, rfl, own_nil _ _ _, Below.refl _ _⟩
  case round =>
    obtain ⟨k, hk2, rfl, HO, HB⟩ := hrel
    have hlenk := HWL.out k
    obtain ⟨oa, oc, ho⟩ := HO.out.shape
    rw [hlenk] at ho
    subst ho
    have hz := HZ.out
    have hszw := HB.out.size
    have hblk := (HB.out.block w.heap.size (by omega)).trans HX.out
    have d0 := cells_at0 hblk
    have d1 := cells_at1 hblk
    have HBL := hide hblk
    clear hblk
    by_cases hlt : k < n
    · have hlt' : (k : Int) < (n : Int) := by omega
      have hok := HOK.out k hk2
      have hs2n := HLT.out _ hok.1
      have hs128 : gs (coT T) (outerOf F n) k < 128 := by have := p2_le n 7 h7; omega
      have hgi := HGI.out k hlt
      have HGK := hide (HGN.out k)
      have HWK := hide (HWN.out k)
      have hin := outer_in hgi.1
      have hO128 := outer_lt F n (gs (coT T) (outerOf F n) k) h7
      have hO2n : outerOf F n (gs (coT T) (outerOf F n) k) < 2 ^ n := itemsOf_lt _ n
      have HMN := hide (mnTo_of hO2n hgi)
      generalize gs (coT T) (outerOf F n) k = s at *
      generalize grW (coT T) (outerOf F n) k = L0 at *
      generalize gi (coT T) (outerOf F n) k = i at *
      have HOS := hide (outer_same F l n s h7 hs2n (fun y _ => HMK.out y))
      have HOU := hide (fun w1 h1 => by have := spOuter_c (n : Int) v l (s : Int) w1 h1 HI.out hlen (by omega) (by omega) (by omega) (by omega); rw [Int.toNat_natCast, Int.toNat_natCast, ← HOS.out] at this; exact this)
      clear HOS
      generalize outerOf F n s = O at *
      have HBW := hide (H0.out.trans (HB.out.mono (show w.heap.size ≤ w.heap.size + 1 by omega)))
      have HLW := hide ((HL.out.below HB.out (by omega)).mono (show w.heap.size ≤ wr.heap.size by omega))
      have HC := hide (fun w1 (h : Below w.heap.size w w1) j hj => grCost_c _ T (n : Int) s j w1 HTAB.out (HTK.out.to h) hs128 hj)
      have HMX := hide (fun k => mnTo_next (coT T s) O k)
      have HML := hide (fun k => mnTo_lt (coT T s) O k)
      have HSI := hide (fun q hq w1 => spIn_natK O q hO128 hq w1)
      clear hgi hok
      go_wp2_with (go_at_call 83; refine (HOU.out _ HLW.out).mono ?_; rintro e w3 ⟨rfl, hb3⟩; have hz3 := hb3.size; have HO3 := hide (HO.out.kept hb3); have HB3 := hide (HB.out.trans (hb3.mono (show w.heap.size + 1 ≤ wr.heap.size by omega))); have HBW3 := hide (HBW.out.trans (hb3.mono (show w.heap.size ≤ wr.heap.size by omega))); clear hb3)
      go_loopw [7, 20] (fun bv iv wq => ∃ q : Nat, q ≤ n ∧ iv = .int .i64 (q : Int) ∧ bv = .int .i64 (mnTo (coT T s) O q) ∧ Hid (Below w3.heap.size w3 wq)) (fun _ iv _ => n - (intOf iv).toNat)
      case atStart => exact ⟨0, Nat.zero_le _, rfl, rfl, Below.refl _ _⟩
      case round =>
        obtain ⟨q, hq2, rfl, rfl, HQ⟩ := hrel
        have HQW := hide (HBW3.out.trans (HQ.out.mono HBW3.out.size))
        have HNX := hide (HMX.out q)
        have hml := HML.out q
        by_cases hlq : q < n
        · have hlq' : (q : Int) < ((T.length : Nat) : Int) := by rw [HTL.out]; omega
          have HSQ := hide (HSI.out q (by omega))
          have HCQ := hide (fun w1 h => HC.out w1 h q (by rw [HTL.out]; exact hlq))
          generalize hm : mnTo (coT T s) O q = m at *
          clear hm
          cases hb : O.testBit q
          · rw [hb] at HSQ HNX
            clear hb
            go_wp2_with (go_at_call 66; refine (HSQ.out _).mono ?_; rintro e w4 ⟨rfl, rfl⟩)
            go_roundw
            case rel => exact ⟨q + 1, by omega, by go_num, by rw [HNX.out]; simp, HQ⟩
            case measure => (simp [intOf] <;> omega)
          · rw [hb] at HSQ HNX
            clear hb
            rcases hml with hm1 | ⟨b, hmb, hbq⟩
            · subst hm1
              go_wp2_with (go_at_call 66; refine (HSQ.out _).mono ?_; rintro e w4 ⟨rfl, rfl⟩)
              go_roundw
              case rel => exact ⟨q + 1, by omega, by go_num, by rw [HNX.out]; simp, HQ⟩
              case measure => (simp [intOf] <;> omega)
            · subst hmb
              have hnb : ¬ ((b : Int) < 0) := by omega
              have HCB := hide (fun w1 h => HC.out w1 h b (by rw [HTL.out]; omega))
              rw [Int.toNat_natCast] at HNX
              generalize coT T s q = cq at HNX HCQ
              generalize coT T s b = cb at HNX HCB
              by_cases hcc : cq < cb
              all_goals
                go_wp2_with (first
                  | (go_at_call 66; refine (HSQ.out _).mono ?_; rintro e w4 ⟨rfl, rfl⟩)
                  | (go_at_call 76; refine (HCQ.out _ HQW.out).mono ?_; rintro e w5 ⟨rfl, hb5⟩; have HQ5 := hide (HQ.out.trans (hb5.mono HQ.out.size)); have HQW5 := hide (HQW.out.trans (hb5.mono HQW.out.size)); clear hb5 HCQ)
                  | (go_at_call 76; refine (HCB.out _ HQW5.out).mono ?_; rintro e w6 ⟨rfl, hb6⟩; have HQ6 := hide (HQ5.out.trans (hb6.mono HQ5.out.size)); clear hb6))
                go_roundw
                case rel => exact ⟨q + 1, by omega, by go_num, by rw [HNX.out]; simp <;> omega, HQ6⟩
                case measure => (simp [intOf] <;> omega)
        · have hqn : q = n := by omega
          have hlq' : ¬ ((q : Int) < ((T.length : Nat) : Int)) := by rw [HTL.out]; omega
          generalize hmq : mnTo (coT T s) O q = m at *
          have hmi : m = (i : Int) := by rw [← hmq, hqn]; exact HMN.out
          subst hmi
          clear hmq
          have HO4 := hide (HO3.out.kept HQ.out)
          have HB4 := hide (HB3.out.trans (HQ.out.mono (show w.heap.size + 1 ≤ w3.heap.size by omega)))
          have hzq := HQ.out.size
          have hi7 : i < 7 := by omega
          have hp1 := wrap_p2 i (by omega)
          have hp2 : IntKind.i64.wrap (2 ^ i) = (p2 i : Int) := by rw [IntWalk.i64_left]; exact hp1
          have hpk := p2_lt128 i hi7
          have hor := i64_or s (p2 i) (Nat.lt_trans hs128 (by decide)) (Nat.lt_trans hpk (by decide))
          clear hqn
          go_wp2_with (at_builtin; refine wpList_append1 sliceT intI rfl (.tmp 43) (.tmp 45) rfl (w.heap.size + 1) _ _ rfl (HO4.out.alloc _) _ (i : Int) rfl (by simp [go_sem]) (by simp; omega) (by omega) ?_; intro v7 w7 ho7 hb7; have HO7 := hide ho7; have HB7 := hide ((HB4.out.alloc (by omega) _).trans hb7); clear ho7 hb7)
          go_roundw
          case rel => exact ⟨k + 1, by omega, by rw [HGK.out], by rw [HWK.out]; exact HO7, HB7⟩
          case measure =>
            obtain ⟨xa, xc, hx⟩ := HO7.out.shape
            rw [hx, List.length_append, List.length_singleton, hlenk]
            simp [grLen2]
            omega
    · have hkn : k = n := by omega
      have hlt' : ¬ ((k : Int) < (n : Int)) := by omega
      have HKN := hide (show grW (coT T) (outerOf F n) n = grW (coT T) (outerOf F n) k by rw [hkn])
      clear hkn
      go_wp2
      go_ret
      exact ⟨_, rfl, by rw [HKN.out]; exact HO.out.mono (by omega), H0.out.trans (HB.out.mono (by omega))⟩
end Go.Proofs.YtblglkgmnaklbaaDoor
/- Contracts: GreedyWord, BestCost, CriticalItem. -/
namespace Go.Proofs.YtblglkgmnaklbaaDoor
open Go.RowKit
set_option maxRecDepth 100000
set_option linter.unusedSimpArgs false
def gwL (n : Int) (l : List Int) (T : List Tsk) : List Int := if gvB n l T then grW (coT T) (outerOf (marksTo l l.length) n.toNat) n.toNat else []
def bcR (n : Int) (l : List Int) (T : List Tsk) : Int := if gvB n l T then mxW (coT T) (-10000) (gwL n l T) (gwL n l T).length else 0
theorem gw_no {n : Int} {l : List Int} {T : List Tsk} (h : gvB n l T = false) : gwL n l T = [] ∧ bcR n l T = 0 := by unfold bcR gwL; rw [h]; exact ⟨rfl, rfl⟩
theorem gw_yes {n : Int} {l : List Int} {T : List Tsk} (h : gvB n l T = true) : gwL n l T = grW (coT T) (outerOf (marksTo l l.length) n.toNat) n.toNat ∧ bcR n l T = mxW (coT T) (-10000) (gwL n l T) (gwL n l T).length := by
  unfold bcR
  rw [h]
  refine ⟨?_, rfl⟩
  unfold gwL
  rw [h]; rfl
theorem gwL_len (n : Int) (l : List Int) (T : List Tsk) : (gwL n l T).length < 1000000000 := by
  unfold gwL
  split
  · rename_i h
    rw [grW_len]
    have := okSp_n (gv_in h).1
    omega
  · simp
theorem gw_wOk {n : Int} {l : List Int} {T : List Tsk} (h : gvB n l T = true) : (gwL n l T).length = n.toNat ∧ wOk n.toNat (gwL n l T) := by
  have h7 : n.toNat ≤ 7 := by have := okSp_n (gv_in h).1; omega
  have hsp := okSp_spc (gv_in h).1
  rw [(gw_yes h).1]
  refine ⟨grW_len _ _ _, fun k hk => ?_⟩
  rw [grW_len] at hk
  rw [grW_at _ _ _ k hk]
  have := (gi_in (coT T) hsp h7 hk).1
  omega
theorem co_all {T : List Tsk} {n : Int} (h : taB T n = true) : ∀ s i, i < n.toNat → -10000 ≤ coT T s i ∧ coT T s i ≤ 10000 := fun s i hi => by
  have := co_bd h s (i := i) (by have := (taB_is h).2.1; omega)
  omega
attribute [local irreducible] p2 low memB risB grW outerOf
set_option maxHeartbeats 2000000 in
theorem implGreedyWord_c (n : Int) (v : Value) (l : List Int) (u : Value) (T : List Tsk) (w : World) (hl : ints w.heap.size w v l) (hlen : l.length < 1000000000) (ht : tks w.heap.size w u T) (hs : T.length < 1000000000) (hT : tab w) :
    Calls Tryd.prog 58 #[.agg #[.int .i64 n, v], u] w fun e w' => ∃ v', e = .returned (.tuple #[v', .bool (gvB n l T)]) ∧ own 3 w' w.heap.size v' (gwL n l T) ∧ Below w.heap.size w w' := by
  have HL := hide ((hl.alloc (.cells #[.int .i64 n, v] 29)).mono (show w.heap.size ≤ (w.alloc (.cells #[.int .i64 n, v] 29)).heap.size by simp))
  have HTK := hide ((ht.alloc (.cells #[.int .i64 n, v] 29)).mono (show w.heap.size ≤ (w.alloc (.cells #[.int .i64 n, v] 29)).heap.size by simp))
  have HT := hide hT
  have HTA := hide (hT.alloc (.cells #[.int .i64 n, v] 29))
  have H0 := hide ((Below.refl w.heap.size w).alloc (Nat.le_refl _) (.cells #[.int .i64 n, v] 29))
  have HZ := hide (show (w.alloc (.cells #[.int .i64 n, v] 29)).heap.size = w.heap.size + 1 by simp)
  clear hl ht hT
  cases hg : gvB n l T
  case false =>
    have HR := hide (gw_no hg).1
    have HFC := hide (familyAndCosts_no n v l u T _ HL.out hlen HTK.out hs hg)
    clear hg
    go_enter Tryd.func58, Tryd.ntmps58
    go_wp2_with (first
      | (go_at_call 42; refine HFC.out.mono ?_; rintro e w1 ⟨rfl, hb⟩; have hz := hb.size; rw [HZ.out] at hz; have HB := hide (bl_row ((H0.out.trans (hb.mono (by rw [HZ.out]; omega))).alloc (by omega) (.cells (fam 0 noSet) 57)) (show w.heap.size ≤ w1.heap.size by omega) (fam 0 noSet)); clear hb)
      | (refine wpList_alloc_fam zeroT rfl rfl _ (by first | (simp only [World.size_alloc]; rfl) | rfl) ?_)
      | (refine wpList_store_fam sizeT rfl (.tmp _) (.tmp _) rfl _ _ _ rfl rfl _ _ (famAt.new _ _ _ _) ?_)
    )
    go_ret2
    exact ⟨_, rfl, by rw [HR.out]; exact own_nil _ _ _, HB.out⟩
  case true =>
    obtain ⟨hsp, hta⟩ := gv_in hg
    obtain ⟨hn1, hn7⟩ := okSp_n hsp
    have HYES := hide (gw_yes hg)
    have HWO := hide (gw_wOk hg)
    obtain ⟨N, rfl⟩ := Int.eq_ofNat_of_zero_le (show 0 ≤ n by omega)
    have HFC := hide (familyAndCosts_yes (N : Int) v l u T _ HL.out hlen HTK.out hs HTA.out hg)
    rw [Int.toNat_natCast] at HFC
    have HSP := hide (okSp_spc hsp)
    have HCA := hide (co_all hta)
    have HMX := hide (fun m h1 h2 => mx_start (T := T) (n := (N : Int)) (m := m) hta h1 h2)
    have HNT := hide (show T.length = N by have := (taB_is hta).2.1; omega)
    rw [Int.toNat_natCast] at HYES HWO HSP HCA
    clear hg hsp hta
    generalize marksTo l l.length = F at HFC HYES HSP
    go_enter Tryd.func58, Tryd.ntmps58
    go_wp2_with (first
      | (go_at_call 42; refine HFC.out.mono ?_; rintro e w1 ⟨caps, rfl, hic, hb⟩; have hz := hb.size; rw [HZ.out] at hz; have hb2 := (Below.refl w1.heap.size w1).alloc (Nat.le_refl _) (.cells (fam 0 noSet) 57); have hb3 := bl_row hb2 (Nat.le_refl _) (fam (N : Int) F); have HIC := hide (hic.below hb3); have HH1 := hide ((famAt.new 57 w1 0 noSet).row (N : Int) F); have HB := hide (bl_row ((H0.out.trans (hb.mono (by rw [HZ.out]; omega))).alloc (by omega) (.cells (fam 0 noSet) 57)) (show w.heap.size ≤ w1.heap.size by omega) (fam (N : Int) F)); clear hb hb2 hb3 hic)
      | (refine wpList_alloc_fam zeroT rfl rfl _ (by first | (simp only [World.size_alloc]; rfl) | rfl) ?_)
      | (refine wpList_store_fam sizeT rfl (.tmp _) (.tmp _) rfl _ _ _ rfl rfl _ _ (famAt.new _ _ _ _) ?_)
      | (refine wpList_load_fam rowT sizeT rfl (.tmp _) rfl _ rfl _ _ HH1.out ?_)
      | (go_at_call 95; refine (greedyWord_c 104 caps (coT T) N F _ (by omega) HSP.out ent_costs1 HIC.out HCA.out (HT.out.below HB.out)).mono ?_; rintro e w3 ⟨v3, rfl, ho3, hb3⟩; obtain ⟨ga, gc, hgv⟩ := ho3.shape; subst hgv; have HO3 := hide ho3; have HIC3 := hide (HIC.out.below hb3); have HB3 := hide (HB.out.trans (hb3.mono HB.out.size)); have hz3 := HB.out.size; clear hb3 ho3)
    )
    go_ret2
    exact ⟨_, rfl, by rw [HYES.out.1]; exact HO3.out.mono hz3, HB3.out⟩
end Go.Proofs.YtblglkgmnaklbaaDoor
/- Contracts: a list is turned around, and the tasks of jobs, the program's. -/
namespace Go.Proofs.YtblglkgmnaklbaaDoor
open Go.RowKit
set_option maxRecDepth 100000
set_option linter.unusedSimpArgs false
theorem ownDrew {I : TypeId} {w w' : World} {base : Nat} {v : Value} {l : List Int} (h : own I w base v l) (e : w'.heap = w.heap := by rfl) : own I w' base v l := by
  obtain ⟨h1, h2⟩ := h
  refine ⟨h1, ?_⟩
  rcases h2 with h2 | ⟨g, cap, cur, e2, hg, hh, r⟩
  · exact .inl h2
  · exact .inr ⟨g, cap, cur, e2, hg, by rw [e]; exact hh, r⟩
theorem own_cell0 {I : TypeId} {w : World} {base : Nat} {v : Value} {l : List Int} (h : own I w base v l) : l.length = 0 ∨ ∃ g cap, v = .slice (some ⟨g, 0, none⟩) l.length cap := by
  obtain ⟨h1, h2⟩ := h
  rcases h2 with ⟨e, h0⟩ | ⟨g, cap, cur, e, _⟩
  · exact .inl h0
  · exact .inr ⟨g, cap, e⟩
/-- The first k and the last k of a list are exchanged. -/
def rvB (l A : List Int) (k : Nat) : Prop := A.length = l.length ∧ ∀ j, j < l.length → A[j]?.getD 0 = if j < k ∨ l.length ≤ j + k then l[l.length - 1 - j]?.getD 0 else l[j]?.getD 0
theorem rvB_zero (l : List Int) : rvB l l 0 := ⟨rfl, fun j hj => by rw [if_neg (by omega)]⟩
theorem rvB_end {l A : List Int} {k : Nat} (h : rvB l A k) (hk : ¬ (k : Int) < (l.length : Int) - 1 - (k : Int)) : A = l.reverse := by
  obtain ⟨h1, h2⟩ := h
  apply List.ext_getElem (by simp [h1])
  intro j hj hj2
  have h3 := h2 j (by omega)
  have hl : j < l.length := by omega
  rw [List.getElem_reverse]
  rw [List.getElem?_eq_getElem hj, Option.getD_some] at h3
  rw [h3]
  by_cases e : j < k ∨ l.length ≤ j + k
  · rw [if_pos e, List.getElem?_eq_getElem (by omega), Option.getD_some]
  · rw [if_neg e, List.getElem?_eq_getElem (by omega), Option.getD_some]
    have e2 : l.length - 1 - j = j := by omega
    simp only [e2]
theorem rvB_step {l A : List Int} {k q : Nat} (h : rvB l A k) (hq : q + 1 + k = l.length) (hk : k < q) : rvB l ((A.set k (A[q]?.getD 0)).set q (A[k]?.getD 0)) (k + 1) := by
  obtain ⟨h1, h2⟩ := h
  refine ⟨by simp [h1], fun j hj => ?_⟩
  have hkq := h2 k (by omega)
  have hqq := h2 q (by omega)
  rw [if_neg (by omega)] at hkq hqq
  rw [hkq, hqq]
  rcases Nat.lt_trichotomy j q with e | e | e
  · rw [List.getElem?_set_ne (by omega)]
    rcases Nat.lt_trichotomy j k with e2 | e2 | e2
    · rw [List.getElem?_set_ne (by omega), h2 j hj, if_pos (by omega), if_pos (by omega)]
    · subst e2
      rw [List.getElem?_set_self (by omega), if_pos (by omega), show l.length - 1 - j = q by omega]; rfl
    · rw [List.getElem?_set_ne (by omega), h2 j hj, if_neg (by omega), if_neg (by omega)]
  · subst e
    rw [List.getElem?_set_self (by simp; omega), if_pos (by omega), show l.length - 1 - j = k by omega]; rfl
  · rw [List.getElem?_set_ne (by omega), List.getElem?_set_ne (by omega), h2 j hj, if_pos (by omega), if_pos (by omega)]
attribute [local irreducible] p2 low memB risB own
set_option maxHeartbeats 8000000 in
theorem reverse_c (v : Value) (l : List Int) (base : Nat) (w : World) (ho : own 3 w base v l) (hlen : l.length < 1000000000) :
    Calls Tryd.prog 59 #[v] w fun e w' => e = .returned (.tuple #[]) ∧ own 3 w' base v l.reverse ∧ Other v w w' := by
  have hsh : l.length = 0 ∨ ∃ g cap, v = .slice (some ⟨g, 0, none⟩) l.length cap := by
    have h := own_cell0 ho
    exact h
  have HO0 := hide ho
  have HI := hide ho.ints
  clear ho
  go_enter Tryd.func59, Tryd.ntmps59
  go_wp2_with (refine wpList_len sliceT rfl (.tmp 4) rfl _ rfl w.heap.size l HI.out ?_)
  go_loopw [2, 3] (fun x y wr => ∃ (k : Nat) (A : List Int), k ≤ l.length ∧ x = .int .i64 (k : Int) ∧ y = .int .i64 ((l.length : Int) - 1 - (k : Int)) ∧ Hid (rvB l A k) ∧ Hid (own 3 wr base v A) ∧ Hid (Other v w wr)) (fun x _ _ => l.length - (intOf x).toNat)
  case atStart => exact ⟨0, l, Nat.zero_le _, rfl, by go_num, rvB_zero l, HO0, Other.refl _ _⟩
  case round =>
    clear HO0
    obtain ⟨k, A, hk, rfl, rfl, HR, HO, HB⟩ := hrel
    by_cases hlt : (k : Int) < (l.length : Int) - 1 - (k : Int)
    · obtain ⟨q, hq⟩ : ∃ q : Nat, (l.length : Int) - 1 - (k : Int) = (q : Int) := ⟨l.length - 1 - k, by omega⟩
      have hq2 : (q : Int) - 1 = (l.length : Int) - 1 - ((k + 1 : Nat) : Int) := by omega
      rw [hq] at hlt ⊢
      have hkq : k < q := by omega
      have hql : q < l.length := by omega
      have hAl := HR.out.1
      have HS := hide (rvB_step (q := q) HR.out (by omega) hkq)
      rcases hsh with hsh | ⟨g, cap, hv⟩
      · omega
      subst hv
      have ho := HO.out
      generalize hx : A[k]?.getD 0 = x at HS
      generalize hy : A[q]?.getD 0 = y at HS
      have c0w := (ho.cell rfl k (by omega)).1
      have f0w := (ho.cell rfl k (by omega)).2
      have c1w := (ho.cell rfl q (by omega)).1
      rw [hx] at c0w
      rw [hy] at c1w
      have h1 := ho.set (g := g) rfl k y
      have c2w := (h1.cell rfl q (by rw [List.length_set]; omega)).1
      have f2w := (h1.cell rfl q (by rw [List.length_set]; omega)).2
      rw [List.getElem?_set_ne (by omega), hy] at c2w
      have hfw := h1.set (g := g) rfl q x
      have hoth := (HB.out.setCell (g := g) rfl k (.int .i64 y)).setCell (g := g) rfl q (.int .i64 x)
      have HFIN0 := hide hfw
      have HBF0 := hide hoth
      clear ho h1 hfw hoth hx hy
      go_wp2_with fail
      refine wp_region_held (S := fun _ => True) (by kernel_rfl) ?_
      have c0 : ({ wr with drawn := wr.drawn + 1 } : World).cell? ⟨g, k, none⟩ = some (.int .i64 x) := c0w
      have f0 : ({ wr with drawn := wr.drawn + 1 } : World).frozen? ⟨g, k, none⟩ = false := f0w
      have c1 : ({ wr with drawn := wr.drawn + 1 } : World).cell? ⟨g, q, none⟩ = some (.int .i64 y) := c1w
      have c1' : (({ wr with drawn := wr.drawn + 1 } : World).setCell ⟨g, k, none⟩ (.int .i64 y)).cell? ⟨g, q, none⟩ = some (.int .i64 y) := c2w
      have f1' : (({ wr with drawn := wr.drawn + 1 } : World).setCell ⟨g, k, none⟩ (.int .i64 y)).frozen? ⟨g, q, none⟩ = false := f2w
      have HFIN := hide (show own 3 ((({ wr with drawn := wr.drawn + 1 } : World).setCell ⟨g, k, none⟩ (.int .i64 y)).setCell ⟨g, q, none⟩ (.int .i64 x)) base (.slice (some ⟨g, 0, none⟩) l.length cap) ((A.set k y).set q x) from ownDrew HFIN0.out)
      have HBF := hide (show Other (.slice (some ⟨g, 0, none⟩) l.length cap) w ((({ wr with drawn := wr.drawn + 1 } : World).setCell ⟨g, k, none⟩ (.int .i64 y)).setCell ⟨g, q, none⟩ (.int .i64 x)) from ⟨HBF0.out.os, HBF0.out.tape, HBF0.out.output, HBF0.out.size, HBF0.out.block⟩)
      generalize ({ wr with drawn := wr.drawn + 1 } : World) = C0 at c0 f0 c1 c1' f1' HFIN HBF ⊢
      clear c0w f0w c1w c2w f2w HFIN0 HBF0
      refine wpAnyH_take (i := 0) (v := .slice (some ⟨g, 0, none⟩) l.length cap) rfl (by kernel_rfl) (by kernel_rfl) (by kernel_rfl) (fun _ _ _ h => h) (.inl ⟨rfl, fun w' _ => by go_simp⟩) trivial ?_
      refine wpAnyH_take (i := 1) (v := .int .i64 (k : Int)) rfl (by kernel_rfl) (by kernel_rfl) (by kernel_rfl) (fun _ _ _ h => h) (.inl ⟨rfl, fun w' _ => by go_simp⟩) trivial ?_
      refine wpAnyH_take (i := 2) (v := .slice (some ⟨g, 0, none⟩) l.length cap) rfl (by kernel_rfl) (by kernel_rfl) (by kernel_rfl) (fun _ _ _ h => h) (.inl ⟨rfl, fun w' _ => by go_simp⟩) trivial ?_
      refine wpAnyH_take (i := 3) (v := .int .i64 (q : Int)) rfl (by kernel_rfl) (by kernel_rfl) (by kernel_rfl) (fun _ _ _ h => h) (.inl ⟨rfl, fun w' _ => by go_simp⟩) trivial ?_
      refine wpAnyH_take (i := 4) (v := .slice (some ⟨g, 0, none⟩) l.length cap) rfl (by kernel_rfl) (by kernel_rfl) (by kernel_rfl) (fun _ _ _ h => h) (.inl ⟨rfl, fun w' _ => by go_simp⟩) trivial ?_
      refine wpAnyH_take (i := 5) (v := .int .i64 (q : Int)) rfl (by kernel_rfl) (by kernel_rfl) (by kernel_rfl) (fun _ _ _ h => h) (.inl ⟨rfl, fun w' _ => by go_simp⟩) trivial ?_
      refine wpAnyH_take (i := 8) (v := .slice (some ⟨g, 0, none⟩) l.length cap) rfl (by kernel_rfl) (by kernel_rfl) (by kernel_rfl) (fun _ _ _ h => h) (.inl ⟨rfl, fun w' _ => by go_simp⟩) trivial ?_
      refine wpAnyH_take (i := 9) (v := .int .i64 (k : Int)) rfl (by kernel_rfl) (by kernel_rfl) (by kernel_rfl) (fun _ _ _ h => h) (.inl ⟨rfl, fun w' _ => by go_simp⟩) trivial ?_
      simp only [Act.put, List.getElem_toArray, List.getElem_cons_zero, List.getElem_cons_succ, List.setIfInBounds_toArray, List.set_cons_zero, List.set_cons_succ]
      refine wpAnyH_take (i := 6) (v := .pointer (some ⟨g, q, none⟩)) rfl (by kernel_rfl) (by kernel_rfl) (by kernel_rfl) (fun _ _ _ h => h) (yields_at sliceT intS rfl (.tmp _) (.tmp _) rfl g l.length cap rfl _ rfl q rfl (by omega)) trivial ?_
      simp only [Act.put, List.getElem_toArray, List.getElem_cons_zero, List.getElem_cons_succ, List.setIfInBounds_toArray, List.set_cons_zero, List.set_cons_succ]
      refine wpAnyH_take (i := 10) (v := .pointer (some ⟨g, k, none⟩)) rfl (by kernel_rfl) (by kernel_rfl) (by kernel_rfl) (fun _ _ _ h => h) (yields_at sliceT intS rfl (.tmp _) (.tmp _) rfl g l.length cap rfl _ rfl k rfl (by omega)) trivial ?_
      simp only [Act.put, List.getElem_toArray, List.getElem_cons_zero, List.getElem_cons_succ, List.setIfInBounds_toArray, List.set_cons_zero, List.set_cons_succ]
      refine wpAnyH_all (rs := [7, 11]) (by kernel_rfl) (by simp) fun i hi => ?_
      rcases (show i = 7 ∨ i = 11 by simpa using hi) with rfl | rfl
      · refine wpOp_value rfl rfl (.int .i64 y) C0 ?h1 ⟨trivial, ?_⟩
        case h1 => simp [go_sem, c1]
        simp only [Act.put, List.getElem_toArray, List.getElem_cons_zero, List.getElem_cons_succ, List.setIfInBounds_toArray, List.set_cons_zero, List.set_cons_succ]
        refine anyH_op (i := 11) (by kernel_rfl) rfl rfl (.int .i64 x) C0 ?h2 trivial ?_
        case h2 => simp [go_sem, c0]
        simp only [Act.put, List.getElem_toArray, List.getElem_cons_zero, List.getElem_cons_succ, List.setIfInBounds_toArray, List.set_cons_zero, List.set_cons_succ]
        refine wpAnyH_take (i := 12) (v := .pointer (some ⟨g, k, none⟩)) rfl (by kernel_rfl) (by kernel_rfl) (by kernel_rfl) (fun _ _ _ h => h) (yields_at sliceT intS rfl (.tmp _) (.tmp _) rfl g l.length cap rfl _ rfl k rfl (by omega)) trivial ?_
        simp only [Act.put, List.getElem_toArray, List.getElem_cons_zero, List.getElem_cons_succ, List.setIfInBounds_toArray, List.set_cons_zero, List.set_cons_succ]
        refine anyH_skip (i := 13) (by kernel_rfl) rfl rfl (C0.setCell ⟨g, k, none⟩ (.int .i64 y)) (by simp [go_sem, c0, f0]) trivial ?_
        refine wpAnyH_take (i := 14) (v := .pointer (some ⟨g, q, none⟩)) rfl (by kernel_rfl) (by kernel_rfl) (by kernel_rfl) (fun _ _ _ h => h) (yields_at sliceT intS rfl (.tmp _) (.tmp _) rfl g l.length cap rfl _ rfl q rfl (by omega)) trivial ?_
        simp only [Act.put, List.getElem_toArray, List.getElem_cons_zero, List.getElem_cons_succ, List.setIfInBounds_toArray, List.set_cons_zero, List.set_cons_succ]
        refine anyH_skip (i := 15) (by kernel_rfl) rfl rfl ((C0.setCell ⟨g, k, none⟩ (.int .i64 y)).setCell ⟨g, q, none⟩ (.int .i64 x)) (by simp [go_sem, c1', f1']) trivial ?_
        refine wpAnyH_done (by kernel_rfl) ?_ _
        simp only [Act.put, List.getElem_toArray, List.getElem_cons_zero, List.getElem_cons_succ, List.setIfInBounds_toArray, List.set_cons_zero, List.set_cons_succ]
        go_wp2
        go_roundw
        case rel => exact ⟨k + 1, _, by omega, by go_num, by go_num, HS, HFIN, HBF⟩
        case measure => (simp [intOf] <;> omega)
      · refine wpOp_value rfl rfl (.int .i64 x) C0 ?h3 ⟨trivial, ?_⟩
        case h3 => simp [go_sem, c0]
        simp only [Act.put, List.getElem_toArray, List.getElem_cons_zero, List.getElem_cons_succ, List.setIfInBounds_toArray, List.set_cons_zero, List.set_cons_succ]
        refine anyH_op (i := 7) (by kernel_rfl) rfl rfl (.int .i64 y) C0 ?h4 trivial ?_
        case h4 => simp [go_sem, c1]
        simp only [Act.put, List.getElem_toArray, List.getElem_cons_zero, List.getElem_cons_succ, List.setIfInBounds_toArray, List.set_cons_zero, List.set_cons_succ]
        refine wpAnyH_take (i := 12) (v := .pointer (some ⟨g, k, none⟩)) rfl (by kernel_rfl) (by kernel_rfl) (by kernel_rfl) (fun _ _ _ h => h) (yields_at sliceT intS rfl (.tmp _) (.tmp _) rfl g l.length cap rfl _ rfl k rfl (by omega)) trivial ?_
        simp only [Act.put, List.getElem_toArray, List.getElem_cons_zero, List.getElem_cons_succ, List.setIfInBounds_toArray, List.set_cons_zero, List.set_cons_succ]
        refine anyH_skip (i := 13) (by kernel_rfl) rfl rfl (C0.setCell ⟨g, k, none⟩ (.int .i64 y)) (by simp [go_sem, c0, f0]) trivial ?_
        refine wpAnyH_take (i := 14) (v := .pointer (some ⟨g, q, none⟩)) rfl (by kernel_rfl) (by kernel_rfl) (by kernel_rfl) (fun _ _ _ h => h) (yields_at sliceT intS rfl (.tmp _) (.tmp _) rfl g l.length cap rfl _ rfl q rfl (by omega)) trivial ?_
        simp only [Act.put, List.getElem_toArray, List.getElem_cons_zero, List.getElem_cons_succ, List.setIfInBounds_toArray, List.set_cons_zero, List.set_cons_succ]
        refine anyH_skip (i := 15) (by kernel_rfl) rfl rfl ((C0.setCell ⟨g, k, none⟩ (.int .i64 y)).setCell ⟨g, q, none⟩ (.int .i64 x)) (by simp [go_sem, c1', f1']) trivial ?_
        refine wpAnyH_done (by kernel_rfl) ?_ _
        simp only [Act.put, List.getElem_toArray, List.getElem_cons_zero, List.getElem_cons_succ, List.setIfInBounds_toArray, List.set_cons_zero, List.set_cons_succ]
        go_wp2
        go_roundw
        case rel => exact ⟨k + 1, _, by omega, by go_num, by go_num, HS, HFIN, HBF⟩
        case measure => (simp [intOf] <;> omega)
    · have HE := hide (rvB_end HR.out hlt)
      go_wp2
      refine bodyPost_end (v := .tuple #[]) (by simp [results, Tryd.results59, go_sem]) rfl ⟨rfl, by rw [← HE.out]; exact HO.out, HB.out⟩
end Go.Proofs.YtblglkgmnaklbaaDoor
/- Contracts: LateWord, the program's. -/
namespace Go.Proofs.YtblglkgmnaklbaaDoor
open Go.RowKit
set_option maxRecDepth 100000
set_option linter.unusedSimpArgs false
/-- The tasks of the first k jobs. -/
def ltT (ti du : List Int) : Nat → List Tsk
  | 0 => []
  | k + 1 => ltT ti du k ++ [(ti[k]?.getD 0, 1, -(du[k]?.getD 0))]
theorem ltT_len (ti du : List Int) : ∀ k, (ltT ti du k).length = k
  | 0 => rfl
  | k + 1 => by rw [ltT, List.length_append, ltT_len ti du k]; rfl
def ltB (ti du : List Int) : Bool := decide (ti.length = du.length) && allTo 0 100 du du.length
def ltV (ti du : List Int) : List Tsk := if ltB ti du then ltT ti du du.length else []
theorem ltV_yes {ti du : List Int} (h : ltB ti du = true) : ltV ti du = ltT ti du du.length := by unfold ltV; rw [if_pos h]
theorem ltV_no {ti du : List Int} (h : ltB ti du = false) : ltV ti du = [] := by unfold ltV; rw [h]; rfl
def lwB (n : Int) (pa : List (List Int)) (ti du : List Int) : Bool := ltB ti du && (taB (ltT ti du du.length) n && (prA n pa && osB n (turnL pa)))
def lwL (n : Int) (pa : List (List Int)) (ti du : List Int) : List Int := if lwB n pa ti du then (gwL n (osL n (turnL pa)) (ltT ti du du.length)).reverse else []
theorem allTo_out {lo hi : Int} {l : List Int} {k : Nat} (hk : k < l.length) (h : ¬ (lo ≤ l[k]?.getD 0 ∧ l[k]?.getD 0 ≤ hi)) : allTo lo hi l l.length = false := by
  rw [← Bool.not_eq_true, allTo_iff]
  exact fun e => h (e k hk)
attribute [local irreducible] p2 low memB risB own ownK
set_option maxHeartbeats 4000000 in
theorem lateTasks_c (vt : Value) (ti : List Int) (vd : Value) (du : List Int) (w : World) (ht : ints w.heap.size w vt ti) (htl : ti.length < 1000000000) (hd : ints w.heap.size w vd du) :
    Calls Tryd.prog 53 #[vt, vd] w fun e w' => ∃ v', e = .returned (.tuple #[v', .bool (ltB ti du)]) ∧ ownK w' w.heap.size v' (ltV ti du) ∧ Below w.heap.size w w' := by
  have HT := hide ht
  have HD := hide hd
  clear ht hd
  by_cases hne : ti.length = du.length
  · have hlb : ltB ti du = allTo 0 100 du du.length := by unfold ltB; rw [decide_eq_true hne, Bool.true_and]
    have hy : ltB ti du = true → ltV ti du = ltT ti du du.length := ltV_yes
    have hn : ltB ti du = false → ltV ti du = [] := ltV_no
    rw [hlb] at hy hn ⊢
    generalize ltV ti du = VV at *
    have HNE := hide hne
    have hnei : ((ti.length : Int) != (du.length : Int)) = false := by simp; omega
    have hnej : ¬ ((ti.length : Int) ≠ (du.length : Int)) := by omega
    clear hlb
    generalize hAA : allTo 0 100 du du.length = AA at *
    have HAA := hide hAA
    have HY := hide hy
    have HN := hide hn
    clear hAA hy hn
    go_enter Tryd.func53, Tryd.ntmps53
    go_wp2_with (first
      | (refine wpList_len sliceT rfl (.tmp 9) rfl _ rfl w.heap.size ti HT.out ?_)
      | (refine wpList_len sliceT rfl (.tmp 11) rfl _ rfl w.heap.size du HD.out ?_)
      | (refine wpList_len sliceT rfl (.tmp 14) rfl _ rfl w.heap.size du HD.out ?_))
    go_loopw [6, 16] (fun o z wr => ∃ k : Nat, k ≤ du.length ∧ z = .int .i64 (k : Int) ∧ Hid (allTo 0 100 du k = true) ∧ Hid (ownK wr w.heap.size o (ltT ti du k)) ∧ Hid (Below w.heap.size w wr)) (fun _ z _ => du.length - (intOf z).toNat)
    case atStart => exact ⟨0, Nat.zero_le _, rfl, rfl, ownK_nil _ _, Below.refl _ _⟩
    case round =>
      obtain ⟨k, hk, rfl, HA, HO, HB⟩ := hrel
      have hsz := HB.out.size
      have HTW := hide (HT.out.below HB.out (Nat.le_refl _))
      have HDW := hide (HD.out.below HB.out (Nat.le_refl _))
      have hne := HNE.out
      by_cases hlt : k < du.length
      · have hkt : k < ti.length := by omega
        have HS := hide (show ltT ti du (k + 1) = ltT ti du k ++ [(ti[k]?.getD 0, 1, -(du[k]?.getD 0))] from rfl)
        have hlk := ltT_len ti du k
        by_cases hr : 0 ≤ du[k]?.getD 0 ∧ du[k]?.getD 0 ≤ 100
        · have HA2 := hide (show allTo 0 100 du (k + 1) = true by rw [allTo, HA.out, decide_eq_true hr]; rfl)
          generalize hX : du[k]?.getD 0 = x at hr HS
          generalize hY : ti[k]?.getD 0 = y at HS
          have HX := hide hX
          have HYY := hide hY
          generalize ltT ti du k = T at *
          have hx0 : ¬ (x < 0) := by omega
          have hx1 : ¬ (100 < x) := by omega
          have hxd : decide (x < 0) = false := by simp; omega
          have hxd2 : decide (100 < x) = false := by simp; omega
          have hneg : IntKind.i64.wrap (-x) = -x := IntWalk.i64_in _ (by omega)
          have hTl : T.length < 1000000000 := by omega
          clear hX hY hne
          go_wp2_with (first
            | (refine wpList_at sliceT intS rfl (.tmp 14) (.tmp 16) rfl _ rfl k rfl w.heap.size du HDW.out hlt ?_; intro ad hcell hblk; rw [HX.out] at hcell)
            | (refine wpList_at sliceT intS rfl (.tmp 28) (.tmp 29) rfl _ rfl k rfl w.heap.size ti HTW.out hkt ?_; intro ad2 hcell2 hblk2; rw [HYY.out] at hcell2)
            | (at_builtin; refine wpList_appendK rfl (.tmp 27) (.tmp 35) rfl w.heap.size _ _ rfl (HO.out.alloc _) _ y 1 (-x) rfl (by simp [go_sem]) (by simp [go_sem]) (by simp [go_sem]) (by simp; omega) hTl ?_; intro v4 w4 ho4 hb4; have HO4 := hide ho4; have HB4 := hide ((HB.out.alloc (by omega) _).trans hb4); clear ho4 hb4))
          go_roundw
          case rel => exact ⟨k + 1, by omega, by go_num, HA2, hide (by rw [HS.out]; exact HO4.out), HB4⟩
          case measure => (simp [intOf] <;> omega)
        · have HF := hide (show AA = false by rw [← HAA.out]; exact allTo_out hlt hr)
          generalize hX : du[k]?.getD 0 = x at hr HS
          have HX := hide hX
          clear hX hne
          by_cases hx0 : x < 0
          · have hxd : decide (x < 0) = true := by simp; omega
            go_wp2_with (first
              | (refine wpList_at sliceT intS rfl (.tmp 14) (.tmp 16) rfl _ rfl k rfl w.heap.size du HDW.out hlt ?_; intro ad hcell hblk; rw [HX.out] at hcell))
            go_ret2
            exact ⟨_, by rw [HF.out]; rfl, by rw [HN.out HF.out]; exact ownK_nil _ _, HB.out⟩
          · have hxd : decide (x < 0) = false := by simp; omega
            have hx1 : 100 < x := by omega
            have hxd2 : decide (100 < x) = true := by simp; omega
            go_wp2_with (first
              | (refine wpList_at sliceT intS rfl (.tmp 14) (.tmp 16) rfl _ rfl k rfl w.heap.size du HDW.out hlt ?_; intro ad hcell hblk; rw [HX.out] at hcell))
            go_ret2
            exact ⟨_, by rw [HF.out]; rfl, by rw [HN.out HF.out]; exact ownK_nil _ _, HB.out⟩
      · have hkl : k = du.length := by omega
        have HKL := hide hkl
        have HAT := hide (show AA = true by rw [← HAA.out, ← hkl]; exact HA.out)
        clear hkl hne
        go_wp2
        go_ret2
        exact ⟨_, by rw [HAT.out]; rfl, by rw [HY.out HAT.out, ← HKL.out]; exact HO.out, HB.out⟩
  · have hlb : ltB ti du = false := by unfold ltB; rw [decide_eq_false hne]; rfl
    rw [hlb, ltV_no hlb]
    have hnei : ((ti.length : Int) != (du.length : Int)) = true := by simp; omega
    have hnej : ((ti.length : Int) ≠ (du.length : Int)) := by omega
    clear hlb
    go_enter Tryd.func53, Tryd.ntmps53
    go_wp2_with (first
      | (refine wpList_len sliceT rfl (.tmp 9) rfl _ rfl w.heap.size ti HT.out ?_)
      | (refine wpList_len sliceT rfl (.tmp 11) rfl _ rfl w.heap.size du HD.out ?_))
    go_ret2
    exact ⟨_, rfl, ownK_nil _ _, Below.refl _ _⟩
end Go.Proofs.YtblglkgmnaklbaaDoor
/- Contracts: LateWord, the program's. -/
namespace Go.Proofs.YtblglkgmnaklbaaDoor
open Go.RowKit
set_option maxRecDepth 100000
set_option linter.unusedSimpArgs false
theorem ltV_len (ti du : List Int) (hd : du.length < 1000000000) : (ltV ti du).length < 1000000000 := by
  unfold ltV
  split
  · rw [ltT_len]; exact hd
  · simp
theorem lwB_of {n : Int} {pa : List (List Int)} {ti du : List Int} {a b c d : Bool} (ha : ltB ti du = a) (hb : taB (ltV ti du) n = b) (hc : prA n pa = c) (hd : osB n (turnL pa) = d) : lwB n pa ti du = (a && (b && (c && d))) := by
  unfold lwB
  rw [ha, hc, hd]
  cases a
  · rfl
  · rw [← ltV_yes ha, hb]
theorem lwL_no {n : Int} {pa : List (List Int)} {ti du : List Int} (h : lwB n pa ti du = false) : lwL n pa ti du = [] := by unfold lwL; rw [h]; rfl
theorem lw_yes {n : Int} {pa : List (List Int)} {ti du : List Int} (ha : ltB ti du = true) (hb : taB (ltV ti du) n = true) (hc : prA n pa = true) (hd : osB n (turnL pa) = true) :
    lwL n pa ti du = (gwL (osN n (turnL pa)) (osL n (turnL pa)) (ltV ti du)).reverse ∧ gvB (osN n (turnL pa)) (osL n (turnL pa)) (ltV ti du) = true := by
  refine ⟨?_, ?_⟩
  · unfold lwL
    rw [if_pos (by rw [lwB_of ha hb hc hd]; rfl), ltV_yes ha, (osNL_yes hd).1]
  · unfold gvB
    rw [(osNL_yes hd).1, os_ok hd, hb]; rfl
theorem own.below' {I : TypeId} {w : World} {base : Nat} {v : Value} {l : List Int} (h : own I w base v l) : ∀ g, v.ownBlock = some g → base ≤ g := by
  intro g hg
  obtain ⟨_, h2⟩ := h
  rcases h2 with ⟨e, _⟩ | ⟨g2, cap, cur, e2, hg2, _⟩
  · rw [e] at hg; cases hg
  · rw [e2] at hg; cases hg; exact hg2
attribute [local irreducible] p2 low memB risB own own2 ownK
set_option maxHeartbeats 4000000 in
theorem implLateWord_c (n : Int) (u : Value) (pa : List (List Int)) (vt : Value) (ti : List Int) (vd : Value) (du : List Int) (w : World) (hp : rows w.heap.size w u pa) (hs : small2 pa) (ht : ints w.heap.size w vt ti) (htl : ti.length < 1000000000) (hd : ints w.heap.size w vd du) (hdl : du.length < 1000000000) (hT : tab w) :
    Calls Tryd.prog 27 #[.int .i64 n, u, vt, vd] w fun e w' => ∃ v', e = .returned (.tuple #[v', .bool (lwB n pa ti du)]) ∧ own 3 w' w.heap.size v' (lwL n pa ti du) ∧ Below w.heap.size w w' := by
  have HLT := hide (lateTasks_c vt ti vd du w ht htl hd)
  have hvl := ltV_len ti du hdl
  have HTA := hide (fun v1 w1 h => implAreTasks_c v1 (ltV ti du) n w1 h hvl)
  have HPA := hide (fun (w1 : World) (h : Below w.heap.size w w1) => arePairs_c n u pa w1 ((hp.below h (Nat.le_refl _)).mono h.size) hs)
  have HTN := hide (fun (hA : prA n pa = true) (w1 : World) (h : Below w.heap.size w w1) => turnedPairs_c n u pa w1 ((hp.below h (Nat.le_refl _)).mono h.size) hA)
  have HOS := hide (fun (hA : prA n pa = true) v1 (w1 : World) h => implOrderSpace_c n v1 (turnL pa) w1 h (turn_small hA))
  have HGR := hide (fun v1 v2 (w1 : World) h1 h2 (h : Below w.heap.size w w1) => implGreedyWord_c (osN n (turnL pa)) v1 (osL n (turnL pa)) v2 (ltV ti du) w1 h1 (osL_len _ _) h2 hvl (hT.belowB hT h (Nat.le_refl _)))
  have HY := hide (@lw_yes n pa ti du)
  have hgl := gwL_len (osN n (turnL pa)) (osL n (turnL pa)) (ltV ti du)
  have HN := hide (@lwL_no n pa ti du)
  have hwb := lwB_of (n := n) (pa := pa) (ti := ti) (du := du) rfl rfl rfl rfl
  clear hp hs ht htl hd hdl hT
  generalize lwL n pa ti du = WL at *
  generalize lwB n pa ti du = WB at *
  generalize gwL (osN n (turnL pa)) (osL n (turnL pa)) (ltV ti du) = GL at *
  generalize gvB (osN n (turnL pa)) (osL n (turnL pa)) (ltV ti du) = GB at *
  generalize hB : osB n (turnL pa) = SB at *
  generalize osN n (turnL pa) = SN at *
  generalize osL n (turnL pa) = SL at *
  generalize hC : prA n pa = PB at *
  generalize hA : ltB ti du = LB at *
  generalize hT : taB (ltV ti du) n = TB at *
  generalize ltV ti du = TT at *
  clear hA hT hC hB
  cases LB
  · have HW := hide (show WB = false from hwb)
    clear hwb
    go_enter Tryd.func27, Tryd.ntmps27
    go_wp2_with (first
      | (go_at_call 53; refine HLT.out.mono ?_; rintro e w1 ⟨v1, rfl, ho1, hb1⟩; obtain ⟨a1, c1, hv1⟩ := ho1.shape; subst hv1; have HO1 := hide ho1; have HB1 := hide hb1; clear ho1 hb1)
    )
    go_ret2
    exact ⟨_, by rw [HW.out]; rfl, by rw [HN.out HW.out]; exact own_nil _ _ _, HB1.out⟩
  cases TB
  · have HW := hide (show WB = false from hwb)
    clear hwb
    go_enter Tryd.func27, Tryd.ntmps27
    go_wp2_with (first
      | (go_at_call 53; refine HLT.out.mono ?_; rintro e w1 ⟨v1, rfl, ho1, hb1⟩; obtain ⟨a1, c1, hv1⟩ := ho1.shape; subst hv1; have HO1 := hide ho1; have HB1 := hide hb1; clear ho1 hb1)
      | (go_at_call 54; refine (HTA.out _ w1 HO1.out.tks).mono ?_; rintro e w2 ⟨rfl, hb2⟩; have HO2 := hide (HO1.out.kept hb2); have HB2 := hide (HB1.out.trans (hb2.mono HB1.out.size)); clear hb2)
    )
    go_ret2
    exact ⟨_, by rw [HW.out]; rfl, by rw [HN.out HW.out]; exact own_nil _ _ _, HB2.out⟩
  cases PB
  · have HW := hide (show WB = false from hwb)
    clear hwb
    go_enter Tryd.func27, Tryd.ntmps27
    go_wp2_with (first
      | (go_at_call 53; refine HLT.out.mono ?_; rintro e w1 ⟨v1, rfl, ho1, hb1⟩; obtain ⟨a1, c1, hv1⟩ := ho1.shape; subst hv1; have HO1 := hide ho1; have HB1 := hide hb1; clear ho1 hb1)
      | (go_at_call 54; refine (HTA.out _ w1 HO1.out.tks).mono ?_; rintro e w2 ⟨rfl, hb2⟩; have HO2 := hide (HO1.out.kept hb2); have HB2 := hide (HB1.out.trans (hb2.mono HB1.out.size)); clear hb2)
      | (go_at_call 55; refine (HPA.out w2 HB2.out).mono ?_; rintro e w3 ⟨rfl, hb3⟩; have HO3 := hide (HO2.out.kept hb3); have HB3 := hide (HB2.out.trans (hb3.mono HB2.out.size)); clear hb3)
    )
    go_ret2
    exact ⟨_, by rw [HW.out]; rfl, by rw [HN.out HW.out]; exact own_nil _ _ _, HB3.out⟩
  cases SB
  · have HW := hide (show WB = false from hwb)
    have HTN2 := hide (HTN.out rfl)
    have HOS2 := hide (HOS.out rfl)
    clear HTN HOS
    clear hwb
    go_enter Tryd.func27, Tryd.ntmps27
    go_wp2_with (first
      | (go_at_call 53; refine HLT.out.mono ?_; rintro e w1 ⟨v1, rfl, ho1, hb1⟩; obtain ⟨a1, c1, hv1⟩ := ho1.shape; subst hv1; have HO1 := hide ho1; have HB1 := hide hb1; clear ho1 hb1)
      | (go_at_call 54; refine (HTA.out _ w1 HO1.out.tks).mono ?_; rintro e w2 ⟨rfl, hb2⟩; have HO2 := hide (HO1.out.kept hb2); have HB2 := hide (HB1.out.trans (hb2.mono HB1.out.size)); clear hb2)
      | (go_at_call 55; refine (HPA.out w2 HB2.out).mono ?_; rintro e w3 ⟨rfl, hb3⟩; have HO3 := hide (HO2.out.kept hb3); have HB3 := hide (HB2.out.trans (hb3.mono HB2.out.size)); clear hb3)
    )
    refine (HTN2.out w3 HB3.out).mono ?_
    rintro e w4 ⟨v4, rfl, ho4, hb4⟩
    obtain ⟨a4, c4, hv4⟩ := ho4.shape
    subst hv4
    have HT4 := hide ho4
    have HO4 := hide (HO3.out.kept hb4)
    have HB4 := hide (HB3.out.trans (hb4.mono HB3.out.size))
    clear ho4 hb4
    go_wp2_with fail
    refine (HOS2.out _ w4 HT4.out.rows).mono ?_
    rintro e w5 ⟨v5, rfl, ho5, hb5⟩
    obtain ⟨a5, c5, hv5⟩ := ho5.shape
    subst hv5
    have HS5 := hide (ho5.alloc (.cells #[.int .i64 SN, .slice a5 SL.length c5] 29))
    have HO5 := hide ((HO4.out.kept hb5).alloc (.cells #[.int .i64 SN, .slice a5 SL.length c5] 29))
    have hb55 := HB4.out.trans (hb5.mono HB4.out.size)
    have HB5 := hide (hb55.alloc hb55.size (.cells #[.int .i64 SN, .slice a5 SL.length c5] 29))
    have HX5 := hide (hp_last w5 (.cells #[.int .i64 SN, .slice a5 SL.length c5] 29))
    clear ho5 hb5 hb55
    go_wp2
    go_ret2
    exact ⟨_, by rw [HW.out]; rfl, by rw [HN.out HW.out]; exact own_nil _ _ _, HB5.out⟩
  · have HW := hide (show WB = true from hwb)
    have HTN2 := hide (HTN.out rfl)
    have HOS2 := hide (HOS.out rfl)
    clear HTN HOS
    have HY2 := hide (HY.out rfl rfl rfl rfl)
    clear hwb HY
    have hgb := HY2.out.2
    subst hgb
    go_enter Tryd.func27, Tryd.ntmps27
    go_wp2_with (first
      | (go_at_call 53; refine HLT.out.mono ?_; rintro e w1 ⟨v1, rfl, ho1, hb1⟩; obtain ⟨a1, c1, hv1⟩ := ho1.shape; subst hv1; have HO1 := hide ho1; have HB1 := hide hb1; clear ho1 hb1)
      | (go_at_call 54; refine (HTA.out _ w1 HO1.out.tks).mono ?_; rintro e w2 ⟨rfl, hb2⟩; have HO2 := hide (HO1.out.kept hb2); have HB2 := hide (HB1.out.trans (hb2.mono HB1.out.size)); clear hb2)
      | (go_at_call 55; refine (HPA.out w2 HB2.out).mono ?_; rintro e w3 ⟨rfl, hb3⟩; have HO3 := hide (HO2.out.kept hb3); have HB3 := hide (HB2.out.trans (hb3.mono HB2.out.size)); clear hb3)
    )
    refine (HTN2.out w3 HB3.out).mono ?_
    rintro e w4 ⟨v4, rfl, ho4, hb4⟩
    obtain ⟨a4, c4, hv4⟩ := ho4.shape
    subst hv4
    have HT4 := hide ho4
    have HO4 := hide (HO3.out.kept hb4)
    have HB4 := hide (HB3.out.trans (hb4.mono HB3.out.size))
    clear ho4 hb4
    go_wp2_with fail
    refine (HOS2.out _ w4 HT4.out.rows).mono ?_
    rintro e w5 ⟨v5, rfl, ho5, hb5⟩
    obtain ⟨a5, c5, hv5⟩ := ho5.shape
    subst hv5
    have HS5 := hide (ho5.alloc (.cells #[.int .i64 SN, .slice a5 SL.length c5] 29))
    have HO5 := hide ((HO4.out.kept hb5).alloc (.cells #[.int .i64 SN, .slice a5 SL.length c5] 29))
    have hb55 := HB4.out.trans (hb5.mono HB4.out.size)
    have HB5 := hide (hb55.alloc hb55.size (.cells #[.int .i64 SN, .slice a5 SL.length c5] 29))
    have HX5 := hide (hp_last w5 (.cells #[.int .i64 SN, .slice a5 SL.length c5] 29))
    clear ho5 hb5 hb55
    go_wp2_with (first
      | (go_at_call 58; refine (HGR.out _ _ _ HS5.out.ints HO5.out.tks HB5.out).mono ?_; rintro e w6 ⟨v6, rfl, ho6, hb6⟩; obtain ⟨a6, c6, hv6⟩ := ho6.shape; subst hv6; have HO6 := hide ho6; have HB6 := hide (HB5.out.trans (hb6.mono HB5.out.size)); have hz6 := HB5.out.size; clear ho6 hb6)
      | (go_at_call 59; refine (reverse_c _ GL _ _ HO6.out hgl).mono ?_; rintro e w7 ⟨rfl, ho7, hb7⟩; have HO7 := hide ho7; have HB7 := hide (HB6.out.trans (hb7.below w.heap.size (fun g hg => Nat.le_trans hz6 (HO6.out.below' g hg)) HB6.out.size)); clear ho7 hb7))
    go_ret2
    exact ⟨_, by rw [HW.out]; rfl, by rw [HY2.out.1]; exact HO7.out.mono hz6, HB7.out⟩
end Go.Proofs.YtblglkgmnaklbaaDoor
/- Contracts: LateWord, the specification's. -/
namespace Go.Proofs.YtblglkgmnaklbaaDoor
open Go.RowKit
set_option maxRecDepth 100000
set_option linter.unusedSimpArgs false
theorem ltT_at (ti du : List Int) : ∀ m k, k < m → (ltT ti du m)[k]? = some (ti[k]?.getD 0, 1, -(du[k]?.getD 0))
  | 0, k, h => absurd h (Nat.not_lt_zero k)
  | m + 1, k, h => by
    rw [ltT]
    rcases Nat.lt_or_ge k m with h1 | h1
    · rw [List.getElem?_append_left (by rw [ltT_len]; exact h1)]; exact ltT_at ti du m k h1
    · have : k = m := by omega
      subst this
      rw [List.getElem?_append_right (by rw [ltT_len]; omega), ltT_len, Nat.sub_self]; rfl
theorem lw_no1 {n : Int} {L : List (List Int)} {ti du : List Int} (h : ¬ (1 ≤ n ∧ n ≤ 7)) : lwB n L ti du = false := by
  rw [lwB_of rfl (taB_n h) rfl rfl]; simp
theorem lw_no2 {n : Int} {L : List (List Int)} {ti du : List Int} (h : prA n L = false) : lwB n L ti du = false := by
  rw [lwB_of rfl rfl h rfl]; simp
theorem lw_noT {n : Int} {L : List (List Int)} {ti du : List Int} (h : ltB ti du = true → taB (ltT ti du du.length) n = false) : lwB n L ti du = false := by
  cases ha : ltB ti du
  · rw [lwB_of ha rfl rfl rfl]; rfl
  · rw [lwB_of (b := false) ha (by rw [ltV_yes ha]; exact h ha) rfl rfl]; rfl
theorem ltB_in {ti du : List Int} (h : ltB ti du = true) : ti.length = du.length ∧ allTo 0 100 du du.length = true := by
  unfold ltB at h
  rw [Bool.and_eq_true, decide_eq_true_eq] at h
  exact h
theorem lw_no4 {n : Int} {L : List (List Int)} {ti du : List Int} (h : ¬ (du.length : Int) = n) : lwB n L ti du = false :=
  lw_noT fun _ => taB_len (by rw [ltT_len]; exact h)
theorem lw_no3 {n : Int} {L : List (List Int)} {ti du : List Int} (h : ¬ (ti.length : Int) = n) : lwB n L ti du = false :=
  lw_noT fun ha => taB_len (by rw [ltT_len, ← (ltB_in ha).1]; exact h)
theorem lt_tk (ti du : List Int) {k : Nat} (hk : k < du.length) : tkT (ltT ti du du.length) k = ti[k]?.getD 0 ∧ tkR (ltT ti du du.length) k = 1 ∧ tkB (ltT ti du du.length) k = -(du[k]?.getD 0) := by
  unfold tkT tkR tkB
  rw [ltT_at ti du _ k hk]
  exact ⟨rfl, rfl, rfl⟩
theorem lw_no5 {n : Int} {L : List (List Int)} {ti du : List Int} (h : allTo 1 9 ti ti.length = false) : lwB n L ti du = false := by
  refine lw_noT fun ha => ?_
  rw [← Bool.not_eq_true] at h ⊢
  intro h2
  refine h ((allTo_iff _ _ _ _).2 fun j hj => ?_)
  have hl := (ltB_in ha).1
  have h3 := (tkTo_iff _ _).1 (taB_is h2).2.2 j (by rw [ltT_len]; omega)
  rw [(lt_tk ti du (by omega)).1] at h3
  exact ((oneB_iff _ _ _).1 h3).1
theorem lw_no6 {n : Int} {L : List (List Int)} {ti du : List Int} (h : allTo 0 100 du du.length = false) : lwB n L ti du = false := by
  rw [lwB_of (a := false) (by unfold ltB; rw [h]; simp) rfl rfl rfl]; rfl
theorem lw_row {n : Int} {L : List (List Int)} {ti du : List Int} {k : Nat} (hk : k < L.length) (h : ¬ (L[k]?.getD []).length = 2) : lwB n L ti du = false :=
  lw_no2 (by
    rw [← Bool.not_eq_true]
    intro h2
    exact h (pairB_in ((prA_in h2).2 k hk)).1)
theorem lw_prA {n : Int} {L : List (List Int)} (h40 : L.length ≤ 40) (h2 : ∀ j, j < L.length → (L[j]?.getD []).length = 2) (h : osB n (turnL L) = true) : prA n L = true := by
  have hp := (os_in h).2.2.1
  unfold prA
  rw [Bool.and_eq_true, decide_eq_true_eq, prTo_iff]
  refine ⟨h40, fun j hj => ?_⟩
  have g := pairB_in ((prA_in hp).2 j (by rw [turn_len]; exact hj))
  rw [turn_at L j hj] at g
  obtain ⟨_, g1, g2, g3, g4, g5⟩ := g
  unfold pairB
  rw [Bool.and_eq_true, Bool.and_eq_true, Bool.and_eq_true, decide_eq_true_eq, decide_eq_true_eq, decide_eq_true_eq, Bool.not_eq_true', beq_eq_false_iff_ne]
  exact ⟨h2 j hj, ⟨⟨g3, g4⟩, g1, g2⟩, fun e => g5 e.symm⟩
theorem lw_tasks {n : Int} {ti du : List Int} (h1 : 1 ≤ n ∧ n ≤ 7) (h3 : (ti.length : Int) = n) (h4 : (du.length : Int) = n) (h5 : allTo 1 9 ti ti.length = true) (h6 : allTo 0 100 du du.length = true) : ltB ti du = true ∧ taB (ltT ti du du.length) n = true := by
  refine ⟨by unfold ltB; rw [decide_eq_true (by omega), h6]; rfl, taB_yes h1 (by rw [ltT_len]; exact h4) ?_⟩
  rw [tkTo_iff, ltT_len]
  intro j hj
  obtain ⟨e1, e2, e3⟩ := lt_tk ti du hj
  rw [e1, e2, e3, oneB_iff]
  have g1 := (allTo_iff _ _ _ _).1 h5 j (by omega)
  have g2 := (allTo_iff _ _ _ _).1 h6 j hj
  exact ⟨g1, by omega, by omega⟩
theorem lw_all {n : Int} {L : List (List Int)} {ti du : List Int} (h1 : 1 ≤ n ∧ n ≤ 7) (h40 : L.length ≤ 40) (h3 : (ti.length : Int) = n) (h4 : (du.length : Int) = n) (h5 : allTo 1 9 ti ti.length = true) (h6 : allTo 0 100 du du.length = true) (h2 : ∀ j, j < L.length → (L[j]?.getD []).length = 2) : lwB n L ti du = osB n (turnL L) := by
  obtain ⟨ha, hb⟩ := lw_tasks h1 h3 h4 h5 h6
  rw [lwB_of (b := true) ha (by rw [ltV_yes ha]; exact hb) rfl rfl]
  cases ho : osB n (turnL L)
  · simp
  · rw [lw_prA h40 h2 ho]; rfl
theorem lw_word {n : Int} {L : List (List Int)} {ti du : List Int} (h1 : 1 ≤ n ∧ n ≤ 7) (h3 : (ti.length : Int) = n) (h4 : (du.length : Int) = n) (h5 : allTo 1 9 ti ti.length = true) (h6 : allTo 0 100 du du.length = true) (hl : lwB n L ti du = true) (ho : osB n (turnL L) = true) :
    okSp n (osL n (turnL L)) = true ∧ taB (ltT ti du du.length) n = true ∧ lwL n L ti du = (grW (coT (ltT ti du du.length)) (outerOf (marksTo (osL n (turnL L)) (osL n (turnL L)).length) n.toNat) n.toNat).reverse := by
  obtain ⟨ha, hb⟩ := lw_tasks h1 h3 h4 h5 h6
  refine ⟨os_ok ho, hb, ?_⟩
  unfold lwL
  rw [if_pos hl, (gw_yes (n := n) (l := osL n (turnL L)) (T := ltT ti du du.length) (by unfold gvB; rw [os_ok ho, hb]; rfl)).1]
theorem lwL_len (n : Int) (L : List (List Int)) (ti du : List Int) : (lwL n L ti du).length < 1000000000 := by
  unfold lwL
  split
  · rw [List.length_reverse]; exact gwL_len _ _ _
  · simp
theorem turn_small2 {L : List (List Int)} (hl : L.length ≤ 40) : small2 (turnL L) := by
  refine small2_of _ 2 (fun r hr => ?_) (by rw [turn_len]; omega) (by rw [turn_len]; omega)
  unfold turnL at hr
  rw [List.mem_map] at hr
  obtain ⟨_, _, rfl⟩ := hr
  simp
theorem rev_next (R : List Int) (j : Nat) (h : j < R.length) : (R.drop j).reverse = (R.drop (j + 1)).reverse ++ [R[j]?.getD 0] := by
  rw [List.drop_eq_getElem_cons h, List.reverse_cons, List.getElem?_eq_getElem h]; rfl
attribute [local irreducible] p2 low memB risB own own2 ownK
set_option maxHeartbeats 8000000 in
theorem specLateWord_c (n : Int) (u : Value) (L : List (List Int)) (vt : Value) (ti : List Int) (vd : Value) (du : List Int) (w : World) (hp : rows w.heap.size w u L) (hs : small2 L) (ht : ints w.heap.size w vt ti) (htl : ti.length < 1000000000) (hd : ints w.heap.size w vd du) (hdl : du.length < 1000000000) (_hT : tab w) :
    Calls Tryd.prog 24 #[.int .i64 n, u, vt, vd] w fun e w' => ∃ v', e = .returned (.tuple #[v', .bool (lwB n L ti du)]) ∧ own 3 w' w.heap.size v' (lwL n L ti du) ∧ Below w.heap.size w w' := by
  have HN := hide (@lwL_no n L ti du)
  have HP := hide hp
  have HT := hide ht
  have HD := hide hd
  have hll := hs.1
  clear hp ht hd hs
  by_cases hn : 1 ≤ n ∧ n ≤ 7
  rotate_left
  · have HW := hide (lw_no1 (L := L) (ti := ti) (du := du) hn)
    have HIT := hide (spItems_c n w)
    rw [decide_eq_false hn] at HIT
    clear hn
    generalize lwL n L ti du = WL at *
    generalize lwB n L ti du = WB at *
    go_enter Tryd.func24, Tryd.ntmps24
    go_wp2_with (first
      | (go_at_call 50; refine HIT.out.mono ?_; rintro e w1 ⟨rfl, rfl⟩)
      | (refine wpList_len2 sliceT2 rfl (.tmp _) rfl u rfl w.heap.size L HP.out ?_)
      | (refine wpList_len sliceT rfl (.tmp 30) rfl _ rfl w.heap.size ti HT.out ?_)
      | (refine wpList_len sliceT rfl (.tmp 36) rfl _ rfl w.heap.size du HD.out ?_)
    )
    go_ret2
    exact ⟨_, by rw [HW.out]; rfl, by rw [HN.out HW.out]; exact own_nil _ _ _, Below.refl _ _⟩
  have HIT := hide (spItems_c n w)
  rw [decide_eq_true hn] at HIT
  obtain ⟨m, rfl⟩ := Int.eq_ofNat_of_zero_le (show 0 ≤ n by omega)
  have hm7 : m ≤ 7 := by omega
  have hm1 : 1 ≤ m := by omega
  have HNN := hide hn
  clear hn
  by_cases h40 : 40 < L.length
  · have hgt : (40 : Int) < (L.length : Int) := by omega
    have HW := hide (lw_no2 (n := (m : Int)) (L := L) (ti := ti) (du := du) (by unfold prA; rw [decide_eq_false (by omega)]; rfl))
    generalize lwL (m : Int) L ti du = WL at *
    generalize lwB (m : Int) L ti du = WB at *
    go_enter Tryd.func24, Tryd.ntmps24
    go_wp2_with (first
      | (go_at_call 50; refine HIT.out.mono ?_; rintro e w1 ⟨rfl, rfl⟩)
      | (refine wpList_len2 sliceT2 rfl (.tmp _) rfl u rfl w.heap.size L HP.out ?_)
      | (refine wpList_len sliceT rfl (.tmp 30) rfl _ rfl w.heap.size ti HT.out ?_)
      | (refine wpList_len sliceT rfl (.tmp 36) rfl _ rfl w.heap.size du HD.out ?_)
    )
    go_ret2
    exact ⟨_, by rw [HW.out]; rfl, by rw [HN.out HW.out]; exact own_nil _ _ _, Below.refl _ _⟩
  have hgt : ¬ ((40 : Int) < (L.length : Int)) := by omega
  have hgt2 : decide ((40 : Int) < (L.length : Int)) = false := by simp; omega
  have H40 := hide h40
  clear h40
  by_cases hti : ti.length = m
  rotate_left
  · have hti1 : ((ti.length : Int) != (m : Int)) = true := by simp; omega
    have hti2 : ((ti.length : Int) ≠ (m : Int)) := by omega
    have HW := hide (lw_no3 (L := L) (ti := ti) (du := du) hti2)
    generalize lwL (m : Int) L ti du = WL at *
    generalize lwB (m : Int) L ti du = WB at *
    go_enter Tryd.func24, Tryd.ntmps24
    go_wp2_with (first
      | (go_at_call 50; refine HIT.out.mono ?_; rintro e w1 ⟨rfl, rfl⟩)
      | (refine wpList_len2 sliceT2 rfl (.tmp _) rfl u rfl w.heap.size L HP.out ?_)
      | (refine wpList_len sliceT rfl (.tmp 30) rfl _ rfl w.heap.size ti HT.out ?_)
      | (refine wpList_len sliceT rfl (.tmp 36) rfl _ rfl w.heap.size du HD.out ?_)
    )
    go_ret2
    exact ⟨_, by rw [HW.out]; rfl, by rw [HN.out HW.out]; exact own_nil _ _ _, Below.refl _ _⟩
  have hti1 : ((ti.length : Int) != (m : Int)) = false := by simp; omega
  have hti2 : ¬ ((ti.length : Int) ≠ (m : Int)) := by omega
  have HTL := hide hti
  by_cases hdu : du.length = m
  rotate_left
  · have hdu1 : ((du.length : Int) != (m : Int)) = true := by simp; omega
    have hdu2 : ((du.length : Int) ≠ (m : Int)) := by omega
    have HW := hide (lw_no4 (L := L) (ti := ti) (du := du) hdu2)
    clear hti
    generalize lwL (m : Int) L ti du = WL at *
    generalize lwB (m : Int) L ti du = WB at *
    go_enter Tryd.func24, Tryd.ntmps24
    go_wp2_with (first
      | (go_at_call 50; refine HIT.out.mono ?_; rintro e w1 ⟨rfl, rfl⟩)
      | (refine wpList_len2 sliceT2 rfl (.tmp _) rfl u rfl w.heap.size L HP.out ?_)
      | (refine wpList_len sliceT rfl (.tmp 30) rfl _ rfl w.heap.size ti HT.out ?_)
      | (refine wpList_len sliceT rfl (.tmp 36) rfl _ rfl w.heap.size du HD.out ?_)
    )
    go_ret2
    exact ⟨_, by rw [HW.out]; rfl, by rw [HN.out HW.out]; exact own_nil _ _ _, Below.refl _ _⟩
  have hdu1 : ((du.length : Int) != (m : Int)) = false := by simp; omega
  have hdu2 : ¬ ((du.length : Int) ≠ (m : Int)) := by omega
  have HDL := hide hdu
  clear hti hdu
  have HA1 := hide (l1All_c vt ti 1 9 w HT.out htl)
  have HA2 := hide (l1All_c vd du 0 100 w HD.out hdl)
  cases h5 : allTo 1 9 ti ti.length
  · have HW := hide (lw_no5 (n := (m : Int)) (L := L) (ti := ti) (du := du) h5)
    rw [h5] at HA1
    clear h5
    generalize lwL (m : Int) L ti du = WL at *
    generalize lwB (m : Int) L ti du = WB at *
    go_enter Tryd.func24, Tryd.ntmps24
    go_wp2_with (first
      | (go_at_call 50; refine HIT.out.mono ?_; rintro e w1 ⟨rfl, rfl⟩)
      | (refine wpList_len2 sliceT2 rfl (.tmp _) rfl u rfl w.heap.size L HP.out ?_)
      | (refine wpList_len sliceT rfl (.tmp 30) rfl _ rfl w.heap.size ti HT.out ?_)
      | (refine wpList_len sliceT rfl (.tmp 36) rfl _ rfl w.heap.size du HD.out ?_)
      | (go_at_call 51; refine HA1.out.mono ?_; rintro e w1 ⟨rfl, rfl⟩)
    )
    go_ret2
    exact ⟨_, by rw [HW.out]; rfl, by rw [HN.out HW.out]; exact own_nil _ _ _, Below.refl _ _⟩
  rw [h5] at HA1
  have H5 := hide h5
  clear h5
  cases h6 : allTo 0 100 du du.length
  · have HW := hide (lw_no6 (n := (m : Int)) (L := L) (ti := ti) (du := du) h6)
    rw [h6] at HA2
    clear h6
    generalize lwL (m : Int) L ti du = WL at *
    generalize lwB (m : Int) L ti du = WB at *
    go_enter Tryd.func24, Tryd.ntmps24
    go_wp2_with (first
      | (go_at_call 50; refine HIT.out.mono ?_; rintro e w1 ⟨rfl, rfl⟩)
      | (refine wpList_len2 sliceT2 rfl (.tmp _) rfl u rfl w.heap.size L HP.out ?_)
      | (refine wpList_len sliceT rfl (.tmp 30) rfl _ rfl w.heap.size ti HT.out ?_)
      | (refine wpList_len sliceT rfl (.tmp 36) rfl _ rfl w.heap.size du HD.out ?_)
      | (go_at_call 51; (first | (refine HA1.out.mono ?_; clear HA1) | refine HA2.out.mono ?_); rintro e w1 ⟨rfl, rfl⟩)
    )
    go_ret2
    exact ⟨_, by rw [HW.out]; rfl, by rw [HN.out HW.out]; exact own_nil _ _ _, Below.refl _ _⟩
  rw [h6] at HA2
  have H6 := hide h6
  clear h6
  have HROW := hide (fun k hk h => lw_row (n := (m : Int)) (L := L) (ti := ti) (du := du) (k := k) hk h)
  have HALL := hide (fun h2 => lw_all (L := L) (ti := ti) (du := du) HNN.out (by have := H40.out; omega) (by rw [HTL.out]) (by rw [HDL.out]) H5.out H6.out h2)
  have HWRD := hide (fun h1 h2 => lw_word (L := L) (ti := ti) (du := du) HNN.out (by rw [HTL.out]) (by rw [HDL.out]) H5.out H6.out h1 h2)
  rw [Int.toNat_natCast] at HWRD
  generalize lwL (m : Int) L ti du = WL at *
  generalize lwB (m : Int) L ti du = WB at *
  go_enter Tryd.func24, Tryd.ntmps24
  go_wp2_with (first
    | (go_at_call 50; refine HIT.out.mono ?_; rintro e w1 ⟨rfl, rfl⟩)
    | (refine wpList_len2 sliceT2 rfl (.tmp _) rfl u rfl w.heap.size L HP.out ?_)
    | (refine wpList_len sliceT rfl (.tmp 30) rfl _ rfl w.heap.size ti HT.out ?_)
    | (refine wpList_len sliceT rfl (.tmp 36) rfl _ rfl w.heap.size du HD.out ?_)
    | (go_at_call 51; (first | (refine HA1.out.mono ?_; clear HA1) | refine HA2.out.mono ?_); rintro e w1 ⟨rfl, rfl⟩)
      )
  clear HIT HA2 hgt2
  go_loopw [10, 53] (fun t i wr => ∃ k : Nat, k ≤ L.length ∧ i = .int .i64 (k : Int) ∧ Hid (∀ j, j < k → (L[j]?.getD []).length = 2) ∧ Hid (own2 22 3 wr w.heap.size t (turnL (L.take k))) ∧ Hid (Below w.heap.size w wr)) (fun _ i _ => L.length - (intOf i).toNat)
  case atStart => exact ⟨0, Nat.zero_le _, rfl, fun j hj => absurd hj (Nat.not_lt_zero j), own2_nil _ _ _ _, Below.refl _ _⟩
  case round =>
    obtain ⟨k, hk, rfl, HP2, HO, HB⟩ := hrel
    have hsz := HB.out.size
    have HLW := hide (HP.out.below HB.out (Nat.le_refl _))
    obtain ⟨oa, oc, hso⟩ := HO.out.shape
    by_cases hlt : k < L.length
    · have HNX := hide (turn_take L k hlt)
      have hol : (turnL (L.take k)).length = k := by rw [turn_len, List.length_take]; omega
      have h40 : L.length ≤ 40 := by have := H40.out; omega
      rw [hol] at hso
      subst hso
      generalize turnL (L.take k) = A at HO HNX hol
      by_cases h2 : (L[k]?.getD []).length = 2
      · have HP3 := hide (show ∀ j, j < k + 1 → (L[j]?.getD []).length = 2 from fun j hj => by
          rcases Nat.lt_or_ge j k with h | h
          · exact HP2.out j h
          · rw [show j = k by omega]; exact h2)
        generalize hr : L[k]?.getD [] = r at h2 HNX
        have HR := hide hr
        generalize hx : r0 r = x at HNX
        generalize hy : r1 r = y at HNX
        have HX := hide (show r[0]?.getD 0 = x from hx)
        have HY := hide (show r[1]?.getD 0 = y from hy)
        clear hr hx hy
        have hb2 : ((r.length : Int) != 2) = false := by rw [h2]; rfl
        have hne2 : ¬ ((r.length : Int) ≠ 2) := by rw [h2]; decide
        go_wp2_with (first
          | (refine wpList_at2 sliceT2 rowS2 rfl (.tmp 51) (.tmp _) rfl u rfl _ rfl k rfl w.heap.size L HLW.out hlt ?_; intro ad uu hcell hblk hu; rw [HR.out] at hu; obtain ⟨ua, uc, hu1⟩ := hu.shape; rw [h2] at hu1; subst hu1; have HU := hide hu; clear hu)
          | fail)
        obtain ⟨bb, of, cc, hv, hbb, hcs⟩ : ∃ b of c, Value.slice ua 2 uc = .slice (some ⟨b, of, none⟩) 2 c ∧ b < w.heap.size ∧ (wr.cell? ⟨b, of + 0, none⟩ = some (.int .i64 x) ∧ wr.cell? ⟨b, of + 1, none⟩ = some (.int .i64 y)) := by
          rcases HU.out with ⟨h0, _⟩ | ⟨b, o, c, h3, h4, h5, h6⟩
          · rw [h0] at h2; cases h2
          · refine ⟨b, o, c, by rw [h3, h2], h4, ?_, ?_⟩
            · rw [h6 0 (by omega), HX.out]
            · rw [h6 1 (by omega), HY.out]
        injection hv with hv1 hv2 hv3
        subst hv1
        subst hv3
        clear hcell
        refine wp_region_held (S := Below w.heap.size wr) (by kernel_rfl) ?_
        have hT0 : Below wr.heap.size wr { wr with drawn := wr.drawn + 1 } := (Below.refl _ _).drew
        generalize ({ wr with drawn := wr.drawn + 1 } : World) = C0 at hT0 ⊢
        have hS0 := hT0.mono hsz
        have hz0 : wr.heap.size ≤ C0.heap.size := hT0.size
        refine wpAnyH_take (i := 0) (v := .slice oa k oc) rfl (by kernel_rfl) (by kernel_rfl) (by kernel_rfl) (fun _ _ _ h => h) (.inl ⟨rfl, fun w' _ => by go_simp⟩) hS0 ?_
        simp only [Act.put, List.getElem_toArray, List.getElem_cons_zero, List.getElem_cons_succ, List.setIfInBounds_toArray, List.set_cons_zero, List.set_cons_succ]
        refine wpAnyH_take (i := 1) (v := .slice (some ⟨bb, of, none⟩) 2 uc) rfl (by kernel_rfl) (by kernel_rfl) (by kernel_rfl) (fun _ _ _ h => h) (.inl ⟨rfl, fun w' _ => by go_simp⟩) hS0 ?_
        simp only [Act.put, List.getElem_toArray, List.getElem_cons_zero, List.getElem_cons_succ, List.setIfInBounds_toArray, List.set_cons_zero, List.set_cons_succ]
        refine wpAnyH_take (i := 2) rfl (by kernel_rfl) (by kernel_rfl) (by kernel_rfl) (fun _ _ _ h => h) (yields_atE sliceT intS rfl (.tmp _) _ rfl bb of 2 uc 1 rfl rfl (by omega)) hS0 ?_
        simp only [Act.put, List.getElem_toArray, List.getElem_cons_zero, List.getElem_cons_succ, List.setIfInBounds_toArray, List.set_cons_zero, List.set_cons_succ]
        refine wpAnyH_take (i := 3) rfl (by kernel_rfl) (by kernel_rfl) (by kernel_rfl) (fun _ _ _ h => h) (yields_load_cell rowI rfl (.tmp _) rfl ⟨bb, of + 1, none⟩ rfl (.int .i64 y) (fun w' h => (h.cell (p := ⟨bb, of + 1, none⟩) hbb).trans hcs.2)) hS0 ?_
        simp only [Act.put, List.getElem_toArray, List.getElem_cons_zero, List.getElem_cons_succ, List.setIfInBounds_toArray, List.set_cons_zero, List.set_cons_succ]
        refine wpAnyH_take (i := 4) (v := .slice (some ⟨bb, of, none⟩) 2 uc) rfl (by kernel_rfl) (by kernel_rfl) (by kernel_rfl) (fun _ _ _ h => h) (.inl ⟨rfl, fun w' _ => by go_simp⟩) hS0 ?_
        simp only [Act.put, List.getElem_toArray, List.getElem_cons_zero, List.getElem_cons_succ, List.setIfInBounds_toArray, List.set_cons_zero, List.set_cons_succ]
        refine wpAnyH_take (i := 5) rfl (by kernel_rfl) (by kernel_rfl) (by kernel_rfl) (fun _ _ _ h => h) (yields_atE sliceT intS rfl (.tmp _) _ rfl bb of 2 uc 0 rfl rfl (by omega)) hS0 ?_
        simp only [Act.put, List.getElem_toArray, List.getElem_cons_zero, List.getElem_cons_succ, List.setIfInBounds_toArray, List.set_cons_zero, List.set_cons_succ]
        refine wpAnyH_take (i := 6) rfl (by kernel_rfl) (by kernel_rfl) (by kernel_rfl) (fun _ _ _ h => h) (yields_load_cell rowI rfl (.tmp _) rfl ⟨bb, of + 0, none⟩ rfl (.int .i64 x) (fun w' h => (h.cell (p := ⟨bb, of + 0, none⟩) hbb).trans hcs.1)) hS0 ?_
        simp only [Act.put, List.getElem_toArray, List.getElem_cons_zero, List.getElem_cons_succ, List.setIfInBounds_toArray, List.set_cons_zero, List.set_cons_succ]
        obtain ⟨B, hBe⟩ : ∃ B, B = C0.heap.size := ⟨_, rfl⟩
        have hpw := own_pairE 3 C0 y x
        rw [← hBe] at hpw
        have hT1 : Below wr.heap.size wr (C0.alloc (.cells #[.int .i64 y, .int .i64 x] 3)) := hT0.alloc hz0 _
        refine anyH_op (i := 7) (by kernel_rfl) rfl rfl (.slice (some ⟨B, 0, none⟩) 2 2) (C0.alloc (.cells #[.int .i64 y, .int .i64 x] 3)) (by simp [go_sem, hBe]) (hT1.mono hsz) ?_
        have hz1 : (C0.alloc (.cells #[.int .i64 y, .int .i64 x] 3)).heap.size = B + 1 := by simp [hBe]
        generalize C0.alloc (.cells #[.int .i64 y, .int .i64 x] 3) = C1 at hpw hT1 hz1 ⊢
        simp only [Act.put, List.getElem_toArray, List.getElem_cons_zero, List.getElem_cons_succ, List.setIfInBounds_toArray, List.set_cons_zero, List.set_cons_succ]
        have how := own2_one (T := 22) hpw (by omega)
        have hT2 : Below wr.heap.size wr (C1.alloc (.cells #[.slice (some ⟨B, 0, none⟩) 2 2] 22)) := hT1.alloc hT1.size _
        obtain ⟨B2, hBe2⟩ : ∃ B2, B2 = C1.heap.size := ⟨_, rfl⟩
        rw [← hBe2] at how
        refine anyH_op (i := 8) (by kernel_rfl) rfl rfl (.slice (some ⟨B2, 0, none⟩) 1 1) (C1.alloc (.cells #[.slice (some ⟨B, 0, none⟩) 2 2] 22)) (by simp [go_sem, hBe2]) (hT2.mono hsz) ?_
        generalize C1.alloc (.cells #[.slice (some ⟨B, 0, none⟩) 2 2] 22) = C2 at how hT2 ⊢
        simp only [Act.put, List.getElem_toArray, List.getElem_cons_zero, List.getElem_cons_succ, List.setIfInBounds_toArray, List.set_cons_zero, List.set_cons_succ]
        refine anyH_oneX (i := 9) (by kernel_rfl) rfl rfl ?_
        intro Q1 hQ1
        refine wpList_append2N sliceT2 rowI2 (by decide) rfl (.tmp _) (.tmp _) rfl w.heap.size (.slice oa A.length oc) A (show _ = Value.slice oa A.length oc by rw [hol]; rfl) wr (by rw [hol]; exact HO.out) hT2 _ [[y, x]] rfl (how.mono (by omega)) hsz (by rw [hol]; simp; omega) ?_
        intro v3 C3 ho3 hb3
        refine wpList_nil ?_
        have hS3 : Below w.heap.size wr C3 := (hT2.mono hsz).trans hb3
        refine hQ1 _ _ hS3 ?_
        simp only [Act.put, List.getElem_toArray, List.getElem_cons_zero, List.getElem_cons_succ, List.setIfInBounds_toArray, List.set_cons_zero, List.set_cons_succ]
        refine anyH_op (i := 10) (by kernel_rfl) rfl rfl v3 C3 (by simp [go_sem]) hS3 ?_
        refine wpAnyH_done (by kernel_rfl) ?_ _
        simp only [Act.put, List.getElem_toArray, List.getElem_cons_zero, List.getElem_cons_succ, List.setIfInBounds_toArray, List.set_cons_zero, List.set_cons_succ]
        have HO3 := hide ho3
        have HB3 := hide (HB.out.trans hS3)
        clear hS0 hT0 hT1 hT2 hS3 hb3 ho3 hpw how hQ1
        go_wp2
        go_roundw
        case rel => exact ⟨k + 1, by omega, by go_num, HP3, by rw [HNX.out]; exact HO3.out, HB3⟩
        case measure => (simp [intOf] <;> omega)
      · have HW := hide (HROW.out k hlt h2)
        generalize hr : L[k]?.getD [] = r at h2 HNX
        have HR := hide hr
        have hb2 : ((r.length : Int) != 2) = true := by simp; omega
        have hne2 : ((r.length : Int) ≠ 2) := by omega
        clear hr HNX
        go_wp2_with (first
          | (refine wpList_at2 sliceT2 rowS2 rfl (.tmp 51) (.tmp _) rfl u rfl _ rfl k rfl w.heap.size L HLW.out hlt ?_; intro ad uu hcell hblk hu; rw [HR.out] at hu; obtain ⟨ua, uc, hu1⟩ := hu.shape; subst hu1; have HU := hide hu; clear hu)
          | fail)
        go_ret2
        exact ⟨_, by rw [HW.out]; rfl, by rw [HN.out HW.out]; exact own_nil _ _ _, HB.out⟩
    · have h40 : L.length ≤ 40 := by have := H40.out; omega
      have hKL : k = L.length := by omega
      have hAL := HALL.out (fun j hj => HP2.out j (by omega))
      have HT2 := hide (show own2 22 3 wr w.heap.size (.slice oa (turnL L).length oc) (turnL L) by
        have h := HO.out
        rw [hso, hKL, List.take_length] at h
        exact h)
      rw [hKL, List.take_length] at hso
      subst hso
      have HSO := hide (fun v w1 h => specOrderSpace_c (m : Int) v (turnL L) w1 h (turn_small2 h40))
      have hsl := osL_len (m : Int) (turnL L)
      have HNY := hide (fun h => (osNL_yes (n := (m : Int)) (L := turnL L) h).1)
      clear HALL HROW HO HP2 HLW
      generalize osL (m : Int) (turnL L) = SL at *
      generalize osN (m : Int) (turnL L) = SN at *
      generalize osB (m : Int) (turnL L) = SB at *
      cases SB
      · have HW := hide (show WB = false from hAL)
        have hlt' : ¬ ((k : Int) < (L.length : Int)) := by omega
        clear hAL hKL hlt HNY HWRD
        go_wp2_with (first
          | (go_at_call 52; refine (HSO.out _ _ HT2.out.rows).mono ?_; rintro e w2 ⟨v2, rfl, ho2, hb2⟩; obtain ⟨a2, c2, hv2⟩ := ho2.shape; subst hv2; have HB2 := hide ((HB.out.trans (hb2.mono hsz)).alloc (Nat.le_trans hsz hb2.size) (.cells #[.int .i64 SN, .slice a2 SL.length c2] 29)); clear ho2 hb2)
          | fail)
        go_ret2
        exact ⟨_, by rw [HW.out]; rfl, by rw [HN.out HW.out]; exact own_nil _ _ _, HB2.out⟩
      · have HW := hide (show WB = true from hAL)
        have hnn := HNY.out rfl
        have HWR := hide (HWRD.out hAL rfl)
        have HOKS := hide (HWR.out.1)
        have HTAB := hide (HWR.out.2.1)
        have HWL := hide (HWR.out.2.2)
        have hRl := grW_len (coT (ltT ti du du.length)) (outerOf (marksTo SL SL.length) m) m
        have HGR := hide (fun v u w1 hl ht => grGreedy_c m v SL u (ltT ti du du.length) w1 hl hsl ht HOKS.out HTAB.out)
        have hlt' : ¬ ((k : Int) < (L.length : Int)) := by omega
        have hsub : IntKind.i64.wrap ((m : Int) - 1) = (m : Int) - 1 := IntWalk.i64_in _ (by omega)
        clear hAL hKL hlt HNY HWRD HWR HTAB HOKS
        subst hnn
        go_wp2_with (first
          | (go_at_call 52; refine (HSO.out _ _ HT2.out.rows).mono ?_; rintro e w2 ⟨v2, rfl, ho2, hb2⟩; obtain ⟨a2, c2, hv2⟩ := ho2.shape; subst hv2; have HS2 := hide (ho2.alloc (.cells #[.int .i64 (m : Int), .slice a2 SL.length c2] 29)); have HB2 := hide ((HB.out.trans (hb2.mono hsz)).alloc (Nat.le_trans hsz hb2.size) (.cells #[.int .i64 (m : Int), .slice a2 SL.length c2] 29)); have HX2 := hide (hp_last w2 (.cells #[.int .i64 (m : Int), .slice a2 SL.length c2] 29)); have HZ2 := hide (show (w2.alloc (.cells #[.int .i64 (m : Int), .slice a2 SL.length c2] 29)).heap.size = w2.heap.size + 1 by simp); have hz2 := hb2.size; clear ho2 hb2)
          | (refine wpList_len sliceT rfl (.tmp 79) rfl _ rfl w.heap.size ti (HT.out.below HB2.out (Nat.le_refl _)) ?_)
          | fail)
        generalize (w2.alloc (.cells #[.int .i64 (m : Int), .slice a2 SL.length c2] 29)) = W at HS2 HB2 HX2 HZ2 ⊢
        generalize hBe : w2.heap.size = B at HX2 HZ2 hz2 ⊢
        clear hBe HSO
        have HGT := HGR
        clear HGR
        go_loopw [15, 81] (fun t i w3 => ∃ j : Nat, j ≤ ti.length ∧ i = .int .i64 (j : Int) ∧ Hid (ownK w3 (B + 1) t (ltT ti du j)) ∧ Hid (Below (B + 1) W w3)) (fun _ i _ => ti.length - (intOf i).toNat)
        case atStart => exact ⟨0, Nat.zero_le _, rfl, ownK_nil _ _, Below.refl _ _⟩
        case round =>
          obtain ⟨j, hj, rfl, HO3, HB3⟩ := hrel
          have hz3 := HB3.out.size
          rw [HZ2.out] at hz3
          have HB23 := hide (HB2.out.trans (HB3.out.mono (show w.heap.size ≤ B + 1 by omega)))
          have HTW := hide (HT.out.below HB23.out (Nat.le_refl _))
          have HDW := hide (HD.out.below HB23.out (Nat.le_refl _))
          have hlj := ltT_len ti du j
          by_cases hjt : j < ti.length
          · have hjd : j < du.length := by have h1 := HTL.out; have h2 := HDL.out; omega
            have hx := (allTo_iff _ _ _ _).1 H6.out j hjd
            have HS := hide (show ltT ti du (j + 1) = ltT ti du j ++ [(ti[j]?.getD 0, 1, -(du[j]?.getD 0))] from rfl)
            generalize hX : du[j]?.getD 0 = x at hx HS
            generalize hY : ti[j]?.getD 0 = y at HS
            have HX := hide hX
            have HYY := hide hY
            generalize ltT ti du j = T at *
            have hneg : IntKind.i64.wrap (-x) = -x := IntWalk.i64_in _ (by omega)
            have hTl : T.length < 1000000000 := by omega
            clear hX hY
            go_wp2_with (first
              | (refine wpList_at sliceT intS rfl (.tmp 79) (.tmp 81) rfl _ rfl j rfl w.heap.size ti HTW.out hjt ?_; intro ad2 hcell2 hblk2; rw [HYY.out] at hcell2)
              | (refine wpList_at sliceT intS rfl (.tmp 88) (.tmp 89) rfl _ rfl j rfl w.heap.size du HDW.out hjd ?_; intro ad hcell hblk; rw [HX.out] at hcell)
              | (at_builtin; refine wpList_appendK rfl (.tmp 86) (.tmp 94) rfl (B + 1) _ _ rfl (HO3.out.alloc _) _ y 1 (-x) rfl (by simp [go_sem]) (by simp [go_sem]) (by simp [go_sem]) (by simp; omega) hTl ?_; intro v4 w4 ho4 hb4; have HO4 := hide ho4; have HB4 := hide ((HB3.out.alloc (by omega) _).trans hb4); clear ho4 hb4)
              | fail)
            go_roundw
            case rel => exact ⟨j + 1, by omega, by go_num, hide (by rw [HS.out]; exact HO4.out), HB4⟩
            case measure => (simp [intOf] <;> omega)
          · have HJ := hide (show j = du.length by have h1 := HTL.out; have h2 := HDL.out; omega)
            have HO5 := hide HO3.out
            rw [HJ.out] at HO5
            have hjt' : ¬ ((j : Int) < (ti.length : Int)) := by omega
            have HX3 := hide ((HB3.out.block B (by omega)).trans HX2.out)
            have HS3 := hide ((HS2.out.kept (by have h := HB3.out; rw [← HZ2.out] at h; exact h)).ints)
            have c0 := cells_at0 HX3.out
            have c1 := cells_at1 HX3.out
            generalize ltT ti du du.length = T at HO5 HGT HWL hRl
            generalize grW (coT T) (outerOf (marksTo SL SL.length) m) m = R at HGT HWL hRl
            have HRL := hide hRl
            clear hRl
            have HBW := hide HB23.out
            clear HB3 HB23 HTW HDW HO3 hlj hj hjt HX3
            go_wp2_with (first
              | (go_at_call 46; refine (HGT.out _ _ _ HS3.out HO5.out.tks).mono ?_; rintro e w4 ⟨v4, rfl, ho4, hb4⟩; obtain ⟨a4, c4, hv4⟩ := ho4.shape; subst hv4; have HO4 := hide ho4; have HB4 := hide (HBW.out.trans (hb4.mono HBW.out.size)); have hz4 := Nat.le_trans HBW.out.size hb4.size; have hz5 := HBW.out.size; clear ho4 hb4)
              | fail)
            go_loopw [19, 20] (fun o i w5 => ∃ (q : Nat) (z : Int), q ≤ m ∧ z = (q : Int) - 1 ∧ i = .int .i64 z ∧ Hid (own 3 w5 w4.heap.size o (R.drop q).reverse) ∧ Hid (Below w4.heap.size w4 w5)) (fun _ i _ => (intOf i + 1).toNat)
            case atStart => exact ⟨m, (m : Int) - 1, Nat.le_refl _, rfl, rfl, by rw [List.drop_eq_nil_of_le (by rw [HRL.out]; exact Nat.le_refl _)]; exact own_nil _ _ _, Below.refl _ _⟩
            case round =>
              obtain ⟨q, z, hq, hz, rfl, HO6, HB6⟩ := hrel
              have hz6 := HB6.out.size
              rcases Nat.eq_zero_or_pos q with h0 | h0
              · have HQ0 := hide h0
                have hzn : ¬ (0 ≤ z) := by omega
                have HO7 := hide HO6.out
                rw [h0, List.drop_zero] at HO7
                clear h0 hz HO6
                go_wp2
                go_ret2
                exact ⟨_, by rw [HW.out]; rfl, by rw [HWL.out]; exact HO7.out.mono hz4, HB4.out.trans (HB6.out.mono hz4)⟩
              · obtain ⟨p, rfl⟩ : ∃ p, q = p + 1 := ⟨q - 1, by omega⟩
                obtain rfl : z = (p : Int) := by omega
                have hpR : p < R.length := by rw [HRL.out]; omega
                have HNX := hide (rev_next R p hpR)
                have HR5 := hide ((HO4.out.kept HB6.out).ints)
                have hdl : (R.drop (p + 1)).reverse.length < 1000000000 := by rw [List.length_reverse, List.length_drop, HRL.out]; omega
                generalize (R.drop (p + 1)).reverse = A at HO6 HNX hdl
                generalize hX : R[p]?.getD 0 = x at HNX
                have HX := hide hX
                have hdec : IntKind.i64.wrap ((p : Int) - 1) = (p : Int) - 1 := IntWalk.i64_in _ (by omega)
                have hp0 : (0 : Int) ≤ (p : Int) := by omega
                obtain ⟨a6, c6, hv6⟩ := HO6.out.shape
                subst hv6
                clear hX hz
                go_wp2_with (first
                  | (refine wpList_at sliceT intS rfl (.tmp 107) (.tmp 108) rfl _ rfl p rfl _ R HR5.out hpR ?_; intro ad hcell hblk; rw [HX.out] at hcell)
                  | (at_builtin; refine wpList_append1 sliceT intI rfl (.tmp 106) (.tmp 111) rfl w4.heap.size _ _ rfl (HO6.out.alloc _) _ x rfl (by simp [go_sem]) (by simp; omega) (by omega) ?_; intro v7 w7 ho7 hb7; have HO7 := hide ho7; have HB7 := hide ((HB6.out.alloc (by omega) _).trans hb7); clear ho7 hb7)
                  | fail)
                go_roundw
                case rel => exact ⟨p, (p : Int) - 1, by omega, rfl, by go_num, by rw [HNX.out]; exact HO7.out, HB7⟩
                case measure => (simp [intOf] <;> omega)
end Go.Proofs.YtblglkgmnaklbaaDoor
/- The program's LateWord answers as the specification's does, at every argument, leaves its arguments as they are, and its answer owns its memory: no condition. -/
namespace Go.Proofs.YtblglkgmnaklbaaDoor.FLateWord
open Go.ChangeShapes Go.WideShapes Go.ChangeAt Go.RowKit Go.Joins
set_option linter.unusedVariables false
set_option linter.unusedSimpArgs false
set_option maxRecDepth 100000

set_option maxHeartbeats 4000000 in
theorem law_c (x0 : Int) (v1 : Value) (l1 : List (List Int)) (v2 : Value) (l2 : List Int) (v3 : Value) (l3 : List Int) (w : World) (h1 : rows w.heap.size w v1 l1) (hlen1 : l1.length ≤ 9223372036854775807) (hrow1 : ∀ j, j < l1.length → (l1[j]?.getD []).length ≤ 9223372036854775807) (h2 : ints w.heap.size w v2 l2) (hlen2 : l2.length ≤ 9223372036854775807) (h3 : ints w.heap.size w v3 l3) (hlen3 : l3.length ≤ 9223372036854775807) (hT : tab w) :
    Calls Tryd.prog 6 #[.int .i64 x0, v1, v2, v3] w fun e w' => e = .returned (.bool true) ∧ Below w.heap.size w w' := by
  have HT := hide hT
  clear hT
  have hRL := (lwL_len x0 l1 l2 l3)
  generalize hR : (lwL x0 l1 l2 l3) = R at hRL
  generalize hO : (lwB x0 l1 l2 l3) = ok
  have HR := hide hR
  have HO := hide hO
  clear hR hO
  have F1 := hide ((Below.refl w.heap.size w))
  have F2 := hide (h1)
  have F3 := hide (h2)
  have F4 := hide (h3)
  clear h1 h2 h3
  by_cases big2 : (1048576 : Int) < (l2.length : Int)
  · have big2n : 1048576 < l2.length := by omega
    go_enter Tryd.func6, Tryd.ntmps6
    go_wp2_with (first | (refine wpList_len sliceT rfl (.tmp _) rfl v2 rfl w.heap.size l2 F3.out ?_) | (refine wpList_len sliceT rfl (.tmp _) rfl v3 rfl w.heap.size l3 F4.out ?_))
    go_ret
    exact ⟨rfl, F1.out⟩
  have big2n : ¬ 1048576 < l2.length := by omega
  have big2d : decide (1048576 < l2.length) = false := by simp; omega
  by_cases big3 : (1048576 : Int) < (l3.length : Int)
  · have big3n : 1048576 < l3.length := by omega
    go_enter Tryd.func6, Tryd.ntmps6
    go_wp2_with (first | (refine wpList_len sliceT rfl (.tmp _) rfl v2 rfl w.heap.size l2 F3.out ?_) | (refine wpList_len sliceT rfl (.tmp _) rfl v3 rfl w.heap.size l3 F4.out ?_))
    go_ret
    exact ⟨rfl, F1.out⟩
  have big3n : ¬ 1048576 < l3.length := by omega
  have big3d : decide (1048576 < l3.length) = false := by simp; omega
  have hsz0 : szOf 1048576 (l1.length + tot l1) = -1 ∨ (0 ≤ szOf 1048576 (l1.length + tot l1) ∧ szOf 1048576 (l1.length + tot l1) ≤ 1048576 ∧ (l1.length + tot l1) ≤ 1048576) := by unfold szOf; split <;> omega
  generalize hq0 : szOf 1048576 (l1.length + tot l1) = q0 at hsz0
  have HQ0 := hide hq0
  clear hq0
  rcases hsz0 with hbig0 | ⟨hq0a, hq0b, hq0c⟩
  · have HBIG := hide hbig0
    have hneg : q0 < 0 := by omega
    clear hbig0
    go_enter Tryd.func6, Tryd.ntmps6
    go_wp2_with (first | (refine wpList_len sliceT rfl (.tmp _) rfl v2 rfl w.heap.size l2 F3.out ?_) | (refine wpList_len sliceT rfl (.tmp _) rfl v3 rfl w.heap.size l3 F4.out ?_))
    refine (szIntSS_c v1 l1 (1048576) w (F2.out.mono (by omega)) hlen1 hrow1 (by omega) (by omega)).mono ?_
    rw [HQ0.out]
    rintro e _ ⟨rfl, rfl⟩
    go_wp2
    go_ret
    exact ⟨rfl, F1.out⟩
  have hneg0 : ¬ q0 < 0 := by omega
  have hsm1 : small2 l1 := ⟨by omega, by omega⟩
  have HSM1 := hide hsm1
  have hmx1 : tot l1 ≤ 1048576 := by omega
  have hmy1 : l1.length ≤ 1048576 := by omega
  clear hsm1
  go_enter Tryd.func6, Tryd.ntmps6
  go_wp2_with (first | (refine wpList_len sliceT rfl (.tmp _) rfl v2 rfl w.heap.size l2 F3.out ?_) | (refine wpList_len sliceT rfl (.tmp _) rfl v3 rfl w.heap.size l3 F4.out ?_))
  refine (szIntSS_c v1 l1 (1048576) w (F2.out.mono (by omega)) hlen1 hrow1 (by omega) (by omega)).mono ?_
  rw [HQ0.out]
  rintro e _ ⟨rfl, rfl⟩
  have hneg2 : ¬ (1 + (R.length : Int) < 0) := by omega
  go_wp2_with fail
  refine (toIntSS_c v1 l1 w (F2.out.mono (by omega)) (.inl HSM1.out)).mono ?_
  rintro e W1 ⟨v5, rfl, ho6, hb7⟩
  have hz8 := hb7.size
  have F9 := hide (F1.out.trans (hb7.mono (by omega)))
  have F10 := hide (F2.out.below hb7 (by omega))
  have F11 := hide (F3.out.below hb7 (by omega))
  have F12 := hide (F4.out.below hb7 (by omega))
  have F13 := hide (ho6.toT)
  clear hb7 F1 F2 F3 F4 ho6
  go_wp2_with fail
  refine (toIntS_c v2 l2 W1 (F11.out.mono (by omega)) (by omega)).mono ?_
  rintro e W2 ⟨rfl, hk14, hb15⟩
  have hz16 := hb15.size
  have F17 := hide (F9.out.trans (hb15.mono (by omega)))
  have F18 := hide (F10.out.below hb15 (by omega))
  have F19 := hide (F11.out.below hb15 (by omega))
  have F20 := hide (F12.out.below hb15 (by omega))
  have F21 := hide (F13.out.kept hb15)
  have F22 := hide (hk14.own (Nat.le_refl _) (by unfold maxLen; omega))
  have B23 := hide (F22.out.base)
  have L24 := hide (F22.out.blockLt)
  clear hb15 F9 F10 F11 F12 F13 hk14
  go_wp2_with fail
  refine (toIntS_c v3 l3 W2 (F20.out.mono (by omega)) (by omega)).mono ?_
  rintro e W3 ⟨rfl, hk25, hb26⟩
  have hz27 := hb26.size
  have F28 := hide (F17.out.trans (hb26.mono (by omega)))
  have F29 := hide (F18.out.below hb26 (by omega))
  have F30 := hide (F19.out.below hb26 (by omega))
  have F31 := hide (F20.out.below hb26 (by omega))
  have F32 := hide (F21.out.kept hb26)
  have F33 := hide (F22.out.kept hb26)
  have F34 := hide (hk25.own (Nat.le_refl _) (by unfold maxLen; omega))
  have B35 := hide (F34.out.base)
  have L36 := hide (F34.out.blockLt)
  clear hb26 F17 F18 F19 F20 F21 F22 hk25
  go_wp2_with fail
  refine (specLateWord_c x0 _ l1 _ l2 _ l3 W3 F32.out.rows HSM1.out F33.out.ints (by omega) F34.out.ints (by omega) (HT.out.belowB HT.out F28.out (Nat.le_refl _))).mono ?_
  rw [HR.out, HO.out]
  rintro e W4 ⟨v37, rfl, ho38, hb39⟩
  have hz40 := hb39.size
  have F41 := hide (F28.out.trans (hb39.mono (by omega)))
  have F42 := hide (F29.out.below hb39 (by omega))
  have F43 := hide (F30.out.below hb39 (by omega))
  have F44 := hide (F31.out.below hb39 (by omega))
  have F45 := hide (F32.out.kept hb39)
  have F46 := hide (F33.out.kept hb39)
  have F47 := hide (F34.out.kept hb39)
  obtain ⟨aa48, cc49, hv50⟩ := ho38.shape
  have F51 := hide (ho38)
  have B52 := hide (F51.out.base)
  have L53 := hide (F51.out.blockLt)
  clear hb39 F28 F29 F30 F31 F32 F33 F34 ho38
  subst hv50
  clear F45
  clear F46
  clear B23 L24
  clear F47
  clear B35 L36
  go_wp2_with fail
  refine (toIntSS_c v1 l1 W4 (F42.out.mono (by omega)) (.inl HSM1.out)).mono ?_
  rintro e W5 ⟨v54, rfl, ho55, hb56⟩
  have hz57 := hb56.size
  have F58 := hide (F41.out.trans (hb56.mono (by omega)))
  have F59 := hide (F42.out.below hb56 (by omega))
  have F60 := hide (F43.out.below hb56 (by omega))
  have F61 := hide (F44.out.below hb56 (by omega))
  have F62 := hide (F51.out.kept hb56)
  have F63 := hide (ho55.toT)
  clear hb56 F41 F42 F43 F44 F51 ho55
  go_wp2_with fail
  refine (toIntS_c v2 l2 W5 (F60.out.mono (by omega)) (by omega)).mono ?_
  rintro e W6 ⟨rfl, hk64, hb65⟩
  have hz66 := hb65.size
  have F67 := hide (F58.out.trans (hb65.mono (by omega)))
  have F68 := hide (F59.out.below hb65 (by omega))
  have F69 := hide (F60.out.below hb65 (by omega))
  have F70 := hide (F61.out.below hb65 (by omega))
  have F71 := hide (F62.out.kept hb65)
  have F72 := hide (F63.out.kept hb65)
  have F73 := hide (hk64.own (Nat.le_refl _) (by unfold maxLen; omega))
  have B74 := hide (F73.out.base)
  have L75 := hide (F73.out.blockLt)
  clear hb65 F58 F59 F60 F61 F62 F63 hk64
  go_wp2_with fail
  refine (toIntS_c v3 l3 W6 (F70.out.mono (by omega)) (by omega)).mono ?_
  rintro e W7 ⟨rfl, hk76, hb77⟩
  have hz78 := hb77.size
  have F79 := hide (F67.out.trans (hb77.mono (by omega)))
  have F80 := hide (F68.out.below hb77 (by omega))
  have F81 := hide (F69.out.below hb77 (by omega))
  have F82 := hide (F70.out.below hb77 (by omega))
  have F83 := hide (F71.out.kept hb77)
  have F84 := hide (F72.out.kept hb77)
  have F85 := hide (F73.out.kept hb77)
  have F86 := hide (hk76.own (Nat.le_refl _) (by unfold maxLen; omega))
  have B87 := hide (F86.out.base)
  have L88 := hide (F86.out.blockLt)
  clear hb77 F67 F68 F69 F70 F71 F72 F73 hk76
  go_wp2_with fail
  refine (implLateWord_c x0 _ l1 _ l2 _ l3 W7 F84.out.rows HSM1.out F85.out.ints (by omega) F86.out.ints (by omega) (HT.out.belowB HT.out F79.out (Nat.le_refl _))).mono ?_
  rw [HR.out, HO.out]
  rintro e W8 ⟨v89, rfl, ho90, hb91⟩
  have hz92 := hb91.size
  have F93 := hide (F79.out.trans (hb91.mono (by omega)))
  have F94 := hide (F80.out.below hb91 (by omega))
  have F95 := hide (F81.out.below hb91 (by omega))
  have F96 := hide (F82.out.below hb91 (by omega))
  have F97 := hide (F83.out.kept hb91)
  have F98 := hide (F84.out.kept hb91)
  have F99 := hide (F85.out.kept hb91)
  have F100 := hide (F86.out.kept hb91)
  obtain ⟨aa101, cc102, hv103⟩ := ho90.shape
  have F104 := hide (ho90)
  have B105 := hide (F104.out.base)
  have L106 := hide (F104.out.blockLt)
  clear hb91 F79 F80 F81 F82 F83 F84 F85 F86 ho90
  subst hv103
  go_wp2_with fail
  refine (eqIntS_same_c _ _ R W8 (F104.out.ints) (F97.out.ints) hRL).mono ?_
  rintro e W9 ⟨rfl, hb107⟩
  have hz108 := hb107.size
  have F109 := hide (F93.out.trans (hb107.mono (by omega)))
  have F110 := hide (F94.out.below hb107 (by omega))
  have F111 := hide (F95.out.below hb107 (by omega))
  have F112 := hide (F96.out.below hb107 (by omega))
  have F113 := hide (F97.out.kept hb107)
  have F114 := hide (F98.out.kept hb107)
  have F115 := hide (F99.out.kept hb107)
  have F116 := hide (F100.out.kept hb107)
  have F117 := hide (F104.out.kept hb107)
  clear hb107 F93 F94 F95 F96 F97 F98 F99 F100 F104
  go_wp2_with fail
  refine (toIntSS_c v1 l1 W9 (F110.out.mono (by omega)) (.inl HSM1.out)).mono ?_
  rintro e W10 ⟨v118, rfl, ho119, hb120⟩
  have hz121 := hb120.size
  have F122 := hide (F109.out.trans (hb120.mono (by omega)))
  have F123 := hide (F110.out.below hb120 (by omega))
  have F124 := hide (F111.out.below hb120 (by omega))
  have F125 := hide (F112.out.below hb120 (by omega))
  have F126 := hide (F113.out.kept hb120)
  have F127 := hide (F114.out.kept hb120)
  have F128 := hide (F115.out.kept hb120)
  have F129 := hide (F116.out.kept hb120)
  have F130 := hide (F117.out.kept hb120)
  have F131 := hide (ho119.toT)
  clear hb120 F109 F110 F111 F112 F113 F114 F115 F116 F117 ho119
  go_wp2_with fail
  refine (eqIntSS_same_c _ _ l1 W10 (F127.out.rows) (F131.out.rows) HSM1.out).mono ?_
  rintro e W11 ⟨rfl, hb132⟩
  have hz133 := hb132.size
  have F134 := hide (F122.out.trans (hb132.mono (by omega)))
  have F135 := hide (F123.out.below hb132 (by omega))
  have F136 := hide (F124.out.below hb132 (by omega))
  have F137 := hide (F125.out.below hb132 (by omega))
  have F138 := hide (F126.out.kept hb132)
  have F139 := hide (F127.out.kept hb132)
  have F140 := hide (F128.out.kept hb132)
  have F141 := hide (F129.out.kept hb132)
  have F142 := hide (F130.out.kept hb132)
  have F143 := hide (F131.out.kept hb132)
  clear hb132 F122 F123 F124 F125 F126 F127 F128 F129 F130 F131
  clear F143
  go_wp2_with fail
  refine (toIntS_c v2 l2 W11 (F136.out.mono (by omega)) (by omega)).mono ?_
  rintro e W12 ⟨rfl, hk144, hb145⟩
  have hz146 := hb145.size
  have F147 := hide (F134.out.trans (hb145.mono (by omega)))
  have F148 := hide (F135.out.below hb145 (by omega))
  have F149 := hide (F136.out.below hb145 (by omega))
  have F150 := hide (F137.out.below hb145 (by omega))
  have F151 := hide (F138.out.kept hb145)
  have F152 := hide (F139.out.kept hb145)
  have F153 := hide (F140.out.kept hb145)
  have F154 := hide (F141.out.kept hb145)
  have F155 := hide (F142.out.kept hb145)
  have F156 := hide (hk144.own (Nat.le_refl _) (by unfold maxLen; omega))
  have B157 := hide (F156.out.base)
  have L158 := hide (F156.out.blockLt)
  clear hb145 F134 F135 F136 F137 F138 F139 F140 F141 F142 hk144
  go_wp2_with fail
  refine (eqIntS_same_c _ _ l2 W12 (F153.out.ints) (F156.out.ints) (by omega)).mono ?_
  rintro e W13 ⟨rfl, hb159⟩
  have hz160 := hb159.size
  have F161 := hide (F147.out.trans (hb159.mono (by omega)))
  have F162 := hide (F148.out.below hb159 (by omega))
  have F163 := hide (F149.out.below hb159 (by omega))
  have F164 := hide (F150.out.below hb159 (by omega))
  have F165 := hide (F151.out.kept hb159)
  have F166 := hide (F152.out.kept hb159)
  have F167 := hide (F153.out.kept hb159)
  have F168 := hide (F154.out.kept hb159)
  have F169 := hide (F155.out.kept hb159)
  have F170 := hide (F156.out.kept hb159)
  clear hb159 F147 F148 F149 F150 F151 F152 F153 F154 F155 F156
  clear F170
  clear B157 L158
  go_wp2_with fail
  refine (toIntS_c v3 l3 W13 (F164.out.mono (by omega)) (by omega)).mono ?_
  rintro e W14 ⟨rfl, hk171, hb172⟩
  have hz173 := hb172.size
  have F174 := hide (F161.out.trans (hb172.mono (by omega)))
  have F175 := hide (F162.out.below hb172 (by omega))
  have F176 := hide (F163.out.below hb172 (by omega))
  have F177 := hide (F164.out.below hb172 (by omega))
  have F178 := hide (F165.out.kept hb172)
  have F179 := hide (F166.out.kept hb172)
  have F180 := hide (F167.out.kept hb172)
  have F181 := hide (F168.out.kept hb172)
  have F182 := hide (F169.out.kept hb172)
  have F183 := hide (hk171.own (Nat.le_refl _) (by unfold maxLen; omega))
  have B184 := hide (F183.out.base)
  have L185 := hide (F183.out.blockLt)
  clear hb172 F161 F162 F163 F164 F165 F166 F167 F168 F169 hk171
  go_wp2_with fail
  refine (eqIntS_same_c _ _ l3 W14 (F181.out.ints) (F183.out.ints) (by omega)).mono ?_
  rintro e W15 ⟨rfl, hb186⟩
  have hz187 := hb186.size
  have F188 := hide (F174.out.trans (hb186.mono (by omega)))
  have F189 := hide (F175.out.below hb186 (by omega))
  have F190 := hide (F176.out.below hb186 (by omega))
  have F191 := hide (F177.out.below hb186 (by omega))
  have F192 := hide (F178.out.kept hb186)
  have F193 := hide (F179.out.kept hb186)
  have F194 := hide (F180.out.kept hb186)
  have F195 := hide (F181.out.kept hb186)
  have F196 := hide (F182.out.kept hb186)
  have F197 := hide (F183.out.kept hb186)
  clear hb186 F174 F175 F176 F177 F178 F179 F180 F181 F182 F183
  clear F197
  clear B184 L185
  go_wp2_with fail
  refine (markIntSST1_c _ l1 W15 _ _ F193.out HSM1.out).mono ?_
  rintro e W16 ⟨rfl, hn199, ho198⟩
  have hz200 := ho198.size
  have F201 := hide (F188.out.trans ((ho198.below (by omega)).mono (by omega)))
  have F202 := hide (F189.out.below (ho198.below (by omega)) (by omega))
  have F203 := hide (F190.out.below (ho198.below (by omega)) (by omega))
  have F204 := hide (F191.out.below (ho198.below (by omega)) (by omega))
  have F205 := hide (F192.out.span ho198 (fun g hg => by have h1 := B52.out g hg; have h2 := L53.out g hg; omega))
  have F207 := hide (F194.out.span ho198 (fun g hg => by have h1 := B74.out g hg; have h2 := L75.out g hg; omega))
  have F208 := hide (F195.out.span ho198 (fun g hg => by have h1 := B87.out g hg; have h2 := L88.out g hg; omega))
  have F209 := hide (F196.out.span ho198 (fun g hg => by have h1 := B105.out g hg; have h2 := L106.out g hg; omega))
  clear F188 F189 F190 F191 F192 F193 F194 F195 F196 hn199 ho198
  go_wp2_with fail
  refine (markIntS_c _ l2 (1 + (tot l1 : Int)) W16 _ F207.out (by omega) (by omega) (by omega)).mono ?_
  rintro e W17 ⟨rfl, hn211, ho210⟩
  have hz212 := ho210.size
  have F213 := hide (F201.out.trans (ho210.below w.heap.size (fun g hg => by have := B74.out g hg; omega) (by omega)))
  have F214 := hide (F202.out.below (ho210.below (w.heap.size) (fun g hg => by have := B74.out g hg; omega) (by omega)) (Nat.le_refl _))
  have F215 := hide (F203.out.below (ho210.below w.heap.size (fun g hg => by have := B74.out g hg; omega) (by omega)) (Nat.le_refl _))
  have F216 := hide (F204.out.below (ho210.below w.heap.size (fun g hg => by have := B74.out g hg; omega) (by omega)) (Nat.le_refl _))
  have F217 := hide (F205.out.other ho210 (fun g hg e => by have h1 := B74.out _ e; have h2 := L75.out _ e; have h3 := B52.out _ hg; have h4 := L53.out _ hg; omega))
  have F219 := hide (F208.out.other ho210 (fun g hg e => by have h1 := B74.out _ e; have h2 := L75.out _ e; have h3 := B87.out _ hg; have h4 := L88.out _ hg; omega))
  have F220 := hide (F209.out.other ho210 (fun g hg e => by have h1 := B74.out _ e; have h2 := L75.out _ e; have h3 := B105.out _ hg; have h4 := L106.out _ hg; omega))
  have F221 := hide hn211
  clear F201 F202 F203 F204 F205 F207 F208 F209 hn211 ho210
  go_wp2_with fail
  refine (markIntS_c _ l3 (1 + (tot l1 : Int) + (l2.length : Int)) W17 _ F219.out (by omega) (by omega) (by omega)).mono ?_
  rintro e W18 ⟨rfl, hn223, ho222⟩
  have hz224 := ho222.size
  have F225 := hide (F213.out.trans (ho222.below w.heap.size (fun g hg => by have := B87.out g hg; omega) (by omega)))
  have F226 := hide (F214.out.below (ho222.below (w.heap.size) (fun g hg => by have := B87.out g hg; omega) (by omega)) (Nat.le_refl _))
  have F227 := hide (F215.out.below (ho222.below w.heap.size (fun g hg => by have := B87.out g hg; omega) (by omega)) (Nat.le_refl _))
  have F228 := hide (F216.out.below (ho222.below w.heap.size (fun g hg => by have := B87.out g hg; omega) (by omega)) (Nat.le_refl _))
  have F229 := hide (F217.out.other ho222 (fun g hg e => by have h1 := B87.out _ e; have h2 := L88.out _ e; have h3 := B52.out _ hg; have h4 := L53.out _ hg; omega))
  have F230 := hide (F221.out.other ho222 (fun g hg e => by have h1 := B87.out _ e; have h2 := L88.out _ e; have h3 := B74.out _ hg; have h4 := L75.out _ hg; omega))
  have F232 := hide (F220.out.other ho222 (fun g hg e => by have h1 := B87.out _ e; have h2 := L88.out _ e; have h3 := B105.out _ hg; have h4 := L106.out _ hg; omega))
  have F233 := hide hn223
  clear F213 F214 F215 F216 F217 F221 F219 F220 hn223 ho222
  have hneg3 : ¬ (1 + (tot l1 : Int) + (l2.length : Int) + (l3.length : Int) < 0) := by omega
  go_wp2_with fail
  refine (eqIntS_same_c _ _ R W18 (F232.out.ints) (F229.out.ints) hRL).mono ?_
  rintro e W19 ⟨rfl, hb234⟩
  have hz235 := hb234.size
  have F236 := hide (F225.out.trans (hb234.mono (by omega)))
  have F237 := hide (F226.out.below hb234 (by omega))
  have F238 := hide (F227.out.below hb234 (by omega))
  have F239 := hide (F228.out.below hb234 (by omega))
  have F240 := hide (F229.out.kept hb234)
  have F241 := hide (F230.out.kept hb234)
  have F242 := hide (F233.out.kept hb234)
  have F243 := hide (F232.out.kept hb234)
  clear hb234 F225 F226 F227 F228 F229 F230 F233 F232
  go_wp2_with fail
  refine (markIntS_c _ R (1) W19 _ F243.out (by omega) (by omega) (by omega)).mono ?_
  rintro e W20 ⟨rfl, hn245, ho244⟩
  have hz246 := ho244.size
  have F247 := hide (F236.out.trans (ho244.below w.heap.size (fun g hg => by have := B105.out g hg; omega) (by omega)))
  have F248 := hide (F237.out.below (ho244.below (w.heap.size) (fun g hg => by have := B105.out g hg; omega) (by omega)) (Nat.le_refl _))
  have F249 := hide (F238.out.below (ho244.below w.heap.size (fun g hg => by have := B105.out g hg; omega) (by omega)) (Nat.le_refl _))
  have F250 := hide (F239.out.below (ho244.below w.heap.size (fun g hg => by have := B105.out g hg; omega) (by omega)) (Nat.le_refl _))
  have F251 := hide (F240.out.other ho244 (fun g hg e => by have h1 := B105.out _ e; have h2 := L106.out _ e; have h3 := B52.out _ hg; have h4 := L53.out _ hg; omega))
  have F252 := hide (F241.out.other ho244 (fun g hg e => by have h1 := B105.out _ e; have h2 := L106.out _ e; have h3 := B74.out _ hg; have h4 := L75.out _ hg; omega))
  have F253 := hide (F242.out.other ho244 (fun g hg e => by have h1 := B105.out _ e; have h2 := L106.out _ e; have h3 := B87.out _ hg; have h4 := L88.out _ hg; omega))
  have F255 := hide hn245
  clear F236 F237 F238 F239 F240 F241 F242 F243 hn245 ho244
  go_wp2_with fail
  refine (heldIntS_c _ R.length 1 W20 (F255.out.ints) hRL (by omega) (by omega)).mono ?_
  rintro e _ ⟨rfl, rfl⟩
  clear F252
  clear B74 L75
  clear F253
  clear B87 L88
  go_wp2_with fail
  refine (toIntSS_c v1 l1 W20 (F248.out.mono (by omega)) (.inl HSM1.out)).mono ?_
  rintro e W21 ⟨v256, rfl, ho257, hb258⟩
  have hz259 := hb258.size
  have F260 := hide (F247.out.trans (hb258.mono (by omega)))
  have F261 := hide (F248.out.below hb258 (by omega))
  have F262 := hide (F249.out.below hb258 (by omega))
  have F263 := hide (F250.out.below hb258 (by omega))
  have F264 := hide (F251.out.kept hb258)
  have F265 := hide (F255.out.kept hb258)
  have F266 := hide (ho257.toT)
  clear hb258 F247 F248 F249 F250 F251 F255 ho257
  go_wp2_with fail
  refine (toIntS_c v2 l2 W21 (F262.out.mono (by omega)) (by omega)).mono ?_
  rintro e W22 ⟨rfl, hk267, hb268⟩
  have hz269 := hb268.size
  have F270 := hide (F260.out.trans (hb268.mono (by omega)))
  have F271 := hide (F261.out.below hb268 (by omega))
  have F272 := hide (F262.out.below hb268 (by omega))
  have F273 := hide (F263.out.below hb268 (by omega))
  have F274 := hide (F264.out.kept hb268)
  have F275 := hide (F265.out.kept hb268)
  have F276 := hide (F266.out.kept hb268)
  have F277 := hide (hk267.own (Nat.le_refl _) (by unfold maxLen; omega))
  have B278 := hide (F277.out.base)
  have L279 := hide (F277.out.blockLt)
  clear hb268 F260 F261 F262 F263 F264 F265 F266 hk267
  go_wp2_with fail
  refine (toIntS_c v3 l3 W22 (F273.out.mono (by omega)) (by omega)).mono ?_
  rintro e W23 ⟨rfl, hk280, hb281⟩
  have hz282 := hb281.size
  have F283 := hide (F270.out.trans (hb281.mono (by omega)))
  have F284 := hide (F271.out.below hb281 (by omega))
  have F285 := hide (F272.out.below hb281 (by omega))
  have F286 := hide (F273.out.below hb281 (by omega))
  have F287 := hide (F274.out.kept hb281)
  have F288 := hide (F275.out.kept hb281)
  have F289 := hide (F276.out.kept hb281)
  have F290 := hide (F277.out.kept hb281)
  have F291 := hide (hk280.own (Nat.le_refl _) (by unfold maxLen; omega))
  have B292 := hide (F291.out.base)
  have L293 := hide (F291.out.blockLt)
  clear hb281 F270 F271 F272 F273 F274 F275 F276 F277 hk280
  go_wp2_with fail
  refine (implLateWord_c x0 _ l1 _ l2 _ l3 W23 F289.out.rows HSM1.out F290.out.ints (by omega) F291.out.ints (by omega) (HT.out.belowB HT.out F283.out (Nat.le_refl _))).mono ?_
  rw [HR.out, HO.out]
  rintro e W24 ⟨v294, rfl, ho295, hb296⟩
  have hz297 := hb296.size
  have F298 := hide (F283.out.trans (hb296.mono (by omega)))
  have F299 := hide (F284.out.below hb296 (by omega))
  have F300 := hide (F285.out.below hb296 (by omega))
  have F301 := hide (F286.out.below hb296 (by omega))
  have F302 := hide (F287.out.kept hb296)
  have F303 := hide (F288.out.kept hb296)
  have F304 := hide (F289.out.kept hb296)
  have F305 := hide (F290.out.kept hb296)
  have F306 := hide (F291.out.kept hb296)
  obtain ⟨aa307, cc308, hv309⟩ := ho295.shape
  have F310 := hide (ho295)
  have B311 := hide (F310.out.base)
  have L312 := hide (F310.out.blockLt)
  clear hb296 F283 F284 F285 F286 F287 F288 F289 F290 F291 ho295
  subst hv309
  go_wp2_with fail
  refine (eqIntS_same_c _ _ R W24 (F310.out.ints) (F302.out.ints) hRL).mono ?_
  rintro e W25 ⟨rfl, hb313⟩
  have hz314 := hb313.size
  have F315 := hide (F298.out.trans (hb313.mono (by omega)))
  have F316 := hide (F299.out.below hb313 (by omega))
  have F317 := hide (F300.out.below hb313 (by omega))
  have F318 := hide (F301.out.below hb313 (by omega))
  have F319 := hide (F302.out.kept hb313)
  have F320 := hide (F303.out.kept hb313)
  have F321 := hide (F304.out.kept hb313)
  have F322 := hide (F305.out.kept hb313)
  have F323 := hide (F306.out.kept hb313)
  have F324 := hide (F310.out.kept hb313)
  clear hb313 F298 F299 F300 F301 F302 F303 F304 F305 F306 F310
  go_wp2_with fail
  refine (heldIntS_c _ R.length 1 W25 (F320.out.ints) hRL (by omega) (by omega)).mono ?_
  rintro e _ ⟨rfl, rfl⟩
  go_wp2
  go_ret
  exact ⟨rfl, F315.out⟩

theorem ownK : ownKnob Tryd.prog.godebug = none := by kernel_rfl
theorem laidOut : laidOutB Tryd.prog = true := by kernel_rfl

/-- What a slice of int is, as it comes in. -/
theorem list_open {W : World} {v : Value} {l : List Int} (h : (v = .slice none 0 0 ∧ l = []) ∨ ∃ (a : Addr) (len c : Nat) (zs : List Int), v = .slice (some a) len c ∧ len ≤ zs.length ∧ len ≤ maxLen ∧ (∀ i, i < zs.length → W.cell? (a.add i) = some (.int .i64 (zs.getD i 0))) ∧ l = zs.take len) : ints W.heap.size W v l ∧ l.length ≤ 9223372036854775807 := by
  rcases h with ⟨rfl, rfl⟩ | ⟨x, len, c, zs, rfl, hlt, hm, hcell, rfl⟩
  · exact ⟨.inl ⟨rfl, none, 0, rfl⟩, by simp⟩
  · have htk : (zs.take len).length = len := by simp; omega
    refine ⟨?_, by unfold maxLen at hm; omega⟩
    rcases Nat.eq_zero_or_pos len with h0 | h0
    · subst h0
      exact .inl ⟨by simp, some x, c, rfl⟩
    · obtain ⟨b, off, rfl, hc⟩ := ints_at hcell (by omega)
      have hbl := block_lt_of_cell (hc 0 (by omega))
      refine .inr ⟨b, off, c, by rw [htk], hbl, hbl, fun j hj => ?_⟩
      rw [htk] at hj
      rw [hc j (by omega), List.getElem?_take, if_pos hj]
      rfl

/-- What a slice of slices of int is, as it comes in. -/
theorem rows_open {H : Type} {enc : TypeId × Value → H} {W : World} {b0 : Nat} {v : Value} {d : DataW H} {p : List MemPlace}
    (hv : Value.okWide Tryd.prog W .any b0 26 v) (h : DataW.Trod enc Tryd.prog W 0 (fun _ => true) true 26 v d p) :
    ∃ (L : List (List Int)), rows W.heap.size W v L ∧ L.length ≤ 9223372036854775807 ∧ ∀ j, j < L.length → (L[j]?.getD []).length ≤ 9223372036854775807 := by
  obtain ⟨a0, len0, cap0, rfl⟩ := okWide_slice Tryd.underlying26 hv
  obtain ⟨fuel, hf⟩ := h
  rcases Go.Deep.open_int_rows Tryd.underlying26 Tryd.underlying22 Tryd.underlying3 (by kernel_rfl) (by kernel_rfl) hf with ⟨hcs, _⟩ | ⟨x, len, c, A, Ln, C, Z, hcs, _, hl, hm, _, hr⟩
  · simp [Value.cells] at hcs
    obtain ⟨rfl, rfl, rfl⟩ := hcs
    exact ⟨[], .inl ⟨rfl, none, 0, rfl⟩, by simp, fun j hj => by simp at hj⟩
  · simp [Value.cells] at hcs
    obtain ⟨rfl, rfl, rfl⟩ := hcs
    obtain ⟨h1, h2⟩ := rows_in hl hr
    exact ⟨_, h1, by simp; unfold maxLen at hm; omega, fun j hj => h2 j (by simpa using hj)⟩

theorem slice_open {H : Type} {enc : TypeId × Value → H} {W : World} {b0 : Nat} {v : Value} {d : DataW H} {p : List MemPlace}
    (hv : Value.okWide Tryd.prog W .any b0 22 v) (h : DataW.Trod enc Tryd.prog W 0 (fun _ => true) true 22 v d p) :
    ∃ (l : List Int), ints W.heap.size W v l ∧ l.length ≤ 9223372036854775807 := by
  obtain ⟨a0, len0, cap0, rfl⟩ := okWide_slice Tryd.underlying22 hv
  obtain ⟨fuel, hf⟩ := h
  rcases open_ints Tryd.underlying22 Tryd.underlying3 (by kernel_rfl) hf with ⟨hcs, _⟩ | ⟨x, len, c, zs, hcs, _, hl, hm, hz, _, hcell, hwz⟩
  · simp [Value.cells] at hcs
    obtain ⟨rfl, rfl, rfl⟩ := hcs
    exact ⟨[], list_open (.inl ⟨rfl, rfl⟩)⟩
  · simp [Value.cells] at hcs
    obtain ⟨rfl, rfl, rfl⟩ := hcs
    have hz' : zs.length = cap0 := by simpa using hz
    exact ⟨zs.take len0, list_open (.inr ⟨x, len0, cap0, zs, rfl, by omega, by omega, hcell, rfl⟩)⟩


/-- What the card's condition gives: the table's cells. -/
theorem tab_of {W : World} (h : laidMetH Tryd.prog Rows.fnExactLateWordRow.laid W) : tab W := by
  rw [MakeChecks.laidMetH_plain _ _ _ (by kernel_rfl)] at h
  have h2 := h.tail
  have e : (Rows.laid_math_bits_deBruijn64tab : DataW Unit) = Lib.tabData .u8 (Lib.deBruijn64tab.map fun n : Nat => (n : Int)) := by kernel_rfl
  rw [e] at h2
  have hT := Lib.tabIs_of_head (g := 1) (t := 138) (e := 5) (n := 64) (by kernel_rfl) (by kernel_rfl) (by kernel_rfl) (by kernel_rfl) (by kernel_rfl) (by kernel_rfl) h2
  have hc : ∀ j, j < 64 → W.cell? ⟨1, j, none⟩ = some (.int .u8 (Lib.deBruijn64tab.getD j 0)) := by
    intro j hj
    have h3 := hT.cell (g := 1) (by kernel_rfl) j (by rw [show (Lib.deBruijn64tab.map fun n : Nat => (n : Int)).length = 64 by decide +kernel]; exact hj)
    rw [h3]
    have h4 : ∀ j, j < 64 → (Lib.deBruijn64tab.map fun n : Nat => (n : Int)).getD j 0 = (Lib.deBruijn64tab.getD j 0 : Int) := by decide +kernel
    rw [h4 j hj]
  exact ⟨block_lt_of_cell (hc 0 (by omega)), hc⟩
theorem door_met (os : Os) (args : Array Value) : laidMetH Tryd.prog Rows.fnExactLateWordRow.laid ((World.doorLaid Tryd.prog 400 os).forCall (fun _ _ => 0) ⟨#[], args, []⟩).memory :=
  laidMetH_of_parts3 (fuel := 8) (laidMet_of_run' 8 (by kernel_rfl) (by kernel_rfl)) (by kernel_rfl) (by kernel_rfl)

theorem lifted (os : Os) (started : os.Started) (H : Type) (enc : TypeId × Value → H) :
    ReturnsInHanded {} Tryd.checked os 6 .any (fun w args => (Rows.fnExactLateWordSpec.pre enc Tryd.prog Tryd.f6 [] false w args ∧ laidMetH Tryd.prog Rows.fnExactLateWordRow.laid w) ∧ sizedMet enc Tryd.prog Tryd.f6 (OpenSpec.ofChange Rows.fnExactLateWordSpec) false w args)
      (Rows.fnExactLateWordSpec.post enc Tryd.prog Tryd.f6 false true false false) := by
  refine returnsInHanded_of_change_and (C := Tryd.checked) (X := fun w _ => laidMetH Tryd.prog Rows.fnExactLateWordRow.laid w) (fun _ _ _ hh h => h.of_heap hh) ownK started (by kernel_rfl) Tryd.func6
    (ChangeSpec.witness_shaped (enc := enc) (C := Tryd.checked) (os := os) (X := fun w _ => laidMetH Tryd.prog Rows.fnExactLateWordRow.laid w) false (World.doorLaid Tryd.prog 400 os) #[.int .i64 0, .slice none 0 0, .slice none 0 0, .slice none 0 0] 8 rfl (World.shaped_of_RefB (by kernel_rfl) (by kernel_rfl)) (by kernel_rfl) (by kernel_rfl) (by kernel_rfl) (door_met os _)) ?_
  intro W base args ds gs before hval0 hW _ _ hL _
  have hTab := tab_of hL
  have hval : ∀ (j : Nat) t v, Tryd.f6.params[j]? = some t → args[j]? = some v → Value.okWide Tryd.prog W .any base t v := hval0
  have hW' := hW
  obtain ⟨p, q, hA0, hV, rfl, hfz, hnd⟩ := hW
  have hA : DataW.TrodAll enc Tryd.prog W 0 (fun _ => true) true Tryd.f6.params.toList args.toList ds p := hA0
  rw [Tryd.params6] at hA hval
  obtain ⟨v0, vs0, d0, ds0, p0, q0, hargs, rfl, rfl, t0, r0⟩ := trodAll_cons hA
  obtain ⟨v1, vs1, d1, ds1, p1, q1, rfl, rfl, rfl, t1, r1⟩ := trodAll_cons r0
  obtain ⟨v2, vs2, d2, ds2, p2, q2, rfl, rfl, rfl, t2, r2⟩ := trodAll_cons r1
  obtain ⟨v3, vs3, d3, ds3, p3, q3, rfl, rfl, rfl, t3, r3⟩ := trodAll_cons r2
  obtain ⟨rfl, rfl, rfl⟩ := trodAll_nil r3
  obtain rfl : args = #[v0, v1, v2, v3] := by cases args; simp_all
  obtain ⟨rfl, rfl⟩ := trodVars_none hV
  obtain ⟨a0, rfl, rfl, rfl, w0⟩ := open_int Tryd.underlying3 (hval 0 3 v0 rfl rfl) t0
  have k1 := t1
  have lt1 : ∀ x ∈ p1, x.block < W.heap.size := by obtain ⟨m, hm⟩ := k1; exact DataW.trod_lt m _ _ _ hm
  obtain ⟨l1, i1, e1, f1⟩ := rows_open (hval 1 26 v1 rfl rfl) t1
  have k2 := t2
  have lt2 : ∀ x ∈ p2, x.block < W.heap.size := by obtain ⟨m, hm⟩ := k2; exact DataW.trod_lt m _ _ _ hm
  obtain ⟨l2, i2, e2⟩ := slice_open (hval 2 22 v2 rfl rfl) t2
  have k3 := t3
  have lt3 : ∀ x ∈ p3, x.block < W.heap.size := by obtain ⟨m, hm⟩ := k3; exact DataW.trod_lt m _ _ _ hm
  obtain ⟨l3, i3, e3⟩ := slice_open (hval 3 22 v3 rfl rfl) t3
  clear hA0 hval0
  refine (law_c a0 v1 l1 v2 l2 v3 l3 W i1 e1 f1 i2 e2 i3 e3 hTab).mono fun e W' ⟨he, bel⟩ => ?_
  subst he
  exact ⟨_, rfl, _, _, _, [], _, [], hW', trodAll_mk1 (shut_bool Tryd.underlying4 _), (trodAll_cons_mk (shut_int Tryd.underlying3 w0) (trodAll_cons_mk (Below.trod laidOut (by kernel_rfl) (of_decide_eq_true (by kernel_rfl)) k1 bel lt1) (trodAll_cons_mk (Below.trod laidOut (by kernel_rfl) (of_decide_eq_true (by kernel_rfl)) k2 bel lt2) (trodAll_cons_mk (Below.trod laidOut (by kernel_rfl) (of_decide_eq_true (by kernel_rfl)) k3 bel lt3) trodAll_mk0)))), rfl, bel.frame _, fun h => by cases h⟩

set_option maxHeartbeats 4000000 in
theorem over : Rows.fnExactLateWordRow.holds Tryd.pinned (OpenSpec.ofChange Rows.fnExactLateWordSpec) :=
  OpenClaim.holds_of_wide 6 Tryd.f6 rfl rfl rfl rfl rfl rfl rfl ⟨rfl, rfl, rfl, rfl, rfl⟩ rfl rfl rfl rfl rfl (by as_aux_lemma => kernel_rfl) Tryd.func6 (by as_aux_lemma => kernel_rfl)
    (of_decide_eq_true (by as_aux_lemma => kernel_rfl)) (by unfold Func.isWrapper; first | (rw [if_pos (by decide +kernel)]; kernel_rfl) | (rw [if_neg (by decide +kernel)]; exact ⟨rfl, rfl⟩))
    (fun os started H enc _ => lifted os started H enc)

set_option maxHeartbeats 8000000 in
theorem proved : Rows.FnExactLateWordCardSaid :=
  Claim7.holds_tied_plain_at .later [] [.data, .data] true _ false
    over (fun _ h => by cases h) (by as_aux_lemma => kernel_rfl) (fun _ h => by cases h) fnExactLateWord_row_tie rfl ⟨rfl, rfl⟩ (by as_aux_lemma => kernel_rfl) rfl
    (fun f fn hf hfn => by
      obtain rfl : f = 6 := Option.some.inj ((show Tryd.prog.funcNamed "loop.example/g01137/laws.FnExactLateWord" = some 6 by as_aux_lemma => kernel_rfl).symm.trans hf) |>.symm
      obtain rfl : fn = Tryd.f6 := (Option.some.inj (Tryd.func6.symm.trans hfn)).symm
      exact ⟨by as_aux_lemma => kernel_rfl, fun j t ht => by
        rw [Tryd.params6] at ht
        have hm : t ∈ [3, 26, 22, 22] := by simpa using Array.mem_of_getElem? ht
        have hall : ([3, 26, 22, 22].all fun u => !Tryd.prog.wantsStandIn u) = true := by as_aux_lemma => kernel_rfl
        exact (show Tryd.prog.wantsStandIn t = false by simpa using List.all_eq_true.1 hall t hm)⟩)
    (by as_aux_lemma => kernel_rfl)
#print axioms proved
end Go.Proofs.YtblglkgmnaklbaaDoor.FLateWord
