/- Contracts: how often each place is moved: movesIn, list, waCounts. -/
import Derived.Test.YtjmhmmenampgbaaDoorYv
import Derived.Test.YtjmhmmenampgbaaDoorYh
import Derived.Test.YtjmhmmenampgbaaDoorOw
namespace Go.Proofs.YtjmhmmenampgbaaDoor
open Go.RowKit
set_option maxRecDepth 100000
set_option linter.unusedSimpArgs false
theorem ctF_set (run : List Int) (k m j : Nat) (h : run[k]?.getD 0 = (j : Int)) : (toL m (fun i => ctF run i k)).set j (ctF run j k + 1) = toL m (fun i => ctF run i (k + 1)) := by
  rw [toL_set]
  refine toL_congr fun i _ => ?_
  unfold updF
  rw [ctF, h]
  by_cases hij : i = j
  · subst hij; rw [if_pos rfl, if_pos rfl]
  · rw [if_neg hij, if_neg (by omega), Int.add_zero]
theorem toL_zero (m : Nat) : toL m (fun _ => (0 : Int)) = List.replicate m 0 := by
  apply List.ext_getElem?
  intro j
  unfold toL
  by_cases hn : j < m
  · simp [hn]
  · simp [hn]
attribute [local irreducible] p2 low memB risB
theorem zeroR5 : ((Tryd.prog.info? 52).bind (·.zero)).map Value.cells = some (rowV (toL 5 zA)) := by kernel_rfl
set_option maxHeartbeats 2000000 in
theorem movesIn_c (v : Value) (run : List Int) (w : World) (hr : ints w.heap.size w v run) (hrl : run.length < 1000000000) (hin : ∀ k, k < run.length → 0 ≤ run[k]?.getD 0 ∧ run[k]?.getD 0 < 5) :
    Calls Tryd.prog 60 #[v] w fun e w' => e = .returned (.agg (rowV (toL 5 (fun i => ctF run i run.length)))) ∧ Below w.heap.size w w' := by
  obtain ⟨va, vc, hv⟩ := hr.shape
  subst hv
  have HR := hide hr
  have HIN := hide hin
  have hb0 := ((Below.refl w.heap.size w).alloc (Nat.le_refl _) (.cells (rowV (toL 5 zA)) 52)).alloc (by simp) (.cells (rowV (toL 5 zA)) 52)
  have HB0 := hide hb0
  have HZ0 := hide (show ((w.alloc (.cells (rowV (toL 5 zA)) 52)).alloc (.cells (rowV (toL 5 zA)) 52)).heap.size = w.heap.size + 2 by simp)
  have HP0 := hide (show blk 52 ((w.alloc (.cells (rowV (toL 5 zA)) 52)).alloc (.cells (rowV (toL 5 zA)) 52)) w.heap.size (toL 5 zA) from (blk.new _ _ _).alloc _)
  have HP1 := hide (show blk 52 ((w.alloc (.cells (rowV (toL 5 zA)) 52)).alloc (.cells (rowV (toL 5 zA)) 52)) (w.heap.size + 1) (toL 5 (fun i => ctF run i 0)) by have h := blk.new 52 (w.alloc (.cells (rowV (toL 5 zA)) 52)) (toL 5 zA); rw [show (w.alloc (.cells (rowV (toL 5 zA)) 52)).heap.size = w.heap.size + 1 by simp] at h; exact h)
  clear hr hin hb0
  go_enter Tryd.func60, Tryd.ntmps60
  go_wp2_with (refine wpList_alloc_csY zeroR5 rfl rfl _ (by first | (simp only [World.size_alloc]; rfl) | rfl) ?_)
  generalize ((w.alloc (.cells (rowV (toL 5 zA)) 52)).alloc (.cells (rowV (toL 5 zA)) 52)) = W at *
  go_loopw [8] (fun iv wr => ∃ k : Nat, k ≤ run.length ∧ iv = .int .i64 (k : Int) ∧ Hid (blk 52 wr (w.heap.size + 1) (toL 5 (fun i => ctF run i k))) ∧ Hid (blk 52 wr w.heap.size (toL 5 zA)) ∧ Hid (Below w.heap.size w wr)) (fun iv _ => run.length - (intOf iv).toNat)
  case atStart => exact ⟨0, Nat.zero_le _, rfl, HP1.out, HP0.out, HB0⟩
  case round =>
    obtain ⟨k, hk, rfl, HK, HZ, HB⟩ := hrel
    have hsz := HB.out.size
    have HRW := hide (HR.out.below HB.out (Nat.le_refl _))
    by_cases hlt : k < run.length
    · have hlt' : (k : Int) < (run.length : Int) := by omega
      obtain ⟨h0, h5⟩ := HIN.out k hlt
      obtain ⟨j, hj⟩ := Int.eq_ofNat_of_zero_le h0
      have hj5 : j < 5 := by omega
      have hj5' : (j : Int) < 5 := by omega
      have HST := hide (ctF_set run k 5 j hj)
      have hcell := HK.out.cell j (by rw [toL_len]; exact hj5)
      rw [toL_at _ hj5] at hcell
      have hfree := HK.out.free j
      have hle := ctF_le run j k
      have HJ := hide hj
      generalize hT : toL 5 (fun i => ctF run i k) = T at *
      generalize ctF run j k = c at *
      clear hj h0 h5 hT
      go_wp2_with (first
        | (refine wpList_at sliceT intS rfl (.tmp 6) (.tmp _) rfl _ rfl k rfl w.heap.size run HRW.out hlt ?_; intro ad hca hba; rw [HJ.out] at hca))
      go_roundw
      case rel => exact ⟨k + 1, by omega, by go_num, by rw [← HST.out]; exact HK.out.set j (c + 1), HZ.out.setO _ (by show w.heap.size ≠ w.heap.size + 1; omega) _, HB.out.setCell (by show w.heap.size ≤ w.heap.size + 1; omega) _⟩
      case measure => (simp [intOf] <;> omega)
    · have hke : k = run.length := by omega
      subst hke
      have hlt' : ¬ ((run.length : Int) < (run.length : Int)) := by omega
      go_wp2_with (first
        | (refine wpList_load_csY (cs := rowV (toL 5 (fun i => ctF run i run.length))) row5 (by rw [rowV_size, toL_len]; exact size5) rfl (.tmp 3) rfl (w.heap.size + 1) rfl HK.out ?_)
        | (refine wpList_store_csY (cs := rowV (toL 5 (fun i => ctF run i run.length))) (by rw [rowV_size, toL_len]; exact size5) rfl (.tmp 2) (.tmp _) rfl w.heap.size rfl rfl _ HZ.out (by simp [rowV, toL_len]) (rowV_one _) ?_))
      refine (show bodyPost _ _ _ Exit.ret _ _ from ?_)
      exact bodyPost_ret (v := .agg (rowV (toL 5 (fun i => ctF run i run.length)))) (results_csY (cs := rowV (toL 5 (fun i => ctF run i run.length))) row5 (by rw [rowV_size, toL_len]; exact size5) (fn := Tryd.f60) (p := 2) rfl _ _ w.heap.size rfl (hp_row _ _ _ _ _ HZ.out)) rfl ⟨rfl, bl_row HB.out (Nat.le_refl _) _⟩
set_option maxHeartbeats 1000000 in
theorem list_c (f : Nat → Int) (n : Nat) (w : World) (hn : n ≤ 5) :
    Calls Tryd.prog 61 #[.agg (rowV (toL 5 f)), .int .i64 (n : Int)] w fun e w' => ∃ v, e = .returned v ∧ own 3 w' w.heap.size v (toL n f) ∧ Below w.heap.size w w' := by
  have HB0 := hide (((Below.refl w.heap.size w).alloc (Nat.le_refl _) (.cells (rowV (toL 5 f)) 52)).alloc (by simp) (.cells #[] 3))
  have HK := hide (show blk 52 ((w.alloc (.cells (rowV (toL 5 f)) 52)).alloc (.cells #[] 3)) w.heap.size (toL 5 f) from (blk.new _ _ _).alloc _)
  have HE := hide (own_empty 3 (w.alloc (.cells (rowV (toL 5 f)) 52)))
  have hz1 : (w.alloc (.cells (rowV (toL 5 f)) 52)).heap.size = w.heap.size + 1 := by simp
  rw [hz1] at HE
  have HU := hide (show ints (w.heap.size + 1) ((w.alloc (.cells (rowV (toL 5 f)) 52)).alloc (.cells #[] 3)) (.slice (some ⟨w.heap.size, 0, none⟩) n 5) (toL n f) from
    .inr ⟨w.heap.size, 0, 5, by rw [toL_len], by omega, by simp; omega, fun j hj => by
      rw [toL_len] at hj
      rw [Nat.zero_add, HK.out.cell j (by rw [toL_len]; omega), toL_at _ hj, toL_at _ (show j < 5 by omega)]⟩)
  have hn' : (n : Int) ≤ 5 := by omega
  have hn0 : ¬ ((n : Int) < 0) := by omega
  have htl := toL_len n f
  go_enter Tryd.func61, Tryd.ntmps61
  go_wp2_with (first
    | (at_builtin; refine wpList_appendN sliceT intI rfl _ _ rfl (w.heap.size + 1) _ [] rfl HE.out _ (toL n f) (w.heap.size + 1) rfl HU.out (by simp) (by simp; omega) ?_; intro v' w' ho' hb'; have HO := hide ho'; have HB := hide (HB0.out.trans (hb'.mono (show w.heap.size ≤ w.heap.size + 1 by omega))); clear ho' hb'))
  go_ret
  exact ⟨_, rfl, by have h := HO.out; rw [List.nil_append] at h; exact h.mono (by omega), HB.out⟩
set_option maxHeartbeats 2000000 in
theorem waCounts_c (n : Nat) (v : Value) (run : List Int) (w : World) (hn : n ≤ 5) (hr : ints w.heap.size w v run) (hrl : run.length < 1000000000) (hin : ∀ k, k < run.length → 0 ≤ run[k]?.getD 0 ∧ run[k]?.getD 0 < (n : Int)) :
    Calls Tryd.prog 59 #[.int .i64 (n : Int), v] w fun e w' => ∃ v', e = .returned v' ∧ own 3 w' w.heap.size v' (toL n (fun i => ctF run i run.length)) ∧ Below w.heap.size w w' := by
  obtain ⟨va, vc, hv⟩ := hr.shape
  subst hv
  have HR := hide hr
  have HIN := hide hin
  have HT0 := hide (show toL n (fun i => ctF run i 0) = List.replicate n 0 from toL_zero n)
  clear hr hin
  go_enter Tryd.func59, Tryd.ntmps59
  go_wp2_with (refine wpList_makeInts sliceT intI rfl (.tmp 8) (.tmp 8) rfl n rfl rfl (by omega) ?_; intro w2 hz2 hk2 hb2; rw [← HT0.out] at hk2; have HK2 := hide hk2; have HB2 := hide hb2; clear hk2 hb2)
  go_loopw [12] (fun iv wr => ∃ k : Nat, k ≤ run.length ∧ iv = .int .i64 (k : Int) ∧ Hid (blk 3 wr w.heap.size (toL n (fun i => ctF run i k))) ∧ Hid (Below w.heap.size w wr)) (fun iv _ => run.length - (intOf iv).toNat)
  case atStart => exact ⟨0, Nat.zero_le _, rfl, HK2.out, HB2⟩
  case round =>
    obtain ⟨k, hk, rfl, HK, HB⟩ := hrel
    have hsz := HB.out.size
    have HRW := hide (HR.out.below HB.out (Nat.le_refl _))
    have hbl := toL_len n (fun i => ctF run i k)
    by_cases hlt : k < run.length
    · have hlt' : (k : Int) < (run.length : Int) := by omega
      obtain ⟨h0, h5⟩ := HIN.out k hlt
      obtain ⟨j, hj⟩ := Int.eq_ofNat_of_zero_le h0
      have hj5 : j < n := by omega
      have HST := hide (ctF_set run k n j hj)
      have hcell := HK.out.cell j (by rw [toL_len]; exact hj5)
      rw [toL_at _ hj5] at hcell
      have hfree := HK.out.free j
      have hle := ctF_le run j k
      have how := HK.out.own (base := w.heap.size) (Nat.le_refl _) (by rw [hbl]; unfold maxLen; omega)
      rw [hbl] at how
      have HOW := hide how
      have HBL := hide hbl
      have HJ := hide hj
      generalize hT : toL n (fun i => ctF run i k) = T at *
      generalize ctF run j k = c at *
      clear hj h0 h5 hT how hbl
      go_wp2_with (first
        | (refine wpList_at sliceT intS rfl (.tmp 10) (.tmp _) rfl _ rfl k rfl w.heap.size run HRW.out hlt ?_; intro ad hca hba; rw [HJ.out] at hca)
        | (refine wpList_atOwn sliceT (by kernel_rfl) rfl (.tmp 16) (.tmp 17) rfl _ rfl _ rfl j rfl w.heap.size T HOW.out (by rw [HBL.out]; omega) ?_; intro g hg; have hg2 : w.heap.size = g := (by simpa [Value.ownBlock] using hg); subst hg2; clear hg))
      go_roundw
      case rel => exact ⟨k + 1, by omega, by go_num, by rw [← HST.out]; exact HK.out.set j (c + 1), HB.out.setCell (by show w.heap.size ≤ w.heap.size; omega) _⟩
      case measure => (simp [intOf] <;> omega)
    · have hke : k = run.length := by omega
      subst hke
      have hlt' : ¬ ((run.length : Int) < (run.length : Int)) := by omega
      have how := HK.out.own (base := w.heap.size) (Nat.le_refl _) (by rw [hbl]; unfold maxLen; omega)
      rw [hbl] at how
      have HOW := hide how
      clear how hbl
      go_wp2
      go_ret
      exact ⟨_, rfl, HOW.out, HB.out⟩
end Go.Proofs.YtjmhmmenampgbaaDoor
/- Contracts: the first full run of chips; MoveCounts, both. -/
namespace Go.Proofs.YtjmhmmenampgbaaDoor
open Go.RowKit
set_option maxRecDepth 100000
set_option linter.unusedSimpArgs false
noncomputable def foB (M : List (List Int)) (A : List Int) : Bool := cpB M A && (fuR M A []).2.2
theorem foB_no {M : List (List Int)} {A : List Int} (h : cpB M A = false) : foB M A = false := by unfold foB; rw [h]; rfl
theorem foB_yes {M : List (List Int)} {A : List Int} (h : cpB M A = true) : foB M A = (fuR M A []).2.2 := by unfold foB; rw [h]; rfl
noncomputable def mcL (M : List (List Int)) (A : List Int) : List Int := if foB M A then toL A.length (fun i => ctF (fuR M A []).1 i (fuR M A []).1.length) else []
theorem mcL_no {M : List (List Int)} {A : List Int} (h : foB M A = false) : mcL M A = [] := by unfold mcL; rw [h]; rfl
theorem mcL_yes {M : List (List Int)} {A : List Int} (h : foB M A = true) : mcL M A = toL A.length (fun i => ctF (fuR M A []).1 i (fuR M A []).1.length) := by unfold mcL; rw [if_pos h]
theorem mcL_len (M : List (List Int)) (A : List Int) : (mcL M A).length < 1000000000 := by
  cases h : foB M A
  · rw [mcL_no h]; simp
  · rw [mcL_yes h, toL_len]
    have h1 : cpB M A = true := by unfold foB at h; rw [Bool.and_eq_true] at h; exact h.1
    have := (cpB_iff.1 h1).n5
    omega
/-- The moves of a full run: places, at most 60 of them. -/
theorem fuR_in {M : List (List Int)} {A : List Int} (h : cpB M A = true) (ch : List Int) : (fuR M A ch).1.length ≤ 60 ∧ ∀ k, k < (fuR M A ch).1.length → 0 ≤ (fuR M A ch).1[k]?.getD 0 ∧ (fuR M A ch).1[k]?.getD 0 < (A.length : Int) := by
  have hp := cpB_iff.1 h
  have hL : LnOk A.length (plL M A) := by have := pl_ln M A; rwa [plN_yes hp] at this
  have hA : AtOk A.length (atN A) 30 := by have := pl_at M A; rwa [plN_yes hp, plA_fun hp] at this
  obtain ⟨_, h2, h3⟩ := frF_ok hL (ch := ch) (f := 60) (k := 0) hA
  refine ⟨h2, fun k hk => ?_⟩
  have h4 := h3 ((fuR M A ch).1[k]) (List.getElem_mem hk)
  rw [List.getElem?_eq_getElem hk, Option.getD_some]
  omega
theorem frC_first {P Q : List Int} (hP : P.length = 31) (v : Value) : (frC P Q v)[0]? = some (.int .i64 (P[0]?.getD 0)) := by
  unfold frC
  rw [Array.getElem?_append_left (by simp [rowV_size, hP]; omega), Array.getElem?_append_left (by simp [rowV_size, hP])]
  unfold rowV
  have h0 : 0 < P.length := by omega
  simp [h0]
attribute [local irreducible] p2 low memB risB
set_option maxHeartbeats 4000000 in
theorem fullRunOf_c (v u : Value) (M : List (List Int)) (A : List Int) (w : World) (hl : rows w.heap.size w v M) (hs : small2 M) (hu : ints w.heap.size w u A) (hlen : A.length < 1000000000) (hT : tab w) :
    Calls Tryd.prog 58 #[.agg #[v, u]] w fun e w' => ∃ xa xc, e = .returned (.tuple #[.agg (if foB M A then frC (plR (plN M A) (plL M A) (plA M A)) (plR (plN M A) (plL M A) (fuR M A []).2.1) (.slice xa (fuR M A []).1.length xc) else frC (plR 0 zL zA) (plR 0 zL zA) (.slice none 0 0)), .bool (foB M A)]) ∧ (foB M A = true → own 3 w' w.heap.size (.slice xa (fuR M A []).1.length xc) (fuR M A []).1) ∧ Below w.heap.size w w' := by
  have hb0 := ((Below.refl w.heap.size w).alloc (Nat.le_refl _) (.cells #[v, u] 29)).alloc (by simp) (.cells (frC (plR 0 zL zA) (plR 0 zL zA) (.slice none 0 0)) 71)
  have HB0 := hide hb0
  have HZ0 := hide (show ((w.alloc (.cells #[v, u] 29)).alloc (.cells (frC (plR 0 zL zA) (plR 0 zL zA) (.slice none 0 0)) 71)).heap[w.heap.size + 1]? = some (.cells (frC (plR 0 zL zA) (plR 0 zL zA) (.slice none 0 0)) 71) by have h := hp_last (w.alloc (.cells #[v, u] 29)) (.cells (frC (plR 0 zL zA) (plR 0 zL zA) (.slice none 0 0)) 71); simpa using h)
  have hz0 : ((w.alloc (.cells #[v, u] 29)).alloc (.cells (frC (plR 0 zL zA) (plR 0 zL zA) (.slice none 0 0)) 71)).heap.size = w.heap.size + 2 := by simp
  have HG := hide (pilesOf_c v u M A ((w.alloc (.cells #[v, u] 29)).alloc (.cells (frC (plR 0 zL zA) (plR 0 zL zA) (.slice none 0 0)) 71)) (((hl.alloc _).alloc _).mono (by simp; omega)) hs (((hu.alloc _).alloc _).mono (by simp; omega)) hlen)
  have HLN := hide (pl_ln M A)
  have HAT := hide (pl_at M A)
  have HT := hide hT
  have HFS0 := hide (fun (P Q : List Int) (x : Value) (hP : P.length = 31) (hQ : Q.length = 31) => show (Tryd.prog.info? 71).map (·.size) = some (frC P Q x).size by rw [frC_size hP hQ]; exact sizeFR)
  have HFC0 := hide (frC_one (plR 0 zL zA) (plR 0 zL zA) none 0 0)
  clear hl hu hT hb0
  cases hc : cpB M A
  · rw [foB_no hc]
    rw [hc] at HG
    clear hc
    simp only [Bool.false_eq_true, if_false]
    generalize plN M A = n at *
    generalize plL M A = L at *
    generalize plA M A = a at *
    go_enter Tryd.func58, Tryd.ntmps58
    go_wp2_with (first
      | (refine wpList_alloc_csY zeroFR rfl rfl _ (by first | (simp only [World.size_alloc]; rfl) | rfl) ?_)
      | (go_at_call 44; refine HG.out.mono ?_; rintro e w2 ⟨rfl, hb2⟩; have hz2 := hb2.size; rw [hz0] at hz2; have hb3 := bl_row ((Below.refl w2.heap.size w2).alloc (Nat.le_refl _) (.cells (rowV (plR 0 zL zA)) 55)) (Nat.le_refl _) (rowV (plR n L a)); have HZ3 := hide ((hb3.block (w.heap.size + 1) (by omega)).trans ((hb2.block (w.heap.size + 1) (by rw [hz0]; omega)).trans HZ0.out)); have HB2 := hide ((HB0.out.trans (hb2.mono (by rw [hz0]; omega))).trans (hb3.mono (by omega))); have HK2 := hide (pkAt.new w2 0 zL zA); have HK3 := hide ((pkAt.new w2 0 zL zA).row (m := n) (K := L) (b := a)); have HZ4 := hide (show ((w2.alloc (.cells (rowV (plR 0 zL zA)) 55)).setRow w2.heap.size (rowV (plR n L a))).heap.size = w2.heap.size + 1 by simp [World.setRow]); clear hb2 hb3)
      | (refine wpList_alloc_csY zeroPK rfl rfl _ rfl ?_)
      | (refine wpList_store_csY (sizePKl n L a) rfl (.tmp 4) (.tmp _) rfl w2.heap.size rfl rfl _ HK2.out (by simp [rowV, plR_len]) (rowV_one _) ?_)
      | (refine wpList_buildY rfl rfl _ builtFR0 ?_)
      | (refine wpList_store_csY (cs := frC (plR 0 zL zA) (plR 0 zL zA) (.slice none 0 0)) (HFS0.out _ _ _ (plR_len _ _ _) (plR_len _ _ _)) rfl (.tmp 2) (.tmp _) rfl (w.heap.size + 1) rfl rfl _ HZ3.out rfl HFC0.out ?_))
    refine (show bodyPost _ _ _ Exit.ret _ _ from ?_)
    exact bodyPost_ret (v := .tuple #[.agg (frC (plR 0 zL zA) (plR 0 zL zA) (.slice none 0 0)), .bool false]) (results_cs2Y (cs := frC (plR 0 zL zA) (plR 0 zL zA) (.slice none 0 0)) rowFR (HFS0.out _ _ _ (plR_len _ _ _) (plR_len _ _ _)) (fn := Tryd.f58) (p := 2) (q := 3) rfl _ _ (w.heap.size + 1) rfl (hp_row _ _ _ _ _ HZ3.out)) rfl ⟨none, 0, rfl, (fun h => by cases h), bl_row HB2.out (by omega) _⟩
  · have HFP := hide (fuR_pl hc [])
    rw [foB_yes hc, ← HFP.out]
    rw [hc] at HG
    clear hc
    generalize plN M A = n at *
    generalize plL M A = L at *
    generalize plA M A = a at *
    have HFR := hide (fun w1 (h : Below w.heap.size w w1) => fullRun_c n L a none 0 [] w1 HLN.out HAT.out (ints_nilY _ _) (by simp) (fun k hk => by simp at hk) (HT.out.below h))
    generalize frF n L [] 60 0 a = R at *
    obtain ⟨R1, b, ok⟩ := R
    simp only at HFR ⊢
    cases ok
    all_goals
      first | simp only [Bool.false_eq_true, if_false] at HFR ⊢ | simp only [if_true] at HFR ⊢
      go_enter Tryd.func58, Tryd.ntmps58
      go_wp2_with (first
        | (refine wpList_alloc_csY zeroFR rfl rfl _ (by first | (simp only [World.size_alloc]; rfl) | rfl) ?_)
        | (go_at_call 44; refine HG.out.mono ?_; rintro e w2 ⟨rfl, hb2⟩; have hz2 := hb2.size; rw [hz0] at hz2; have hb3 := bl_row ((Below.refl w2.heap.size w2).alloc (Nat.le_refl _) (.cells (rowV (plR 0 zL zA)) 55)) (Nat.le_refl _) (rowV (plR n L a)); have HZ3 := hide ((hb3.block (w.heap.size + 1) (by omega)).trans ((hb2.block (w.heap.size + 1) (by rw [hz0]; omega)).trans HZ0.out)); have HB2 := hide ((HB0.out.trans (hb2.mono (by rw [hz0]; omega))).trans (hb3.mono (by omega))); have HK2 := hide (pkAt.new w2 0 zL zA); have HK3 := hide ((pkAt.new w2 0 zL zA).row (m := n) (K := L) (b := a)); have HZ4 := hide (show ((w2.alloc (.cells (rowV (plR 0 zL zA)) 55)).setRow w2.heap.size (rowV (plR n L a))).heap.size = w2.heap.size + 1 by simp [World.setRow]); clear hb2 hb3)
        | (refine wpList_alloc_csY zeroPK rfl rfl _ rfl ?_)
        | (refine wpList_store_csY (sizePKl n L a) rfl (.tmp 4) (.tmp _) rfl w2.heap.size rfl rfl _ HK2.out (by simp [rowV, plR_len]) (rowV_one _) ?_)
        | (refine wpList_load_csY rowPK (sizePKl n L a) rfl (.tmp 4) rfl w2.heap.size rfl HK3.out ?_)
        | fail)
      refine (HFR.out _ HB2.out).mono ?_
      rintro e w4 ⟨xv, rfl, ho4, hb4⟩
      obtain ⟨xa, xc, hxv⟩ := ho4.shape
      subst hxv
      have hz4 := hb4.size
      rw [HZ4.out] at hz4
      have HO4 := hide ho4
      have HZ5 := hide ((hb4.block (w.heap.size + 1) (by rw [HZ4.out]; omega)).trans HZ3.out)
      have HB4 := hide (HB2.out.trans (hb4.mono (by rw [HZ4.out]; omega)))
      clear hb4 ho4
    · go_wp2_with (first
        | (refine wpList_store_csY (cs := frC (plR 0 zL zA) (plR 0 zL zA) (.slice none 0 0)) (HFS0.out _ _ _ (plR_len _ _ _) (plR_len _ _ _)) rfl (.tmp 2) (.tmp _) rfl (w.heap.size + 1) rfl rfl _ HZ5.out rfl HFC0.out ?_))
      refine (show bodyPost _ _ _ Exit.ret _ _ from ?_)
      exact bodyPost_ret (v := .tuple #[.agg (frC (plR 0 zL zA) (plR 0 zL zA) (.slice none 0 0)), .bool false]) (results_cs2Y (cs := frC (plR 0 zL zA) (plR 0 zL zA) (.slice none 0 0)) rowFR (HFS0.out _ _ _ (plR_len _ _ _) (plR_len _ _ _)) (fn := Tryd.f58) (p := 2) (q := 3) rfl _ _ (w.heap.size + 1) rfl (hp_row _ _ _ _ _ HZ5.out)) rfl ⟨none, 0, rfl, (fun h => by cases h), bl_row HB4.out (by omega) _⟩
    · go_wp2_with (first
        | (refine wpList_store_csY (cs := frC (plR n L a) (plR n L b) (.slice xa R1.length xc)) (HFS0.out _ _ _ (plR_len _ _ _) (plR_len _ _ _)) rfl (.tmp 2) (.tmp _) rfl (w.heap.size + 1) rfl rfl _ HZ5.out (by rw [frC_size (plR_len _ _ _) (plR_len _ _ _), frC_size (plR_len _ _ _) (plR_len _ _ _)]) (frC_one _ _ _ _ _) ?_))
      refine (show bodyPost _ _ _ Exit.ret _ _ from ?_)
      refine bodyPost_ret (v := .tuple #[.agg (frC (plR n L a) (plR n L b) (.slice xa R1.length xc)), .bool true]) (results_cs2Y (cs := frC (plR n L a) (plR n L b) (.slice xa R1.length xc)) rowFR (HFS0.out _ _ _ (plR_len _ _ _) (plR_len _ _ _)) (fn := Tryd.f58) (p := 2) (q := 3) rfl _ _ (w.heap.size + 1) rfl (hp_row _ _ _ _ _ HZ5.out)) rfl ⟨xa, xc, rfl, ?_, bl_row HB4.out (by omega) _⟩
      exact (HO4.out.same fun k hk => hp_rowO w4 (w.heap.size + 1) k _ (by rw [HZ4.out] at hk; omega)).mono (by rw [HZ4.out]; omega)
end Go.Proofs.YtjmhmmenampgbaaDoor
