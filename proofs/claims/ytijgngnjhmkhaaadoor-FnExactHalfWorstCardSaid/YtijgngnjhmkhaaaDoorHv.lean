/- Contracts: the worst run of a strategy; HalfRun and HalfWorst, the program's and the specification's. -/
import Derived.Test.YtijgngnjhmkhaaaDoorHs
import Derived.Test.YtijgngnjhmkhaaaDoorHt
import Derived.Test.YtijgngnjhmkhaaaDoorFr
namespace Go.Proofs.YtijgngnjhmkhaaaDoor
open Go.RowKit
set_option maxRecDepth 100000
set_option linter.unusedSimpArgs false
section
variable {P : Program} {T : TypeId} {cs : Array Value}
theorem wpList_load_csV (hT : (P.underlying T).map TypeDesc.isRow = some true) (hS : (P.info? T).map (·.size) = some cs.size)
    {ops : Array Oper} {rest : List Oper} {o : Oper} {a : Act} {w : World} {Q : Exit → Act → World → Prop} (hw : Region.wanted o (yielded ops a.tmps) = true) (x : Operand) (ho : o.op = .load T x)
    (g : Nat) (hx : a.eval x = .pointer (some ⟨g, 0, none⟩)) (hg : w.heap[g]? = some (.cells cs T))
    (h : wpList P ops Q rest (a.put o.dst (.agg cs)) w) : wpList P ops Q (o :: rest) a w := by
  obtain ⟨d, hu, hd⟩ := rowTy_of hT
  exact wpList_of_wp hw fun _ hK => wp_load_row T x ho g hx T cs (0, 0) d hg hu (by cases d <;> first | rfl | (cases hd)) hS (hK _ _ h)
end
/-- Of the first k sets, the first one with the longest run, and its length. -/
def wsTo (f : Nat → Nat) (L : List Int) : Nat → Int × Nat
  | 0 => (0, 0)
  | k + 1 => if (wsTo f L k).2 < f (nth L k) then (L[k]?.getD 0, f (nth L k)) else wsTo f L k
theorem ws_yes {f : Nat → Nat} {L : List Int} {k : Nat} (h : (wsTo f L k).2 < f (nth L k)) : wsTo f L (k + 1) = (L[k]?.getD 0, f (nth L k)) := by rw [wsTo, if_pos h]
theorem ws_no {f : Nat → Nat} {L : List Int} {k : Nat} (h : ¬ (wsTo f L k).2 < f (nth L k)) : wsTo f L (k + 1) = wsTo f L k := by rw [wsTo, if_neg h]
theorem ws_mx (f : Nat → Nat) (L : List Int) (k : Nat) : ((wsTo f L (k + 1)).2 : Int) = mxH ((wsTo f L k).2 : Int) (f (nth L k) : Int) := by
  unfold mxH
  by_cases h : (wsTo f L k).2 < f (nth L k)
  · rw [ws_yes h, if_pos (by omega)]
  · rw [ws_no h, if_neg (by omega)]
theorem ws_le {f : Nat → Nat} {L : List Int} (hf : ∀ s, f s ≤ 128) : ∀ k, (wsTo f L k).2 ≤ 128
  | 0 => by simp [wsTo]
  | k + 1 => by
    by_cases h : (wsTo f L k).2 < f (nth L k)
    · rw [ws_yes h]; exact hf _
    · rw [ws_no h]; exact ws_le hf k
/-- The run of a strategy through a space, and the worst of its runs. -/
def ruL (q : Nat → (Nat → Bool) → Nat) (n : Int) (l : List Int) (x : Int) : List Int := if okOne n l x then rnL n.toNat (q n.toNat) x.toNat 128 (marksTo l l.length) else []
def ruN (m : Nat) (q : Nat → (Nat → Bool) → Nat) (F : Nat → Bool) (s : Nat) : Nat := (rnL m (q m) s 128 F).length
def wrP (q : Nat → (Nat → Bool) → Nat) (n : Int) (l : List Int) : Int × Nat := if okSp n l then wsTo (ruN n.toNat q (marksTo l l.length)) l l.length else (0, 0)
theorem ruN_le (m : Nat) (q : Nat → (Nat → Bool) → Nat) (F : Nat → Bool) (s : Nat) : ruN m q F s ≤ 128 := rnL_len _ _ _ _ _
theorem ruL_len (q : Nat → (Nat → Bool) → Nat) (n : Int) (l : List Int) (x : Int) : (ruL q n l x).length < 1000000000 := by
  unfold ruL
  split
  · have := rnL_len n.toNat (q n.toNat) x.toNat 128 (marksTo l l.length); omega
  · simp
theorem op_none : opN 0 noSet = 0 := (opN_zero (by omega) (fun x h => by cases h)).2 (by unfold cntS; rw [sets_noneH]; simp)
theorem ru_prog (q : Nat → (Nat → Bool) → Nat) (n : Int) (l : List Int) (x : Int) : ∃ (N : Nat) (F : Nat → Bool) (S : Nat) (b : Bool), famVal3 n l x = .tuple #[.agg (fam (N : Int) F), .int .i64 (S : Int), .bool b] ∧ N ≤ 7 ∧ S < 128 ∧ okOne n l x = b ∧
    ruL q n l x = rnL N (q N) S 128 F ∧ (∀ y, F y = true → y ≤ low N) := by
  cases hok : okOne n l x
  · exact ⟨0, noSet, 0, false, famVal3_no n l x hok, by omega, by omega, rfl, by unfold ruL; rw [hok, rnL_end op_none]; rfl, fun y h => by (cases h)⟩
  · obtain ⟨hi0, hi1⟩ := okSet_in (okOne_set hok)
    obtain ⟨hn1, hn2⟩ := okSp_n (okOne_sp hok)
    have hlo := low_lt n.toNat (by omega)
    obtain ⟨N, rfl⟩ := Int.eq_ofNat_of_zero_le (show 0 ≤ n by omega)
    obtain ⟨S, rfl⟩ := Int.eq_ofNat_of_zero_le hi0
    rw [Int.toNat_natCast] at hlo hi1
    refine ⟨N, marksTo l l.length, S, true, famVal3_yes _ l _ hok, by omega, by omega, rfl, ?_, fun y h => ?_⟩
    · unfold ruL; rw [if_pos hok, Int.toNat_natCast, Int.toNat_natCast]
    · have := marks_low (okOne_sp hok) y h; rwa [Int.toNat_natCast] at this
theorem wr_prog (q : Nat → (Nat → Bool) → Nat) (n : Int) (l : List Int) : ∃ (N : Nat) (F : Nat → Bool) (b : Bool), famVal n l = .tuple #[.agg (fam (N : Int) F), .bool b] ∧ N ≤ 7 ∧ okSp n l = b ∧ wrP q n l = wsTo (ruN N q F) (setsTo F 128) (setsTo F 128).length ∧ (∀ y, F y = true → y ≤ low N) := by
  cases hok : okSp n l
  · exact ⟨0, noSet, false, famVal_no n l hok, by omega, rfl, by unfold wrP; rw [hok, sets_noneH]; rfl, fun y h => by (cases h)⟩
  · have hn := okSp_n hok
    obtain ⟨N, rfl⟩ := Int.eq_ofNat_of_zero_le (show 0 ≤ n by omega)
    refine ⟨N, marksTo l l.length, true, famVal_yes _ l hok, by omega, rfl, ?_, fun y h => ?_⟩
    · unfold wrP; rw [if_pos hok, Int.toNat_natCast, ← okSp_list hok]
    · have := marks_low hok y h; rwa [Int.toNat_natCast] at this
attribute [local irreducible] p2 low memB risB famAt own
set_option maxHeartbeats 8000000 in
theorem worst_c (m : Nat) (F0 : Nat → Bool) (kf : Nat) (pre caps : Array Value) (q : Nat → (Nat → Bool) → Nat) (J : World → Prop) (o : Option Nat) (w : World)
    (hm7 : m ≤ 7) (hF0 : ∀ x, F0 x = true → x ≤ low m) (hk : enters Tryd.prog kf) (ho : ∀ b, o = some b → b < w.heap.size)
    (hJ : J w) (hJB : ∀ w1 w2, J w1 → Below w.heap.size w1 w2 → J w2)
    (hcl : ∀ (F : Nat → Bool) (w1 : World), (∀ x, F x = true → x ≤ low m) → opN m F ≠ 0 → J w1 → Blx o w.heap.size w w1 → Calls Tryd.prog kf (pre ++ #[.agg (fam (m : Int) F)] ++ caps) w1 fun e w2 => e = .returned (.int .i64 (q m F : Int)) ∧ J w2 ∧ Blx o w1.heap.size w1 w2)
    (hq : ∀ F, (∀ x, F x = true → x ≤ low m) → opN m F ≠ 0 → (opN m F).testBit (q m F) = true) :
    Calls Tryd.prog 48 #[.agg #[.func (.func kf) pre caps], .agg (fam (m : Int) F0)] w fun e w' => e = .returned (.tuple #[.int .i64 (wsTo (ruN m q F0) (setsTo F0 128) (setsTo F0 128).length).1, .int .i64 ((wsTo (ruN m q F0) (setsTo F0 128) (setsTo F0 128).length).2 : Int)]) ∧ J w' ∧ Blx o w.heap.size w w' := by
  have hb0 := ((Below.refl w.heap.size w).alloc (Nat.le_refl _) (.cells #[.func (.func kf) pre caps] 51)).alloc (by simp) (.cells (fam (m : Int) F0) 46)
  have HJB := hide hJB
  have HCL := hide hcl
  have HO0 := hide ho
  have HJ0 := hide (hJB _ _ hJ hb0)
  have HB0 := hide (Blx.of (o := o) hb0)
  have HK0 := hide (show famAt 46 ((w.alloc (.cells #[.func (.func kf) pre caps] 51)).alloc (.cells (fam (m : Int) F0) 46)) (w.heap.size + 1) (m : Int) F0 by have h := famAt.new 46 (w.alloc (.cells #[.func (.func kf) pre caps] 51)) (m : Int) F0; simpa using h)
  have HS0 := hide (show ((w.alloc (.cells #[.func (.func kf) pre caps] 51)).alloc (.cells (fam (m : Int) F0) 46)).heap[w.heap.size]? = some (.cells #[.func (.func kf) pre caps] 51) from (hp_old _ _ _ (by simp)).trans (hp_last _ _))
  have HZ0 := hide (show ((w.alloc (.cells #[.func (.func kf) pre caps] 51)).alloc (.cells (fam (m : Int) F0) 46)).heap.size = w.heap.size + 2 by simp)
  have HSE := hide (fun w1 => sets_c (m : Int) F0 w1)
  have HRG := hide (setsTo_range F0 128)
  have hLn := setsTo_len F0 128
  have HF0 := hide hF0
  have HRUN := hide (show ∀ (s : Nat) (wr : World), s < 128 → w.heap.size ≤ wr.heap.size → J wr → Blx o w.heap.size w wr → Calls Tryd.prog 44 #[.agg #[.func (.func kf) pre caps], .agg (fam (m : Int) F0), .int .i64 (s : Int)] wr fun e w' => ∃ v, e = .returned v ∧ own 3 w' wr.heap.size v (rnL m (q m) s 128 F0) ∧ J w' ∧ Blx o wr.heap.size wr w' from
    fun s wr hs hsz hj hb => run_c m F0 s kf pre caps (q m) J o wr hm7 hF0 hs hk (fun b h => by have := ho b h; omega) hj (fun w1 w2 h1 h2 => hJB w1 w2 h1 (h2.mono hsz)) (fun F w1 h1 h2 h3 h4 => hcl F w1 h1 h2 h3 (hb.trans (h4.mono hsz))) hq)
  have HFN := hide (fun s => show (rnL m (q m) s 128 F0).length = ruN m q F0 s from rfl)
  have HFL := hide (fun s => ruN_le m q F0 s)
  have HWL := hide (fun k => ws_le (f := ruN m q F0) (L := setsTo F0 128) (ruN_le m q F0) k)
  clear hJ hJB hcl hq ho hb0 hF0
  generalize setsTo F0 128 = L at *
  generalize ruN m q F0 = f at *
  go_enter Tryd.func48, Tryd.ntmps48
  go_wp2_with (first
    | (refine wpList_load_fam rowT sizeT rfl (.tmp 3) rfl (w.heap.size + 1) rfl (m : Int) F0 HK0.out ?_)
    | (go_at_call 77; refine (HSE.out _).mono ?_; rintro e w2 ⟨v2, rfl, ho2, hb2⟩; have hz2 := hb2.size; rw [HZ0.out] at hz2 hb2 ho2; have HO2 := hide ho2; have HK2 := hide (HK0.out.below hb2 (by omega)); have HS2 := hide ((hb2.block w.heap.size (by omega)).trans HS0.out); have HJ2 := hide (HJB.out _ _ HJ0.out (hb2.mono (by omega))); have HB2 := hide (HB0.out.trans (Blx.of (hb2.mono (by omega)))); clear ho2 hb2)
    | (refine wpList_len sliceT rfl (.tmp _) rfl _ rfl w2.heap.size L HO2.out.ints ?_))
  go_loopw [6, 7, 14] (fun a b i wr => ∃ k : Nat, k ≤ L.length ∧ i = .int .i64 (k : Int) ∧ a = .int .i64 (wsTo f L k).1 ∧ b = .int .i64 ((wsTo f L k).2 : Int) ∧ Hid (own 3 wr (w.heap.size + 2) v2 L) ∧ Hid (famAt 46 wr (w.heap.size + 1) (m : Int) F0) ∧ Hid (wr.heap[w.heap.size]? = some (.cells #[.func (.func kf) pre caps] 51)) ∧ Hid (J wr) ∧ Hid (w.heap.size + 2 ≤ wr.heap.size) ∧ Hid (Blx o w.heap.size w wr)) (fun _ _ i _ => L.length - (intOf i).toNat)
  case atStart => exact ⟨0, Nat.zero_le _, rfl, rfl, rfl, HO2, HK2, HS2, HJ2, hide (by omega), HB2⟩
  case round =>
    clear HK2 HS2 HJ2 HB2 HO2 HK0 HS0 HJ0 HB0
    obtain ⟨k, hk, rfl, rfl, rfl, HO, HK, HS, HJ, HZ, HB⟩ := hrel
    have hz := HZ.out
    by_cases hlt : k < L.length
    · have hr := HRG.out k hlt
      have hx : L[k]?.getD 0 = (nth L k : Int) := by unfold nth; rw [Int.toNat_of_nonneg hr.1]
      have HX := hide hx
      have hx8 : nth L k < 128 := by rw [hx] at hr; omega
      have HLW := hide HO.out.ints
      have HRN := hide (HRUN.out (nth L k) wr hx8 (by omega) HJ.out HB.out)
      have HLE := hide (HFN.out (nth L k))
      have hfl := HFL.out (nth L k)
      have hwl := HWL.out k
      have HY := hide (fun h => ws_yes (f := f) (L := L) (k := k) h)
      have HN := hide (fun h => ws_no (f := f) (L := L) (k := k) h)
      rw [hx] at HY
      clear hx hr
      generalize nth L k = s at *
      generalize rnL m (q m) s 128 F0 = R at *
      have hRl := HLE.out
      by_cases hc : (wsTo f L k).2 < f s
      · have HW := hide (HY.out hc)
        have hc2 : ((wsTo f L k).2 : Int) < (R.length : Int) := by omega
        generalize hW : wsTo f L (k + 1) = W1 at HW
        generalize wsTo f L k = W0 at *
        have HW1 := hide hW
        have HRL := hide hRl
        clear hW hc HY HN hRl
        obtain ⟨W0a, W0b⟩ := W0
        go_wp2_with (first
          | (refine wpList_at sliceT intS rfl (.tmp _) (.tmp _) rfl _ rfl k rfl wr.heap.size L HLW.out hlt ?_; intro ad hcell hblk; rw [HX.out] at hcell)
          | (refine wpList_load_csV (cs := #[.func (.func kf) pre caps]) rowSt sizeSt rfl (.tmp 2) rfl w.heap.size rfl HS.out ?_)
          | (refine wpList_load_fam rowT sizeT rfl (.tmp 3) rfl (w.heap.size + 1) rfl (m : Int) F0 HK.out ?_)
          | (go_at_call 44; refine HRN.out.mono ?_; rintro e w3 ⟨v3, rfl, ho3, hj3, hb3⟩; have hz3 := hb3.size; have HI3 := hide ho3.ints; have HO3 := hide (HO.out.blx hb3 (fun b hb => by have := HO0.out b hb; omega)); have HK3 := hide (HK.out.blx hb3 (by omega) (fun e => by have := HO0.out _ e.symm; omega)); have HS3 := hide ((hb3.block w.heap.size (by omega) (fun e => by have := HO0.out _ e.symm; omega)).trans HS.out); have HJ3 := hide hj3; have HB3 := hide (HB.out.trans (hb3.mono (by omega))); clear ho3 hj3 hb3)
          | (refine wpList_len sliceT rfl (.tmp _) rfl _ rfl w3.heap.size R HI3.out ?_)
          )
        go_roundw
        case rel => exact ⟨k + 1, by omega, by go_num, by rw [HW1.out, HW.out], by rw [HW1.out, HW.out, HRL.out], HO3, HK3, HS3, HJ3, hide (by omega), HB3⟩
        case measure => (simp [intOf] <;> omega)
      · have HW := hide (HN.out hc)
        have hc2 : ¬ ((wsTo f L k).2 : Int) < (R.length : Int) := by omega
        generalize hW : wsTo f L (k + 1) = W1 at HW
        generalize wsTo f L k = W0 at *
        have HW1 := hide hW
        have HRL := hide hRl
        clear hW hc HY HN hRl
        obtain ⟨W0a, W0b⟩ := W0
        go_wp2_with (first
          | (refine wpList_at sliceT intS rfl (.tmp _) (.tmp _) rfl _ rfl k rfl wr.heap.size L HLW.out hlt ?_; intro ad hcell hblk; rw [HX.out] at hcell)
          | (refine wpList_load_csV (cs := #[.func (.func kf) pre caps]) rowSt sizeSt rfl (.tmp 2) rfl w.heap.size rfl HS.out ?_)
          | (refine wpList_load_fam rowT sizeT rfl (.tmp 3) rfl (w.heap.size + 1) rfl (m : Int) F0 HK.out ?_)
          | (go_at_call 44; refine HRN.out.mono ?_; rintro e w3 ⟨v3, rfl, ho3, hj3, hb3⟩; have hz3 := hb3.size; have HI3 := hide ho3.ints; have HO3 := hide (HO.out.blx hb3 (fun b hb => by have := HO0.out b hb; omega)); have HK3 := hide (HK.out.blx hb3 (by omega) (fun e => by have := HO0.out _ e.symm; omega)); have HS3 := hide ((hb3.block w.heap.size (by omega) (fun e => by have := HO0.out _ e.symm; omega)).trans HS.out); have HJ3 := hide hj3; have HB3 := hide (HB.out.trans (hb3.mono (by omega))); clear ho3 hj3 hb3)
          | (refine wpList_len sliceT rfl (.tmp _) rfl _ rfl w3.heap.size R HI3.out ?_)
          )
        go_roundw
        case rel => exact ⟨k + 1, by omega, by go_num, by rw [HW1.out, HW.out], by rw [HW1.out, HW.out], HO3, HK3, HS3, HJ3, hide (by omega), HB3⟩
        case measure => (simp [intOf] <;> omega)
    · have HJJ := hide (show k = L.length by omega)
      have hlt' : ¬ ((k : Int) < (L.length : Int)) := by omega
      go_wp2
      go_ret2
      exact ⟨by rw [← HJJ.out]; rfl, HJ.out, HB.out⟩
theorem ent_run : enters Tryd.prog 44 := enters_of Tryd.func44 (by kernel_rfl) (by kernel_rfl)
theorem ent_worst : enters Tryd.prog 48 := enters_of Tryd.func48 (by kernel_rfl) (by kernel_rfl)
/-- The run of the halving strategy, the program's. -/
theorem halfRun_c (m : Nat) (F0 : Nat → Bool) (S : Nat) (w : World) (hm7 : m ≤ 7) (hF0 : ∀ x, F0 x = true → x ≤ low m) (hS : S < 128) (hT : tab w) :
    Calls Tryd.prog 44 #[.agg #[.func (.func 61) #[] #[]], .agg (fam (m : Int) F0), .int .i64 (S : Int)] w fun e w' => ∃ v, e = .returned v ∧ own 3 w' w.heap.size v (rnL m (hfI m) S 128 F0) ∧ Below w.heap.size w w' := by
  refine (run_c m F0 S 61 #[] #[] (hfI m) tab none w hm7 hF0 hS ent_half1 (fun b h => by cases h) hT (fun w1 w2 h1 h2 => ?_) (fun F w1 h1 h2 h3 _ => ?_) (fun F h1 h2 => hf_bit hm7 h2)).mono ?_
  · exact h1.belowB hT h2 (Nat.le_refl _)
  · refine (half1_c m F w1 hm7 h1 h2 h3).mono ?_
    rintro e w2 ⟨rfl, hb⟩
    exact ⟨rfl, h3.below hb, Blx.of hb⟩
  · rintro e w' ⟨v, rfl, ho, _, hb⟩
    exact ⟨v, rfl, ho, hb.below⟩
theorem halfWorst_c (m : Nat) (F0 : Nat → Bool) (w : World) (hm7 : m ≤ 7) (hF0 : ∀ x, F0 x = true → x ≤ low m) (hT : tab w) :
    Calls Tryd.prog 48 #[.agg #[.func (.func 61) #[] #[]], .agg (fam (m : Int) F0)] w fun e w' => e = .returned (.tuple #[.int .i64 (wsTo (ruN m hfI F0) (setsTo F0 128) (setsTo F0 128).length).1, .int .i64 ((wsTo (ruN m hfI F0) (setsTo F0 128) (setsTo F0 128).length).2 : Int)]) ∧ Below w.heap.size w w' := by
  refine (worst_c m F0 61 #[] #[] hfI tab none w hm7 hF0 ent_half1 (fun b h => by cases h) hT (fun w1 w2 h1 h2 => ?_) (fun F w1 h1 h2 h3 _ => ?_) (fun F h1 h2 => hf_bit hm7 h2)).mono ?_
  · exact h1.belowB hT h2 (Nat.le_refl _)
  · refine (half1_c m F w1 hm7 h1 h2 h3).mono ?_
    rintro e w2 ⟨rfl, hb⟩
    exact ⟨rfl, h3.below hb, Blx.of hb⟩
  · rintro e w' ⟨rfl, _, hb⟩
    exact ⟨rfl, hb.below⟩
set_option maxHeartbeats 4000000 in
theorem implHalfRun_c (n : Int) (v : Value) (l : List Int) (x : Int) (w : World) (hl : ints w.heap.size w v l) (hlen : l.length < 1000000000) (hT : tab w) :
    Calls Tryd.prog 17 #[.agg #[.int .i64 n, v], .int .i64 x] w fun e w' => ∃ v', e = .returned (.tuple #[v', .bool (okOne n l x)]) ∧ own 3 w' w.heap.size v' (ruL hfI n l x) ∧ Below w.heap.size w w' := by
  have HT := hide hT
  have HL := hide ((hl.alloc (.cells #[.int .i64 n, v] 28)).mono (show w.heap.size ≤ (w.alloc (.cells #[.int .i64 n, v] 28)).heap.size by simp))
  have H0 := hide ((Below.refl w.heap.size w).alloc (Nat.le_refl _) (.cells #[.int .i64 n, v] 28))
  have HZ := hide (show (w.alloc (.cells #[.int .i64 n, v] 28)).heap.size = w.heap.size + 1 by simp)
  obtain ⟨N, F, S, b, hv, hN, hS, hb, hr, hF⟩ := ru_prog hfI n l x
  have HV := hide hv
  have HRU := hide (fun w1 h => halfRun_c N F S w1 hN hF hS h)
  rw [hb, hr]
  clear hl hv hb hr hT hF
  generalize rnL N (hfI N) S 128 F = R at *
  go_enter Tryd.func17, Tryd.ntmps17
  go_wp2_with (first
    | (go_at_call 43; refine (familyAndOwnSet_c n v l x _ HL.out hlen).mono ?_; rw [HV.out]; rintro e w1 ⟨rfl, hb⟩; have hz1 := hb.size; rw [HZ.out] at hz1; have HH := hide ((famAt.new 46 w1 0 noSet).row (N : Int) F); have HB := hide (bl_row ((H0.out.trans (hb.mono (by rw [HZ.out]; omega))).alloc (by omega) (.cells (fam 0 noSet) 46)) (show w.heap.size ≤ w1.heap.size by omega) (fam (N : Int) F)); clear hb)
    | (refine wpList_alloc_fam zeroT rfl rfl _ (by first | (simp only [World.size_alloc]; rfl) | rfl) ?_)
    | (refine wpList_store_fam sizeT rfl (.tmp _) (.tmp _) rfl w1.heap.size _ _ rfl rfl _ _ (famAt.new _ _ _ _) ?_))
  generalize (w1.alloc (.cells (fam 0 noSet) 46)).setRow w1.heap.size (fam (N : Int) F) = W at *
  have hzW := HB.out.size
  refine wp_region_held (S := Below W.heap.size W) (by kernel_rfl) ?_
  have hS0 : Below W.heap.size W { W with drawn := W.drawn + 1 } := (Below.refl _ _).drew
  refine wpAnyH_take (i := 1) rfl (by kernel_rfl) (by kernel_rfl) (by kernel_rfl) (fun _ _ _ h => h) (yields_load_fam rowT sizeT rfl (.tmp _) rfl _ rfl (N : Int) F (fun w' h => HH.out.below h HH.out.lt)) hS0 ?_
  refine wpAnyH_take (i := 2) (v := .int .i64 (S : Int)) rfl (by kernel_rfl) (by kernel_rfl) (by kernel_rfl) (fun _ _ _ h => h) (.inl ⟨rfl, fun w' _ => by go_simp⟩) hS0 ?_
  refine wpAnyH_take (i := 4) (v := .bool b) rfl (by kernel_rfl) (by kernel_rfl) (by kernel_rfl) (fun _ _ _ h => h) (.inl ⟨rfl, fun w' _ => by go_simp⟩) hS0 ?_
  simp only [Act.put, List.getElem_toArray, List.getElem_cons_zero, List.getElem_cons_succ, List.setIfInBounds_toArray, List.set_cons_zero, List.set_cons_succ]
  refine anyH_call (i := 0) (by kernel_rfl) rfl rfl 40 ent_halfStrategy _ _ rfl #[] rfl (halfStrategy_c _) ?_
  rintro e w2 ⟨rfl, hb2⟩
  have hS2 : Below W.heap.size W w2 := hS0.trans (hb2.mono hS0.size)
  refine ⟨_, rfl, hS2, ?_⟩
  simp only [Act.put, List.getElem_toArray, List.getElem_cons_zero, List.getElem_cons_succ, List.setIfInBounds_toArray, List.set_cons_zero, List.set_cons_succ]
  refine anyH_call (i := 3) (by kernel_rfl) rfl rfl 44 ent_run _ _ rfl #[.agg #[.func (.func 61) #[] #[]], .agg (fam (N : Int) F), .int .i64 (S : Int)] rfl (HRU.out w2 ((HT.out.below HB.out).below hS2)) ?_
  rintro e w3 ⟨v3, rfl, ho3, hb3⟩
  have hS3 : Below W.heap.size W w3 := hS2.trans (hb3.mono hS2.size)
  refine ⟨_, rfl, hS3, ?_⟩
  simp only [Act.put, List.getElem_toArray, List.getElem_cons_zero, List.getElem_cons_succ, List.setIfInBounds_toArray, List.set_cons_zero, List.set_cons_succ]
  refine anyH_op (i := 5) (by kernel_rfl) rfl rfl v3 w3 (by simp [go_sem]) hS3 ?_
  refine anyH_op (i := 6) (by kernel_rfl) rfl rfl (.bool b) w3 (by simp [go_sem]) hS3 ?_
  refine wpAnyH_done (by kernel_rfl) ?_ _
  simp only [Act.put, List.getElem_toArray, List.getElem_cons_zero, List.getElem_cons_succ, List.setIfInBounds_toArray, List.set_cons_zero, List.set_cons_succ]
  have HB3 := hide (HB.out.trans (hS3.mono hzW))
  have HO3 := hide (show own 3 w3 w.heap.size v3 _ from ho3.mono (by have := hS2.size; omega))
  clear hS0 hS3 hb3 ho3 hS2 hb2
  go_wp2
  go_ret2
  exact ⟨_, rfl, HO3.out, HB3.out⟩
def hwR (n : Int) (l : List Int) : Int := ((wrP hfI n l).2 : Int)
set_option maxHeartbeats 4000000 in
theorem implHalfWorst_c (n : Int) (v : Value) (l : List Int) (w : World) (hl : ints w.heap.size w v l) (hlen : l.length < 1000000000) (hT : tab w) :
    Calls Tryd.prog 23 #[.agg #[.int .i64 n, v]] w fun e w' => e = .returned (.tuple #[.int .i64 (hwR n l), .bool (okSp n l)]) ∧ Below w.heap.size w w' := by
  have HT := hide hT
  have HL := hide ((hl.alloc (.cells #[.int .i64 n, v] 28)).mono (show w.heap.size ≤ (w.alloc (.cells #[.int .i64 n, v] 28)).heap.size by simp))
  have H0 := hide ((Below.refl w.heap.size w).alloc (Nat.le_refl _) (.cells #[.int .i64 n, v] 28))
  have HZ := hide (show (w.alloc (.cells #[.int .i64 n, v] 28)).heap.size = w.heap.size + 1 by simp)
  obtain ⟨N, F, b, hv, hN, hb, hr, hF⟩ := wr_prog hfI n l
  have HV := hide hv
  have HWO := hide (fun w1 h => halfWorst_c N F w1 hN hF h)
  have hwr : hwR n l = ((wsTo (ruN N hfI F) (setsTo F 128) (setsTo F 128).length).2 : Int) := by unfold hwR; rw [hr]
  rw [hb, hwr]
  clear hl hv hb hr hT hF hwr
  generalize (wsTo (ruN N hfI F) (setsTo F 128) (setsTo F 128).length) = R at *
  obtain ⟨Ra, Rb⟩ := R
  go_enter Tryd.func23, Tryd.ntmps23
  go_wp2_with (first
    | (go_at_call 47; refine (familyOf_c n v l _ HL.out hlen).mono ?_; rw [HV.out]; rintro e w1 ⟨rfl, hb⟩; have hz1 := hb.size; rw [HZ.out] at hz1; have HH := hide ((famAt.new 46 w1 0 noSet).row (N : Int) F); have HB := hide (bl_row ((H0.out.trans (hb.mono (by rw [HZ.out]; omega))).alloc (by omega) (.cells (fam 0 noSet) 46)) (show w.heap.size ≤ w1.heap.size by omega) (fam (N : Int) F)); clear hb)
    | (refine wpList_alloc_fam zeroT rfl rfl _ (by first | (simp only [World.size_alloc]; rfl) | rfl) ?_)
    | (refine wpList_store_fam sizeT rfl (.tmp _) (.tmp _) rfl w1.heap.size _ _ rfl rfl _ _ (famAt.new _ _ _ _) ?_))
  generalize (w1.alloc (.cells (fam 0 noSet) 46)).setRow w1.heap.size (fam (N : Int) F) = W at *
  refine wp_region_old (by kernel_rfl) (by kernel_rfl) ?_
  refine q_callH rfl 40 ent_halfStrategy _ _ rfl #[] rfl (.agg #[.func (.func 61) #[] #[]]) (fun w' _ => halfStrategy_c w') ?_
  simp only [Act.put, List.setIfInBounds_toArray, List.set_cons_zero, List.set_cons_succ]
  refine q_load_fam rowT sizeT rfl (.tmp _) rfl w1.heap.size rfl (N : Int) F (fun w' h => HH.out.below h HH.out.lt) ?_
  simp only [Act.put, List.setIfInBounds_toArray, List.set_cons_zero, List.set_cons_succ]
  refine q_callH rfl 48 ent_worst _ _ rfl #[.agg #[.func (.func 61) #[] #[]], .agg (fam (N : Int) F)] rfl (.tuple #[.int .i64 Ra, .int .i64 (Rb : Int)]) (fun w' h => HWO.out w' ((HT.out.below HB.out).below h)) ?_
  simp only [Act.put, List.setIfInBounds_toArray, List.set_cons_zero, List.set_cons_succ]
  repeat (first | go_big_quiet_skip | go_big_quiet_step ((first | exact fun _ => rfl | exact fun _ => ⟨rfl, rfl⟩)))
  refine wpQuiet_nil ?_
  intro w2 hb2
  have HB2 := hide (HB.out.trans (hb2.mono HB.out.size))
  clear hb2
  go_wp2
  go_ret2
  exact ⟨rfl, HB2.out⟩
set_option maxHeartbeats 4000000 in
theorem specHalfRunD_c (n : Int) (v : Value) (l : List Int) (x : Int) (w : World) (hl : ints w.heap.size w v l) (hlen : l.length < 1000000000) (_ : tab w) :
    Calls Tryd.prog 16 #[.agg #[.int .i64 n, v], .int .i64 x] w fun e w' => ∃ v', e = .returned (.tuple #[v', .bool (okOne n l x)]) ∧ own 3 w' w.heap.size v' (ruL hfI n l x) ∧ Below w.heap.size w w' := by
  have HL := hide ((hl.alloc (.cells #[.int .i64 n, v] 28)).mono (show w.heap.size ≤ (w.alloc (.cells #[.int .i64 n, v] 28)).heap.size by simp))
  have H0 := hide ((Below.refl w.heap.size w).alloc (Nat.le_refl _) (.cells #[.int .i64 n, v] 28))
  have HS0 := hide (hp_last w (.cells #[.int .i64 n, v] 28))
  have HZ := hide (show (w.alloc (.cells #[.int .i64 n, v] 28)).heap.size = w.heap.size + 1 by simp)
  clear hl
  cases hok : okOne n l x
  · have HG := hide hok
    have hr : ruL hfI n l x = [] := by unfold ruL; rw [hok]; rfl
    rw [hr]
    clear hok hr
    go_enter Tryd.func16, Tryd.ntmps16
    go_wp2_with (go_at_call 41; refine (spOne_c n v l x _ HL.out hlen).mono ?_; rw [HG.out]; rintro e w1 ⟨rfl, hb1⟩; have HB1 := hide (H0.out.trans (hb1.mono (by rw [HZ.out]; omega))); clear hb1)
    go_ret2
    exact ⟨_, rfl, own_nil _ _ _, HB1.out⟩
  · have HG := hide hok
    have hsp := okOne_sp hok
    obtain ⟨hi0, hi1⟩ := okSet_in (okOne_set hok)
    obtain ⟨hn1, hn2⟩ := okSp_n hsp
    have hlo := low_lt n.toNat (by omega)
    obtain ⟨N, rfl⟩ := Int.eq_ofNat_of_zero_le (show 0 ≤ n by omega)
    obtain ⟨S, rfl⟩ := Int.eq_ofNat_of_zero_le hi0
    rw [Int.toNat_natCast] at hlo hi1
    have hr : ruL hfI (N : Int) l (S : Int) = rnL N (hfI N) S 128 (marksTo l l.length) := by unfold ruL; rw [if_pos hok, Int.toNat_natCast, Int.toNat_natCast]
    have HRU := hide (fun u w1 h => asRunH_c N v l S u w1 h hlen hsp (by omega))
    rw [hr]
    clear hok hr hi0 hsp
    generalize rnL N (hfI N) S 128 (marksTo l l.length) = R at *
    go_enter Tryd.func16, Tryd.ntmps16
    go_wp2_with (first
      | (go_at_call 41; refine (spOne_c _ v l _ _ HL.out hlen).mono ?_; rw [HG.out]; rintro e w1 ⟨rfl, hb1⟩; have HS1 := hide ((hb1.block w.heap.size (by rw [HZ.out]; omega)).trans HS0.out); have d0 := cells_at0 HS1.out; have d1 := cells_at1 HS1.out; have HL1 := hide ((HL.out.below hb1 (Nat.le_refl _)).mono hb1.size); have hz1 := hb1.size; rw [HZ.out] at hz1; have HB1 := hide (H0.out.trans (hb1.mono (by rw [HZ.out]; omega))); clear hb1)
      | (go_at_call 42; refine (HRU.out _ _ HL1.out).mono ?_; rintro e w2 ⟨v2, rfl, ho2, hb2⟩; have HO2 := hide (show own 3 w2 w.heap.size v2 _ from ho2.mono (by omega)); have HB2 := hide (HB1.out.trans (hb2.mono (by omega))); clear ho2 hb2))
    go_ret2
    exact ⟨_, rfl, HO2.out, HB2.out⟩
set_option maxHeartbeats 4000000 in
theorem specHalfWorstD_c (n : Int) (v : Value) (l : List Int) (w : World) (hl : ints w.heap.size w v l) (hlen : l.length < 1000000000) (_ : tab w) :
    Calls Tryd.prog 22 #[.agg #[.int .i64 n, v]] w fun e w' => e = .returned (.tuple #[.int .i64 (hwR n l), .bool (okSp n l)]) ∧ Below w.heap.size w w' := by
  have HL := hide ((hl.alloc (.cells #[.int .i64 n, v] 28)).mono (show w.heap.size ≤ (w.alloc (.cells #[.int .i64 n, v] 28)).heap.size by simp))
  have H0 := hide ((Below.refl w.heap.size w).alloc (Nat.le_refl _) (.cells #[.int .i64 n, v] 28))
  have HS0 := hide (hp_last w (.cells #[.int .i64 n, v] 28))
  have HZ := hide (show (w.alloc (.cells #[.int .i64 n, v] 28)).heap.size = w.heap.size + 1 by simp)
  clear hl
  cases hok : okSp n l
  · have HG := hide (show goodB n l = false by rw [← ok_good]; exact hok)
    have hr : hwR n l = 0 := by unfold hwR wrP; rw [hok]; rfl
    rw [hr]
    clear hok hr
    go_enter Tryd.func22, Tryd.ntmps22
    go_wp2_with (go_at_call 45; refine (spGood_c n v l _ HL.out hlen).mono ?_; rw [HG.out]; rintro e w1 ⟨rfl, hb1⟩; have HB1 := hide (H0.out.trans (hb1.mono (by rw [HZ.out]; omega))); clear hb1)
    go_ret2
    exact ⟨rfl, HB1.out⟩
  · have HG := hide (show goodB n l = true by rw [← ok_good]; exact hok)
    obtain ⟨hn1, hn2⟩ := okSp_n hok
    obtain ⟨N, rfl⟩ := Int.eq_ofNat_of_zero_le (show 0 ≤ n by omega)
    have hr : hwR (N : Int) l = ((wsTo (ruN N hfI (marksTo l l.length)) l l.length).2 : Int) := by unfold hwR wrP; rw [if_pos hok, Int.toNat_natCast]
    have HRG := hide (sp_r128 hok)
    have HRU := hide (fun S (hS : S < 128) u w1 h => asRunH_c N v l S u w1 h hlen hok hS)
    have HFN := hide (fun s => show (rnL N (hfI N) s 128 (marksTo l l.length)).length = ruN N hfI (marksTo l l.length) s from rfl)
    have HMX := hide (fun k => ws_mx (ruN N hfI (marksTo l l.length)) l k)
    have HFL := hide (fun s => ruN_le N hfI (marksTo l l.length) s)
    rw [hr]
    clear hok hr
    generalize marksTo l l.length = F at *
    generalize ruN N hfI F = f at *
    go_enter Tryd.func22, Tryd.ntmps22
    go_wp2_with (first
      | (go_at_call 45; refine (spGood_c _ v l _ HL.out hlen).mono ?_; rw [HG.out]; rintro e w1 ⟨rfl, hb1⟩; have HS1 := hide ((hb1.block w.heap.size (by rw [HZ.out]; omega)).trans HS0.out); have d1 := cells_at1 HS1.out; have HL1 := hide ((HL.out.below hb1 (Nat.le_refl _)).mono hb1.size); have hz1 := hb1.size; rw [HZ.out] at hz1; have HB1 := hide (H0.out.trans (hb1.mono (by rw [HZ.out]; omega))); clear hb1)
      | (refine wpList_len sliceT rfl (.tmp _) rfl _ rfl w1.heap.size l HL1.out ?_))
    clear d1
    go_loopw [4, 13] (fun x i wr => ∃ k : Nat, k ≤ l.length ∧ i = .int .i64 (k : Int) ∧ x = .int .i64 ((wsTo f l k).2 : Int) ∧ Hid (Below w1.heap.size w1 wr)) (fun _ i _ => l.length - (intOf i).toNat)
    case atStart => exact ⟨0, Nat.zero_le _, rfl, rfl, Below.refl _ _⟩
    case round =>
      obtain ⟨k, hk, rfl, rfl, HB⟩ := hrel
      have hsz := HB.out.size
      by_cases hlt : k < l.length
      · have hr := HRG.out k hlt
        have hx : l[k]?.getD 0 = (nth l k : Int) := by unfold nth; rw [Int.toNat_of_nonneg hr.1]
        have HX := hide hx
        have hx8 : nth l k < 128 := by omega
        have HLW := hide (HL1.out.below HB.out (Nat.le_refl _))
        have HSW := hide ((HB.out.block w.heap.size (by omega)).trans HS1.out)
        have c0 := cells_at0 HSW.out
        have c1 := cells_at1 HSW.out
        have HM := hide (HMX.out k)
        have HRS := hide (HRU.out (nth l k) hx8)
        have HFS := hide (HFN.out (nth l k))
        have hfl := HFL.out (nth l k)
        rw [← HFS.out] at HM
        rw [← HFS.out] at hfl
        have HMO := hide (fun w' => l1MostH_c ((wsTo f l k).2 : Int) ((rnL N (hfI N) (nth l k) 128 F).length : Int) w')
        rw [← HM.out] at HMO
        clear hx hr HFS HM
        generalize rnL N (hfI N) (nth l k) 128 F = R at *
        generalize nth l k = s at *
        generalize hX1 : (wsTo f l (k + 1)).2 = X1 at HMO
        generalize (wsTo f l k).2 = X at *
        have HX1 := hide hX1
        clear hX1
        go_wp2_with (first
          | (refine wpList_at sliceT intS rfl (.tmp _) (.tmp _) rfl _ rfl k rfl w1.heap.size l HLW.out hlt ?_; intro ad hcell hblk; rw [HX.out] at hcell)
          | (go_at_call 42; refine (HRS.out _ _ (HLW.out.mono hsz)).mono ?_; rintro e w3 ⟨v3, rfl, ho3, hb3⟩; have HI3 := hide ho3.ints; have HB3 := hide (HB.out.trans (hb3.mono hsz)); clear ho3 hb3)
          | (refine wpList_len sliceT rfl (.tmp _) rfl _ rfl w3.heap.size R HI3.out ?_)
          | (go_at_call 46; refine (HMO.out _).mono ?_; rintro e w4 ⟨rfl, rfl⟩))
        go_roundw
        case rel => exact ⟨k + 1, by omega, by go_num, by rw [HX1.out], HB3⟩
        case measure => (simp [intOf] <;> omega)
      · have HJ := hide (show k = l.length by omega)
        have hlt' : ¬ ((k : Int) < (l.length : Int)) := by omega
        go_wp2
        go_ret2
        exact ⟨by rw [← HJ.out]; rfl, HB1.out.trans (HB.out.mono (by omega))⟩
end Go.Proofs.YtijgngnjhmkhaaaDoor
