/- Contracts: the worst run of a strategy; HalfRun and HalfWorst, the program's and the specification's. -/
import Derived.Test.YtppojaekngeelaaDoorHs
import Derived.Test.YtppojaekngeelaaDoorHt
import Derived.Test.YtppojaekngeelaaDoorFr
namespace Go.Proofs.YtppojaekngeelaaDoor
open Go.RowKit
set_option maxRecDepth 100000
set_option linter.unusedSimpArgs false
section
variable {P : Program} {T : TypeId} {cs : Array Value}
theorem wpList_load_csV (hT : (P.underlying T).map TypeDesc.isRow = some true) (hS : (P.info? T).map (·.size) = some cs.size)
    {ops : Array Oper} {rest : List Oper} {o : Oper} {a : Act} {w : World} {Q : Exit → Act → World → Prop} (hw : Region.wanted o (yielded ops a.tmps) = true) (x : Operand) (ho : o.op = .load T x)
    (g : Nat) (hx : a.eval x = .pointer (some ⟨g, 0, none⟩)) (hg : w.heap[g]? = some (.cells cs T))
    (h : wpList P ops Q rest (a.put o.dst (.agg cs)) w) : wpList P ops Q (o :: rest) a w := by
  obtain ⟨d, hu, hd⟩ := rowTy_of hT
  exact wpList_of_wp hw fun _ hK => wp_load_row T x ho g hx T cs (0, 0) d hg hu (by cases d <;> first | rfl | (cases hd)) hS (hK _ _ h)
end
/-- Of the first k sets, the first one with the longest run, and its length. -/
def wsTo (f : Nat → Nat) (L : List Int) : Nat → Int × Nat
  | 0 => (0, 0)
  | k + 1 => if (wsTo f L k).2 < f (nth L k) then (L[k]?.getD 0, f (nth L k)) else wsTo f L k
theorem ws_yes {f : Nat → Nat} {L : List Int} {k : Nat} (h : (wsTo f L k).2 < f (nth L k)) : wsTo f L (k + 1) = (L[k]?.getD 0, f (nth L k)) := by rw [wsTo, if_pos h]
theorem ws_no {f : Nat → Nat} {L : List Int} {k : Nat} (h : ¬ (wsTo f L k).2 < f (nth L k)) : wsTo f L (k + 1) = wsTo f L k := by rw [wsTo, if_neg h]
theorem ws_mx (f : Nat → Nat) (L : List Int) (k : Nat) : ((wsTo f L (k + 1)).2 : Int) = mxH ((wsTo f L k).2 : Int) (f (nth L k) : Int) := by
  unfold mxH
  by_cases h : (wsTo f L k).2 < f (nth L k)
  · rw [ws_yes h, if_pos (by omega)]
  · rw [ws_no h, if_neg (by omega)]
theorem ws_le {f : Nat → Nat} {L : List Int} (hf : ∀ s, f s ≤ 128) : ∀ k, (wsTo f L k).2 ≤ 128
  | 0 => by simp [wsTo]
  | k + 1 => by
    by_cases h : (wsTo f L k).2 < f (nth L k)
    · rw [ws_yes h]; exact hf _
    · rw [ws_no h]; exact ws_le hf k
/-- The run of a strategy through a space, and the worst of its runs. -/
def ruL (q : Nat → (Nat → Bool) → Nat) (n : Int) (l : List Int) (x : Int) : List Int := if okOne n l x then rnL n.toNat (q n.toNat) x.toNat 128 (marksTo l l.length) else []
def ruN (m : Nat) (q : Nat → (Nat → Bool) → Nat) (F : Nat → Bool) (s : Nat) : Nat := (rnL m (q m) s 128 F).length
def wrP (q : Nat → (Nat → Bool) → Nat) (n : Int) (l : List Int) : Int × Nat := if okSp n l then wsTo (ruN n.toNat q (marksTo l l.length)) l l.length else (0, 0)
theorem ruN_le (m : Nat) (q : Nat → (Nat → Bool) → Nat) (F : Nat → Bool) (s : Nat) : ruN m q F s ≤ 128 := rnL_len _ _ _ _ _
theorem ruL_len (q : Nat → (Nat → Bool) → Nat) (n : Int) (l : List Int) (x : Int) : (ruL q n l x).length < 1000000000 := by
  unfold ruL
  split
  · have := rnL_len n.toNat (q n.toNat) x.toNat 128 (marksTo l l.length); omega
  · simp
theorem op_none : opN 0 noSet = 0 := (opN_zero (by omega) (fun x h => by cases h)).2 (by unfold cntS; rw [sets_noneH]; simp)
theorem ru_prog (q : Nat → (Nat → Bool) → Nat) (n : Int) (l : List Int) (x : Int) : ∃ (N : Nat) (F : Nat → Bool) (S : Nat) (b : Bool), famVal3 n l x = .tuple #[.agg (fam (N : Int) F), .int .i64 (S : Int), .bool b] ∧ N ≤ 7 ∧ S < 128 ∧ okOne n l x = b ∧
    ruL q n l x = rnL N (q N) S 128 F ∧ (∀ y, F y = true → y ≤ low N) := by
  cases hok : okOne n l x
  · exact ⟨0, noSet, 0, false, famVal3_no n l x hok, by omega, by omega, rfl, by unfold ruL; rw [hok, rnL_end op_none]; rfl, fun y h => by (cases h)⟩
  · obtain ⟨hi0, hi1⟩ := okSet_in (okOne_set hok)
    obtain ⟨hn1, hn2⟩ := okSp_n (okOne_sp hok)
    have hlo := low_lt n.toNat (by omega)
    obtain ⟨N, rfl⟩ := Int.eq_ofNat_of_zero_le (show 0 ≤ n by omega)
    obtain ⟨S, rfl⟩ := Int.eq_ofNat_of_zero_le hi0
    rw [Int.toNat_natCast] at hlo hi1
    refine ⟨N, marksTo l l.length, S, true, famVal3_yes _ l _ hok, by omega, by omega, rfl, ?_, fun y h => ?_⟩
    · unfold ruL; rw [if_pos hok, Int.toNat_natCast, Int.toNat_natCast]
    · have := marks_low (okOne_sp hok) y h; rwa [Int.toNat_natCast] at this
theorem wr_prog (q : Nat → (Nat → Bool) → Nat) (n : Int) (l : List Int) : ∃ (N : Nat) (F : Nat → Bool) (b : Bool), famVal n l = .tuple #[.agg (fam (N : Int) F), .bool b] ∧ N ≤ 7 ∧ okSp n l = b ∧ wrP q n l = wsTo (ruN N q F) (setsTo F 128) (setsTo F 128).length ∧ (∀ y, F y = true → y ≤ low N) := by
  cases hok : okSp n l
  · exact ⟨0, noSet, false, famVal_no n l hok, by omega, rfl, by unfold wrP; rw [hok, sets_noneH]; rfl, fun y h => by (cases h)⟩
  · have hn := okSp_n hok
    obtain ⟨N, rfl⟩ := Int.eq_ofNat_of_zero_le (show 0 ≤ n by omega)
    refine ⟨N, marksTo l l.length, true, famVal_yes _ l hok, by omega, rfl, ?_, fun y h => ?_⟩
    · unfold wrP; rw [if_pos hok, Int.toNat_natCast, ← okSp_list hok]
    · have := marks_low hok y h; rwa [Int.toNat_natCast] at this
attribute [local irreducible] p2 low memB risB famAt own
set_option maxHeartbeats 8000000 in
theorem worst_c (m : Nat) (F0 : Nat → Bool) (kf : Nat) (pre caps : Array Value) (q : Nat → (Nat → Bool) → Nat) (J : Nat → World → Prop) (o : Option Nat) (w : World)
    (hm7 : m ≤ 7) (hF0 : ∀ x, F0 x = true → x ≤ low m) (hk : enters Tryd.prog kf) (ho : ∀ b, o = some b → b < w.heap.size)
    (hJ : J 0 w) (hJB : ∀ k w1 w2, J k w1 → Below w.heap.size w1 w2 → J k w2) (hJm : ∀ k w1, J k w1 → J (k + 1) w1)
    (hcl : ∀ (k : Nat) (F : Nat → Bool) (w1 : World), k < 16384 → (∀ x, F x = true → x ≤ low m) → opN m F ≠ 0 → J k w1 → Blx o w.heap.size w w1 → Calls Tryd.prog kf (pre ++ #[.agg (fam (m : Int) F)] ++ caps) w1 fun e w2 => e = .returned (.int .i64 (q m F : Int)) ∧ J (k + 1) w2 ∧ Blx o w1.heap.size w1 w2)
    (hq : ∀ F, (∀ x, F x = true → x ≤ low m) → opN m F ≠ 0 → (opN m F).testBit (q m F) = true) :
    Calls Tryd.prog 33 #[.agg #[.func (.func kf) pre caps], .agg (fam (m : Int) F0)] w fun e w' => e = .returned (.tuple #[.int .i64 (wsTo (ruN m q F0) (setsTo F0 128) (setsTo F0 128).length).1, .int .i64 ((wsTo (ruN m q F0) (setsTo F0 128) (setsTo F0 128).length).2 : Int)]) ∧ (∃ k, J k w') ∧ Blx o w.heap.size w w' := by
  have hb0 := ((Below.refl w.heap.size w).alloc (Nat.le_refl _) (.cells #[.func (.func kf) pre caps] 60)).alloc (by simp) (.cells (fam (m : Int) F0) 45)
  have HJB := hide hJB
  have HCL := hide hcl
  have HO0 := hide ho
  have HJ0 := hide (hJB _ _ _ hJ hb0)
  have HB0 := hide (Blx.of (o := o) hb0)
  have HK0 := hide (show famAt 45 ((w.alloc (.cells #[.func (.func kf) pre caps] 60)).alloc (.cells (fam (m : Int) F0) 45)) (w.heap.size + 1) (m : Int) F0 by have h := famAt.new 45 (w.alloc (.cells #[.func (.func kf) pre caps] 60)) (m : Int) F0; simpa using h)
  have HS0 := hide (show ((w.alloc (.cells #[.func (.func kf) pre caps] 60)).alloc (.cells (fam (m : Int) F0) 45)).heap[w.heap.size]? = some (.cells #[.func (.func kf) pre caps] 60) from (hp_old _ _ _ (by simp)).trans (hp_last _ _))
  have HZ0 := hide (show ((w.alloc (.cells #[.func (.func kf) pre caps] 60)).alloc (.cells (fam (m : Int) F0) 45)).heap.size = w.heap.size + 2 by simp)
  have HSE := hide (fun w1 => sets_c (m : Int) F0 w1)
  have HRG := hide (setsTo_range F0 128)
  have hLn := setsTo_len F0 128
  have HF0 := hide hF0
  have HRUN := hide (show ∀ (s k : Nat) (wr : World), s < 128 → k < 128 → w.heap.size ≤ wr.heap.size → J (128 * k) wr → Blx o w.heap.size w wr → Calls Tryd.prog 32 #[.agg #[.func (.func kf) pre caps], .agg (fam (m : Int) F0), .int .i64 (s : Int)] wr fun e w' => ∃ v, e = .returned v ∧ own 3 w' wr.heap.size v (rnL m (q m) s 128 F0) ∧ J (128 * (k + 1)) w' ∧ Blx o wr.heap.size wr w' from
    fun s k wr hs hk8 hsz hj hb => run_c m F0 s kf pre caps (q m) J (128 * k) o wr hm7 hF0 hs hk (fun b h => by have := ho b h; omega) hj (fun i w1 w2 h1 h2 => hJB i w1 w2 h1 (h2.mono hsz)) hJm (fun i F w1 hi h1 h2 h3 h4 => hcl i F w1 (by omega) h1 h2 h3 (hb.trans (h4.mono hsz))) hq)
  have HFN := hide (fun s => show (rnL m (q m) s 128 F0).length = ruN m q F0 s from rfl)
  have HFL := hide (fun s => ruN_le m q F0 s)
  have HWL := hide (fun k => ws_le (f := ruN m q F0) (L := setsTo F0 128) (ruN_le m q F0) k)
  clear hJ hJB hJm hcl hq ho hb0 hF0
  generalize setsTo F0 128 = L at *
  generalize ruN m q F0 = f at *
  go_enter Tryd.func33, Tryd.ntmps33
  go_wp2_with (first
    | (refine wpList_load_fam rowT sizeT rfl (.tmp 3) rfl (w.heap.size + 1) rfl (m : Int) F0 HK0.out ?_)
    | (go_at_call 26; refine (HSE.out _).mono ?_; rintro e w2 ⟨v2, rfl, ho2, hb2⟩; have hz2 := hb2.size; rw [HZ0.out] at hz2 hb2 ho2; have HO2 := hide ho2; have HK2 := hide (HK0.out.below hb2 (by omega)); have HS2 := hide ((hb2.block w.heap.size (by omega)).trans HS0.out); have HJ2 := hide (HJB.out _ _ _ HJ0.out (hb2.mono (by omega))); have HB2 := hide (HB0.out.trans (Blx.of (hb2.mono (by omega)))); clear ho2 hb2)
    | (refine wpList_len sliceT rfl (.tmp _) rfl _ rfl w2.heap.size L HO2.out.ints ?_))
  go_loopw [6, 7, 14] (fun a b i wr => ∃ k : Nat, k ≤ L.length ∧ i = .int .i64 (k : Int) ∧ a = .int .i64 (wsTo f L k).1 ∧ b = .int .i64 ((wsTo f L k).2 : Int) ∧ Hid (own 3 wr (w.heap.size + 2) v2 L) ∧ Hid (famAt 45 wr (w.heap.size + 1) (m : Int) F0) ∧ Hid (wr.heap[w.heap.size]? = some (.cells #[.func (.func kf) pre caps] 60)) ∧ Hid (J (128 * k) wr) ∧ Hid (w.heap.size + 2 ≤ wr.heap.size) ∧ Hid (Blx o w.heap.size w wr)) (fun _ _ i _ => L.length - (intOf i).toNat)
  case atStart => exact ⟨0, Nat.zero_le _, rfl, rfl, rfl, HO2, HK2, HS2, HJ2, hide (by omega), HB2⟩
  case round =>
    clear HK2 HS2 HJ2 HB2 HO2 HK0 HS0 HJ0 HB0
    obtain ⟨k, hk, rfl, rfl, rfl, HO, HK, HS, HJ, HZ, HB⟩ := hrel
    have hz := HZ.out
    by_cases hlt : k < L.length
    · have hr := HRG.out k hlt
      have hx : L[k]?.getD 0 = (nth L k : Int) := by unfold nth; rw [Int.toNat_of_nonneg hr.1]
      have HX := hide hx
      have hx8 : nth L k < 128 := by rw [hx] at hr; omega
      have HLW := hide HO.out.ints
      have HRN := hide (HRUN.out (nth L k) k wr hx8 (by omega) (by omega) HJ.out HB.out)
      have HLE := hide (HFN.out (nth L k))
      have hfl := HFL.out (nth L k)
      have hwl := HWL.out k
      have HY := hide (fun h => ws_yes (f := f) (L := L) (k := k) h)
      have HN := hide (fun h => ws_no (f := f) (L := L) (k := k) h)
      rw [hx] at HY
      clear hx hr
      generalize nth L k = s at *
      generalize rnL m (q m) s 128 F0 = R at *
      have hRl := HLE.out
      by_cases hc : (wsTo f L k).2 < f s
      · have HW := hide (HY.out hc)
        have hc2 : ((wsTo f L k).2 : Int) < (R.length : Int) := by omega
        generalize hW : wsTo f L (k + 1) = W1 at HW
        generalize wsTo f L k = W0 at *
        have HW1 := hide hW
        have HRL := hide hRl
        clear hW hc HY HN hRl
        obtain ⟨W0a, W0b⟩ := W0
        go_wp2_with (first
          | (refine wpList_at sliceT intS rfl (.tmp _) (.tmp _) rfl _ rfl k rfl wr.heap.size L HLW.out hlt ?_; intro ad hcell hblk; rw [HX.out] at hcell)
          | (refine wpList_load_csV (cs := #[.func (.func kf) pre caps]) rowSt sizeSt rfl (.tmp 2) rfl w.heap.size rfl HS.out ?_)
          | (refine wpList_load_fam rowT sizeT rfl (.tmp 3) rfl (w.heap.size + 1) rfl (m : Int) F0 HK.out ?_)
          | (go_at_call 32; refine HRN.out.mono ?_; rintro e w3 ⟨v3, rfl, ho3, hj3, hb3⟩; have hz3 := hb3.size; have HI3 := hide ho3.ints; have HO3 := hide (HO.out.blx hb3 (fun b hb => by have := HO0.out b hb; omega)); have HK3 := hide (HK.out.blx hb3 (by omega) (fun e => by have := HO0.out _ e.symm; omega)); have HS3 := hide ((hb3.block w.heap.size (by omega) (fun e => by have := HO0.out _ e.symm; omega)).trans HS.out); have HJ3 := hide hj3; have HB3 := hide (HB.out.trans (hb3.mono (by omega))); clear ho3 hj3 hb3)
          | (refine wpList_len sliceT rfl (.tmp _) rfl _ rfl w3.heap.size R HI3.out ?_)
          )
        go_roundw
        case rel => exact ⟨k + 1, by omega, by go_num, by rw [HW1.out, HW.out], by rw [HW1.out, HW.out, HRL.out], HO3, HK3, HS3, HJ3, hide (by omega), HB3⟩
        case measure => (simp [intOf] <;> omega)
      · have HW := hide (HN.out hc)
        have hc2 : ¬ ((wsTo f L k).2 : Int) < (R.length : Int) := by omega
        generalize hW : wsTo f L (k + 1) = W1 at HW
        generalize wsTo f L k = W0 at *
        have HW1 := hide hW
        have HRL := hide hRl
        clear hW hc HY HN hRl
        obtain ⟨W0a, W0b⟩ := W0
        go_wp2_with (first
          | (refine wpList_at sliceT intS rfl (.tmp _) (.tmp _) rfl _ rfl k rfl wr.heap.size L HLW.out hlt ?_; intro ad hcell hblk; rw [HX.out] at hcell)
          | (refine wpList_load_csV (cs := #[.func (.func kf) pre caps]) rowSt sizeSt rfl (.tmp 2) rfl w.heap.size rfl HS.out ?_)
          | (refine wpList_load_fam rowT sizeT rfl (.tmp 3) rfl (w.heap.size + 1) rfl (m : Int) F0 HK.out ?_)
          | (go_at_call 32; refine HRN.out.mono ?_; rintro e w3 ⟨v3, rfl, ho3, hj3, hb3⟩; have hz3 := hb3.size; have HI3 := hide ho3.ints; have HO3 := hide (HO.out.blx hb3 (fun b hb => by have := HO0.out b hb; omega)); have HK3 := hide (HK.out.blx hb3 (by omega) (fun e => by have := HO0.out _ e.symm; omega)); have HS3 := hide ((hb3.block w.heap.size (by omega) (fun e => by have := HO0.out _ e.symm; omega)).trans HS.out); have HJ3 := hide hj3; have HB3 := hide (HB.out.trans (hb3.mono (by omega))); clear ho3 hj3 hb3)
          | (refine wpList_len sliceT rfl (.tmp _) rfl _ rfl w3.heap.size R HI3.out ?_)
          )
        go_roundw
        case rel => exact ⟨k + 1, by omega, by go_num, by rw [HW1.out, HW.out], by rw [HW1.out, HW.out], HO3, HK3, HS3, HJ3, hide (by omega), HB3⟩
        case measure => (simp [intOf] <;> omega)
    · have HJJ := hide (show k = L.length by omega)
      have hlt' : ¬ ((k : Int) < (L.length : Int)) := by omega
      go_wp2
      go_ret2
      exact ⟨by rw [← HJJ.out]; rfl, ⟨_, HJ.out⟩, HB.out⟩
theorem ent_run : enters Tryd.prog 32 := enters_of Tryd.func32 (by kernel_rfl) (by kernel_rfl)
theorem ent_worst : enters Tryd.prog 33 := enters_of Tryd.func33 (by kernel_rfl) (by kernel_rfl)
def hwR (n : Int) (l : List Int) : Int := ((wrP hfI n l).2 : Int)
end Go.Proofs.YtppojaekngeelaaDoor
