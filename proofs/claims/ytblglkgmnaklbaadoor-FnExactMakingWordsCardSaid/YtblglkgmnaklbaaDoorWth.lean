/- Contracts: WordThrough, the program's. -/
import Derived.Test.YtblglkgmnaklbaaDoorIa
import Derived.Test.YtblglkgmnaklbaaDoorFi
import Derived.Test.YtblglkgmnaklbaaDoorTw
namespace Go.Proofs.YtblglkgmnaklbaaDoor
open Go.RowKit
set_option maxRecDepth 100000
set_option linter.unusedSimpArgs false
/-- The set before the k-th one. -/
def wtP (q : List Int) : Nat → Nat
  | 0 => 0
  | k + 1 => nth q k
def wtTo (F : Nat → Bool) (n : Nat) (q : List Int) : Nat → List Int
  | 0 => []
  | k + 1 => wtTo F n q k ++ finL F n (nth q k) (wtP q k)
def wtW (F : Nat → Bool) (n : Nat) (q : List Int) : List Int := wtTo F n q q.length ++ finL F n (low n) (wtP q q.length)
theorem wtTo_len (F : Nat → Bool) (n : Nat) (q : List Int) : ∀ k, (wtTo F n q k).length ≤ 7 * k
  | 0 => by simp [wtTo]
  | k + 1 => by
    have h1 := wtTo_len F n q k
    have h2 := finL_len F n (nth q k) (wtP q k)
    rw [wtTo, List.length_append]
    omega
theorem wtW_len (F : Nat → Bool) (n : Nat) (q : List Int) : (wtW F n q).length ≤ 7 * q.length + 7 := by
  have h1 := wtTo_len F n q q.length
  have h2 := finL_len F n (low n) (wtP q q.length)
  unfold wtW
  rw [List.length_append]
  omega
/-- Whether the first k numbers are sets, each part of the next one. -/
def icTo (n : Nat) (F : Nat → Bool) (q : List Int) : Nat → Bool
  | 0 => true
  | k + 1 => icTo n F q k && (ownB n F (q[k]?.getD 0) && (andNot (wtP q k) (nth q k) == 0))
theorem icTo_iff (n : Nat) (F : Nat → Bool) (q : List Int) : ∀ K, icTo n F q K = true ↔ ∀ k, k < K → ownB n F (q[k]?.getD 0) = true ∧ andNot (wtP q k) (nth q k) = 0
  | 0 => by simp [icTo]
  | K + 1 => by
    rw [icTo, Bool.and_eq_true, Bool.and_eq_true, beq_iff_eq, icTo_iff n F q K]
    constructor
    · rintro ⟨h1, h2⟩ k hk
      rcases Nat.lt_or_ge k K with h | h
      · exact h1 k h
      · have : k = K := by omega
        subst this; exact h2
    · intro h
      exact ⟨fun k hk => h k (by omega), h K (by omega)⟩
theorem icTo_no {n : Nat} {F : Nat → Bool} {q : List Int} {k : Nat} (h : (ownB n F (q[k]?.getD 0) && (andNot (wtP q k) (nth q k) == 0)) = false) (m : Nat) (hm : k < m) : icTo n F q m = false := by
  rw [← Bool.not_eq_true, icTo_iff]
  intro h2
  obtain ⟨h3, h4⟩ := h2 k hm
  rw [h3, h4] at h
  cases h
theorem icTo_set {n : Nat} {F : Nat → Bool} {q : List Int} (h7 : n ≤ 7) {K : Nat} (h : icTo n F q K = true) (k : Nat) (hk : k < K) : q[k]?.getD 0 = (nth q k : Int) ∧ nth q k < 128 ∧ F (nth q k) = true ∧ andNot (wtP q k) (nth q k) = 0 := by
  obtain ⟨h1, h2⟩ := (icTo_iff n F q K).1 h k hk
  obtain ⟨⟨g1, g2⟩, g3⟩ := ownB_in h7 h1
  have e := nth_int g1
  exact ⟨e, by omega, g3, h2⟩
theorem icTo_prev {n : Nat} {F : Nat → Bool} {q : List Int} (h7 : n ≤ 7) (h0 : F 0 = true) {K : Nat} (h : icTo n F q K = true) : ∀ k, k ≤ K → F (wtP q k) = true ∧ wtP q k < 128
  | 0, _ => ⟨h0, by show 0 < 128; omega⟩
  | k + 1, hk => by
    obtain ⟨_, h2, h3, _⟩ := icTo_set h7 h k (by omega)
    exact ⟨h3, h2⟩
def wtOk (n : Int) (l q : List Int) : Bool := okSp n l && (decide (q.length ≤ 40) && icTo n.toNat (marksTo l l.length) q q.length)
def wtR (n : Int) (l q : List Int) : List Int := if wtOk n l q then wtW (marksTo l l.length) n.toNat q else []
theorem wt_no {n : Int} {l q : List Int} (h : wtOk n l q = false) : wtR n l q = [] := by unfold wtR; rw [h]; rfl
theorem wt_yes {n : Int} {l q : List Int} (h : wtOk n l q = true) : wtR n l q = wtW (marksTo l l.length) n.toNat q := by unfold wtR; rw [h]; rfl
theorem wtR_len (n : Int) (l q : List Int) : (wtR n l q).length < 1000000000 := by
  unfold wtR
  split
  · rename_i h
    unfold wtOk at h
    rw [Bool.and_eq_true, Bool.and_eq_true, decide_eq_true_eq] at h
    have := wtW_len (marksTo l l.length) n.toNat q
    omega
  · simp
theorem wtOk_no1 {n : Int} {l q : List Int} (h : okSp n l = false) : wtOk n l q = false := by unfold wtOk; rw [h]; rfl
theorem wtOk_no2 {n : Int} {l q : List Int} (h : 40 < q.length) : wtOk n l q = false := by unfold wtOk; rw [decide_eq_false (by omega)]; simp
theorem wtOk_is {n : Int} {l q : List Int} (h : okSp n l = true) (h2 : ¬ 40 < q.length) : wtOk n l q = icTo n.toNat (marksTo l l.length) q q.length := by unfold wtOk; rw [h, decide_eq_true (by omega)]; rfl
attribute [local irreducible] p2 low memB risB icTo
theorem ent_fullW : enters Tryd.prog 74 := enters_of Tryd.func74 (by kernel_rfl) (by kernel_rfl)
theorem ent_leadOnW : enters Tryd.prog 73 := enters_of Tryd.func73 (by kernel_rfl) (by kernel_rfl)
set_option maxHeartbeats 2000000 in
theorem wordThrough_c (n : Nat) (F : Nat → Bool) (u : Value) (q : List Int) (w : World) (hq : ints w.heap.size w u q) (hlen : q.length < 1000000) (h7 : n ≤ 7) (hsp : Spc F n) (hic : icTo n F q q.length = true) (hT : tab w) :
    Calls Tryd.prog 38 #[.agg (fam (n : Int) F), u] w fun e w' => ∃ v', e = .returned v' ∧ own 3 w' w.heap.size v' (wtW F n q) ∧ Below w.heap.size w w' := by
  obtain ⟨ua, uc, hu⟩ := hq.shape
  subst hu
  have HF0 := hide (famAt.new 57 w (n : Int) F)
  have HB0 := hide ((Below.refl w.heap.size w).alloc (Nat.le_refl _) (.cells (fam (n : Int) F) 57))
  have HZ0 := hide (show (w.alloc (.cells (fam (n : Int) F) 57)).heap.size = w.heap.size + 1 by simp)
  have HQ := hide hq
  have HT := hide hT
  have HST := hide (fun k hk => icTo_set h7 hic k hk)
  have HPR := hide (fun k hk => icTo_prev h7 hsp.zero hic k hk)
  have HFL := hide hsp.full
  have hlo := low_lt n h7
  have HIN := hide (show andNot (wtP q q.length) (low n) = 0 from ((an0 _ _).2 (fun i hi => by
    rw [low_bit]
    refine decide_eq_true ?_
    rcases Nat.lt_or_ge i n with h | h
    · exact h
    · rw [Nat.testBit_lt_two_pow (Nat.lt_of_lt_of_le (hsp.lt _ (icTo_prev h7 hsp.zero hic q.length (Nat.le_refl _)).1) (Nat.pow_le_pow_right (by omega) h))] at hi
      cases hi)))
  have HLD := hide (fun (vv : Value) (m : List Int) (s g : Nat) w1 (hm : ints w1.heap.size w1 vv m) (hml : m.length < 100000000) (hs : F s = true) (hg : F g = true) (hi : andNot s g = 0) (hT1 : tab w1) => by
    have h := leadOn_c (n : Int) F vv m s g w1 hm hml (by omega) (by omega) (by rw [Int.toNat_natCast]; exact hsp) hs hg hi hT1
    rw [Int.toNat_natCast] at h
    exact h)
  have HFU : Hid (∀ (w1 : World), Calls Tryd.prog 74 #[.agg (fam (n : Int) F)] w1 fun e w' => e = .returned (.int .i64 (low n : Int)) ∧ Below w1.heap.size w1 w') := hide fun w1 => by
    have := full_c (n : Int) F w1 (by omega) (by omega)
    rw [Int.toNat_natCast] at this
    exact this
  clear hq hT hic hsp
  go_enter Tryd.func38, Tryd.ntmps38
  go_wp2_with fail
  go_loopw [5, 6, 11] (fun wd last i wr => ∃ k : Nat, k ≤ q.length ∧ i = .int .i64 (k : Int) ∧ last = .int .i64 (wtP q k : Int) ∧ Hid (own 3 wr w.heap.size wd (wtTo F n q k)) ∧ Hid (famAt 57 wr w.heap.size (n : Int) F) ∧ Hid (Below w.heap.size w wr)) (fun _ _ i _ => q.length - (intOf i).toNat)
  case atStart => exact ⟨0, Nat.zero_le _, rfl, rfl, own_nil _ _ _, HF0, HB0⟩
  case round =>
    clear HF0 HB0 HZ0
    obtain ⟨k, hk, rfl, rfl, HO, HF, HB⟩ := hrel
    have HQW := hide (HQ.out.below HB.out (Nat.le_refl _))
    have hlf := HF.out.lt
    have hsz := HB.out.size
    have HTW := hide (HT.out.below HB.out)
    have HWL := hide (wtTo_len F n q k)
    have HPK := hide (HPR.out k hk)
    by_cases hlt : k < q.length
    · have hlt' : (k : Int) < (q.length : Int) := by omega
      obtain ⟨s1, s2, s3, s4⟩ := HST.out k hlt
      have HX := hide s1
      have HS := hide (And.intro s3 s4)
      have HPN := hide (show wtP q (k + 1) = nth q k from rfl)
      have HWN := hide (show wtTo F n q (k + 1) = wtTo F n q k ++ finL F n (nth q k) (wtP q k) from rfl)
      clear s1 s3 s4
      generalize wtTo F n q k = W0 at HO HWN HWL
      generalize nth q k = g at HX HS HPN HWN s2
      generalize wtP q k = pr at HPK HS HWN
      obtain ⟨wa, wc, hwv⟩ := HO.out.shape
      go_wp2_with (first
        | (refine wpList_at sliceT intS rfl (.tmp _) (.tmp _) rfl _ rfl k rfl w.heap.size q HQW.out hlt ?_; intro ad hcell hblk; rw [HX.out] at hcell)
        | (refine wpList_load_fam rowT sizeT rfl (.tmp 2) rfl _ rfl (n : Int) F HF.out ?_)
        | (go_at_call 73; refine (HLD.out _ W0 pr g _ (by first | exact HO.out.ints | (rw [← hwv]; exact HO.out.ints)) (by have := HWL.out; omega) HPK.out.1 HS.out.1 HS.out.2 HTW.out).mono ?_; rintro e w2 ⟨v2, rfl, ho2, hb2⟩; have HO2 := hide (ho2.mono hsz); have HF2 := hide (HF.out.below hb2 hlf); have HB2 := hide (HB.out.trans (hb2.mono hsz)); clear ho2 hb2))
      go_roundw
      case rel => exact ⟨k + 1, by omega, by go_num, by rw [HPN.out], by rw [HWN.out]; exact HO2, HF2, HB2⟩
      case measure => (simp [intOf] <;> omega)
    · have HKE := hide (show k = q.length by omega)
      have hlt' : ¬ ((k : Int) < (q.length : Int)) := by omega
      have HWE := hide (show wtW F n q = wtTo F n q k ++ finL F n (low n) (wtP q k) by rw [HKE.out]; rfl)
      have HIK := hide (show andNot (wtP q k) (low n) = 0 by rw [HKE.out]; exact HIN.out)
      have hk9 : k < 1000000 := by omega
      clear hk
      generalize wtTo F n q k = W0 at HO HWE HWL
      generalize wtP q k = pr at HPK HWE HIK
      obtain ⟨wa, wc, hwv⟩ := HO.out.shape
      subst hwv
      go_wp2_with fail
      refine wp_region_held (S := Below wr.heap.size wr) (by kernel_rfl) ?_
      have hT0 : Below wr.heap.size wr { wr with drawn := wr.drawn + 1 } := (Below.refl _ _).drew
      generalize ({ wr with drawn := wr.drawn + 1 } : World) = C0 at hT0 ⊢
      have hz0 : wr.heap.size ≤ C0.heap.size := hT0.size
      refine wpAnyH_take (i := 0) rfl (by kernel_rfl) (by kernel_rfl) (by kernel_rfl) (fun _ _ _ h => h) (yields_load_fam rowT sizeT rfl (.tmp _) rfl _ rfl (n : Int) F (fun w' h => HF.out.below h hlf)) hT0 ?_
      try simp only [Act.put, List.getElem_toArray, List.getElem_cons_zero, List.getElem_cons_succ, List.setIfInBounds_toArray, List.set_cons_zero, List.set_cons_succ]
      refine wpAnyH_take (i := 1) (v := .slice wa W0.length wc) rfl (by kernel_rfl) (by kernel_rfl) (by kernel_rfl) (fun _ _ _ h => h) (.inl ⟨rfl, fun w' _ => by go_simp⟩) hT0 ?_
      try simp only [Act.put, List.getElem_toArray, List.getElem_cons_zero, List.getElem_cons_succ, List.setIfInBounds_toArray, List.set_cons_zero, List.set_cons_succ]
      refine wpAnyH_take (i := 2) (v := .int .i64 (pr : Int)) rfl (by kernel_rfl) (by kernel_rfl) (by kernel_rfl) (fun _ _ _ h => h) (.inl ⟨rfl, fun w' _ => by go_simp⟩) hT0 ?_
      try simp only [Act.put, List.getElem_toArray, List.getElem_cons_zero, List.getElem_cons_succ, List.setIfInBounds_toArray, List.set_cons_zero, List.set_cons_succ]
      refine wpAnyH_take (i := 3) rfl (by kernel_rfl) (by kernel_rfl) (by kernel_rfl) (fun _ _ _ h => h) (yields_load_fam rowT sizeT rfl (.tmp _) rfl _ rfl (n : Int) F (fun w' h => HF.out.below h hlf)) hT0 ?_
      try simp only [Act.put, List.getElem_toArray, List.getElem_cons_zero, List.getElem_cons_succ, List.setIfInBounds_toArray, List.set_cons_zero, List.set_cons_succ]
      refine anyH_call (i := 4) (by kernel_rfl) rfl rfl 74 ent_fullW _ _ rfl #[.agg (fam (n : Int) F)] rfl (HFU.out C0) ?_
      rintro e C1 ⟨rfl, hb1⟩
      have hT1 : Below wr.heap.size wr C1 := hT0.trans (hb1.mono hz0)
      have hz1 : wr.heap.size ≤ C1.heap.size := hT1.size
      refine ⟨_, rfl, hT1, ?_⟩
      try simp only [Act.put, List.getElem_toArray, List.getElem_cons_zero, List.getElem_cons_succ, List.setIfInBounds_toArray, List.set_cons_zero, List.set_cons_succ]
      refine anyH_call (i := 5) (by kernel_rfl) rfl rfl 73 ent_leadOnW _ _ rfl #[.agg (fam (n : Int) F), .slice wa W0.length wc, .int .i64 (pr : Int), .int .i64 (low n : Int)] rfl (HLD.out _ W0 pr (low n) C1 (HO.out.kept hT1).ints (by have := HWL.out; omega) HPK.out.1 HFL.out HIK.out (HTW.out.below hT1)) ?_
      rintro e C2 ⟨v2, rfl, ho2, hb2⟩
      have hT2 : Below wr.heap.size wr C2 := hT1.trans (hb2.mono hz1)
      refine ⟨_, rfl, hT2, ?_⟩
      try simp only [Act.put, List.getElem_toArray, List.getElem_cons_zero, List.getElem_cons_succ, List.setIfInBounds_toArray, List.set_cons_zero, List.set_cons_succ]
      refine anyH_op (i := 6) (by kernel_rfl) rfl rfl v2 C2 (by simp [go_sem]) hT2 ?_
      refine wpAnyH_done (by kernel_rfl) ?_ _
      try simp only [Act.put, List.getElem_toArray, List.getElem_cons_zero, List.getElem_cons_succ, List.setIfInBounds_toArray, List.set_cons_zero, List.set_cons_succ]
      have HO2 := hide (ho2.mono (show w.heap.size ≤ C1.heap.size by omega))
      have HB2 := hide (HB.out.trans (hT2.mono hsz))
      clear hT0 hT1 hT2 hb1 hb2 ho2
      go_wp2
      go_ret
      exact ⟨_, rfl, by rw [HWE.out]; exact HO2.out, HB2.out⟩
end Go.Proofs.YtblglkgmnaklbaaDoor
