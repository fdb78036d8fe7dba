/- Contracts: the least total number of questions, the program's. -/
import Derived.Test.YtijgngnjhmkhaaaDoorIc
import Derived.Test.YtijgngnjhmkhaaaDoorMn
namespace Go.Proofs.YtijgngnjhmkhaaaDoor
open Go.RowKit
open Go.Maps (Keyed IsMap)
set_option maxRecDepth 100000
set_option linter.unusedSimpArgs false
theorem totUI : Tryd.prog.underlying 73 = some (.map 46 3) := by kernel_rfl
def mapAt (w : World) (b n : Nat) (D : DataW Unit) : Prop := w.ownsMap Tryd.prog 46 (plainElem Tryd.prog 3) b n D
def totOk (m : Nat) (D : DataW Unit) : Prop := ∀ F, (∀ x, F x = true → x ≤ low m) → Maps.has D (kf m F) = true → ∀ zd, D.atKey (kf m F) zd = .lit (.int .i64 (vmN gT m F : Int))
theorem totOk_new (m : Nat) : totOk m (.map []) := fun F _ h => by simp [Maps.has] at h
theorem totOk_put {m : Nat} (hm : m ≤ 7) {D : DataW Unit} (h : totOk m D) (hD : IsMap D) {G : Nat → Bool} (hG : ∀ x, G x = true → x ≤ low m) : totOk m (D.put (kf m G) (.lit (.int .i64 (vmN gT m G : Int)))) := by
  intro F hF hh zd
  by_cases e : kf m F = kf m G
  · have := kf_inj hm hF hG e
    subst this
    exact Maps.atKey_put_same hD (by unfold kf; trivial) _ _
  · rw [Maps.has_put_other e] at hh
    rw [Maps.atKey_put_other e]
    exact h F hF hh zd
theorem mapAt.own {w : World} {b n : Nat} {D : DataW Unit} (h : mapAt w b n D) : w.ownsMap Tryd.prog 46 (plainElem Tryd.prog 3) b n D := h
theorem mapAt.mk {w : World} {b n : Nat} {D : DataW Unit} (h : w.ownsMap Tryd.prog 46 (plainElem Tryd.prog 3) b n D) : mapAt w b n D := h
theorem mapAt.lt {w : World} {b n : Nat} {D : DataW Unit} (h : mapAt w b n D) : b < w.heap.size := World.ownsMap.lt h
theorem mapAt.isMap {w : World} {b n : Nat} {D : DataW Unit} (h : mapAt w b n D) : IsMap D := World.ownsMap.isMap h
theorem wf_small (q : Nat) (h : q ≤ 1000000) : (Lit.int .i64 (q : Int)).wf = true := by
  have h1 : IntKind.i64.min = -9223372036854775808 := by decide
  have h2 : IntKind.i64.max = 9223372036854775807 := by decide
  show (decide (IntKind.i64.min ≤ (q : Int)) && decide ((q : Int) ≤ IntKind.i64.max)) = true
  rw [h1, h2, decide_eq_true (by omega), decide_eq_true (by omega)]; rfl
theorem zeroI (w : World) : (zeroValue 3).run Tryd.prog w = .ok (.int .i64 0) w := by kernel_rfl
theorem mapAt.blx {w w' : World} {b n : Nat} {D : DataW Unit} (h : mapAt w b n D) (hb : Below w.heap.size w w') : mapAt w' b n D := World.ownsMap.kept h (⟨hb.os, hb.tape, hb.output, hb.size, fun k hk _ => hb.block k hk⟩ : w.grownBy w' none) (by simp)
theorem Blx.ofGrown {b : Nat} {w w' : World} (h : w.grownBy w' (some b)) : Blx (some b) w.heap.size w w' := ⟨h.os, h.tape, h.output, h.size, fun k hk hne => h.block k hk hne⟩
theorem tab.blx {w w' : World} {b : Nat} (h : tab w) (hb : Blx (some b) w.heap.size w w') (hne : 1 ≠ b) : tab w' := by
  obtain ⟨h1, h2⟩ := h
  refine ⟨Nat.lt_of_lt_of_le h1 hb.size, fun j hj => ?_⟩
  rw [World.cell?_of_block (w := w) (hb.block _ h1 (by simp; exact hne))]
  exact h2 j hj
theorem pc_subI : ∀ a, a < 128 → ∀ b, b < 128 → andNot a b = 0 → a ≠ b → pc a < pc b := by decide +kernel
theorem pc_zero0I : ∀ x, x < 128 → pc x = 0 → x = 0 := by decide +kernel
theorem pc_part {m i : Nat} (hm : m ≤ 7) {F : Nat → Bool} (h : (opN m F).testBit i = true) (b : Bool) : pc (opN m (ptF F i b)) < pc (opN m F) := by
  refine pc_subI _ (opN_lt m hm _) _ (opN_lt m hm _) ?_ ?_
  · apply Nat.eq_of_testBit_eq
    intro j
    rw [andNot_bit, Nat.zero_testBit]
    cases e : (opN m (ptF F i b)).testBit j
    · rfl
    · obtain ⟨h1, ⟨s, s1, s2, s3⟩, t, t1, t2, t3⟩ := (opN_bit m j _).1 e
      rw [(opN_bit m j F).2 ⟨h1, ⟨s, s1, ptF_in s2, s3⟩, t, t1, ptF_in t2, t3⟩]; rfl
  · intro e
    rw [← e] at h
    obtain ⟨_, ⟨s, _, s2, s3⟩, t, _, t2, t3⟩ := (opN_bit m i _).1 h
    rw [ptF_at, Bool.and_eq_true, s3] at s2
    rw [ptF_at, Bool.and_eq_true, t3] at t2
    cases b
    · simp at s2
    · simp at t2
/-- The least so far, 0 ahead of the first. -/
def tlTo (c : Nat → Int) (I : List Int) : Nat → Int
  | 0 => 0
  | k + 1 => if tlTo c I k = 0 ∨ c (nth I k) < tlTo c I k then c (nth I k) else tlTo c I k
theorem tl_is {c : Nat → Int} {I : List Int} (hc : ∀ j, j < I.length → 0 < c (nth I j)) : ∀ k, k ≤ I.length → (k = 0 ∧ tlTo c I k = 0) ∨ (0 < k ∧ (∀ j, j < k → tlTo c I k ≤ c (nth I j)) ∧ ∃ j, j < k ∧ tlTo c I k = c (nth I j))
  | 0, _ => .inl ⟨rfl, rfl⟩
  | k + 1, h => by
    right
    refine ⟨by omega, ?_⟩
    rw [tlTo]
    rcases tl_is hc k (by omega) with ⟨rfl, e⟩ | ⟨h1, h2, j0, hj0, e0⟩
    · rw [if_pos (.inl e)]
      exact ⟨fun j hj => by rw [show j = 0 by omega]; exact Int.le_refl _, 0, by omega, rfl⟩
    · have hne : tlTo c I k ≠ 0 := by have := hc j0 (by omega); omega
      by_cases hlt : c (nth I k) < tlTo c I k
      · rw [if_pos (.inr hlt)]
        refine ⟨fun j hj => ?_, k, by omega, rfl⟩
        rcases Nat.lt_or_ge j k with h3 | h3
        · have := h2 j h3; omega
        · rw [show j = k by omega]; exact Int.le_refl _
      · rw [if_neg (by intro h4; rcases h4 with h4 | h4; exact hne h4; exact hlt h4)]
        refine ⟨fun j hj => ?_, j0, by omega, e0⟩
        rcases Nat.lt_or_ge j k with h3 | h3
        · exact h2 j h3
        · rw [show j = k by omega]; omega
theorem tl_end {m : Nat} (hm7 : m ≤ 7) {F : Nat → Bool} (hF : ∀ x, F x = true → x ≤ low m) : tlTo (vcN gT m F) (itemsL (opN m F)) (itemsL (opN m F)).length = (vmN gT m F : Int) := by
  have hO8 := opN_lt m hm7 F
  obtain ⟨h1, h2, h3⟩ := items_seq hO8
  by_cases h0 : opN m F = 0
  · rw [vmN_zero h0, h0]; rfl
  · have hn := next_ex (c := vcN gT m F) hO8 h0
    have hp : ∀ j, j < (itemsL (opN m F)).length → 0 < vcN gT m F (nth (itemsL (opN m F)) j) := fun j _ => tm_pos hm7 hF _ h0
    obtain ⟨q, hq, hqe⟩ := h3 _ hn.1
    rw [vmN_step hm7 hF h0]
    rcases tl_is hp _ (Nat.le_refl _) with ⟨e, _⟩ | ⟨_, h4, j, hj, e⟩
    · omega
    · have a1 := h4 q hq
      rw [hqe] at a1
      have a2 := hn.2.1 _ (h1 j hj).2.2
      omega
attribute [local irreducible] p2 low memB risB famAt own mapAt
theorem ent_countI : enters Tryd.prog 64 := enters_of Tryd.func64 (by kernel_rfl) (by kernel_rfl)
theorem ent_tleast : enters Tryd.prog 55 := enters_of Tryd.func55 (by kernel_rfl) (by kernel_rfl)
set_option maxHeartbeats 16000000 in
theorem tleast_step (m b U : Nat) (F : Nat → Bool) (hm7 : m ≤ 7) (hgb : 1 ≠ b) (hF : ∀ x, F x = true → x ≤ low m)
    (hIH : ∀ (i : Nat) (bb : Bool) (w : World) (n : Nat) (D : DataW Unit), (opN m F).testBit i = true → mapAt w b n D → totOk m D → n + U < maxLen → tab w →
      Calls Tryd.prog 55 #[.map (some b), .agg (fam (m : Int) (ptF F i bb))] w fun e w' => ∃ n' D', e = .returned (.int .i64 (vmN gT m (ptF F i bb) : Int)) ∧ mapAt w' b n' D' ∧ totOk m D' ∧ n' ≤ n + U ∧ Blx (some b) w.heap.size w w')
    (w : World) (n : Nat) (D : DataW Unit) (hM : mapAt w b n D) (hok : totOk m D) (hU : n + 14 * U + 1 < maxLen) (hT : tab w) :
    Calls Tryd.prog 55 #[.map (some b), .agg (fam (m : Int) F)] w fun e w' => ∃ n' D', e = .returned (.int .i64 (vmN gT m F : Int)) ∧ mapAt w' b n' D' ∧ totOk m D' ∧ n' ≤ n + 14 * U + 1 ∧ Blx (some b) w.heap.size w w' := by
  have hbw := hM.lt
  have hb0 := (Below.refl w.heap.size w).alloc (Nat.le_refl _) (.cells (fam (m : Int) F) 46)
  have HM0 := hide (hM.blx hb0)
  have HT0 := hide (hT.below hb0)
  have HF0 := hide (famAt.new 46 w (m : Int) F)
  have HB0 := hide (Blx.of (o := some b) hb0)
  have HZ0 := hide (show (w.alloc (.cells (fam (m : Int) F) 46)).heap.size = w.heap.size + 1 by simp)
  have HFF := hide hF
  have HOK := hide hok
  have HIH := hide hIH
  have hO8 := opN_lt m hm7 F
  clear hM hT hb0 hok hIH hF
  cases hh : Maps.has D (kf m F)
  · have HHH := hide hh
    obtain ⟨hs1, hs2, _⟩ := items_seq hO8
    have HS1 := hide hs1
    have hlen7 := itemsL_len (opN m F) hO8
    have HEND := hide (tl_end hm7 HFF.out)
    have HOP := hide (fun w1 => open_c m F w1 hm7)
    have HVT := hide (fun i => show vcN gT m F i = (cntS F : Int) + (vmN gT m (ptF F i true) : Int) + (vmN gT m (ptF F i false) : Int) by unfold vcN gT; omega)
    have HAQ := hide (show ∀ i bb, vmN gT m (ptF F i bb) ≤ 16384 from fun i bb => by
      have h1 := tm_le m hm7 _ (ptF F i bb) (low_part HFF.out) (Nat.le_refl _)
      have h2 := cntS_le (ptF F i bb)
      exact Nat.le_trans h1 (Nat.mul_le_mul h2 h2))
    have HTL := hide (fun k => show tlTo (vcN gT m F) (itemsL (opN m F)) (k + 1) = if tlTo (vcN gT m F) (itemsL (opN m F)) k = 0 ∨ vcN gT m F (nth (itemsL (opN m F)) k) < tlTo (vcN gT m F) (itemsL (opN m F)) k then vcN gT m F (nth (itemsL (opN m F)) k) else tlTo (vcN gT m F) (itemsL (opN m F)) k from rfl)
    have hcl := cntS_le F
    have HPUT := hide (fun D2 (h : totOk m D2) (hD : IsMap D2) => totOk_put hm7 h hD HFF.out)
    have HV := hide (show plainElem (H := Unit) Tryd.prog 3 (.int .i64 (vmN gT m F : Int)) = some (.lit (.int .i64 (vmN gT m F : Int)), []) from plainElem_int intUI (by
      have h1 := tm_le m hm7 _ F HFF.out (Nat.le_refl _)
      have h2 := cntS_le F
      have h3 := Nat.le_trans h1 (Nat.mul_le_mul h2 h2)
      generalize vmN gT m F = q at h3
      exact wf_small q (by omega)))
    have HIT := hide (fun w1 (h : tab w1) => items_c (opN m F) w1 hO8 h)
    clear hs1 hs2 hh
    generalize opN m F = O at *
    generalize itemsL O = I at *
    go_enter Tryd.func55, Tryd.ntmps55
    go_wp2_with (first
      | (refine wpList_load_fam rowT sizeT rfl (.tmp 3) rfl w.heap.size rfl (m : Int) F (by first | exact HF1.out | exact HF0.out) ?_)
      | (at_lookup; refine wpList_lookup_own_ok_int _ rfl _ _ 73 rfl 46 3 .i64 lawFam totUI intUI (zeroI _) b n D rfl HM0.out.own _ (kf m F) rfl (kf_is hm7 F) ?_; intro c hat hwc; rw [HHH.out]; clear hat hwc)
      | (go_at_call 60; refine (HOP.out _).mono ?_; rintro e w1 ⟨rfl, hb1⟩; have hz1 := hb1.size; rw [HZ0.out] at hz1; have HM1 := hide (HM0.out.blx hb1); have HT1 := hide (HT0.out.below hb1); have HF1 := hide (HF0.out.below hb1 HF0.out.lt); have HB1 := hide (HB0.out.trans (Blx.of (hb1.mono (by rw [HZ0.out]; omega)))); clear hb1)
      | (go_at_call 66; refine (HIT.out _ HT1.out).mono ?_; rintro e w2 ⟨v2, rfl, ho2, hb2⟩; have hz2 := hb2.size; have HO2 := hide ho2; have HLI := hide ho2.ints; have HM2 := hide (HM1.out.blx hb2); have HT2 := hide (HT1.out.below hb2); have HF2 := hide (HF1.out.below hb2 HF1.out.lt); have HB2 := hide (HB1.out.trans (Blx.of (hb2.mono (by omega)))); clear ho2 hb2)
      | (refine wpList_len sliceT rfl (.tmp 23) rfl v2 rfl w2.heap.size I HLI.out ?_))
    go_loopw [7, 25] (fun x i wr => ∃ (k n2 : Nat) (D2 : DataW Unit), k ≤ I.length ∧ i = .int .i64 (k : Int) ∧ x = .int .i64 (tlTo (vcN gT m F) I k) ∧ n2 ≤ n + 2 * k * U ∧ Hid (mapAt wr b n2 D2) ∧ Hid (totOk m D2) ∧ Hid (tab wr) ∧ Hid (famAt 46 wr w.heap.size (m : Int) F) ∧ Hid (own 3 wr w1.heap.size v2 I) ∧ Hid (w1.heap.size ≤ wr.heap.size) ∧ Hid (Blx (some b) w.heap.size w wr)) (fun _ i _ => I.length - (intOf i).toNat)
    case atStart => exact ⟨0, n, D, Nat.zero_le _, rfl, rfl, by omega, HM2, HOK, HT2, HF2, HO2, hz2, HB2⟩
    case round =>
      clear HM2 HT2 HF2 HO2 HB2 HM1 HT1 HF1 HB1 HM0 HT0 HF0 HB0
      obtain ⟨k, n2, D2, hk, rfl, rfl, hn2, HMr, HOKr, HTr, HFr, HOr, HZr, HBr⟩ := hrel
      have hzr := HZr.out
      have hbr := HMr.out.lt
      by_cases hlt : k < I.length
      · obtain ⟨hx, hx7, hxb⟩ := HS1.out k hlt
        have HX := hide hx
        have HLW := hide HOr.out.ints
        have HPT := hide (fun w1 => parted_c m F (nth I k) w1 hm7 HFF.out hx7)
        have HI1 := hide (fun w1 n1 D1 => HIH.out (nth I k) true w1 n1 D1 hxb)
        have HI2 := hide (fun w1 n1 D1 => HIH.out (nth I k) false w1 n1 D1 hxb)
        have HCN := hide (fun w1 => count_c (m : Int) F w1)
        have q1 := HAQ.out (nth I k) true
        have q2 := HAQ.out (nth I k) false
        have q3 := HVT.out (nth I k)
        have q4 := HTL.out k
        generalize hG1 : ptF F (nth I k) true = G1 at *
        generalize hG2 : ptF F (nth I k) false = G2 at *
        generalize (vmN gT m G1) = z1 at *
        generalize (vmN gT m G2) = z2 at *
        have hw1 : IntKind.i64.wrap ((cntS F : Int) + (z1 : Int)) = (cntS F : Int) + (z1 : Int) := IntWalk.i64_in _ (by omega)
        have hw2 : IntKind.i64.wrap ((cntS F : Int) + (z1 : Int) + (z2 : Int)) = vcN gT m F (nth I k) := by rw [q3]; exact IntWalk.i64_in _ (by omega)
        have HTN := hide q4
        clear q1 q2 q3 q4 hx hG1 hG2
        generalize vcN gT m F (nth I k) = ct at *
        generalize nth I k = s at *
        generalize (cntS F : Int) = cc at *
        generalize hX1 : tlTo (vcN gT m F) I (k + 1) = X1 at HTN
        generalize tlTo (vcN gT m F) I k = X at *
        have HX1 := hide hX1
        clear hX1
        go_wp2_with (first
          | (refine wpList_at sliceT intS rfl (.tmp _) (.tmp _) rfl _ rfl k rfl wr.heap.size I HLW.out hlt ?_; intro ad hcell hblk; rw [HX.out] at hcell)
          | (refine wpList_load_fam rowT sizeT rfl (.tmp 3) rfl w.heap.size rfl (m : Int) F HFr.out ?_)
          | (go_at_call 63; refine (HPT.out _).mono ?_; rintro e w5 ⟨rfl, hb5⟩; have hz5 := hb5.size; have HA := hide ((((famAt.new 46 w5 0 noSet).alloc (.cells (fam 0 noSet) 46)).row (m : Int) G1).rowO (w5.heap.size + 1) (by omega) (fam (m : Int) G2)); have HBB := hide (((show famAt 46 ((w5.alloc (.cells (fam 0 noSet) 46)).alloc (.cells (fam 0 noSet) 46)) (w5.heap.size + 1) 0 noSet by have h := famAt.new 46 (w5.alloc (.cells (fam 0 noSet) 46)) 0 noSet; simpa using h).rowO w5.heap.size (by omega) (fam (m : Int) G1)).row (m : Int) G2); have hbx := bl_row (bl_row (((Below.refl w5.heap.size w5).alloc (Nat.le_refl _) (.cells (fam 0 noSet) 46)).alloc (by simp) (.cells (fam 0 noSet) 46)) (Nat.le_refl _) (fam (m : Int) G1)) (show w5.heap.size ≤ w5.heap.size + 1 by omega) (fam (m : Int) G2); have HZ6 := hide (show ((((w5.alloc (.cells (fam 0 noSet) 46)).alloc (.cells (fam 0 noSet) 46)).setRow w5.heap.size (fam (m : Int) G1)).setRow (w5.heap.size + 1) (fam (m : Int) G2)).heap.size = w5.heap.size + 2 by simp [World.setRow]); have HB6 := hide (hb5.trans (hbx.mono hz5)); clear hb5 hbx)
          | (refine wpList_alloc_fam zeroT rfl rfl _ (by first | (simp only [World.size_alloc]; rfl) | rfl) ?_)
          | (refine wpList_store_fam sizeT rfl (.tmp 10) (.tmp _) rfl w5.heap.size _ _ rfl rfl _ _ ((famAt.new _ _ _ _).alloc _) ?_)
          | (refine wpList_store_fam sizeT rfl (.tmp 11) (.tmp _) rfl (w5.heap.size + 1) _ _ rfl rfl _ _ ((show famAt 46 ((w5.alloc (.cells (fam 0 noSet) 46)).alloc (.cells (fam 0 noSet) 46)) (w5.heap.size + 1) 0 noSet by have h := famAt.new 46 (w5.alloc (.cells (fam 0 noSet) 46)) 0 noSet; simpa using h).rowO w5.heap.size (by omega) (fam (m : Int) G1)) ?_))
        clear hcell hblk
        generalize (((w5.alloc (.cells (fam 0 noSet) 46)).alloc (.cells (fam 0 noSet) 46)).setRow w5.heap.size (fam (m : Int) G1)).setRow (w5.heap.size + 1) (fam (m : Int) G2) = W at *
        have hmul : 2 * (k + 1) * U = 2 * k * U + 2 * U := by rw [show 2 * (k + 1) = 2 * k + 2 by omega, Nat.add_mul]
        have hmul2 : 2 * (k + 1) * U ≤ 14 * U := Nat.mul_le_mul_right U (by omega)
        have hzW := HZ6.out
        have HMW := hide (HMr.out.blx HB6.out)
        have HTW := hide (HTr.out.below HB6.out)
        have HFW := hide (HFr.out.below HB6.out HFr.out.lt)
        have HOW := hide (HOr.out.kept HB6.out)
        have HBW := hide (HBr.out.trans (Blx.of (o := some b) (HB6.out.mono (by omega))))
        have hfl := HFr.out.lt
        refine wp_region_held (S := fun w' => Blx (some b) W.heap.size W w') (by kernel_rfl) ?_
        have hS0 : Blx (some b) W.heap.size W { W with drawn := W.drawn + 1 } := Blx.of (Below.refl _ _).drew
        have hM0 : mapAt { W with drawn := W.drawn + 1 } b n2 D2 := HMW.out.blx (Below.refl _ _).drew
        have hT0 : tab { W with drawn := W.drawn + 1 } := HTW.out.below (Below.refl _ _).drew
        have hzz : ({ W with drawn := W.drawn + 1 } : World).heap.size = W.heap.size := rfl
        generalize ({ W with drawn := W.drawn + 1 } : World) = V0 at hS0 hM0 hT0 hzz ⊢
        refine wpAnyH_take (i := 0) rfl (by kernel_rfl) (by kernel_rfl) (by kernel_rfl) (fun _ _ _ h => h) (yields_load_fam rowT sizeT rfl (.tmp 3) rfl w.heap.size rfl (m : Int) F (fun w' h => HFW.out.blx h (by omega) (by simp; omega))) hS0 ?_
        refine wpAnyH_take (i := 2) (v := .map (some b)) rfl (by kernel_rfl) (by kernel_rfl) (by kernel_rfl) (fun _ _ _ h => h) (.inl ⟨rfl, fun w' _ => by go_simp⟩) hS0 ?_
        refine wpAnyH_take (i := 3) rfl (by kernel_rfl) (by kernel_rfl) (by kernel_rfl) (fun _ _ _ h => h) (yields_load_fam rowT sizeT rfl (.tmp 10) rfl w5.heap.size rfl (m : Int) G1 (fun w' h => HA.out.blx h (by omega) (by simp; omega))) hS0 ?_
        refine wpAnyH_take (i := 6) (v := .map (some b)) rfl (by kernel_rfl) (by kernel_rfl) (by kernel_rfl) (fun _ _ _ h => h) (.inl ⟨rfl, fun w' _ => by go_simp⟩) hS0 ?_
        refine wpAnyH_take (i := 7) rfl (by kernel_rfl) (by kernel_rfl) (by kernel_rfl) (fun _ _ _ h => h) (yields_load_fam rowT sizeT rfl (.tmp 11) rfl (w5.heap.size + 1) rfl (m : Int) G2 (fun w' h => HBB.out.blx h (by omega) (by simp; omega))) hS0 ?_
        simp only [Act.put, List.getElem_toArray, List.getElem_cons_zero, List.getElem_cons_succ, List.setIfInBounds_toArray, List.set_cons_zero, List.set_cons_succ]
        refine anyH_call (i := 1) (by kernel_rfl) rfl rfl 64 ent_countI _ _ rfl #[.agg (fam (m : Int) F)] rfl (HCN.out V0) ?_
        rintro e V1 ⟨rfl, hv1⟩
        have hS1 := hS0.trans (Blx.of (o := some b) (hv1.mono (by omega)))
        have hM1 := hM0.blx hv1
        have hT1 := hT0.below hv1
        have hy1 := hv1.size
        refine ⟨_, rfl, hS1, ?_⟩
        simp only [Act.put, List.getElem_toArray, List.getElem_cons_zero, List.getElem_cons_succ, List.setIfInBounds_toArray, List.set_cons_zero, List.set_cons_succ]
        refine anyH_call (i := 4) (by kernel_rfl) rfl rfl 55 ent_tleast _ _ rfl #[.map (some b), .agg (fam (m : Int) G1)] rfl (HI1.out V1 n2 D2 hM1 HOKr.out (by omega) hT1) ?_
        rintro e V2 ⟨n3, D3, rfl, hM2, hok3, hn3, hv2⟩
        have hS2 := hS1.trans (hv2.mono (by omega))
        have hT2 := hT1.blx hv2 hgb
        have hy2 := hv2.size
        refine ⟨_, rfl, hS2, ?_⟩
        simp only [Act.put, List.getElem_toArray, List.getElem_cons_zero, List.getElem_cons_succ, List.setIfInBounds_toArray, List.set_cons_zero, List.set_cons_succ]
        refine wpAnyH_take (i := 5) (v := .int .i64 (cc + (z1 : Int))) rfl (by kernel_rfl) (by kernel_rfl) (by kernel_rfl) (fun _ _ _ h => h) (.inl ⟨rfl, fun w' _ => by simp [execOp, go_sem, hw1]⟩) hS2 ?_
        simp only [Act.put, List.getElem_toArray, List.getElem_cons_zero, List.getElem_cons_succ, List.setIfInBounds_toArray, List.set_cons_zero, List.set_cons_succ]
        refine anyH_call (i := 8) (by kernel_rfl) rfl rfl 55 ent_tleast _ _ rfl #[.map (some b), .agg (fam (m : Int) G2)] rfl (HI2.out V2 n3 D3 hM2 hok3 (by omega) hT2) ?_
        rintro e V3 ⟨n4, D4, rfl, hM3, hok4, hn4, hv3⟩
        have hS3 := hS2.trans (hv3.mono (by omega))
        have hT3 := hT2.blx hv3 hgb
        have hy3 := hv3.size
        refine ⟨_, rfl, hS3, ?_⟩
        simp only [Act.put, List.getElem_toArray, List.getElem_cons_zero, List.getElem_cons_succ, List.setIfInBounds_toArray, List.set_cons_zero, List.set_cons_succ]
        refine wpAnyH_take (i := 9) (v := .int .i64 ct) rfl (by kernel_rfl) (by kernel_rfl) (by kernel_rfl) (fun _ _ _ h => h) (.inl ⟨rfl, fun w' _ => by simp [execOp, go_sem, hw2]⟩) hS3 ?_
        simp only [Act.put, List.getElem_toArray, List.getElem_cons_zero, List.getElem_cons_succ, List.setIfInBounds_toArray, List.set_cons_zero, List.set_cons_succ]
        refine anyH_op (i := 10) (by kernel_rfl) rfl rfl (.int .i64 ct) V3 (by simp [go_sem]) hS3 ?_
        refine wpAnyH_done (by kernel_rfl) ?_ _
        simp only [Act.put, List.getElem_toArray, List.getElem_cons_zero, List.getElem_cons_succ, List.setIfInBounds_toArray, List.set_cons_zero, List.set_cons_succ]
        have HM5 := hide hM3
        have HK5 := hide hok4
        have HT5 := hide hT3
        have HF5 := hide (HFW.out.blx hS3 (by omega) (by simp; omega))
        have HO5 := hide (HOW.out.blx hS3 (fun (c : Nat) (hc : some b = some c) => show c < w1.heap.size from by rw [← Option.some.inj hc]; omega))
        have HB5 := hide (HBW.out.trans (hS3.mono (by omega)))
        have hsz5 := hS3.size
        have hn5 : n4 ≤ n + 2 * (k + 1) * U := by omega
        clear hS0 hM0 hT0 hzz hv1 hS1 hM1 hT1 hv2 hS2 hT2 hv3 hS3 hT3 hM2 hok3 hM3 hok4
        by_cases hX0 : X = 0
        · have HN := hide (show X1 = ct by rw [HTN.out, if_pos (.inl hX0)])
          have hXb : (X == 0) = true := by simp [hX0]
          go_wp2
          go_roundw
          case rel => exact ⟨k + 1, n4, D4, by omega, by go_num, by rw [HX1.out, HN.out], hn5, HM5, HK5, HT5, HF5, HO5, hide (by omega), HB5⟩
          case measure => (simp [intOf] <;> omega)
        · have hXb : (X == 0) = false := by simp [hX0]
          by_cases hcX : ct < X
          · have HN := hide (show X1 = ct by rw [HTN.out, if_pos (.inr hcX)])
            go_wp2
            go_roundw
            case rel => exact ⟨k + 1, n4, D4, by omega, by go_num, by rw [HX1.out, HN.out], hn5, HM5, HK5, HT5, HF5, HO5, hide (by omega), HB5⟩
            case measure => (simp [intOf] <;> omega)
          · have HN := hide (show X1 = X by rw [HTN.out, if_neg (by intro h; rcases h with h | h; exact hX0 h; exact hcX h)])
            go_wp2
            go_roundw
            case rel => exact ⟨k + 1, n4, D4, by omega, by go_num, by rw [HX1.out, HN.out], hn5, HM5, HK5, HT5, HF5, HO5, hide (by omega), HB5⟩
            case measure => (simp [intOf] <;> omega)
      · have hke : k = I.length := by omega
        have hmul : 2 * k * U ≤ 14 * U := Nat.mul_le_mul_right U (by omega)
        have hn3 : n2 < maxLen := by omega
        have e1 : tlTo (vcN gT m F) I k = (vmN gT m F : Int) := by rw [hke]; exact HEND.out
        have hlt' : ¬ ((k : Int) < (I.length : Int)) := by omega
        rw [e1]
        clear e1
        go_wp2_with (first
          | (refine wpList_load_fam rowT sizeT rfl (.tmp 3) rfl w.heap.size rfl (m : Int) F HFr.out ?_)
          | (at_mapUpdate; refine wpList_mapUpdate_own _ rfl _ _ _ 73 rfl 46 3 lawFam totUI _ b n2 D2 rfl HMr.out.own hn3 _ _ (kf m F) rfl rfl (kf_is hm7 F) _ [] HV.out ?_; intro w6 hown6 hgrow6; have HM6 := hide (mapAt.mk hown6); have HB6 := hide (HBr.out.trans ((Blx.ofGrown hgrow6).mono (by omega))); clear hown6 hgrow6))
        go_ret
        have HP6 := HPUT.out D2 HOKr.out HMr.out.isMap
        have hle6 : n2 + 1 ≤ n + 14 * U + 1 := by omega
        first
          | exact ⟨rfl, n2 + 1, D2.put (kf m F) (.lit (.int .i64 (vmN gT m F : Int))), HM6.out, HP6, hle6, HB6.out⟩
          | exact ⟨n2 + 1, D2.put (kf m F) (.lit (.int .i64 (vmN gT m F : Int))), rfl, HM6.out, HP6, hle6, HB6.out⟩
  · have hzd := HOK.out F HFF.out hh (.lit (.int .i64 0))
    have HHH := hide hh
    have HZD := hide hzd
    clear hh hzd
    go_enter Tryd.func55, Tryd.ntmps55
    go_wp2_with (first
      | (refine wpList_load_fam rowT sizeT rfl (.tmp 3) rfl w.heap.size rfl (m : Int) F HF0.out ?_)
      | (at_lookup; refine wpList_lookup_own_ok_int _ rfl _ _ 73 rfl 46 3 .i64 lawFam totUI intUI (zeroI _) b n D rfl HM0.out.own _ (kf m F) rfl (kf_is hm7 F) ?_; intro c hat hwc; rw [HHH.out]; have HAT := hide hat; clear hat hwc))
    go_ret
    refine ⟨n, D, ?_, HM0.out, HOK.out, by omega, HB0.out⟩
    have h := HAT.out
    rw [HZD.out] at h
    injection h with h
    injection h with h1 h2
    rw [h2]; rfl
set_option maxHeartbeats 16000000 in
theorem tleast_c (m : Nat) (b : Nat) (hm7 : m ≤ 7) (hgb : 1 ≠ b) : ∀ (d : Nat) (F : Nat → Bool) (w : World) (n : Nat) (D : DataW Unit), (∀ x, F x = true → x ≤ low m) → pc (opN m F) ≤ d → mapAt w b n D → b < w.heap.size → totOk m D → n + 15 ^ (d + 1) < maxLen → tab w →
    Calls Tryd.prog 55 #[.map (some b), .agg (fam (m : Int) F)] w fun e w' => ∃ n' D', e = .returned (.int .i64 (vmN gT m F : Int)) ∧ mapAt w' b n' D' ∧ totOk m D' ∧ n' ≤ n + 15 ^ (d + 1) ∧ Blx (some b) w.heap.size w w' := by
  intro d
  induction d with
  | zero =>
    intro F w n D hF hpc hM _ hok hU hT
    have h0 : opN m F = 0 := by
      have h8 := opN_lt m hm7 F
      generalize opN m F = O at *
      exact pc_zero0I O h8 (by omega)
    refine (tleast_step m b 0 F hm7 hgb hF (fun i bb w1 n1 D1 hi => by rw [h0, Nat.zero_testBit] at hi; cases hi) w n D hM hok (by omega) hT).mono ?_
    rintro e w' ⟨n', D', rfl, h1, h2, h3, h4⟩
    exact ⟨n', D', rfl, h1, h2, by omega, h4⟩
  | succ d ih =>
    intro F w n D hF hpc hM _ hok hU hT
    have hpw : 15 ^ (d + 1 + 1) = 15 * 15 ^ (d + 1) := by rw [Nat.pow_succ, Nat.mul_comm]
    have hpos : 0 < 15 ^ (d + 1) := Nat.pow_pos (by omega)
    generalize hP : 15 ^ (d + 1) = P at *
    rw [hpw] at hU ⊢
    refine (tleast_step m b P F hm7 hgb hF (fun i bb w1 n1 D1 hi hM1 hok1 hU1 hT1 => ?_) w n D hM hok (by omega) hT).mono ?_
    · have := pc_part hm7 hi bb
      exact ih (ptF F i bb) w1 n1 D1 (low_part hF) (by omega) hM1 hM1.lt hok1 hU1 hT1
    · rintro e w' ⟨n', D', rfl, h1, h2, h3, h4⟩
      exact ⟨n', D', rfl, h1, h2, by omega, h4⟩
end Go.Proofs.YtijgngnjhmkhaaaDoor
