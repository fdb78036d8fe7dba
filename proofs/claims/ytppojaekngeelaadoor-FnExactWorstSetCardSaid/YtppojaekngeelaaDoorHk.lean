/- Contracts: runs of a strategy, and the worst of them. -/
import Derived.Test.YtppojaekngeelaaDoorHg
namespace Go.Proofs.YtppojaekngeelaaDoor
open Go.RowKit
set_option maxRecDepth 100000
set_option linter.unusedSimpArgs false
/-- As `Below`, but one block may have turned. -/
structure Blx (o : Option Nat) (B : Nat) (w w' : World) : Prop where
  os : w'.os = w.os
  tape : w'.tape = w.tape
  output : w'.output = w.output
  size : w.heap.size ≤ w'.heap.size
  block : ∀ k, k < B → some k ≠ o → w'.heap[k]? = w.heap[k]?
theorem Blx.of {o : Option Nat} {B : Nat} {w w' : World} (h : Below B w w') : Blx o B w w' := ⟨h.os, h.tape, h.output, h.size, fun k hk _ => h.block k hk⟩
theorem Blx.below {B : Nat} {w w' : World} (h : Blx none B w w') : Below B w w' := ⟨h.os, h.tape, h.output, h.size, fun k hk => h.block k hk (by simp)⟩
theorem Blx.trans {o : Option Nat} {B : Nat} {a b c : World} (h : Blx o B a b) (k : Blx o B b c) : Blx o B a c :=
  ⟨k.os.trans h.os, k.tape.trans h.tape, k.output.trans h.output, Nat.le_trans h.size k.size, fun i hi hne => (k.block i hi hne).trans (h.block i hi hne)⟩
theorem Blx.mono {o : Option Nat} {B B' : Nat} {w w' : World} (h : Blx o B w w') (hB : B' ≤ B) : Blx o B' w w' := ⟨h.os, h.tape, h.output, h.size, fun k hk => h.block k (Nat.lt_of_lt_of_le hk hB)⟩
theorem Blx.grown {o : Option Nat} {w w' : World} (h : Blx o w.heap.size w w') : w.grownBy w' o := ⟨h.os, h.tape, h.output, h.size, fun k hk hne => h.block k hk hne⟩
theorem famAt.blx {T : TypeId} {w w' : World} {b B : Nat} {o : Option Nat} {n : Int} {F : Nat → Bool} (h : famAt T w b n F) (hb : Blx o B w w') (hB : b < B) (hne : some b ≠ o) : famAt T w' b n F := (hb.block b hB hne).trans h
theorem own.blx {I : TypeId} {w w' : World} {base : Nat} {o : Option Nat} {v : Value} {l : List Int} (h : own I w base v l) (hb : Blx o w.heap.size w w') (ho : ∀ b, o = some b → b < base) : own I w' base v l := by
  refine World.ownsRow.kept h hb.grown ?_
  cases e : v.ownBlock with
  | none => exact .inl rfl
  | some g =>
    refine .inr fun e2 => ?_
    have h1 := (World.ownsRow.lt h g e).1
    have h2 := ho g e2.symm
    omega
theorem own.rowLow {I : TypeId} {w : World} {base : Nat} {v : Value} {l : List Int} (h : own I w base v l) (b : Nat) (hb : b < base) (c : Array Value) : own I (w.setRow b c) base v l := by
  obtain ⟨h1, h2⟩ := h
  refine ⟨h1, ?_⟩
  rcases h2 with h2 | ⟨g, cap, cur, e, hg, hh, r⟩
  · exact .inl h2
  · exact .inr ⟨g, cap, cur, e, hg, (hp_rowO w b g c (by omega)).trans hh, r⟩
def lenV : Value → Nat
  | .slice _ n _ => n
  | _ => 0
theorem own.lenV {I : TypeId} {w : World} {base : Nat} {v : Value} {l : List Int} (h : own I w base v l) : lenV v = l.length := by
  obtain ⟨a, c, e⟩ := h.shape
  rw [e]; rfl
attribute [local irreducible] p2 low memB risB famAt own
set_option maxHeartbeats 8000000 in
theorem run_c (m : Nat) (F0 : Nat → Bool) (S : Nat) (kf : Nat) (pre caps : Array Value) (q : (Nat → Bool) → Nat) (J : Nat → World → Prop) (k0 : Nat) (o : Option Nat) (w : World)
    (hm7 : m ≤ 7) (hF0 : ∀ x, F0 x = true → x ≤ low m) (hS : S < 128) (hk : enters Tryd.prog kf) (ho : ∀ b, o = some b → b < w.heap.size)
    (hJ : J k0 w) (hJB : ∀ k w1 w2, J k w1 → Below w.heap.size w1 w2 → J k w2) (hJm : ∀ k w1, J k w1 → J (k + 1) w1)
    (hcl : ∀ (k : Nat) (F : Nat → Bool) (w1 : World), k < k0 + 128 → (∀ x, F x = true → x ≤ low m) → opN m F ≠ 0 → J k w1 → Blx o w.heap.size w w1 → Calls Tryd.prog kf (pre ++ #[.agg (fam (m : Int) F)] ++ caps) w1 fun e w2 => e = .returned (.int .i64 (q F : Int)) ∧ J (k + 1) w2 ∧ Blx o w1.heap.size w1 w2)
    (hq : ∀ F, (∀ x, F x = true → x ≤ low m) → opN m F ≠ 0 → (opN m F).testBit (q F) = true) :
    Calls Tryd.prog 32 #[.agg #[.func (.func kf) pre caps], .agg (fam (m : Int) F0), .int .i64 (S : Int)] w fun e w' => ∃ v, e = .returned v ∧ own 3 w' w.heap.size v (rnL m q S 128 F0) ∧ J (k0 + 128) w' ∧ Blx o w.heap.size w w' := by
  have hk1 : ∀ (args : Array Value) (w : World), Sem.run Tryd.prog (callFunc kf args) w = .ok (.enter kf args) w := hk
  have HJB := hide hJB
  have HCL := hide hcl
  have HQ := hide hq
  have HO0 := hide ho
  have hb0 := ((Below.refl w.heap.size w).alloc (Nat.le_refl _) (.cells #[.func (.func kf) pre caps] 60)).alloc (by simp) (.cells (fam (m : Int) F0) 45)
  have HJ0 := hide (hJB _ _ _ hJ hb0)
  have HJL := hide (show ∀ j k w1, J k w1 → J (k + j) w1 from fun j => by
    induction j with
    | zero => exact fun k w1 h => h
    | succ j ih => exact fun k w1 h => hJm _ _ (ih k w1 h))
  have HB0 := hide (Blx.of (o := o) hb0)
  have HK0 := hide (show famAt 45 ((w.alloc (.cells #[.func (.func kf) pre caps] 60)).alloc (.cells (fam (m : Int) F0) 45)) (w.heap.size + 1) (m : Int) F0 by have h := famAt.new 45 (w.alloc (.cells #[.func (.func kf) pre caps] 60)) (m : Int) F0; simpa using h)
  have HS0 := hide (show ((w.alloc (.cells #[.func (.func kf) pre caps] 60)).alloc (.cells (fam (m : Int) F0) 45)).heap[w.heap.size]? = some (.cells #[.func (.func kf) pre caps] 60) from (hp_old _ _ _ (by simp)).trans (hp_last _ _))
  have HZ0 := hide (show ((w.alloc (.cells #[.func (.func kf) pre caps] 60)).alloc (.cells (fam (m : Int) F0) 45)).heap.size = w.heap.size + 2 by simp)
  have HF0 := hide hF0
  clear hJ hJB hJm hcl hq ho hb0 hF0
  go_enter Tryd.func32, Tryd.ntmps32
  go_wp2_with fail
  generalize (w.alloc (.cells #[.func (.func kf) pre caps] 60)).alloc (.cells (fam (m : Int) F0) 45) = W0 at *
  go_loopw [7] (fun v wr => ∃ (A : List Int) (F : Nat → Bool) (g : Nat), Hid (A ++ rnL m q S g F = rnL m q S 128 F0) ∧ A.length + g ≤ 128 ∧ Hid (cntS F ≤ g) ∧ Hid (∀ x, F x = true → x ≤ low m) ∧ Hid (own 3 wr (w.heap.size + 2) v A) ∧ Hid (famAt 45 wr (w.heap.size + 1) (m : Int) F) ∧ Hid (wr.heap[w.heap.size]? = some (.cells #[.func (.func kf) pre caps] 60)) ∧ Hid (J (k0 + A.length) wr) ∧ Hid (w.heap.size + 2 ≤ wr.heap.size) ∧ Hid (Blx o w.heap.size w wr)) (fun v _ => 128 - lenV v)
  case atStart => exact ⟨[], F0, 128, rfl, by simp, cntS_le F0, HF0, own_nil _ _ _, HK0, HS0, HJ0, by rw [HZ0.out]; exact Nat.le_refl _, HB0⟩
  case round =>
    clear HK0 HS0 HJ0 HB0 HF0
    obtain ⟨A, F, g, HR, hAg, HC, HF, HO, HK, HS, HJ, HZ, HB⟩ := hrel
    have hz := HZ.out
    have HOP := hide (fun w1 => open_c m F w1 hm7)
    have hLV := hide HO.out.lenV
    by_cases h0 : opN m F = 0
    · have HE := hide (show A = rnL m q S 128 F0 by have := HR.out; rw [rnL_end h0, List.append_nil] at this; exact this)
      rw [h0] at HOP
      go_wp2_with (first
        | (refine wpList_load_fam rowT sizeT rfl (.tmp _) rfl (w.heap.size + 1) rfl (m : Int) F HK.out ?_)
        | (go_at_call 51; refine (HOP.out _).mono ?_; rintro e w1 ⟨rfl, hb1⟩; have HO1 := hide (HO.out.kept hb1); have HJ1 := hide (HJB.out _ _ _ HJ.out (hb1.mono (by omega))); have HB1 := hide (HB.out.trans (Blx.of (hb1.mono (by omega)))); clear hb1))
      go_ret
      exact ⟨_, rfl, by rw [← HE.out]; exact HO1.out.mono (by omega), by have h := HJL.out (128 - A.length) _ _ HJ1.out; rwa [show k0 + A.length + (128 - A.length) = k0 + 128 by omega] at h, HB1.out⟩
    · have hqb := HQ.out F HF.out h0
      have hq7 : q F < 7 := by have := ((opN_bit m _ F).1 hqb).1; omega
      have HPT := hide (fun w1 => parted_c m F (q F) w1 hm7 HF.out hq7)
      obtain ⟨g', rfl, hgo⟩ := rnL_go (q := q) (s := S) h0 HF.out hm7 HC.out
      have HR2 := hide (show (A ++ [(q F : Int)]) ++ rnL m q S g' (ptF F (q F) (S.testBit (q F))) = rnL m q S 128 F0 by have := HR.out; rw [hgo] at this; rw [← this]; simp)
      have HC2 := hide (show cntS (ptF F (q F) (S.testBit (q F))) ≤ g' by have h1 := part_less hqb (S.testBit (q F)); have := HC.out; omega)
      have HF2 := hide (low_part (i := q F) (b := S.testBit (q F)) HF.out)
      have HHS := hide (fun w1 => by have h := has_c (S : Int) (q F : Int) w1 (by omega) (by omega) (by omega) (by omega); rw [Int.toNat_natCast, Int.toNat_natCast] at h; exact h)
      have HCC := hide (fun w1 hj hb => HCL.out (k0 + A.length) F w1 (by omega) HF.out h0 hj hb)
      have hOb : ¬ ((opN m F : Int) = 0) := by omega
      have hOc : ((opN m F : Int) != 0) = true := by simp; omega
      clear hgo hqb h0
      have hp1 : ptF F (q F) true = leF F (p2 (q F)) 0 := rfl
      generalize hG1 : ptF F (q F) true = G1 at *
      generalize hG2 : ptF F (q F) false = G2 at *
      generalize opN m F = O at *
      cases hbit : S.testBit (q F)
      · rw [hbit, hG2] at HR2 HC2 HF2
        rw [hbit] at HHS
        clear hbit hG1 hG2 hp1
        generalize q F = i at *
        go_wp2_with (first
          | (refine wpList_load_fam rowT sizeT rfl (.tmp 4) rfl (w.heap.size + 1) rfl (m : Int) F HK1.out ?_)
          | (refine wpList_load_fam rowT sizeT rfl (.tmp 4) rfl (w.heap.size + 1) rfl (m : Int) F HK.out ?_)
          | (go_at_call 51; refine (HOP.out _).mono ?_; rintro e w1 ⟨rfl, hb1⟩; have hz1 := hb1.size; have HO1 := hide (HO.out.kept hb1); have HK1 := hide (HK.out.below hb1 (by omega)); have HS1 := hide ((hb1.block w.heap.size (by omega)).trans HS.out); have HJ1 := hide (HJB.out _ _ _ HJ.out (hb1.mono (by omega))); have HB1 := hide (HB.out.trans (Blx.of (hb1.mono (by omega)))); have cst : w1.cell? ⟨w.heap.size, 0, none⟩ = some (.func (.func kf) pre caps) := (by rw [hp_cell HS1.out]; rfl); clear hb1))
        refine (HCC.out _ HJ1.out HB1.out).mono ?_
        rintro e w2 ⟨rfl, hj2, hb2⟩
        have hz2 := hb2.size
        have HJ2 := hide hj2
        have HO2 := hide (HO1.out.blx hb2 (fun b hb => by have := HO0.out b hb; omega))
        have HK2 := hide (HK1.out.blx hb2 (by omega) (fun e => by have := HO0.out _ e.symm; omega))
        have HS2 := hide ((hb2.block w.heap.size (by omega) (fun e => by have := HO0.out _ e.symm; omega)).trans HS1.out)
        have HB2 := hide (HB1.out.trans (hb2.mono (by omega)))
        clear hb2 hj2 cst
        go_wp2_with (first
          | (at_builtin; refine wpList_append1 sliceT intI rfl _ _ rfl (w.heap.size + 2) _ _ rfl (HO2.out.alloc _) _ (i : Int) rfl (by simp [go_sem]) (by simp; omega) (by omega) ?_; intro v4 w4 ho4 hb4; have hb3 := ((Below.refl (w.heap.size + 2) w2).alloc (by omega) _).trans hb4; have hz4 := hb3.size; have HO4 := hide ho4; have HK4 := hide (HK2.out.below hb3 (by omega)); have HS4 := hide ((hb3.block w.heap.size (by omega)).trans HS2.out); have HJ4 := hide (HJB.out _ _ _ HJ2.out (hb3.mono (by omega))); have HB4 := hide (HB2.out.trans (Blx.of (hb3.mono (by omega)))); clear ho4 hb4 hb3)
          | (refine wpList_load_fam rowT sizeT rfl (.tmp 4) rfl (w.heap.size + 1) rfl (m : Int) F HK4.out ?_)
          | (go_at_call 52; refine (HPT.out _).mono ?_; rintro e w5 ⟨rfl, hb5⟩; have hz5 := hb5.size; have HA := hide ((((famAt.new 45 w5 0 noSet).alloc (.cells (fam 0 noSet) 45)).row (m : Int) G1).rowO (w5.heap.size + 1) (by omega) (fam (m : Int) G2)); have HBB := hide (((show famAt 45 ((w5.alloc (.cells (fam 0 noSet) 45)).alloc (.cells (fam 0 noSet) 45)) (w5.heap.size + 1) 0 noSet by have h := famAt.new 45 (w5.alloc (.cells (fam 0 noSet) 45)) 0 noSet; simpa using h).rowO w5.heap.size (by omega) (fam (m : Int) G1)).row (m : Int) G2); have hbx := bl_row (bl_row (((Below.refl w5.heap.size w5).alloc (Nat.le_refl _) (.cells (fam 0 noSet) 45)).alloc (by simp) (.cells (fam 0 noSet) 45)) (Nat.le_refl _) (fam (m : Int) G1)) (show w5.heap.size ≤ w5.heap.size + 1 by omega) (fam (m : Int) G2); have HZ6 := hide (show ((((w5.alloc (.cells (fam 0 noSet) 45)).alloc (.cells (fam 0 noSet) 45)).setRow w5.heap.size (fam (m : Int) G1)).setRow (w5.heap.size + 1) (fam (m : Int) G2)).heap.size = w5.heap.size + 2 by simp [World.setRow]); have hb6 := hb5.trans (hbx.mono hz5); have HO6 := hide (HO4.out.kept hb6); have HK6 := hide (HK4.out.below hb6 (by omega)); have HS6 := hide ((hb6.block w.heap.size (by omega)).trans HS4.out); have HJ6 := hide (HJB.out _ _ _ HJ4.out (hb6.mono (by omega))); have HB6 := hide (HB4.out.trans (Blx.of (hb6.mono (by omega)))); clear hb5 hbx hb6)
          | (refine wpList_alloc_fam zeroT rfl rfl _ (by first | (simp only [World.size_alloc]; rfl) | rfl) ?_)
          | (refine wpList_store_fam sizeT rfl (.tmp 9) (.tmp _) rfl w5.heap.size _ _ rfl rfl _ _ ((famAt.new _ _ _ _).alloc _) ?_)
          | (refine wpList_store_fam sizeT rfl (.tmp 10) (.tmp _) rfl (w5.heap.size + 1) _ _ rfl rfl _ _ ((show famAt 45 ((w5.alloc (.cells (fam 0 noSet) 45)).alloc (.cells (fam 0 noSet) 45)) (w5.heap.size + 1) 0 noSet by have h := famAt.new 45 (w5.alloc (.cells (fam 0 noSet) 45)) 0 noSet; simpa using h).rowO w5.heap.size (by omega) (fam (m : Int) G1)) ?_)
          | (go_at_call 53; refine (HHS.out _).mono ?_; rintro e w7 ⟨rfl, rfl⟩)
          | (refine wpList_load_fam rowT sizeT rfl (.tmp 9) rfl w5.heap.size rfl (m : Int) G1 HA.out ?_)
          | (refine wpList_load_fam rowT sizeT rfl (.tmp 10) rfl (w5.heap.size + 1) rfl (m : Int) G2 HBB.out ?_)
          | (refine wpList_store_fam sizeT rfl (.tmp 4) (.tmp _) rfl (w.heap.size + 1) (m : Int) _ rfl rfl _ _ HK6.out ?_)
          )
        simp only [Act.put, List.setIfInBounds_toArray, List.set_cons_zero, List.set_cons_succ]
        go_roundw
        case rel => exact ⟨A ++ [(i : Int)], G2, g', HR2, by simp; omega, HC2, HF2, HO6.out.rowLow _ (by omega) _, HK6.out.row _ _, (hp_rowO _ (w.heap.size + 1) w.heap.size _ (by omega)).trans HS6.out, (by show J (k0 + (A ++ [(i : Int)]).length) _; rw [show (A ++ [(i : Int)]).length = A.length + 1 by simp, ← Nat.add_assoc]; exact HJB.out _ _ _ HJ6.out (bl_row (Below.refl w.heap.size _) (show w.heap.size ≤ w.heap.size + 1 by omega) _)), hide (by simp [World.setRow]; omega), HB6.out.trans (Blx.of (bl_row (Below.refl w.heap.size _) (show w.heap.size ≤ w.heap.size + 1 by omega) _))⟩
        case measure =>
          have h1 := (HO6.out.rowLow (w.heap.size + 1) (by omega) (fam (m : Int) G2)).lenV
          have h2 := hLV.out
          simp at h1
          omega
      · rw [hbit, hG1] at HR2 HC2 HF2
        rw [hbit] at HHS
        clear hbit hG1 hG2 hp1
        generalize q F = i at *
        go_wp2_with (first
          | (refine wpList_load_fam rowT sizeT rfl (.tmp 4) rfl (w.heap.size + 1) rfl (m : Int) F HK1.out ?_)
          | (refine wpList_load_fam rowT sizeT rfl (.tmp 4) rfl (w.heap.size + 1) rfl (m : Int) F HK.out ?_)
          | (go_at_call 51; refine (HOP.out _).mono ?_; rintro e w1 ⟨rfl, hb1⟩; have hz1 := hb1.size; have HO1 := hide (HO.out.kept hb1); have HK1 := hide (HK.out.below hb1 (by omega)); have HS1 := hide ((hb1.block w.heap.size (by omega)).trans HS.out); have HJ1 := hide (HJB.out _ _ _ HJ.out (hb1.mono (by omega))); have HB1 := hide (HB.out.trans (Blx.of (hb1.mono (by omega)))); have cst : w1.cell? ⟨w.heap.size, 0, none⟩ = some (.func (.func kf) pre caps) := (by rw [hp_cell HS1.out]; rfl); clear hb1))
        refine (HCC.out _ HJ1.out HB1.out).mono ?_
        rintro e w2 ⟨rfl, hj2, hb2⟩
        have hz2 := hb2.size
        have HJ2 := hide hj2
        have HO2 := hide (HO1.out.blx hb2 (fun b hb => by have := HO0.out b hb; omega))
        have HK2 := hide (HK1.out.blx hb2 (by omega) (fun e => by have := HO0.out _ e.symm; omega))
        have HS2 := hide ((hb2.block w.heap.size (by omega) (fun e => by have := HO0.out _ e.symm; omega)).trans HS1.out)
        have HB2 := hide (HB1.out.trans (hb2.mono (by omega)))
        clear hb2 hj2 cst
        go_wp2_with (first
          | (at_builtin; refine wpList_append1 sliceT intI rfl _ _ rfl (w.heap.size + 2) _ _ rfl (HO2.out.alloc _) _ (i : Int) rfl (by simp [go_sem]) (by simp; omega) (by omega) ?_; intro v4 w4 ho4 hb4; have hb3 := ((Below.refl (w.heap.size + 2) w2).alloc (by omega) _).trans hb4; have hz4 := hb3.size; have HO4 := hide ho4; have HK4 := hide (HK2.out.below hb3 (by omega)); have HS4 := hide ((hb3.block w.heap.size (by omega)).trans HS2.out); have HJ4 := hide (HJB.out _ _ _ HJ2.out (hb3.mono (by omega))); have HB4 := hide (HB2.out.trans (Blx.of (hb3.mono (by omega)))); clear ho4 hb4 hb3)
          | (refine wpList_load_fam rowT sizeT rfl (.tmp 4) rfl (w.heap.size + 1) rfl (m : Int) F HK4.out ?_)
          | (go_at_call 52; refine (HPT.out _).mono ?_; rintro e w5 ⟨rfl, hb5⟩; have hz5 := hb5.size; have HA := hide ((((famAt.new 45 w5 0 noSet).alloc (.cells (fam 0 noSet) 45)).row (m : Int) G1).rowO (w5.heap.size + 1) (by omega) (fam (m : Int) G2)); have HBB := hide (((show famAt 45 ((w5.alloc (.cells (fam 0 noSet) 45)).alloc (.cells (fam 0 noSet) 45)) (w5.heap.size + 1) 0 noSet by have h := famAt.new 45 (w5.alloc (.cells (fam 0 noSet) 45)) 0 noSet; simpa using h).rowO w5.heap.size (by omega) (fam (m : Int) G1)).row (m : Int) G2); have hbx := bl_row (bl_row (((Below.refl w5.heap.size w5).alloc (Nat.le_refl _) (.cells (fam 0 noSet) 45)).alloc (by simp) (.cells (fam 0 noSet) 45)) (Nat.le_refl _) (fam (m : Int) G1)) (show w5.heap.size ≤ w5.heap.size + 1 by omega) (fam (m : Int) G2); have HZ6 := hide (show ((((w5.alloc (.cells (fam 0 noSet) 45)).alloc (.cells (fam 0 noSet) 45)).setRow w5.heap.size (fam (m : Int) G1)).setRow (w5.heap.size + 1) (fam (m : Int) G2)).heap.size = w5.heap.size + 2 by simp [World.setRow]); have hb6 := hb5.trans (hbx.mono hz5); have HO6 := hide (HO4.out.kept hb6); have HK6 := hide (HK4.out.below hb6 (by omega)); have HS6 := hide ((hb6.block w.heap.size (by omega)).trans HS4.out); have HJ6 := hide (HJB.out _ _ _ HJ4.out (hb6.mono (by omega))); have HB6 := hide (HB4.out.trans (Blx.of (hb6.mono (by omega)))); clear hb5 hbx hb6)
          | (refine wpList_alloc_fam zeroT rfl rfl _ (by first | (simp only [World.size_alloc]; rfl) | rfl) ?_)
          | (refine wpList_store_fam sizeT rfl (.tmp 9) (.tmp _) rfl w5.heap.size _ _ rfl rfl _ _ ((famAt.new _ _ _ _).alloc _) ?_)
          | (refine wpList_store_fam sizeT rfl (.tmp 10) (.tmp _) rfl (w5.heap.size + 1) _ _ rfl rfl _ _ ((show famAt 45 ((w5.alloc (.cells (fam 0 noSet) 45)).alloc (.cells (fam 0 noSet) 45)) (w5.heap.size + 1) 0 noSet by have h := famAt.new 45 (w5.alloc (.cells (fam 0 noSet) 45)) 0 noSet; simpa using h).rowO w5.heap.size (by omega) (fam (m : Int) G1)) ?_)
          | (go_at_call 53; refine (HHS.out _).mono ?_; rintro e w7 ⟨rfl, rfl⟩)
          | (refine wpList_load_fam rowT sizeT rfl (.tmp 9) rfl w5.heap.size rfl (m : Int) G1 HA.out ?_)
          | (refine wpList_load_fam rowT sizeT rfl (.tmp 10) rfl (w5.heap.size + 1) rfl (m : Int) G2 HBB.out ?_)
          | (refine wpList_store_fam sizeT rfl (.tmp 4) (.tmp _) rfl (w.heap.size + 1) (m : Int) _ rfl rfl _ _ HK6.out ?_)
          )
        simp only [Act.put, List.setIfInBounds_toArray, List.set_cons_zero, List.set_cons_succ]
        go_roundw
        case rel => exact ⟨A ++ [(i : Int)], G1, g', HR2, by simp; omega, HC2, HF2, HO6.out.rowLow _ (by omega) _, HK6.out.row _ _, (hp_rowO _ (w.heap.size + 1) w.heap.size _ (by omega)).trans HS6.out, (by show J (k0 + (A ++ [(i : Int)]).length) _; rw [show (A ++ [(i : Int)]).length = A.length + 1 by simp, ← Nat.add_assoc]; exact HJB.out _ _ _ HJ6.out (bl_row (Below.refl w.heap.size _) (show w.heap.size ≤ w.heap.size + 1 by omega) _)), hide (by simp [World.setRow]; omega), HB6.out.trans (Blx.of (bl_row (Below.refl w.heap.size _) (show w.heap.size ≤ w.heap.size + 1 by omega) _))⟩
        case measure =>
          have h1 := (HO6.out.rowLow (w.heap.size + 1) (by omega) (fam (m : Int) G1)).lenV
          have h2 := hLV.out
          simp at h1
          omega
end Go.Proofs.YtppojaekngeelaaDoor
