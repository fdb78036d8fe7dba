/- Contracts: the chains of irreducible sets, the specification's. -/
import Derived.Test.YtblglkgmnaklbaaWdg
namespace Go.Proofs.Ytblglkgmnaklbaa
open Go.RowKit
set_option maxRecDepth 100000
set_option linter.unusedSimpArgs false
section
variable {P : Nat → Bool} {s : Mst} (h0 : P 0 = false) (hP : ∀ x, P x = true → x < 128) (hs : OkM P s)
include h0 hP hs
/-- The sets that are behind none. -/
theorem rm_bf (x : Nat) : rmTo P s.nx 128 x = (P x && (s.bf x == 0)) := by
  rw [Bool.eq_iff_iff, rmTo_iff, Bool.and_eq_true, beq_iff_eq]
  constructor
  · rintro ⟨h1, h2⟩
    refine ⟨h1, ?_⟩
    by_cases e : s.bf x = 0
    · exact e
    · have h3 := hs.b x e
      have hx0 : x ≠ 0 := fun e2 => by rw [e2, h0] at h1; cases h1
      have h4 := (hs.w (s.bf x) (by rw [h3]; exact hx0)).1
      exact absurd h3 (h2 _ (hP _ h4))
  · rintro ⟨h1, h2⟩
    refine ⟨h1, fun j _ e => ?_⟩
    have hx0 : x ≠ 0 := fun e2 => by rw [e2, h0] at h1; cases h1
    have hne : s.nx j ≠ 0 := by rw [e]; exact hx0
    have h3 := hs.a j hne
    rw [e, h2] at h3
    have h4 := (hs.w j hne).1
    rw [← h3, h0] at h4; cases h4
/-- The one that is behind a set, by indices. -/
theorem bf_at {a k : Nat} (ha : a < (setsTo P 128).length) (hk : k < (setsTo P 128).length) : ixP P (s.bf (nth (setsTo P 128) k)) = (a : Int) ↔ ixP P (s.nx (nth (setsTo P 128) a)) = (k : Int) := by
  have hk0 : nth (setsTo P 128) k ≠ 0 := fun e => by have := nth_in (P := P) hk; rw [e, h0] at this; cases this
  constructor
  · intro h
    have hb : s.bf (nth (setsTo P 128) k) ≠ 0 := fun e => by rw [e, ix_none h0] at h; omega
    have h1 := hs.b _ hb
    have h2 := (hs.w (s.bf (nth (setsTo P 128) k)) (by rw [h1]; exact hk0)).1
    obtain ⟨j, hj, he, hi⟩ := nth_ix (hP _ h2) h2
    rw [hi] at h
    have : j = a := by omega
    subst this
    rw [he, h1, ix_nth hk]
  · intro h
    have hn : s.nx (nth (setsTo P 128) a) ≠ 0 := fun e => by rw [e, ix_none h0] at h; omega
    have h2 := (hs.w _ hn).2.1
    obtain ⟨j, hj, he, hi⟩ := nth_ix (hP _ h2) h2
    rw [hi] at h
    have : j = k := by omega
    subst this
    rw [he, hs.a _ hn, ix_nth ha]
end
/-- What the search among the first k finds. -/
def nqT (q : Int) (k : Nat) : Int := if 0 ≤ q ∧ q < (k : Int) then q else -1
theorem nqT_yes {q : Int} {k : Nat} (h : (k : Int) = q) : nqT q (k + 1) = (k : Int) := by unfold nqT; rw [if_pos (by omega)]; omega
theorem nqT_no {q : Int} {k : Nat} (h : ¬ (k : Int) = q) : nqT q (k + 1) = nqT q k := by
  unfold nqT
  by_cases e : 0 ≤ q ∧ q < (k : Int)
  · rw [if_pos e, if_pos (by omega)]
  · rw [if_neg e, if_neg (by omega)]
theorem setsTo_noW {F : Nat → Bool} {x : Nat} (h : ¬ F x = true) : setsTo F (x + 1) = setsTo F x := by simp [setsTo, h]
/-- The chains of the first sets below a number. -/
def chT (F : Nat → Bool) (nx : Nat → Nat) (k : Nat) : List (List Int) := (setsTo F k).map fun a => chW nx 128 a.toNat
theorem sets_gapW {F : Nat → Bool} {x : Nat} : ∀ d, (∀ k, x ≤ k → k < x + d → F k = false) → setsTo F (x + d) = setsTo F x
  | 0, _ => rfl
  | d + 1, h => by
    rw [show x + (d + 1) = x + d + 1 by omega]
    have h1 := h (x + d) (by omega) (by omega)
    rw [setsTo_noW (by rw [h1]; simp)]
    exact sets_gapW d fun k a b => h k a (by omega)
theorem chT_next {P F : Nat → Bool} (hF : ∀ x, F x = true → P x = true) {nx : Nat → Nat} {j : Nat} (hj : j < (setsTo P 128).length) :
    chT F nx (frJ (setsTo P 128) (j + 1)) = if F (nth (setsTo P 128) j) = true then chT F nx (frJ (setsTo P 128) j) ++ [chW nx 128 (nth (setsTo P 128) j)] else chT F nx (frJ (setsTo P 128) j) := by
  have h1 := frJ_le (P := P) hj
  have h2 := nth_lt128 (P := P) hj
  have hg := sets_gapW (F := F) (x := frJ (setsTo P 128) j) (nth (setsTo P 128) j - frJ (setsTo P 128) j) (fun k a b => by
    cases e : F k
    · rfl
    · have := frJ_gap (P := P) (Nat.le_of_lt hj) a (by omega) (fun _ => by omega)
      rw [hF k e] at this; cases this)
  rw [show frJ (setsTo P 128) j + (nth (setsTo P 128) j - frJ (setsTo P 128) j) = nth (setsTo P 128) j by omega] at hg
  rw [frJ_succ]
  unfold chT
  rw [← hg]
  by_cases e : F (nth (setsTo P 128) j) = true
  · rw [if_pos e, setsTo_succ e, List.map_append]; simp
  · rw [if_neg e]
    rw [setsTo_noW e]
theorem chT_end {P F : Nat → Bool} (hF : ∀ x, F x = true → P x = true) (nx : Nat → Nat) : chT F nx (frJ (setsTo P 128) (setsTo P 128).length) = chR F nx := by
  have h1 := frJ_128 P
  have hg := sets_gapW (F := F) (x := frJ (setsTo P 128) (setsTo P 128).length) (128 - frJ (setsTo P 128) (setsTo P 128).length) (fun k a b => by
    cases e : F k
    · rfl
    · have := frJ_gap (P := P) (Nat.le_refl _) a (by omega) (fun e => by omega)
      rw [hF k e] at this; cases this)
  rw [show frJ (setsTo P 128) (setsTo P 128).length + (128 - frJ (setsTo P 128) (setsTo P 128).length) = 128 by omega] at hg
  unfold chT chR
  rw [hg]
theorem chT_len {F : Nat → Bool} {nx : Nat → Nat} (k : Nat) : (chT F nx k).length ≤ k := by
  unfold chT
  rw [List.length_map]
  exact setsTo_len F k
theorem own_oneW (I : TypeId) (W : World) (x : Nat) : own I (W.alloc (.cells #[.int .i64 (x : Int)] I)) W.heap.size (.slice (some ⟨W.heap.size, 0, none⟩) 1 1) [(x : Int)] :=
  (show blk I (W.alloc (.cells #[.int .i64 (x : Int)] I)) W.heap.size [(x : Int)] from hp_last _ _).own (Nat.le_refl _) (by unfold maxLen; simp)
attribute [local irreducible] p2 low memB risB blk own own2
set_option maxHeartbeats 16000000 in
theorem cnChains_c (P : Nat → Bool) (h0 : P 0 = false) (hP : ∀ x, P x = true → x < 128) (v : Value) (w : World) (hl : ints w.heap.size w v (setsTo P 128)) :
    Calls Try.prog 27 #[v] w fun e w' => ∃ v', e = .returned v' ∧ own2 22 3 w' w.heap.size v' (chR (rmTo P (maTo P 128).nx 128) (maTo P 128).nx) ∧ Below w.heap.size w w' := by
  have HL := hide hl
  have hL128 := setsTo_len P 128
  have hat := maTo_at h0 hP 128
  have HCM := hide (cnMatch_c P h0 hP v w hl)
  have HRM := hide (fun x => rm_bf h0 hP hat.ok x)
  have HBA := hide (fun a k ha hk => bf_at h0 hP hat.ok (a := a) (k := k) ha hk)
  have HUP := hide (show ∀ j, (maTo P 128).nx j ≠ 0 → j < (maTo P 128).nx j from fun j h => (hat.ok.w j h).2.2.1)
  have HNP := hide (show ∀ j, (maTo P 128).nx j ≠ 0 → P ((maTo P 128).nx j) = true from fun j h => (hat.ok.w j h).2.1)
  have HNL := hide hat.lt
  have HFP := hide (show ∀ x, rmTo P (maTo P 128).nx 128 x = true → P x = true from fun x h => ((rmTo_iff _ _ _ _).1 h).1)
  have HOK := hide hat.ok
  clear hl hat
  generalize maTo P 128 = s at *
  have HTN := hide (fun j hj => chT_next (F := rmTo P s.nx 128) HFP.out (nx := s.nx) (j := j) hj)
  have HTE := hide (chT_end (F := rmTo P s.nx 128) HFP.out s.nx)
  go_enter Try.func27, Try.ntmps27
  go_wp2_with (first
    | (go_at_call 40; refine HCM.out.mono ?_; rintro e w1 ⟨bb, rfl, hbb, hm1, hb1⟩; have HM1 := hide hm1; have HB1 := hide hb1; have hz1 := hb1.size; have hbl := hm1.lt; have HL1 := hide (HL.out.below hb1 (Nat.le_refl _)); clear hm1 hb1)
    | (refine wpList_len sliceT rfl (.tmp 13) rfl _ rfl w1.heap.size (setsTo P 128) (HL1.out.mono hz1) ?_))
  go_loopw [4, 15] (fun o z wr => ∃ i : Nat, i ≤ (setsTo P 128).length ∧ z = .int .i64 (i : Int) ∧ Hid (own2 22 3 wr w1.heap.size o (chT (rmTo P s.nx 128) s.nx (frJ (setsTo P 128) i))) ∧ Hid (Below w1.heap.size w1 wr)) (fun _ z _ => (setsTo P 128).length - (intOf z).toNat)
  case atStart => exact ⟨0, Nat.zero_le _, rfl, own2_nil _ _ _ _, Below.refl _ _⟩
  case round =>
    obtain ⟨i, hi, rfl, HO, HB⟩ := hrel
    have hsz := HB.out.size
    have HBK := hide (HM1.out.below HB.out hbl)
    have HLW := hide (HL1.out.below HB.out hz1)
    by_cases hlt : i < (setsTo P 128).length
    · have hcb := HBK.out.cell i (by rw [bfL_len]; exact hlt)
      rw [bfL_at s hlt] at hcb
      have hTN := HTN.out i hlt
      have hRM := HRM.out (nth (setsTo P 128) i)
      rw [nth_in hlt, Bool.true_and] at hRM
      have HVX := hide (nth_val (P := P) hlt)
      have hx8 := nth_lt128 (P := P) hlt
      have hAl := chT_len (F := rmTo P s.nx 128) (nx := s.nx) (frJ (setsTo P 128) i)
      have hfj := frJ_le (P := P) hlt
      have hxP := nth_in (P := P) hlt
      by_cases hb : s.bf (nth (setsTo P 128) i) = 0
      · rw [hb, ix_none h0] at hcb
        rw [hb] at hRM
        rw [if_pos (by rw [hRM]; rfl)] at hTN
        have HTNX := hide hTN
        have hx0 : nth (setsTo P 128) i ≠ 0 := fun e => by rw [e, h0] at hxP; cases hxP
        have HST := hide (show [(nth (setsTo P 128) i : Int)] ++ chW s.nx 127 (s.nx (nth (setsTo P 128) i)) = chW s.nx 128 (nth (setsTo P 128) i) from (chW_step hx0).symm)
        have hup0 : s.nx (nth (setsTo P 128) i) = 0 ∨ 128 ≤ 127 + s.nx (nth (setsTo P 128) i) := by
          by_cases e : s.nx (nth (setsTo P 128) i) = 0
          · exact .inl e
          · have := HUP.out _ e; omega
        have HST2 := hide hup0
        clear hTN hRM hup0
        generalize hA0 : chT (rmTo P s.nx 128) s.nx (frJ (setsTo P 128) i) = A0 at *
        clear hA0
        go_wp2_with (refine wpList_at sliceT intS rfl (.tmp 23) (.tmp 24) rfl _ rfl i rfl w.heap.size (setsTo P 128) HLW.out hlt ?_; intro ad hcell hblk; rw [HVX.out] at hcell)
        obtain ⟨W0, rfl⟩ : ∃ W0 : World, W0 = wr := ⟨wr, rfl⟩
        have hbX := (Below.refl W0.heap.size W0).alloc (Nat.le_refl _) (.cells #[.int .i64 (nth (setsTo P 128) i : Int)] 3)
        have HOX := hide (own_oneW 3 W0 (nth (setsTo P 128) i))
        have HBX := hide hbX
        clear hbX hcb
        go_loopw [6, 7] (fun o z wq => ∃ (A : List Int) (q : Int) (f : Nat), z = .int .i64 q ∧ Hid ((q = -1 ∧ A = chW s.nx 128 (nth (setsTo P 128) i)) ∨ ∃ a : Nat, q = (a : Int) ∧ a < (setsTo P 128).length ∧ (s.nx (nth (setsTo P 128) a) = 0 ∨ 128 ≤ f + s.nx (nth (setsTo P 128) a)) ∧ A ++ chW s.nx f (s.nx (nth (setsTo P 128) a)) = chW s.nx 128 (nth (setsTo P 128) i)) ∧ A.length + f ≤ 128 ∧ Hid (own 3 wq W0.heap.size o A) ∧ Hid (Below W0.heap.size W0 wq)) (fun o z _ => 2 * (129 - lenW o) + min 1 (intOf z + 1).toNat)
        case atStart => exact ⟨_, (i : Int), 127, rfl, .inr ⟨i, rfl, hlt, HST2.out, HST.out⟩, by simp, HOX, HBX⟩
        case round =>
          clear HOX HBX
          obtain ⟨A, q, f, rfl, HQ, hAf, HO2, HB2⟩ := hrel
          have hsz2 := HB2.out.size
          obtain ⟨ca, cc, hcv⟩ := HO2.out.shape
          subst hcv
          rcases HQ.out with ⟨hq, hA⟩ | ⟨a, hq, han, hfu, hA⟩
          · subst hq
            have HE := hide hA
            clear HQ hA
            go_wp2_with (at_builtin; refine wpList_append2 sliceT2 rowI2 (by decide) rfl (.tmp 53) (.tmp 55) rfl w1.heap.size _ _ rfl W0 HO.out (HB2.out.alloc (by omega) _) _ (.slice ca A.length cc) A rfl (by simp [go_sem]) (HO2.out.alloc _) (by omega) (by omega) ?_; intro v6 w6 ho6 hb6 _ _; have HO6 := hide ho6; have HB6 := hide ((HB.out.trans ((HB2.out.alloc (by omega) _).mono hsz)).trans hb6); clear ho6 hb6)
            go_roundw
            case rel => exact ⟨i + 1, by omega, by go_num, hide (by rw [HTNX.out, ← HE.out]; exact HO6.out), HB6⟩
            case measure => (simp [intOf] <;> omega)
          · subst hq
            have HA := hide hA
            have HFU := hide hfu
            have HBQ := hide (HBK.out.below HB2.out (by omega))
            have HBAa := hide (fun k hk => HBA.out a k han hk)
            have HLQ := hide (HLW.out.below HB2.out (by omega))
            clear HQ hA hfu
            go_wp2_with fail
            obtain ⟨W2, rfl⟩ : ∃ W2 : World, W2 = wr := ⟨wr, rfl⟩
            go_loopw [8, 33] (fun z y wz => ∃ k : Nat, k ≤ (setsTo P 128).length ∧ y = .int .i64 (k : Int) ∧ z = .int .i64 (nqT (ixP P (s.nx (nth (setsTo P 128) a))) k) ∧ W2 = wz) (fun _ y _ => (setsTo P 128).length - (intOf y).toNat)
            case atStart => exact ⟨0, Nat.zero_le _, rfl, by unfold nqT; rw [if_neg (by omega)], rfl⟩
            case round =>
              obtain ⟨k, hk, rfl, rfl, rfl⟩ := hrel
              by_cases hkl : k < (setsTo P 128).length
              · have hck := HBQ.out.cell k (by rw [bfL_len]; exact hkl)
                rw [bfL_at s hkl] at hck
                have hba := HBAa.out k hkl
                by_cases hkq : (k : Int) = ixP P (s.nx (nth (setsTo P 128) a))
                · have hca := hba.2 hkq.symm
                  have HY := hide (nqT_yes hkq)
                  rw [hca] at hck
                  clear hca hba hkq
                  go_wp2_with fail
                  go_roundw
                  case rel => exact ⟨k + 1, by omega, by go_num, by rw [HY.out], trivial⟩
                  case measure => (simp [intOf] <;> omega)
                · have hca : ¬ ixP P (s.bf (nth (setsTo P 128) k)) = (a : Int) := fun e => hkq (hba.1 e).symm
                  have HN := hide (nqT_no hkq)
                  generalize ixP P (s.bf (nth (setsTo P 128) k)) = c at hck hca
                  have hcb2 : (c == (a : Int)) = false := by simpa using hca
                  clear hba hkq
                  go_wp2_with fail
                  go_roundw
                  case rel => exact ⟨k + 1, by omega, by go_num, by rw [HN.out], trivial⟩
                  case measure => (simp [intOf] <;> omega)
              · have hke : k = (setsTo P 128).length := by omega
                have hnx8 := HNL.out (nth (setsTo P 128) a)
                have hfu := HFU.out
                have hA := HA.out
                by_cases e : s.nx (nth (setsTo P 128) a) = 0
                · have hnq : nqT (ixP P (s.nx (nth (setsTo P 128) a))) k = -1 := by rw [e, ix_none h0]; unfold nqT; rw [if_neg (by omega)]
                  rw [e, chW_zero, List.append_nil] at hA
                  have HA2 := hide hA
                  rw [hnq]
                  clear hA hnq hfu e
                  go_wp2_with fail
                  go_roundw
                  case rel => exact ⟨A, -1, f, rfl, .inl ⟨rfl, HA2.out⟩, hAf, HO2, HB2⟩
                  case measure => (simp [intOf] <;> omega)
                · obtain ⟨y, hy, he, hix⟩ := nth_ix hnx8 (HNP.out _ e)
                  have hnq : nqT (ixP P (s.nx (nth (setsTo P 128) a))) k = (y : Int) := by rw [hix]; unfold nqT; rw [if_pos (by omega)]
                  obtain ⟨f', rfl⟩ : ∃ f', f = f' + 1 := ⟨f - 1, by omega⟩
                  rw [chW_step e, ← he] at hA
                  have HA2 := hide (show (A ++ [(nth (setsTo P 128) y : Int)]) ++ chW s.nx f' (s.nx (nth (setsTo P 128) y)) = chW s.nx 128 (nth (setsTo P 128) i) by rw [← hA]; simp)
                  have hfu2 : s.nx (nth (setsTo P 128) y) = 0 ∨ 128 ≤ f' + s.nx (nth (setsTo P 128) y) := by
                    by_cases e2 : s.nx (nth (setsTo P 128) y) = 0
                    · exact .inl e2
                    · have h1 := HUP.out _ e2
                      rw [he] at h1 ⊢
                      omega
                  have HFU2 := hide hfu2
                  have HVY := hide (nth_val (P := P) hy)
                  have hy0 : (0 : Int) ≤ (y : Int) := by omega
                  have hAl2 : A.length < 1000000000 := by omega
                  have HLV := hide HO2.out.lenW
                  rw [hnq]
                  clear hA hnq hfu hfu2 e he hix
                  go_wp2_with (first
                    | (refine wpList_at sliceT intS rfl (.tmp 46) (.tmp 47) rfl _ rfl y rfl w.heap.size (setsTo P 128) HLQ.out hy ?_; intro ad4 hcell4 hblk4; rw [HVY.out] at hcell4)
                    | (at_builtin; refine wpList_append1 sliceT intI rfl _ _ rfl W0.heap.size _ _ rfl (HO2.out.alloc _) _ (nth (setsTo P 128) y : Int) rfl (by simp [go_sem]) (by simp; omega) hAl2 ?_; intro v4 w4 ho4 hb4; have HO4 := hide ho4; have HB4 := hide (HB2.out.trans (((Below.refl W0.heap.size W2).alloc (by omega) _).trans hb4)); clear ho4 hb4))
                  go_roundw
                  case rel => exact ⟨A ++ [(nth (setsTo P 128) y : Int)], (y : Int), f', rfl, .inr ⟨y, rfl, hy, HFU2.out, HA2.out⟩, by simp; omega, HO4, HB4⟩
                  case measure =>
                    have h1 := HO4.out.lenW
                    have h2 := HLV.out
                    simp at h1
                    simp [intOf]
                    omega
      · have hn1 := HOK.out.b _ hb
        have hx0 : nth (setsTo P 128) i ≠ 0 := fun e => by rw [e, h0] at hxP; cases hxP
        have hbP := (HOK.out.w (s.bf (nth (setsTo P 128) i)) (by rw [hn1]; exact hx0)).1
        obtain ⟨y, hy, he, hix⟩ := nth_ix (hP _ hbP) hbP
        rw [hix] at hcb
        rw [if_neg (by rw [hRM]; simpa using hb)] at hTN
        have HTNX := hide hTN
        have hy0 : (0 : Int) ≤ (y : Int) := by omega
        clear hTN hRM hix he hn1
        go_wp2_with fail
        go_roundw
        case rel => exact ⟨i + 1, by omega, by go_num, hide (by rw [HTNX.out]; exact HO.out), HB⟩
        case measure => (simp [intOf] <;> omega)
    · have hke : i = (setsTo P 128).length := by omega
      have HE := hide (show chT (rmTo P s.nx 128) s.nx (frJ (setsTo P 128) i) = chR (rmTo P s.nx 128) s.nx by rw [hke]; exact HTE.out)
      go_wp2
      go_ret
      exact ⟨_, rfl, by rw [← HE.out]; exact HO.out.mono hz1, HB1.out.trans (HB.out.mono hz1)⟩
end Go.Proofs.Ytblglkgmnaklbaa
