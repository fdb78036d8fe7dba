/- Contracts: the chains, the program's. -/
import Derived.Test.YtblglkgmnaklbaaWde
import Derived.Test.YtblglkgmnaklbaaRh
namespace Go.Proofs.Ytblglkgmnaklbaa
open Go.RowKit
set_option maxRecDepth 100000
set_option linter.unusedSimpArgs false
/-- A set, the one behind it, and so on. -/
def chW (nx : Nat → Nat) : Nat → Nat → List Int
  | 0, _ => []
  | f + 1, x => if x = 0 then [] else (x : Int) :: chW nx f (nx x)
theorem chW_zero (nx : Nat → Nat) : ∀ f, chW nx f 0 = []
  | 0 => rfl
  | f + 1 => by rw [chW, if_pos rfl]
theorem chW_step {nx : Nat → Nat} {f x : Nat} (hx : x ≠ 0) : chW nx (f + 1) x = (x : Int) :: chW nx f (nx x) := by rw [chW, if_neg hx]
theorem chW_len (nx : Nat → Nat) : ∀ f x, (chW nx f x).length ≤ f
  | 0, _ => Nat.le_refl _
  | f + 1, x => by
    rw [chW]
    split
    · simp
    · simp [chW_len nx f (nx x)]
/-- The chains, by their first sets. -/
def chR (F : Nat → Bool) (nx : Nat → Nat) : List (List Int) := (setsTo F 128).map fun a => chW nx 128 a.toNat
theorem chR_len (F : Nat → Bool) (nx : Nat → Nat) : (chR F nx).length = (setsTo F 128).length := by simp [chR]
theorem chR_take (F : Nat → Bool) (nx : Nat → Nat) (k : Nat) (hk : k < (setsTo F 128).length) : (chR F nx).take k ++ [chW nx 128 (nth (setsTo F 128) k)] = (chR F nx).take (k + 1) := by
  rw [List.take_add_one]
  congr 1
  unfold chR nth
  simp [hk]
def lenW : Value → Nat
  | .slice _ n _ => n
  | _ => 0
theorem own.lenW {I : TypeId} {w : World} {base : Nat} {v : Value} {l : List Int} (h : own I w base v l) : lenW v = l.length := by
  obtain ⟨a, c, e⟩ := h.shape
  rw [e]; rfl
attribute [local irreducible] p2 low memB risB chg nxV famAt own own2
set_option maxHeartbeats 16000000 in
theorem chains_c (m : Nat) (P : Nat → Bool) (nx : Nat → Nat) (g : Nat) (w : World) (hc : chgAt 66 w g (m : Int) P nx) (hnx : ∀ j, nx j < 128) (hup : ∀ j, nx j ≠ 0 → j < nx j) :
    Calls Try.prog 49 #[.pointer (some ⟨g, 0, none⟩)] w fun e w' => ∃ v, e = .returned v ∧ own2 22 3 w' w.heap.size v (chR (rmTo P nx 128) nx) ∧ Below w.heap.size w w' := by
  have HC := hide hc
  have hlt := hc.lt
  have HFI := hide (firsts_c m P nx g w hc hnx)
  have HNX := hide hnx
  have HUP := hide hup
  have hL128 := setsTo_len (rmTo P nx 128) 128
  clear hc hnx hup
  generalize rmTo P nx 128 = F at *
  have HTK := hide (fun k hk => chR_take F nx k hk)
  have HRL := hide (chR_len F nx)
  have HRG := hide (setsTo_range F 128)
  go_enter Try.func49, Try.ntmps49
  go_wp2_with (first
    | (go_at_call 48; refine HFI.out.mono ?_; rintro e w1 ⟨v1, rfl, ho1, hb1⟩; have HI1 := hide ho1.ints; have HB1 := hide hb1; have hz1 := hb1.size; clear ho1 hb1)
    | (refine wpList_len sliceT rfl (.tmp _) rfl _ rfl w1.heap.size (setsTo F 128) HI1.out ?_))
  go_loopw [3, 11] (fun o i wr => ∃ k : Nat, k ≤ (setsTo F 128).length ∧ i = .int .i64 (k : Int) ∧ Hid (own2 22 3 wr w1.heap.size o ((chR F nx).take k)) ∧ Hid (Below w1.heap.size w1 wr)) (fun _ i _ => (setsTo F 128).length - (intOf i).toNat)
  case atStart => exact ⟨0, Nat.zero_le _, rfl, own2_nil _ _ _ _, Below.refl _ _⟩
  case round =>
    obtain ⟨k, hk, rfl, HO, HB⟩ := hrel
    have hsz := HB.out.size
    by_cases hkl : k < (setsTo F 128).length
    · have hr := HRG.out k hkl
      have hx : (setsTo F 128)[k]?.getD 0 = (nth (setsTo F 128) k : Int) := by unfold nth; omega
      have HX := hide hx
      have HT := hide (HTK.out k hkl)
      have hx8 : nth (setsTo F 128) k < 128 := by rw [hx] at hr; omega
      have HIW := hide (HI1.out.below HB.out (Nat.le_refl _))
      have hAl : ((chR F nx).take k).length ≤ 128 := by rw [List.length_take]; omega
      generalize nth (setsTo F 128) k = x0 at *
      have hz2 : w1.heap.size ≤ wr.heap.size := hsz
      clear hx hr
      go_wp2_with (refine wpList_at sliceT intS rfl (.tmp _) (.tmp _) rfl _ rfl k rfl w1.heap.size (setsTo F 128) HIW.out hkl ?_; intro ad hcell hblk; rw [HX.out] at hcell)
      obtain ⟨W0, rfl⟩ : ∃ W0 : World, W0 = wr := ⟨wr, rfl⟩
      go_loopw [6, 7] (fun o z wq => ∃ (A : List Int) (x f : Nat), z = .int .i64 (x : Int) ∧ x < 128 ∧ (x = 0 ∨ 128 ≤ f + x) ∧ A.length + f ≤ 128 ∧ Hid (A ++ chW nx f x = chW nx 128 x0) ∧ Hid (own 3 wq W0.heap.size o A) ∧ Hid (Below W0.heap.size W0 wq)) (fun o _ _ => 129 - lenW o)
      case atStart => exact ⟨[], x0, 128, rfl, hx8, .inr (by omega), by simp, rfl, own_nil _ _ _, Below.refl _ _⟩
      case round =>
        obtain ⟨A, x, f, rfl, hx8', hxf, hAf, HA, HO2, HB2⟩ := hrel
        have hsz2 := HB2.out.size
        obtain ⟨ca, cc, hcv⟩ := HO2.out.shape
        subst hcv
        by_cases h0 : x = 0
        · subst h0
          have HE := hide (show A = chW nx 128 x0 by have := HA.out; rwa [chW_zero, List.append_nil] at this)
          clear hxf
          go_wp2_with (at_builtin; refine wpList_append2 sliceT2 rowI2 (by decide) rfl (.tmp 28) (.tmp 30) rfl w1.heap.size _ _ rfl W0 HO.out (HB2.out.alloc (by omega) _) _ (.slice ca A.length cc) A rfl (by simp [go_sem]) (HO2.out.alloc _) (by omega) (by omega) ?_; intro v6 w6 ho6 hb6 _ _; have HO6 := hide ho6; have HB6 := hide ((HB.out.trans ((HB2.out.alloc (by omega) _).mono hsz)).trans hb6); clear ho6 hb6)
          go_roundw
          case rel => exact ⟨k + 1, by omega, by go_num, hide (by rw [← HT.out, ← HE.out]; exact HO6.out), HB6⟩
          case measure => (simp [intOf] <;> omega)
        · obtain ⟨f', rfl⟩ : ∃ f', f = f' + 1 := ⟨f - 1, by omega⟩
          have HLV := hide HO2.out.lenW
          have HS := hide (show (A ++ [(x : Int)]) ++ chW nx f' (nx x) = chW nx 128 x0 by have := HA.out; rw [chW_step h0] at this; rw [← this]; simp)
          have hn8 := HNX.out x
          have hnu : nx x = 0 ∨ 128 ≤ f' + nx x := by
            by_cases e : nx x = 0
            · exact .inl e
            · have := HUP.out x e; omega
          have hcx := ((HB1.out.trans (HB.out.mono hz1)).trans (HB2.out.mono (show w.heap.size ≤ W0.heap.size by omega)))
          have HCW := hide (show chgAt 66 wr g (m : Int) P nx from (hcx.block g hlt).trans HC.out)
          have hx0 : ¬ ((x : Int) = 0) := by omega
          have hxb : ((x : Int) != 0) = true := by simp; omega
          have hAl2 : A.length < 1000000000 := by omega
          clear hcx hxf
          generalize hY : nx x = y at *
          have HY := hide hY
          clear hY
          have c1 := HCW.out.getN x hx8'
          rw [HY.out] at c1
          go_wp2_with (at_builtin; refine wpList_append1 sliceT intI rfl _ _ rfl W0.heap.size _ _ rfl (HO2.out.alloc _) _ (x : Int) rfl (by simp [go_sem]) (by simp; omega) hAl2 ?_; intro v4 w4 ho4 hb4; have hb5 := ((Below.refl W0.heap.size wr).alloc (by omega) _).trans hb4; have c2 := (hb5.cell (p := ⟨g, 129 + x, none⟩) (by show g < W0.heap.size; omega)).trans c1; have HO4 := hide ho4; have HB4 := hide (HB2.out.trans hb5); clear ho4 hb4 hb5 c1)
          go_roundw
          case rel => exact ⟨A ++ [(x : Int)], y, f', rfl, hn8, hnu, by simp; omega, HS, HO4, HB4⟩
          case measure =>
            have h1 := HO4.out.lenW
            have h2 := HLV.out
            simp at h1
            omega
    · have hke : k = (setsTo F 128).length := by omega
      have HE := hide (show (chR F nx).take k = chR F nx from List.take_of_length_le (by rw [HRL.out]; omega))
      go_wp2
      go_ret
      exact ⟨_, rfl, by rw [← HE.out]; exact HO.out.mono hz1, HB1.out.trans (HB.out.mono hz1)⟩
end Go.Proofs.Ytblglkgmnaklbaa
