/- Contracts of the program's functions, V: unions of sets, and a space's family. -/
import Derived.Test.YtcingpgehmdhdaaImpD
namespace Go.Proofs.Ytcingpgehmdhdaa
open Go.RowKit
set_option maxRecDepth 100000

theorem famAt.rowO {T : TypeId} {w : World} {b : Nat} {n : Int} {F : Nat → Bool} (h : famAt T w b n F) (g : Nat) (hg : b ≠ g) (c : Array Value) : famAt T (w.setRow g c) b n F := (hp_rowO w g b c hg).trans h
/-- A round over all old sets: each one's union with s is marked. -/
def stepTo (F : Nat → Bool) (s : Nat) : Nat → (Nat → Bool)
  | 0 => F
  | k + 1 => if F k then upd (stepTo F s k) (k ||| s) true else stepTo F s k
def unionsTo (l : List Int) : Nat → (Nat → Bool)
  | 0 => upd noSet 0 true
  | k + 1 => stepTo (unionsTo l k) (l[k]?.getD 0).toNat 128
def unionsF (l : List Int) : Nat → Bool := unionsTo l l.length

set_option maxHeartbeats 1000000 in
theorem unionsOf_c (n : Int) (v : Value) (l : List Int) (w : World) (hl : ints w.heap.size w v l) (hr : ∀ j, j < l.length → 0 ≤ l[j]?.getD 0 ∧ l[j]?.getD 0 < 128) (hlen : l.length < 1000000000) :
    Calls Try.prog 27 #[.int .i64 n, v] w fun e w' => e = .returned (.agg (fam n (unionsF l))) ∧ Below w.heap.size w w' := by
  have HR := hide hr
  clear hr
  have f4 := famAt.new 46 w 0 noSet
  have f5 := famAt.new 46 (w.alloc (.cells (fam 0 noSet) 46)) 0 noSet
  have f5r := f5.row n noSet
  have c5 := f5r.get 0 (by omega)
  have c5f := f5r.free (1 + 0)
  have f5s := f5r.set 0 (by omega) true
  simp only [World.size_alloc] at f5 f5r c5 c5f f5s
  have F4 := hide f4
  have F5 := hide f5
  have F5R := hide f5r
  have F5S := hide f5s
  clear f4 f5 f5r f5s
  have HL := hide hl
  clear hl
  go_enter Try.func27, Try.ntmps27
  go_wp2_with (first
    | (refine wpList_alloc_fam zeroT rfl rfl _ (by first | (simp only [World.size_alloc]; rfl) | rfl) ?_)
    | (refine wpList_build_fam builtT rfl _ rfl _ rfl ?_)
    | (refine wpList_store_fam sizeT rfl (.tmp _) (.tmp _) rfl _ n noSet rfl rfl _ _ F5.out ?_)
    | (refine wpList_len sliceT rfl (.tmp _) rfl v rfl w.heap.size l (((HL.out.alloc _).alloc _).below ((bl_row (Below.refl _ _) (by simp) _).setCell (by simp) _) (Nat.le_refl _)) ?_))
  go_loopw [16] (fun i wr => ∃ k : Nat, k ≤ l.length ∧ i = .int .i64 k ∧ famAt 46 wr (w.heap.size + 1) n (unionsTo l k) ∧ famAt 46 wr w.heap.size 0 noSet ∧ Below w.heap.size w wr) (fun i _ => l.length - (intOf i).toNat)
  case atStart =>
    refine ⟨0, Nat.zero_le _, rfl, F5S.out, ?_, ((((Below.refl _ _).alloc (Nat.le_refl _) _).alloc (by simp) _) |> fun h => (bl_row h (by omega) _).setCell (by simp) _)⟩
    exact ((F4.out.alloc _).rowO (w.heap.size + 1) (by omega) _).setO _ (by show w.heap.size ≠ w.heap.size + 1; omega) _
  case round =>
    obtain ⟨k, hk, rfl, hf5, hf4, hb⟩ := hrel
    obtain ⟨wo, rfl⟩ : ∃ wo : World, wo = wr := ⟨_, rfl⟩
    have hlw := HL.out.below hb (Nat.le_refl _)
    have HLW := hide hlw
    have HB := hide hb
    have HF5 := hide hf5
    have HF4 := hide hf4
    clear hlw hb hf5 hf4 c5 c5f
    by_cases hlt : k < l.length
    · obtain ⟨hs0, hs1⟩ := HR.out k hlt
      obtain ⟨s, hs⟩ := Int.eq_ofNat_of_zero_le hs0
      have hs128 : s < 128 := by omega
      have HS := hide hs
      clear hs hs0 hs1
      go_wp2_with (first
        | (refine wpList_at sliceT intS rfl (.tmp _) (.tmp _) rfl v rfl k rfl w.heap.size l HLW.out hlt ?_; intro ad hcell hblk; rw [HS.out] at hcell)
        | (refine wpList_load_marks rowA sizeA rfl (.tmp _) rfl _ rfl _ _ HF5.out ?_))
      go_loopw [22] (fun i ws => ∃ j : Nat, j ≤ 128 ∧ i = .int .i64 j ∧ famAt 46 ws (w.heap.size + 1) n (stepTo (unionsTo l k) s j) ∧ famAt 46 ws w.heap.size 0 noSet ∧ Below w.heap.size w ws) (fun i _ => 128 - (intOf i).toNat)
      case atStart => exact ⟨0, by omega, rfl, HF5.out, HF4.out, HB.out⟩
      case round =>
        clear HLW HB HF5 HF4
        obtain ⟨j, hj, rfl, hf5, hf4, hb⟩ := hrel
        by_cases hlt2 : j < 128
        · have hor := i64_or j s (by omega) (by omega)
          have hjs : j ||| s < 128 := or_lt128 _ _ hlt2 hs128
          have hcell2 := hf5.get (j ||| s) hjs
          have hfree2 := hf5.free (1 + (j ||| s))
          have HF5 := hide hf5
          have HF4 := hide hf4
          have HB := hide hb
          clear hf5 hf4 hb hcell
          cases hF : unionsTo l k j
          · have HV := hide hF
            clear hF
            go_wp2_with (refine wpList_mark arrA sizeB rowB rfl (.tmp _) (.tmp _) rfl (unionsTo l k) rfl j rfl (by omega) _ HV.out ?_)
            go_roundw
            case rel => exact ⟨j + 1, by omega, by go_num, by simp only [stepTo, HV.out]; exact HF5.out, HF4.out, HB.out⟩
            case measure => simp [intOf]; omega
          · have HV := hide hF
            clear hF
            go_wp2_with (refine wpList_mark arrA sizeB rowB rfl (.tmp _) (.tmp _) rfl (unionsTo l k) rfl j rfl (by omega) _ HV.out ?_)
            go_roundw
            case rel => exact ⟨j + 1, by omega, by go_num, by simp only [stepTo, HV.out]; exact HF5.out.set _ hjs _, HF4.out.setO _ (by show w.heap.size ≠ w.heap.size + 1; omega) _, HB.out.setCell (by simp) _⟩
            case measure => simp [intOf]; omega
        · have hj' : j = 128 := by omega
          subst hj'
          have HF5 := hide hf5
          have HF4 := hide hf4
          have HB := hide hb
          clear hf5 hf4 hb hcell
          go_wp2
          go_roundw
          case rel => exact ⟨k + 1, by omega, by go_num, by simp only [unionsTo, HS.out, Int.toNat_natCast]; exact HF5.out, HF4.out, HB.out⟩
          case measure => simp [intOf]; omega
    · have hk' : k = l.length := by omega
      go_wp2_with (first
        | (refine wpList_load_fam rowT sizeT rfl (.tmp _) rfl _ rfl _ _ HF5.out ?_)
        | (refine wpList_store_fam sizeT rfl (.tmp _) (.tmp _) rfl _ n (unionsTo l k) rfl rfl _ _ HF4.out ?_))
      refine bodyPost_ret (v := .agg (fam n (unionsTo l k))) (results_fam rowT sizeT rfl _ _ w.heap.size rfl _ _ (HF4.out.row _ _)) rfl ⟨?_, bl_row HB.out (Nat.le_refl _) _⟩
      rw [hk']; rfl
end Go.Proofs.Ytcingpgehmdhdaa
