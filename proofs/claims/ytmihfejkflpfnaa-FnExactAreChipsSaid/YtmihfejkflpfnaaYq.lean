/- Contracts: AreChips and DegreesOf, the program's and the specification's. -/
import Derived.Test.YtmihfejkflpfnaaYn
import Derived.Test.YtmihfejkflpfnaaYc
namespace Go.Proofs.Ytmihfejkflpfnaa
open Go.RowKit
set_option maxRecDepth 100000
set_option linter.unusedSimpArgs false
attribute [local irreducible] p2 low memB risB
theorem specAreChips_c (v u : Value) (M : List (List Int)) (A : List Int) (w : World) (hl : rows w.heap.size w v M) (hs : small2 M) (hu : ints w.heap.size w u A) (hlen : A.length < 1000000000) :
    Calls Try.prog 6 #[.agg #[v, u]] w fun e w' => e = .returned (.bool (cpB M A)) ∧ Below w.heap.size w w' := by
  have hb0 := (Below.refl w.heap.size w).alloc (Nat.le_refl _) (.cells #[v, u] 28)
  have HB0 := hide hb0
  have HG := hide (waGood_c v u M A (w.alloc (.cells #[v, u] 28)) ((hl.alloc _).mono (by simp)) hs ((hu.alloc _).mono (by simp)) hlen)
  clear hl hu hb0
  go_enter Try.func6, Try.ntmps6
  go_wp2_with (first
    | (go_at_call 18; refine HG.out.mono ?_; rintro e w2 ⟨rfl, hb2⟩; have HB2 := hide (HB0.out.trans (hb2.mono (by simp))); clear hb2))
  go_ret
  exact ⟨rfl, HB2.out⟩
theorem implAreChips_c (v u : Value) (M : List (List Int)) (A : List Int) (w : World) (hl : rows w.heap.size w v M) (hs : small2 M) (hu : ints w.heap.size w u A) (hlen : A.length < 1000000000) :
    Calls Try.prog 8 #[.agg #[v, u]] w fun e w' => e = .returned (.bool (cpB M A)) ∧ Below w.heap.size w w' := by
  have hb0 := (Below.refl w.heap.size w).alloc (Nat.le_refl _) (.cells #[v, u] 28)
  have HB0 := hide hb0
  have HG := hide (pilesOf_c v u M A (w.alloc (.cells #[v, u] 28)) ((hl.alloc _).mono (by simp)) hs ((hu.alloc _).mono (by simp)) hlen)
  clear hl hu hb0
  go_enter Try.func8, Try.ntmps8
  go_wp2_with (first
    | (go_at_call 21; refine HG.out.mono ?_; rintro e w2 ⟨rfl, hb2⟩; have hz2 := hb2.size; simp at hz2; have HB2 := hide (bl_row ((HB0.out.trans (hb2.mono (by simp))).alloc (by omega) (.cells (rowV (plR 0 zL zA)) 44)) (show w.heap.size ≤ w2.heap.size by omega) (rowV (plR (plN M A) (plL M A) (plA M A)))); have HK2 := hide (pkAt.new w2 0 zL zA); clear hb2)
    | (refine wpList_alloc_csY zeroPK rfl rfl _ rfl ?_)
    | (refine wpList_store_csY (sizePKl (plN M A) (plL M A) (plA M A)) rfl (.tmp _) (.tmp _) rfl w2.heap.size rfl rfl _ HK2.out (by simp [rowV, plR_len]) (rowV_one _) ?_))
  go_ret
  exact ⟨rfl, HB2.out⟩
end Go.Proofs.Ytmihfejkflpfnaa
