/- Contracts: the family of those sets that are accepted. -/
import Derived.Test.YtblglkgmnaklbaaDoorSpc
namespace Go.Proofs.YtblglkgmnaklbaaDoor
open Go.RowKit
set_option maxRecDepth 100000
set_option linter.unusedSimpArgs false
attribute [local irreducible] p2 low memB risB
def cutAt (K : Nat → Bool) (k s : Nat) : Bool := decide (s < k) && K s
theorem cutAt_step (K : Nat → Bool) (k : Nat) (b : Bool) (h : K k = b) : upd (cutAt K k) k b = cutAt K (k + 1) := by
  funext s
  unfold upd cutAt
  split
  · rename_i e; subst e; simp [h]
  · have : (s < k + 1) ↔ (s < k) := by omega
    simp [this]
theorem cutAt_zero (K : Nat → Bool) : cutAt K 0 = noSet := by
  funext s; simp [cutAt, noSet]
/-! A struct of one slice that came in, in its box: block w.heap.size. -/
section
variable {T : TypeId} {v : Value} {w wr : World} (h : Below (w.heap.size + 1) (w.alloc (.cells #[v] T)) wr)
include h
theorem bx_cell : wr.cell? ⟨w.heap.size, 0, none⟩ = some v := by
  rw [h.cell (p := ⟨w.heap.size, 0, none⟩) (by show w.heap.size < _; omega)]; simp
theorem bx_below : Below w.heap.size w wr := ((Below.refl w.heap.size w).alloc (Nat.le_refl _) _).trans (h.mono (by omega))
theorem bx_size : w.heap.size + 1 ≤ wr.heap.size := by have := h.size; simpa using this
theorem bx_ints {u : Value} {l : List Int} (hl : ints w.heap.size w u l) : ints w.heap.size wr u l := hl.below (bx_below h) (Nat.le_refl _)
theorem bx_full {u : Value} {l : List Int} (hl : ints w.heap.size w u l) : ints wr.heap.size wr u l := (bx_ints h hl).mono (by have := bx_size h; omega)
theorem bx_to {w2 : World} (h2 : Below wr.heap.size wr w2) : Below (w.heap.size + 1) (w.alloc (.cells #[v] T)) w2 := h.trans (h2.mono (bx_size h))
end
theorem bx_start (T : TypeId) (v : Value) (w : World) : Below (w.heap.size + 1) (w.alloc (.cells #[v] T)) (w.alloc (.cells #[v] T)) := Below.refl _ _
set_option maxHeartbeats 2000000 in
theorem familyWhere_c (m : Nat) (kf : Nat) (pre caps : Array Value) (K : Nat → Bool) (w : World) (hm7 : m ≤ 7) (hk : enters Tryd.prog kf)
    (hcl : ∀ (s : Nat) (w1 : World), s < 2 ^ m → Below w.heap.size w w1 → Calls Tryd.prog kf (pre ++ #[.int .i64 (s : Int)] ++ caps) w1 fun e w2 => e = .returned (.bool (K s)) ∧ Below w1.heap.size w1 w2) :
    Calls Tryd.prog 91 #[.int .i64 (m : Int), .func (.func kf) pre caps] w fun e w' => e = .returned (.agg (fam (m : Int) (cutAt K (low m + 1)))) ∧ Below w.heap.size w w' := by
  have hk1 : ∀ (args : Array Value) (w : World), Sem.run Tryd.prog (callFunc kf args) w = .ok (.enter kf args) w := hk
  have hlo := low_lt m hm7
  have HLS := hide (low_succ m)
  have HCL := hide hcl
  have HB1 := hide ((Below.refl w.heap.size w).alloc (Nat.le_refl _) (.cells (fam 0 noSet) 57))
  have HF0 := hide (famAt.new 57 w 0 noSet)
  have hf1 : famAt 57 ((w.alloc (.cells (fam 0 noSet) 57)).alloc (.cells (fam 0 noSet) 57)) (w.heap.size + 1) 0 noSet := by have h := famAt.new 57 (w.alloc (.cells (fam 0 noSet) 57)) 0 noSet; simpa using h
  have HF1 := hide hf1
  have HF2 := hide (hf1.row (m : Int) noSet)
  have HB2 := hide (bl_row (HB1.out.alloc (by simp) (.cells (fam 0 noSet) 57)) (show w.heap.size ≤ w.heap.size + 1 by omega) (fam (m : Int) noSet))
  have HR2 := hide (((HF0.out.alloc (.cells (fam 0 noSet) 57)).rowO (w.heap.size + 1) (by omega) (fam (m : Int) noSet)))
  have HFU : Hid (∀ (G : Nat → Bool) (w1 : World), Calls Tryd.prog 74 #[.agg (fam (m : Int) G)] w1 fun e w' => e = .returned (.int .i64 (low m : Int)) ∧ Below w1.heap.size w1 w') := hide fun G w1 => by
    have := full_c (m : Int) G w1 (by omega) (by omega)
    rw [Int.toNat_natCast] at this
    exact this
  have HZ2 := hide (show (((w.alloc (.cells (fam 0 noSet) 57)).alloc (.cells (fam 0 noSet) 57)).setRow (w.heap.size + 1) (fam (m : Int) noSet)).heap.size = w.heap.size + 2 by simp [World.setRow])
  clear hcl hf1
  go_enter Tryd.func91, Tryd.ntmps91
  go_wp2_with (first
    | (refine wpList_alloc_fam zeroT rfl rfl _ (by first | (simp only [World.size_alloc]; rfl) | rfl) ?_)
    | (refine wpList_build_fam builtT rfl _ rfl _ rfl ?_)
    | (refine wpList_store_fam sizeT rfl (.tmp _) (.tmp _) rfl _ (m : Int) noSet rfl rfl _ _ HF1.out ?_)
    | (refine wpList_load_fam rowT sizeT rfl (.tmp _) rfl _ rfl (m : Int) _ HF2.out ?_)
    | (go_at_call 74; refine (HFU.out _ _).mono ?_; rintro e w2 ⟨rfl, hb2⟩; have hz2 := hb2.size; rw [HZ2.out] at hz2; have HF3 := hide (HF2.out.below hb2 HF2.out.lt); have HR3 := hide (HR2.out.below hb2 (by rw [HZ2.out]; omega)); have HB3 := hide (HB2.out.trans (hb2.mono (by rw [HZ2.out]; omega))); clear hb2))
  go_loopw [12] (fun i wr => ∃ k : Nat, k ≤ low m + 1 ∧ i = .int .i64 (k : Int) ∧ Hid (famAt 57 wr (w.heap.size + 1) (m : Int) (cutAt K k)) ∧ Hid (famAt 57 wr w.heap.size 0 noSet) ∧ Hid (Below w.heap.size w wr)) (fun i _ => low m + 1 - (intOf i).toNat)
  case atStart => exact ⟨0, by omega, rfl, by rw [cutAt_zero]; exact HF3, HR3, HB3⟩
  case round =>
    clear HF3 HR3 HB3 HF0 HF1 HF2 HB1 HB2 HR2 HZ2
    obtain ⟨k, hk, rfl, HF, HR, HB⟩ := hrel
    have hlf := HF.out.lt
    by_cases hlt : k < low m + 1
    · have hk128 : k < 128 := by omega
      have hlt' : ((k : Int) < (low m : Int) + 1) := by omega
      have hlt2 : k ≤ low m := by omega
      have hs2 : k < 2 ^ m := by have := HLS.out; omega
      have HC := hide (fun w1 h => HCL.out k w1 hs2 h)
      generalize hb : K k = b at HC
      have HKK := hide hb
      clear hb hs2
      go_wp2_with fail
      refine (HC.out _ HB.out).mono ?_
      rintro e w3 ⟨rfl, hb3⟩
      have hz3 := hb3.size
      have hf3 := HF.out.below hb3 HF.out.lt
      have c3 := hf3.get k hk128
      have f3 := hf3.free (1 + k)
      have HF4 := hide hf3
      have HR4 := hide (HR.out.below hb3 (by omega))
      have HB4 := hide (HB.out.trans (hb3.mono (by omega)))
      clear hb3 hf3
      go_wp2
      go_roundw
      case rel => exact ⟨k + 1, by omega, by go_num, by rw [← cutAt_step K k b HKK.out]; exact HF4.out.set k hk128 b, HR4.out.setO _ (by show w.heap.size ≠ w.heap.size + 1; omega) _, HB4.out.setCell (by show w.heap.size ≤ w.heap.size + 1; omega) _⟩
      case measure => simp [intOf]; omega
    · have hke : k = low m + 1 := by omega
      subst hke
      have hlt' : ¬ (((low m + 1 : Nat) : Int) < (low m : Int) + 1) := by omega
      clear hlt hk
      go_wp2_with (first
        | (refine wpList_load_fam rowT sizeT rfl (.tmp _) rfl _ rfl (m : Int) _ HF.out ?_)
        | (refine wpList_store_fam sizeT rfl (.tmp _) (.tmp _) rfl _ (m : Int) _ rfl rfl _ _ HR.out ?_))
      exact bodyPost_ret (v := .agg (fam (m : Int) (cutAt K (low m + 1)))) (results_fam rowT sizeT rfl _ _ w.heap.size rfl _ _ (HR.out.row _ _)) rfl ⟨rfl, bl_row HB.out (Nat.le_refl _) _⟩
end Go.Proofs.YtblglkgmnaklbaaDoor
