/- strconv's table of powers as its text lays it; strconv.Itoa and strings.Join by the library's contracts. -/
import Derived.Test.YtppojaekngeelaaDoorPs
import Derived.Test.YtppojaekngeelaaDoorShelf
import Derived.Lib.AppendIntMem
namespace Go.Proofs.YtppojaekngeelaaDoor
open Go.RowKit
set_option maxRecDepth 100000
theorem pow10_g : Tryd.prog.globalNamed "internal/strconv.uint64pow10" = some 0 := by kernel_rfl
/-- The table in its variable. -/
def tab (w : World) : Prop := 0 < w.heap.size ∧ Lib.TabIs Tryd.prog w "internal/strconv.uint64pow10" .u64 Lib.pow10Tab
theorem tab_same {w w' : World} (h : tab w) (hs : w.heap.size ≤ w'.heap.size) (hb : w'.heap[0]? = w.heap[0]?) : tab w' := by
  refine ⟨Nat.lt_of_lt_of_le h.1 hs, ?_⟩
  have h2 := h.2
  unfold Lib.TabIs World.var? at h2 ⊢
  rw [pow10_g] at h2 ⊢
  simp only [Option.bind_some] at h2 ⊢
  rw [hb]
  exact h2
theorem tab.below {w w' : World} (h : tab w) (hb : Below w.heap.size w w') : tab w' := tab_same h hb.size (hb.block _ h.1)
theorem tab.belowB {B : Nat} {w0 w w' : World} (h : tab w) (h0 : tab w0) (hb : Below B w w') (hB : w0.heap.size ≤ B) : tab w' := tab_same h hb.size (hb.block _ (by have := h0.1; omega))
theorem tab.alloc {w : World} (h : tab w) (o : Obj) : tab (w.alloc o) := h.below ((Below.refl _ _).alloc (Nat.le_refl _) o)
theorem tab.setCell {w : World} (h : tab w) (b i : Nat) (hb : 0 ≠ b) (u : Value) : tab (w.setCell ⟨b, i, none⟩ u) :=
  tab_same h (by simp [World.setCell]) (hp_setO w ⟨b, i, none⟩ _ u (by simpa using hb))
theorem tab.setRow {w : World} (h : tab w) (b : Nat) (hb : 0 ≠ b) (c : Array Value) : tab (w.setRow b c) :=
  tab_same h (by simp [World.setRow]) (hp_rowO w b _ c hb)
theorem itoa_c (n : Nat) (w : World) (h : n < 1000) (hT : tab w) : Calls Tryd.prog 24 #[.int .i64 (n : Int)] w fun e w' => e = .returned (.string ⟨(Lib.decDigits n).toArray⟩) ∧ Below w.heap.size w w' := by
  refine (strconv_Itoa (n : Int) (by omega) (by omega) w hT.2).mono ?_
  rintro e w' ⟨rfl, k, os, rfl⟩
  refine ⟨?_, Lib.below_grow _ _ (Nat.le_refl _) k os⟩
  rw [Lib.itoa, if_neg (by omega), Int.toNat_natCast]
end Go.Proofs.YtppojaekngeelaaDoor
