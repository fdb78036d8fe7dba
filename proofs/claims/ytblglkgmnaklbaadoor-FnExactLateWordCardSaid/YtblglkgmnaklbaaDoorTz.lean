/- Contracts: the least item of a set and the items of a set, where math/bits' table reads as its text lays it. -/
import Derived.Test.YtblglkgmnaklbaaDoorPs
import Derived.Test.YtblglkgmnaklbaaDoorCt
import Derived.Lib.TrailingZeros
namespace Go.Proofs.YtblglkgmnaklbaaDoor
open Go.RowKit
set_option maxRecDepth 100000

/-- math/bits' table in its variable. -/
def tab (w : World) : Prop := 1 < w.heap.size ∧ ∀ j, j < 64 → w.cell? ⟨1, j, none⟩ = some (.int .u8 (Lib.deBruijn64tab.getD j 0))
theorem tab.below {w w' : World} (h : tab w) (hb : Below w.heap.size w w') : tab w' :=
  ⟨Nat.lt_of_lt_of_le h.1 hb.size, fun j hj => (hb.cell (p := ⟨1, j, none⟩) h.1).trans (h.2 j hj)⟩
theorem tab.belowB {B : Nat} {w0 w w' : World} (h : tab w) (h0 : tab w0) (hb : Below B w w') (hB : w0.heap.size ≤ B) : tab w' :=
  ⟨Nat.lt_of_lt_of_le h.1 hb.size, fun j hj => (hb.cell (p := ⟨1, j, none⟩) (by show 1 < B; have := h0.1; omega)).trans (h.2 j hj)⟩
theorem tab.alloc {w : World} (h : tab w) (o : Obj) : tab (w.alloc o) := h.below ((Below.refl _ _).alloc (Nat.le_refl _) o)
theorem tab.setCell {w : World} (h : tab w) (b i : Nat) (hb : 1 ≠ b) (u : Value) : tab (w.setCell ⟨b, i, none⟩ u) := by
  refine ⟨by simpa [World.setCell] using h.1, fun j hj => ?_⟩
  rw [← h.2 j hj]
  simp only [World.cell?]
  rw [hp_setO w ⟨b, i, none⟩ 1 u (by simpa using hb)]
theorem tab.setRow {w : World} (h : tab w) (b : Nat) (hb : 1 ≠ b) (c : Array Value) : tab (w.setRow b c) := by
  refine ⟨by simpa [World.setRow] using h.1, fun j hj => ?_⟩
  rw [← h.2 j hj]
  simp only [World.cell?]
  rw [hp_rowO w b 1 c hb]

def tzI (x : Nat) : Nat := ((x &&& (18446744073709551616 - x)) * 285870213051353865) % 18446744073709551616 / 288230376151711744
/-- The least item. -/
def tzN (x : Nat) : Nat := ((List.range 7).find? fun i => x.testBit i).getD 0
theorem tzI_lt (x : Nat) : tzI x < 64 := by unfold tzI; omega
theorem tz_key : ∀ x : Nat, x < 128 → IntKind.u64.wrap (bits BinOp.and IntKind.u64 (x : Int) (IntKind.u64.wrap (-(x : Int))) * 285870213051353865) / 288230376151711744 = ((tzI x : Nat) : Int) := by decide +kernel
theorem tz_tab : ∀ x, x < 128 → x ≠ 0 → Lib.deBruijn64tab.getD (tzI x) 0 = tzN x := by decide +kernel
theorem tzN_lt : ∀ x, x < 128 → tzN x < 7 := by decide +kernel
theorem tzN_bit : ∀ x, x < 128 → x ≠ 0 → x.testBit (tzN x) = true := by decide +kernel
theorem tzN_least : ∀ x, x < 128 → ∀ i, i < 7 → x.testBit i = true → tzN x ≤ i := by decide +kernel

set_option maxHeartbeats 1000000 in
theorem tz64_core (x k idx : Nat) (w : World) (hx0 : ((x : Int) == 0) = false)
    (key : IntKind.u64.wrap (bits BinOp.and IntKind.u64 (x : Int) (IntKind.u64.wrap (-(x : Int))) * 285870213051353865) / 288230376151711744 = (idx : Int))
    (hi : idx < 64) (hk : k < 64) (hcell : w.cell? ⟨1, idx, none⟩ = some (.int .u8 k)) :
    Calls Tryd.prog 124 #[.int .u64 x] w fun e w' => e = .returned (.int .i64 k) ∧ w = w' := by
  go_enter Tryd.func124, Tryd.ntmps124
  go_wp2_with (simp only [key])
  go_ret
  exact ⟨rfl, rfl⟩
theorem trailingZeros64_c (x : Nat) (w : World) (h : x < 128) (h0 : x ≠ 0) (hT : tab w) : Calls Tryd.prog 124 #[.int .u64 x] w fun e w' => e = .returned (.int .i64 (tzN x : Int)) ∧ w = w' := by
  have hcell := hT.2 (tzI x) (tzI_lt x)
  rw [tz_tab x h h0] at hcell
  exact tz64_core x (tzN x) (tzI x) w (by simpa using h0) (tz_key x h) (tzI_lt x) (by have := tzN_lt x h; omega) hcell
theorem trailingZeros_c (x : Nat) (w : World) (h : x < 128) (h0 : x ≠ 0) (hT : tab w) : Calls Tryd.prog 119 #[.int .u64 x] w fun e w' => e = .returned (.int .i64 (tzN x : Int)) ∧ w = w' := by
  go_enter Tryd.func119, Tryd.ntmps119
  go_wp2_with (go_at_call 124; refine (trailingZeros64_c x _ h h0 hT).mono ?_; rintro e w' ⟨rfl, rfl⟩)
  go_ret
  exact ⟨rfl, rfl⟩
theorem first_c (x : Nat) (w : World) (h : x < 128) (h0 : x ≠ 0) (hT : tab w) : Calls Tryd.prog 102 #[.int .i64 (x : Int)] w fun e w' => e = .returned (.int .i64 (tzN x : Int)) ∧ w = w' := by
  go_enter Tryd.func102, Tryd.ntmps102
  go_wp2_with (go_at_call 119; refine (trailingZeros_c x _ h h0 hT).mono ?_; rintro e w' ⟨rfl, rfl⟩)
  go_ret
  exact ⟨rfl, rfl⟩

/-- The items of a set, increasing. -/
def itemsN (x : Nat) : List Nat := (List.range 7).filter fun i => x.testBit i
def itemsL (x : Nat) : List Int := (itemsN x).map fun i : Nat => (i : Int)
theorem items_zero : itemsN 0 = [] := by decide +kernel
theorem items_next : ∀ x, x < 128 → x ≠ 0 → itemsN x = tzN x :: itemsN (x &&& (x - 1)) := by decide +kernel
theorem items_less : ∀ x, x < 128 → x ≠ 0 → (x &&& (x - 1)) < x := by decide +kernel
theorem items_len : ∀ x, x < 128 → (itemsN x).length ≤ 7 := by decide +kernel
theorem tz_pc : ∀ x, x < 128 → x ≠ 0 → pc (x &&& (x - 1)) + 1 = pc x := by decide +kernel
theorem itemsL_next (x : Nat) (h : x < 128) (h0 : x ≠ 0) : itemsL x = [(tzN x : Int)] ++ itemsL (x &&& (x - 1)) := by
  unfold itemsL
  rw [items_next x h h0]; rfl

set_option maxHeartbeats 1000000 in
theorem items_c (x : Nat) (w : World) (h : x < 128) (hT : tab w) :
    Calls Tryd.prog 81 #[.int .i64 (x : Int)] w fun e w' => ∃ v, e = .returned v ∧ own 3 w' w.heap.size v (itemsL x) ∧ Below w.heap.size w w' := by
  have HT := hide hT
  clear hT
  go_enter Tryd.func81, Tryd.ntmps81
  go_wp2_with fail
  go_loopw [3, 4] (fun v rv wr => ∃ r : Nat, r < 128 ∧ rv = .int .i64 (r : Int) ∧ Hid (∃ acc, own 3 wr w.heap.size v acc ∧ acc ++ itemsL r = itemsL x ∧ acc.length + pc r ≤ 7) ∧ Hid (Below w.heap.size w wr)) (fun _ rv _ => (intOf rv).toNat)
  case atStart => exact ⟨x, h, rfl, ⟨[], own_nil _ _ _, rfl, by have := pc_le x; simp; omega⟩, Below.refl _ _⟩
  case round =>
    obtain ⟨r, hr, rfl, HO, HB⟩ := hrel
    obtain ⟨acc, ho, hacc, hlen⟩ := HO.out
    have HA := hide hacc
    have HOO := hide ho
    clear ho hacc HO
    have hsz := HB.out.size
    by_cases hr0 : r = 0
    · subst hr0
      have hacc2 := HA.out
      rw [show itemsL 0 = [] from rfl, List.append_nil] at hacc2
      have HA2 := hide hacc2
      clear hacc2
      go_wp2
      go_ret
      exact ⟨_, rfl, by rw [← HA2.out]; exact HOO.out, HB.out⟩
    · have HN := hide (itemsL_next r hr hr0)
      have hless := items_less r hr hr0
      have HPC := hide (tz_pc r hr hr0)
      have hand : bits .and .i64 (r : Int) ((r : Int) - 1) = ((r &&& (r - 1) : Nat) : Int) := by
        rw [show (r : Int) - 1 = ((r - 1 : Nat) : Int) by omega]; exact i64_and _ _ (by omega) (by omega)
      have hne : ((r : Int) != 0) = true := by simpa using hr0
      have hne2 : (r != 0) = true := by simpa using hr0
      have hw1 : IntKind.i64.wrap ((r : Int) - 1) = (r : Int) - 1 := IntWalk.i64_in _ (by omega)
      have HTT := hide (HT.out.belowB HT.out HB.out (Nat.le_refl _))
      generalize r &&& (r - 1) = s at HN hless hand HPC
      generalize htz : tzN r = t at HN
      have HTZ := hide htz
      clear htz
      go_wp2_with (first
        | (go_at_call 102; refine (first_c r _ hr hr0 HTT.out).mono ?_; rw [HTZ.out]; rintro e w' ⟨rfl, rfl⟩)
        | (at_builtin; refine wpList_append1 sliceT intI rfl _ _ rfl w.heap.size _ _ rfl (HOO.out.alloc _) _ (t : Int) rfl (by simp [go_sem]) (by simp; omega) (by have := HPC.out; omega) ?_; intro v2 w2 ho2 hb2; have HO2 := hide ho2; have HB2 := hide ((HB.out.alloc (by omega) _).trans hb2); clear ho2 hb2))
      go_roundw
      case rel => exact ⟨s, by omega, by go_num, ⟨acc ++ [(t : Int)], HO2.out, by rw [← HA.out, HN.out, List.append_assoc], by have := HPC.out; simp; omega⟩, HB2⟩
      case measure => simp [intOf]; omega
end Go.Proofs.YtblglkgmnaklbaaDoor
