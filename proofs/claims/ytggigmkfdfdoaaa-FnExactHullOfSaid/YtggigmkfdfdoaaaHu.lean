/- Contracts: convex sets and hulls, the program's and the specification's. -/
import Derived.Test.YtggigmkfdfdoaaaWi
namespace Go.Proofs.Ytggigmkfdfdoaaa
open Go.RowKit
set_option maxRecDepth 100000
attribute [local irreducible] p2 low memB risB

def convR (n : Int) (l : List Int) (x : Int) : Bool := okSet n l x && memB l ((andNot (low n.toNat) x.toNat : Nat) : Int)
theorem convR_no {n : Int} {l : List Int} {x : Int} (h : okSet n l x = false) : convR n l x = false := by simp [convR, h]
theorem convR_yes {n : Int} {l : List Int} {x : Int} (h : okSet n l x = true) : convR n l x = memB l ((andNot (low n.toNat) x.toNat : Nat) : Int) := by simp [convR, h]

/-! ### Hulls -/
def hullR (n : Int) (l : List Int) (x : Int) : Int := if okSet n l x then ((andNot (low n.toNat) (wiTo l (andNot (low n.toNat) x.toNat) l.length) : Nat) : Int) else 0
theorem hullR_no {n : Int} {l : List Int} {x : Int} (h : okSet n l x = false) : hullR n l x = 0 := by simp [hullR, h]
theorem hullR_yes {n : Int} {l : List Int} {x : Int} (h : okSet n l x = true) : hullR n l x = ((andNot (low n.toNat) (wiTo l (andNot (low n.toNat) x.toNat) l.length) : Nat) : Int) := by simp [hullR, h]

set_option maxHeartbeats 600000 in
theorem spHull_c (m : Nat) (v : Value) (l : List Int) (s : Nat) (w : World) (hl : ints w.heap.size w v l) (hlen : l.length < 1000000000) (hr : ∀ j, j < l.length → 0 ≤ l[j]?.getD 0 ∧ l[j]?.getD 0 < 128) (hm7 : m ≤ 7) :
    Calls Try.prog 11 #[.agg #[.int .i64 (m : Int), v], .int .i64 (s : Int)] w fun e w' => e = .returned (.int .i64 ((andNot (low m) (wiTo l (andNot (low m) s) l.length) : Nat) : Int)) ∧ Below w.heap.size w w' := by
  have HL := hide ((hl.alloc (.cells #[.int .i64 (m : Int), v] 28)).mono (show w.heap.size ≤ (w.alloc (.cells #[.int .i64 (m : Int), v] 28)).heap.size by simp))
  have hlo := low_lt m hm7
  have hp1 := wrap_p2 m hm7
  have hp4 : (p2 m : Int) - 1 = (low m : Int) := by have := p2_pos m; unfold p2 low; omega
  have han := i64_andNot (low m) s (by omega)
  have ha128 := andNot_lt128 (low m) s hlo
  have han2 := i64_andNot (low m) (wiTo l (andNot (low m) s) l.length) (by omega)
  clear hl
  go_enter Try.func11, Try.ntmps11
  go_wp2_with (go_at_call 18; refine (spWithin_c m v l _ _ HL.out hlen hr (by omega) (by omega)).mono ?_; rw [Int.toNat_natCast]; rintro e w' ⟨rfl, hb⟩)
  go_ret
  exact ⟨rfl, ((Below.refl _ _).alloc (Nat.le_refl _) _).trans (hb.mono (by simp))⟩

theorem specHullOf_c (n : Int) (v : Value) (l : List Int) (x : Int) (w : World) (hl : ints w.heap.size w v l) (hlen : l.length < 1000000000) :
    Calls Try.prog 5 #[.agg #[.int .i64 n, v], .int .i64 x] w fun e w' => e = .returned (.tuple #[.int .i64 (hullR n l x), .bool (okSet n l x)]) ∧ Below w.heap.size w w' := by
  have HL := hide ((hl.alloc (.cells #[.int .i64 n, v] 28)).mono (show w.heap.size ≤ (w.alloc (.cells #[.int .i64 n, v] 28)).heap.size by simp))
  clear hl
  cases hok : okSet n l x
  · have HR := hide (hullR_no hok)
    have HK := hide hok
    clear hok
    go_enter Try.func5, Try.ntmps5
    go_wp2_with (go_at_call 10; refine (spSet_c n v l x _ HL.out hlen).mono ?_; rw [HK.out]; rintro e w' ⟨rfl, hb⟩)
    go_ret2
    exact ⟨by rw [HR.out]; rfl, ((Below.refl _ _).alloc (Nat.le_refl _) _).trans (hb.mono (by simp))⟩
  · obtain ⟨hi0, hi1⟩ := okSet_in hok
    obtain ⟨hn1, hn2⟩ := okSp_n (okSet_sp hok)
    obtain ⟨m, rfl⟩ := Int.eq_ofNat_of_zero_le (show 0 ≤ n by omega)
    obtain ⟨s, rfl⟩ := Int.eq_ofNat_of_zero_le hi0
    have hlo := low_lt m (by omega)
    have HP := hide (fun j (hj : j < l.length) => show 0 ≤ l[j]?.getD 0 ∧ l[j]?.getD 0 < 128 by have := okSp_pos (okSet_sp hok) j hj; rw [Int.toNat_natCast] at this; omega)
    have HR := hide (hullR_yes hok)
    have HK := hide hok
    clear hok
    go_enter Try.func5, Try.ntmps5
    go_wp2_with (first
      | (go_at_call 10; refine (spSet_c m v l s _ HL.out hlen).mono ?_; rw [HK.out]; rintro e w1 ⟨rfl, hb⟩; have c0 : w1.cell? ⟨w.heap.size, 0, none⟩ = some (.int .i64 (m : Int)) := (by (rw [hb.cell (p := ⟨w.heap.size, 0, none⟩) (by simp)]; simp)); have c1 : w1.cell? ⟨w.heap.size, 1, none⟩ = some v := by (rw [hb.cell (p := ⟨w.heap.size, 1, none⟩) (by simp)]; simp))
      | (go_at_call 11; refine (spHull_c m v l s _ ((HL.out.below hb (Nat.le_refl _)).mono hb.size) hlen HP.out (by omega)).mono ?_; rintro e w' ⟨rfl, hb2⟩))
    go_ret2
    exact ⟨by rw [HR.out]; rfl, (((Below.refl _ _).alloc (Nat.le_refl _) _).trans (hb.mono (by simp))).trans (hb2.mono (by have := hb.size; simp at this; omega))⟩
end Go.Proofs.Ytggigmkfdfdoaaa
