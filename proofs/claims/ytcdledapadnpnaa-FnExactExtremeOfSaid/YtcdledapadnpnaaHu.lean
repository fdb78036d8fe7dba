/- Contracts: convex sets and hulls, the program's and the specification's. -/
import Derived.Test.YtcdledapadnpnaaWi
namespace Go.Proofs.Ytcdledapadnpnaa
open Go.RowKit
set_option maxRecDepth 100000
attribute [local irreducible] p2 low memB risB

def convR (n : Int) (l : List Int) (x : Int) : Bool := okSet n l x && memB l ((andNot (low n.toNat) x.toNat : Nat) : Int)
theorem convR_no {n : Int} {l : List Int} {x : Int} (h : okSet n l x = false) : convR n l x = false := by simp [convR, h]
theorem convR_yes {n : Int} {l : List Int} {x : Int} (h : okSet n l x = true) : convR n l x = memB l ((andNot (low n.toNat) x.toNat : Nat) : Int) := by simp [convR, h]

/-! ### Hulls -/
def hullR (n : Int) (l : List Int) (x : Int) : Int := if okSet n l x then ((andNot (low n.toNat) (wiTo l (andNot (low n.toNat) x.toNat) l.length) : Nat) : Int) else 0
theorem hullR_no {n : Int} {l : List Int} {x : Int} (h : okSet n l x = false) : hullR n l x = 0 := by simp [hullR, h]
theorem hullR_yes {n : Int} {l : List Int} {x : Int} (h : okSet n l x = true) : hullR n l x = ((andNot (low n.toNat) (wiTo l (andNot (low n.toNat) x.toNat) l.length) : Nat) : Int) := by simp [hullR, h]

set_option maxHeartbeats 600000 in
theorem spHull_c (m : Nat) (v : Value) (l : List Int) (s : Nat) (w : World) (hl : ints w.heap.size w v l) (hlen : l.length < 1000000000) (hr : ∀ j, j < l.length → 0 ≤ l[j]?.getD 0 ∧ l[j]?.getD 0 < 128) (hm7 : m ≤ 7) :
    Calls Try.prog 12 #[.agg #[.int .i64 (m : Int), v], .int .i64 (s : Int)] w fun e w' => e = .returned (.int .i64 ((andNot (low m) (wiTo l (andNot (low m) s) l.length) : Nat) : Int)) ∧ Below w.heap.size w w' := by
  have HL := hide ((hl.alloc (.cells #[.int .i64 (m : Int), v] 28)).mono (show w.heap.size ≤ (w.alloc (.cells #[.int .i64 (m : Int), v] 28)).heap.size by simp))
  have hlo := low_lt m hm7
  have hp1 := wrap_p2 m hm7
  have hp4 : (p2 m : Int) - 1 = (low m : Int) := by have := p2_pos m; unfold p2 low; omega
  have han := i64_andNot (low m) s (by omega)
  have ha128 := andNot_lt128 (low m) s hlo
  have han2 := i64_andNot (low m) (wiTo l (andNot (low m) s) l.length) (by omega)
  clear hl
  go_enter Try.func12, Try.ntmps12
  go_wp2_with (go_at_call 19; refine (spWithin_c m v l _ _ HL.out hlen hr (by omega) (by omega)).mono ?_; rw [Int.toNat_natCast]; rintro e w' ⟨rfl, hb⟩)
  go_ret
  exact ⟨rfl, ((Below.refl _ _).alloc (Nat.le_refl _) _).trans (hb.mono (by simp))⟩

end Go.Proofs.Ytcdledapadnpnaa
