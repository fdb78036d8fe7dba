/- Contracts: KeptBelow. -/
import Derived.Test.YtndnkefbilhgnaaDoorKaa
namespace Go.Proofs.YtndnkefbilhgnaaDoor
open Go.RowKit
set_option maxRecDepth 100000
set_option linter.unusedSimpArgs false
attribute [local irreducible] p2 low memB risB grW outerOf
def keB (n : Int) (l : List Int) (T : List Tsk) (lim : Int) : Bool := rbB n l T lim []
def keR (n : Int) (l : List Int) (T : List Tsk) (lim : Int) : Int := rbR n l T lim []
theorem keB_eq (n : Int) (l : List Int) (T : List Tsk) (lim : Int) : keB n l T lim = (gvB n l T && limB lim) := by
  unfold keB rbB
  rw [show chB [] = true from rfl, Bool.and_true]
set_option maxHeartbeats 1000000 in
theorem implKeptBelow_c (n : Int) (v : Value) (l : List Int) (u : Value) (T : List Tsk) (lim : Int) (w : World) (hl : ints w.heap.size w v l) (hlen : l.length < 1000000000) (ht : tks w.heap.size w u T) (hs : T.length < 1000000000) (hT : tab w) :
    Calls Tryd.prog 41 #[.agg #[.int .i64 n, v], u, .int .i64 lim] w fun e w' => e = .returned (.tuple #[.int .i64 (keR n l T lim), .bool (keB n l T lim)]) ∧ Below w.heap.size w w' := by
  have H0 := hide ((Below.refl w.heap.size w).alloc (Nat.le_refl _) (.cells #[.int .i64 n, v] 30))
  have HZ := hide (show (w.alloc (.cells #[.int .i64 n, v] 30)).heap.size = w.heap.size + 1 by simp)
  have HRB := hide (implRunBelow_c n v l u T lim (.slice none 0 0) [] (w.alloc (.cells #[.int .i64 n, v] 30)) ((hl.alloc (.cells #[.int .i64 n, v] 30)).mono (by rw [HZ.out]; omega)) hlen ((ht.alloc (.cells #[.int .i64 n, v] 30)).mono (by rw [HZ.out]; omega)) hs (.inl ⟨rfl, _, _, rfl⟩) (by simp) (hT.alloc (.cells #[.int .i64 n, v] 30)))
  unfold keR keB
  generalize rbR n l T lim [] = R at *
  generalize rbB n l T lim [] = B at *
  clear hl ht hT
  go_enter Tryd.func41, Tryd.ntmps41
  go_wp2_with (go_at_call 43; refine HRB.out.mono ?_; rintro e w1 ⟨rfl, hb⟩; have HB := hide (H0.out.trans (hb.mono (by rw [HZ.out]; omega))); clear hb)
  go_ret2
  exact ⟨rfl, HB.out⟩
end Go.Proofs.YtndnkefbilhgnaaDoor
