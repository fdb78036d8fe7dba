/- Contracts: whether a list has a number that a function value accepts. -/
import Derived.Test.YtjmhmmenampgbaaDoorRh
import Derived.Test.YtjmhmmenampgbaaDoorTz
namespace Go.Proofs.YtjmhmmenampgbaaDoor
open Go.RowKit
set_option maxRecDepth 100000
set_option linter.unusedSimpArgs false
def anTo (g : Int → Bool) (l : List Int) : Nat → Bool
  | 0 => false
  | k + 1 => anTo g l k || g (l[k]?.getD 0)
theorem anTo_next (g : Int → Bool) (l : List Int) (k : Nat) : anTo g l (k + 1) = (anTo g l k || g (l[k]?.getD 0)) := rfl
theorem anTo_iff (g : Int → Bool) (l : List Int) : ∀ K, anTo g l K = true ↔ ∃ k, k < K ∧ g (l[k]?.getD 0) = true
  | 0 => by simp [anTo]
  | K + 1 => by
    rw [anTo, Bool.or_eq_true, anTo_iff g l K]
    constructor
    · rintro (⟨k, h1, h2⟩ | h)
      · exact ⟨k, by omega, h2⟩
      · exact ⟨K, by omega, h⟩
    · rintro ⟨k, h1, h2⟩
      rcases Nat.lt_or_ge k K with h | h
      · exact .inl ⟨k, h, h2⟩
      · have : k = K := by omega
        subst this; exact .inr h2
theorem anTo_stay {g : Int → Bool} {l : List Int} {k : Nat} (h : anTo g l k = true) (m : Nat) (hm : k ≤ m) : anTo g l m = true := by
  obtain ⟨j, h1, h2⟩ := (anTo_iff g l k).1 h
  exact (anTo_iff g l m).2 ⟨j, by omega, h2⟩
attribute [local irreducible] p2 low memB risB
set_option maxHeartbeats 2000000 in
theorem indexFuncI_c (u : Value) (l : List Int) (kf : Nat) (pre caps : Array Value) (g : Int → Bool) (w : World) (hch : ints w.heap.size w u l) (hcl : l.length < 1000000000) (hk : enters Tryd.prog kf)
    (hg : ∀ (k : Nat) (w1 : World), k < l.length → Below w.heap.size w w1 → Calls Tryd.prog kf (pre ++ #[.int .i64 (l[k]?.getD 0)] ++ caps) w1 fun e w2 => e = .returned (.bool (g (l[k]?.getD 0))) ∧ Below w1.heap.size w1 w2) :
    Calls Tryd.prog 83 #[u, .func (.func kf) pre caps] w fun e w' => ∃ r : Int, e = .returned (.int .i64 r) ∧ ((r = -1 ∧ anTo g l l.length = false) ∨ (∃ j : Nat, r = (j : Int) ∧ anTo g l l.length = true)) ∧ Below w.heap.size w w' := by
  have hk1 : ∀ (args : Array Value) (w : World), Sem.run Tryd.prog (callFunc kf args) w = .ok (.enter kf args) w := hk
  obtain ⟨ua, uc, hu⟩ := hch.shape
  subst hu
  have HCH := hide hch
  have HG := hide hg
  clear hch hg
  go_enter Tryd.func83, Tryd.ntmps83
  go_wp2_with fail
  go_loopw [8] (fun iv wr => ∃ k : Nat, k ≤ l.length ∧ iv = .int .i64 (k : Int) ∧ Hid (anTo g l k = false) ∧ Hid (Below w.heap.size w wr)) (fun iv _ => l.length - (intOf iv).toNat)
  case atStart => exact ⟨0, by omega, rfl, rfl, Below.refl _ _⟩
  case round =>
    obtain ⟨k, hk, rfl, HN, HB⟩ := hrel
    have HCW := hide (HCH.out.below HB.out (Nat.le_refl _))
    have hsz := HB.out.size
    by_cases hlt : k < l.length
    · have hlt' : (k : Int) < (l.length : Int) := by omega
      have HNX := hide (show anTo g l (k + 1) = g (l[k]?.getD 0) by rw [anTo_next, HN.out, Bool.false_or])
      have HA := hide (fun w1 h => HG.out k w1 hlt h)
      generalize hx : l[k]?.getD 0 = x at HNX HA
      have HX := hide hx
      clear hx
      generalize hd : g x = d at HNX HA
      clear hd
      cases d
      all_goals
        go_wp2_with (first
          | (refine wpList_at sliceT intS rfl (.tmp _) (.tmp _) rfl _ rfl k rfl w.heap.size l HCW.out hlt ?_; intro ad hcell hblk; rw [HX.out] at hcell))
        refine (HA.out _ HB.out).mono ?_
        rintro e w4 ⟨rfl, hb4⟩
        have HB4 := hide (HB.out.trans (hb4.mono hsz))
        clear hb4
        go_wp2
      · go_roundw
        case rel => exact ⟨k + 1, by omega, by go_num, HNX, HB4⟩
        case measure => (simp [intOf] <;> omega)
      · go_ret
        exact ⟨_, rfl, .inr ⟨k, rfl, anTo_stay HNX.out _ (by omega)⟩, HB4.out⟩
    · have hlt' : ¬ ((k : Int) < (l.length : Int)) := by omega
      have HE := hide (show anTo g l l.length = false by rw [show l.length = k by omega]; exact HN.out)
      go_wp2
      go_ret
      exact ⟨_, rfl, .inl ⟨rfl, HE.out⟩, HB.out⟩
theorem containsFuncI_c (u : Value) (l : List Int) (kf : Nat) (pre caps : Array Value) (g : Int → Bool) (w : World) (hch : ints w.heap.size w u l) (hcl : l.length < 1000000000) (hk : enters Tryd.prog kf)
    (hg : ∀ (k : Nat) (w1 : World), k < l.length → Below w.heap.size w w1 → Calls Tryd.prog kf (pre ++ #[.int .i64 (l[k]?.getD 0)] ++ caps) w1 fun e w2 => e = .returned (.bool (g (l[k]?.getD 0))) ∧ Below w1.heap.size w1 w2) :
    Calls Tryd.prog 74 #[u, .func (.func kf) pre caps] w fun e w' => e = .returned (.bool (anTo g l l.length)) ∧ Below w.heap.size w w' := by
  have HI := hide (indexFuncI_c u l kf pre caps g w hch hcl hk hg)
  clear hch hg
  cases hn : anTo g l l.length
  · rw [hn] at HI
    clear hn
    go_enter Tryd.func74, Tryd.ntmps74
    go_wp2_with (go_at_call 83; refine HI.out.mono ?_; rintro e w3 ⟨r, rfl, hr, hb3⟩; have hr1 : r = -1 := (hr.elim (fun h => h.1) (fun ⟨_, _, h⟩ => by cases h)); subst hr1; have HB3 := hide hb3; clear hb3 hr)
    go_ret
    exact ⟨rfl, HB3.out⟩
  · rw [hn] at HI
    clear hn
    go_enter Tryd.func74, Tryd.ntmps74
    go_wp2_with (go_at_call 83; refine HI.out.mono ?_; rintro e w3 ⟨r, rfl, hr, hb3⟩; have hr1 : 0 ≤ r := (hr.elim (fun h => by cases h.2) (fun ⟨_, h, _⟩ => by omega)); have HB3 := hide hb3; clear hb3 hr)
    go_ret
    exact ⟨ret_b (by simp [hr1]), HB3.out⟩
end Go.Proofs.YtjmhmmenampgbaaDoor
