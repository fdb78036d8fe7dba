/- Contracts: numbers of a list that are counted, and how many sets have so many items. -/
import Derived.Test.YtcokdhmccokkiaaZe
import Derived.Test.YtcokdhmccokkiaaCnt
import Derived.Test.YtcokdhmccokkiaaAp
namespace Go.Proofs.Ytcokdhmccokkiaa
open Go.RowKit
set_option maxRecDepth 100000
set_option linter.unusedSimpArgs false
/-- How many of the first numbers of a list are counted. -/
def cnZ (g : Int → Bool) (l : List Int) : Nat → Nat
  | 0 => 0
  | k + 1 => cnZ g l k + (if g (l[k]?.getD 0) then 1 else 0)
theorem cnZ_next (g : Int → Bool) (l : List Int) (k : Nat) : cnZ g l (k + 1) = cnZ g l k + (if g (l[k]?.getD 0) then 1 else 0) := rfl
theorem cnZ_le (g : Int → Bool) (l : List Int) : ∀ k, cnZ g l k ≤ k
  | 0 => Nat.le_refl 0
  | k + 1 => by
    have := cnZ_le g l k
    rw [cnZ_next]
    split <;> omega
theorem cnZ_congr {f g : Int → Bool} {l : List Int} : ∀ k, (∀ j, j < k → f (l[j]?.getD 0) = g (l[j]?.getD 0)) → cnZ f l k = cnZ g l k
  | 0, _ => rfl
  | k + 1, h => by rw [cnZ_next, cnZ_next, cnZ_congr k (fun j hj => h j (by omega)), h k (by omega)]
/-- The numbers of those with 0, 1, .., m items. -/
def szF (l : List Int) (K : Nat) (k : Nat) : Int := (cnZ (fun x => pc x.toNat == k) l K : Int)
def tlZ (n : Nat) (a : Nat → Int) : List Int := (List.range n).map a
theorem tlZ_len (n : Nat) (a : Nat → Int) : (tlZ n a).length = n := by simp [tlZ]
theorem tlZ_at {n : Nat} (a : Nat → Int) {i : Nat} (h : i < n) : (tlZ n a)[i]?.getD 0 = a i := by simp [tlZ, h]
theorem tlZ_next (n : Nat) (f : Nat → Int) : tlZ (n + 1) f = tlZ n f ++ [f n] := by unfold tlZ; rw [List.range_succ, List.map_append]; rfl
theorem tlZ_congr {n : Nat} {a b : Nat → Int} (h : ∀ i, i < n → a i = b i) : tlZ n a = tlZ n b := by
  unfold tlZ
  exact List.map_congr_left fun i hi => h i (List.mem_range.1 hi)
theorem tlZ_set (n : Nat) (f g : Nat → Int) (i : Nat) (x : Int) (hx : g i = x) (hg : ∀ j, j ≠ i → g j = f j) : (tlZ n f).set i x = tlZ n g := by
  apply List.ext_getElem?
  intro j
  rw [List.getElem?_set]
  unfold tlZ
  by_cases hij : i = j
  · subst hij
    rw [if_pos rfl]
    by_cases hn : i < n
    · simp [hn, hx]
    · simp [hn]
  · rw [if_neg hij]
    by_cases hn : j < n
    · simp [hn, hg j (fun e => hij e.symm)]
    · simp [hn]
theorem szF_zero (l : List Int) (n : Nat) : tlZ n (szF l 0) = List.replicate n 0 := by
  apply List.ext_getElem?
  intro j
  unfold tlZ szF
  by_cases hn : j < n
  · simp [hn, cnZ]
  · simp [hn]
/-- The sizes of a list of sets. -/
def szL (b : Bool) (m : Nat) (l : List Int) : List Int := if b then tlZ (m + 1) (szF l l.length) else []
theorem szL_len (b : Bool) (m : Nat) (l : List Int) (h : m ≤ 7) : (szL b m l).length < 1000000000 := by
  unfold szL
  split
  · rw [tlZ_len]; omega
  · simp
attribute [local irreducible] p2 low memB risB
set_option maxHeartbeats 2000000 in
theorem countWhere_c (u : Value) (l : List Int) (kf : Nat) (pre caps : Array Value) (g : Int → Bool) (w : World) (hch : ints w.heap.size w u l) (hcl : l.length < 1000000000) (hk : enters Try.prog kf)
    (hg : ∀ (k : Nat) (w1 : World), k < l.length → Below w.heap.size w w1 → Calls Try.prog kf (pre ++ #[.int .i64 (l[k]?.getD 0)] ++ caps) w1 fun e w2 => e = .returned (.bool (g (l[k]?.getD 0))) ∧ Below w1.heap.size w1 w2) :
    Calls Try.prog 63 #[u, .func (.func kf) pre caps] w fun e w' => e = .returned (.int .i64 (cnZ g l l.length : Int)) ∧ Below w.heap.size w w' := by
  have hk1 : ∀ (args : Array Value) (w : World), Sem.run Try.prog (callFunc kf args) w = .ok (.enter kf args) w := hk
  obtain ⟨ua, uc, hu⟩ := hch.shape
  subst hu
  have HCH := hide hch
  have HG := hide hg
  clear hch hg
  go_enter Try.func63, Try.ntmps63
  go_wp2_with fail
  go_loopw [5, 10] (fun cv iv wr => ∃ k : Nat, k ≤ l.length ∧ cv = .int .i64 (cnZ g l k : Int) ∧ iv = .int .i64 (k : Int) ∧ Hid (Below w.heap.size w wr)) (fun _ iv _ => l.length - (intOf iv).toNat)
  case atStart => exact ⟨0, by omega, rfl, rfl, Below.refl _ _⟩
  case round =>
    obtain ⟨k, hk, rfl, rfl, HB⟩ := hrel
    have HCW := hide (HCH.out.below HB.out (Nat.le_refl _))
    have hsz := HB.out.size
    have hle := cnZ_le g l k
    by_cases hlt : k < l.length
    · have hlt' : (k : Int) < (l.length : Int) := by omega
      have HNX := hide (cnZ_next g l k)
      have HA := hide (fun w1 h => HG.out k w1 hlt h)
      generalize hx : l[k]?.getD 0 = x at HNX HA
      have HX := hide hx
      clear hx
      generalize hd : g x = d at HNX HA
      clear hd
      generalize cnZ g l k = c at *
      cases d
      all_goals
        go_wp2_with (first
          | (refine wpList_at sliceT intS rfl (.tmp _) (.tmp _) rfl _ rfl k rfl w.heap.size l HCW.out hlt ?_; intro ad hcell hblk; rw [HX.out] at hcell))
        refine (HA.out _ HB.out).mono ?_
        rintro e w4 ⟨rfl, hb4⟩
        have HB4 := hide (HB.out.trans (hb4.mono hsz))
        clear hb4
        go_wp2
        go_roundw
        case rel => exact ⟨k + 1, by omega, by rw [HNX.out]; go_num, by go_num, HB4⟩
        case measure => (simp [intOf] <;> omega)
    · have HE := hide (show k = l.length by omega)
      have hlt' : ¬ ((k : Int) < (l.length : Int)) := by omega
      go_wp2
      go_ret
      exact ⟨ret_i (by rw [HE.out]), HB.out⟩
end Go.Proofs.Ytcokdhmccokkiaa
