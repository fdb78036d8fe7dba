/- Contracts: sets put behind others, the program's. -/
import Derived.Test.YtblglkgmnaklbaaMa
import Derived.Handy
namespace Go.Proofs.Ytblglkgmnaklbaa
open Go.RowKit
set_option maxRecDepth 100000
set_option linter.unusedSimpArgs false
/-- The cells of a chaining: a family, and what follows each set. -/
def chgL (n : Int) (P : Nat → Bool) (nx : Nat → Nat) : List Value := (Value.int .i64 n :: famRow P) ++ (List.range 128).map fun i => Value.int .i64 (nx i : Int)
def chgAt (T : TypeId) (w : World) (g : Nat) (n : Int) (P : Nat → Bool) (nx : Nat → Nat) : Prop := w.heap[g]? = some (.cells (chgL n P nx).toArray T)
theorem chg_lenA (n : Int) (P : Nat → Bool) : (Value.int .i64 n :: famRow P).length = 129 := by simp [famRow_len]
theorem chg_getP (n : Int) (P : Nat → Bool) (nx : Nat → Nat) (i : Nat) (h : i < 128) : (chgL n P nx).toArray[1 + i]? = some (.bool (P i)) := by
  rw [List.getElem?_toArray]
  unfold chgL
  rw [List.getElem?_append_left (by rw [chg_lenA]; omega), Nat.add_comm, List.getElem?_cons_succ, famRow_get P i h]
theorem chg_getN (n : Int) (P : Nat → Bool) (nx : Nat → Nat) (i : Nat) (h : i < 128) : (chgL n P nx).toArray[129 + i]? = some (.int .i64 (nx i : Int)) := by
  rw [List.getElem?_toArray]
  unfold chgL
  rw [List.getElem?_append_right (by rw [chg_lenA]; omega), chg_lenA, show 129 + i - 129 = i by omega]
  simp [h]
theorem chg_setN (n : Int) (P : Nat → Bool) (nx : Nat → Nat) (i x : Nat) (h : i < 128) : (chgL n P nx).toArray.setIfInBounds (129 + i) (.int .i64 (x : Int)) = (chgL n P (updM nx i x)).toArray := by
  rw [List.setIfInBounds_toArray]
  congr 1
  unfold chgL
  rw [List.set_append_right _ _ (by rw [chg_lenA]; omega), chg_lenA, show 129 + i - 129 = i by omega]
  congr 1
  apply List.ext_getElem?
  intro j
  rw [List.getElem?_set]
  by_cases hj : i = j
  · subst hj
    simp [h, updM]
  · rw [if_neg hj]
    by_cases h2 : j < 128
    · have : ¬ j = i := fun e => hj e.symm
      simp [h2, updM, this]
    · simp [h2]
theorem chgAt.get {T : TypeId} {w : World} {g : Nat} {n : Int} {P : Nat → Bool} {nx : Nat → Nat} (h : chgAt T w g n P nx) (i : Nat) (hi : i < 128) : w.cell? ⟨g, 1 + i, none⟩ = some (.bool (P i)) := by rw [hp_cell h]; exact chg_getP n P nx i hi
theorem chgAt.getN {T : TypeId} {w : World} {g : Nat} {n : Int} {P : Nat → Bool} {nx : Nat → Nat} (h : chgAt T w g n P nx) (i : Nat) (hi : i < 128) : w.cell? ⟨g, 129 + i, none⟩ = some (.int .i64 (nx i : Int)) := by rw [hp_cell h]; exact chg_getN n P nx i hi
theorem chgAt.free {T : TypeId} {w : World} {g : Nat} {n : Int} {P : Nat → Bool} {nx : Nat → Nat} (h : chgAt T w g n P nx) (j : Nat) : w.frozen? ⟨g, j, none⟩ = false := hp_free h j
theorem chgAt.lt {T : TypeId} {w : World} {g : Nat} {n : Int} {P : Nat → Bool} {nx : Nat → Nat} (h : chgAt T w g n P nx) : g < w.heap.size := hp_lt h
theorem chgAt.setN {T : TypeId} {w : World} {g : Nat} {n : Int} {P : Nat → Bool} {nx : Nat → Nat} (h : chgAt T w g n P nx) (i x : Nat) (hi : i < 128) : chgAt T (w.setCell ⟨g, 129 + i, none⟩ (.int .i64 (x : Int))) g n P (updM nx i x) := by
  unfold chgAt
  rw [hp_set w g (129 + i) _ T _ h, chg_setN n P nx i x hi]
theorem chgAt.setO {T : TypeId} {w : World} {g : Nat} {n : Int} {P : Nat → Bool} {nx : Nat → Nat} (h : chgAt T w g n P nx) (ad : Addr) (hne : g ≠ ad.block) (v : Value) : chgAt T (w.setCell ad v) g n P nx := (hp_setO w ad g v hne).trans h
/-- The marks of what is tried. -/
def trAt (T : TypeId) (w : World) (g : Nat) (tr : Nat → Bool) : Prop := w.heap[g]? = some (.cells (famRow tr).toArray T)
theorem trAt.get {T : TypeId} {w : World} {g : Nat} {tr : Nat → Bool} (h : trAt T w g tr) (i : Nat) (hi : i < 128) : w.cell? ⟨g, i, none⟩ = some (.bool (tr i)) := by
  rw [hp_cell h, List.getElem?_toArray]; exact famRow_get tr i hi
theorem trAt.free {T : TypeId} {w : World} {g : Nat} {tr : Nat → Bool} (h : trAt T w g tr) (j : Nat) : w.frozen? ⟨g, j, none⟩ = false := hp_free h j
theorem trAt.lt {T : TypeId} {w : World} {g : Nat} {tr : Nat → Bool} (h : trAt T w g tr) : g < w.heap.size := hp_lt h
theorem trAt.set {T : TypeId} {w : World} {g : Nat} {tr : Nat → Bool} (h : trAt T w g tr) (i : Nat) (b : Bool) : trAt T (w.setCell ⟨g, i, none⟩ (.bool b)) g (upd tr i b) := by
  unfold trAt
  rw [hp_set w g i _ T _ h, List.setIfInBounds_toArray]
  congr 3
  unfold famRow
  apply List.ext_getElem?
  intro j
  rw [List.getElem?_set]
  by_cases hj : i = j
  · subst hj
    by_cases h2 : i < 128
    · simp [h2, upd]
    · simp [h2]
  · rw [if_neg hj]
    by_cases h2 : j < 128
    · have : ¬ j = i := fun e => hj e.symm
      simp [h2, upd, this]
    · simp [h2]
theorem trAt.setO {T : TypeId} {w : World} {g : Nat} {tr : Nat → Bool} (h : trAt T w g tr) (ad : Addr) (hne : g ≠ ad.block) (v : Value) : trAt T (w.setCell ad v) g tr := (hp_setO w ad g v hne).trans h
theorem puM_lt {P : Nat → Bool} : ∀ f x k s r t, puM P f x k s = some (r, t) → x < 128 → (∀ j, s.nx j < 128) → ∀ j, t.nx j < 128 := by
  intro f
  induction f using Nat.strongRecOn with
  | ind f ih =>
    intro x k s r t h hx hs j
    obtain ⟨g, e0, hc⟩ := puM_cases h
    clear h
    subst e0
    have hput : ∀ (t1 : Mst) (k : Nat), (∀ j, t1.nx j < 128) → ∀ j, (t1.put k x).nx j < 128 := by
      intro t1 k h1 j
      show updM t1.nx k x j < 128
      unfold updM
      split
      · exact hx
      · exact h1 j
    rcases hc with ⟨_, _, rfl⟩ | ⟨_, _, h⟩ | ⟨_, _, _, _, rfl⟩ | ⟨_, _, _, r1, t1, h1, h2⟩
    · exact hs j
    · exact ih g (by omega) _ _ _ _ _ h hx hs j
    · exact hput (s.mark k) k hs j
    · have h3 := ih g (by omega) _ _ _ _ _ h1 (hs k) hs
      rcases h2 with ⟨_, _, rfl⟩ | ⟨_, h2⟩
      · exact hput t1 k h3 j
      · exact ih g (by omega) _ _ _ _ _ h2 hx h3 j
attribute [local irreducible] p2 low memB risB
set_option maxHeartbeats 4000000 in
theorem put_c (n : Int) (P : Nat → Bool) : ∀ f x s r t, puM P f x 0 s = some (r, t) → x < 128 → (∀ j, s.nx j < 128) → ∀ (w : World) (cb tb : Nat), cb < tb → chgAt 66 w cb n P s.nx → trAt 46 w tb s.tr →
    Calls Try.prog 62 #[.pointer (some ⟨cb, 0, none⟩), .int .i64 (x : Int), .pointer (some ⟨tb, 0, none⟩)] w fun e w' => e = .returned (.bool r) ∧ chgAt 66 w' cb n P t.nx ∧ trAt 46 w' tb t.tr ∧ Below cb w w' := by
  intro f
  induction f using Nat.strongRecOn with
  | ind f ih =>
    intro x s r t hpu hx hnx w cb tb hct hc ht
    have IH := hide ih
    have HPU0 := hide hpu
    have HNX0 := hide hnx
    have HC0 := hide hc
    have HT0 := hide ht
    clear ih hpu hnx hc ht
    go_enter Try.func62, Try.ntmps62
    go_wp2_with fail
    go_loopw [9] (fun i wr => ∃ (k g : Nat) (s' : Mst), k ≤ x ∧ i = .int .i64 (k : Int) ∧ g ≤ f ∧ Hid (puM P g x k s' = some (r, t)) ∧ Hid (∀ j, s'.nx j < 128) ∧ Hid (chgAt 66 wr cb n P s'.nx) ∧ Hid (trAt 46 wr tb s'.tr) ∧ Hid (Below cb w wr)) (fun i _ => x - (intOf i).toNat)
    case atStart => exact ⟨0, f, s, Nat.zero_le _, rfl, Nat.le_refl _, HPU0, HNX0, HC0, HT0, Below.refl _ _⟩
    case round =>
      clear HPU0 HNX0 HC0 HT0
      obtain ⟨k, g, s', hk, rfl, hg, HPU, HNX, HC, HT, HB⟩ := hrel
      have hlt1 := HT.out.lt
      obtain ⟨g1, e0, hcs⟩ := puM_cases HPU.out
      subst e0
      rcases hcs with ⟨h1, h2, h3⟩ | ⟨h1, h2, h3⟩ | ⟨h1, h2, h3, h4, h5⟩ | ⟨h1, h2, h3, r1, t1, h4, h5⟩
      · subst h2
        subst h3
        have hlt' : ¬ ((k : Int) < (x : Int)) := by omega
        go_wp2
        go_ret
        exact ⟨rfl, HC.out, HT.out, HB.out⟩
      · have hlt' : (k : Int) < (x : Int) := by omega
        have hk8 : k < 128 := by omega
        have HGO := hide h3
        have c1 := HC.out.get k hk8
        cases hp : P k
        · rw [hp] at c1
          clear h2 h3 hp
          go_wp2_with fail
          go_roundw
          case rel => exact ⟨k + 1, g1, s', by omega, by go_num, by omega, HGO, HNX, HC, HT, HB⟩
          case measure => (simp [intOf] <;> omega)
        · rw [hp] at c1
          cases hw : (andNot k x == 0)
          · have HW := hide hw
            clear h2 h3 hp hw
            go_wp2_with (go_at_call 65; refine (within_c (k : Int) (x : Int) _ (by omega) (by omega) (by omega)).mono ?_; rw [Int.toNat_natCast, Int.toNat_natCast, HW.out]; rintro e w3 ⟨rfl, rfl⟩)
            go_roundw
            case rel => exact ⟨k + 1, g1, s', by omega, by go_num, by omega, HGO, HNX, HC, HT, HB⟩
            case measure => (simp [intOf] <;> omega)
          · have HW := hide hw
            have htk : s'.tr k = true := by
              unfold fitM at h2
              have : andNot k x = 0 := by simpa using hw
              rw [hp, decide_eq_true this] at h2
              simpa using h2
            have c2 := HT.out.get k hk8
            rw [htk] at c2
            clear h2 h3 hp hw htk
            go_wp2_with (go_at_call 65; refine (within_c (k : Int) (x : Int) _ (by omega) (by omega) (by omega)).mono ?_; rw [Int.toNat_natCast, Int.toNat_natCast, HW.out]; rintro e w3 ⟨rfl, rfl⟩)
            go_roundw
            case rel => exact ⟨k + 1, g1, s', by omega, by go_num, by omega, HGO, HNX, HC, HT, HB⟩
            case measure => (simp [intOf] <;> omega)
      · obtain ⟨g2, g3, g4⟩ := fitM_iff.1 h2
        have hlt' : (k : Int) < (x : Int) := by omega
        have hk8 : k < 128 := by omega
        have c1 := HC.out.get k hk8
        rw [g2] at c1
        have c2 := HT.out.get k hk8
        rw [g4] at c2
        have f2 := HT.out.free k
        have HW := hide (show (andNot k x == 0) = true by rw [g3]; rfl)
        have hc2 := HC.out.setO ⟨tb, k, none⟩ (by show cb ≠ tb; omega) (.bool true)
        have ht2 := HT.out.set k true
        have c3 := hc2.getN k hk8
        rw [h3] at c3
        have f3 := hc2.free (129 + k)
        have HCF := hide (hc2.setN k x hk8)
        have HTF := hide (ht2.setO ⟨cb, 129 + k, none⟩ (by show tb ≠ cb; omega) (.int .i64 (x : Int)))
        have HBF := hide ((HB.out.setCell (p := ⟨tb, k, none⟩) (by show cb ≤ tb; omega) (.bool true)).setCell (p := ⟨cb, 129 + k, none⟩) (by show cb ≤ cb; omega) (.int .i64 (x : Int)))
        subst h4
        subst h5
        clear h2 h3 g2 g3 g4 hc2 ht2
        go_wp2_with (go_at_call 65; refine (within_c (k : Int) (x : Int) _ (by omega) (by omega) (by omega)).mono ?_; rw [Int.toNat_natCast, Int.toNat_natCast, HW.out]; rintro e w3 ⟨rfl, rfl⟩)
        go_ret
        exact ⟨rfl, HCF.out, HTF.out, HBF.out⟩
      · obtain ⟨g2, g3, g4⟩ := fitM_iff.1 h2
        have hlt' : (k : Int) < (x : Int) := by omega
        have hk8 : k < 128 := by omega
        have c1 := HC.out.get k hk8
        rw [g2] at c1
        have c2 := HT.out.get k hk8
        rw [g4] at c2
        have f2 := HT.out.free k
        have HW := hide (show (andNot k x == 0) = true by rw [g3]; rfl)
        have hc2 := HC.out.setO ⟨tb, k, none⟩ (by show cb ≠ tb; omega) (.bool true)
        have ht2 := HT.out.set k true
        have c3 := hc2.getN k hk8
        have hny := HNX.out k
        have hz2 : ((s'.nx k : Int) == 0) = false := by simp; omega
        have HCALL := hide (IH.out g1 (by omega) (s'.nx k) (s'.mark k) r1 t1 h4 (HNX.out k) HNX.out (wr.setCell ⟨tb, k, none⟩ (.bool true)) cb tb hct hc2 ht2)
        have HNT := hide (puM_lt g1 (s'.nx k) 0 (s'.mark k) r1 t1 h4 (HNX.out k) HNX.out)
        have HB2 := hide (HB.out.setCell (p := ⟨tb, k, none⟩) (by show cb ≤ tb; omega) (.bool true))
        have HH5 := hide h5
        clear h2 h3 h4 h5 g2 g3 g4 hc2 ht2
        generalize s'.nx k = y at c3 hny hz2 HCALL
        cases r1
        · have HGO := hide (show puM P g1 x (k + 1) t1 = some (r, t) from (HH5.out.elim (fun h => by cases h.1) (fun h => h.2)))
          go_wp2_with (first
            | (go_at_call 65; refine (within_c (k : Int) (x : Int) _ (by omega) (by omega) (by omega)).mono ?_; rw [Int.toNat_natCast, Int.toNat_natCast, HW.out]; rintro e w3 ⟨rfl, rfl⟩)
            | (go_at_call 62; refine HCALL.out.mono ?_; rintro e w4 ⟨rfl, hc4, ht4, hb4⟩; have HC4 := hide hc4; have HT4 := hide ht4; have HB4 := hide (HB2.out.trans hb4); clear hc4 ht4 hb4))
          go_roundw
          case rel => exact ⟨k + 1, g1, t1, by omega, by go_num, by omega, HGO, HNT, HC4, HT4, HB4⟩
          case measure => (simp [intOf] <;> omega)
        · obtain ⟨e1, e2⟩ : r = true ∧ t = t1.put k x := HH5.out.elim (fun h => h.2) (fun h => by cases h.1)
          subst e1
          subst e2
          go_wp2_with (first
            | (go_at_call 65; refine (within_c (k : Int) (x : Int) _ (by omega) (by omega) (by omega)).mono ?_; rw [Int.toNat_natCast, Int.toNat_natCast, HW.out]; rintro e w3 ⟨rfl, rfl⟩)
            | (go_at_call 62; refine HCALL.out.mono ?_; rintro e w4 ⟨rfl, hc4, ht4, hb4⟩; have k4 := hc4.getN k hk8; have f4 := hc4.free (129 + k); have HC4 := hide (hc4.setN k x hk8); have HT4 := hide (ht4.setO ⟨cb, 129 + k, none⟩ (by show tb ≠ cb; omega) (.int .i64 (x : Int))); have HB4 := hide ((HB2.out.trans hb4).setCell (p := ⟨cb, 129 + k, none⟩) (by show cb ≤ cb; omega) (.int .i64 (x : Int))); clear hc4 ht4 hb4))
          go_ret
          exact ⟨rfl, HC4.out, HT4.out, HB4.out⟩
end Go.Proofs.Ytblglkgmnaklbaa
