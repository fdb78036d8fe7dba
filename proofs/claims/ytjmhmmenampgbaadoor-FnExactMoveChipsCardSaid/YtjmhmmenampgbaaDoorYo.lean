/- Contracts: the guides of lists and of choices, the program's. -/
import Derived.Test.YtjmhmmenampgbaaDoorYi
import Derived.Test.YtjmhmmenampgbaaDoorKy
namespace Go.Proofs.YtjmhmmenampgbaaDoor
open Go.RowKit
set_option maxRecDepth 100000
set_option linter.unusedSimpArgs false
theorem ent_chNext : enters Tryd.prog 104 := enters_of Tryd.func104 (by kernel_rfl) (by kernel_rfl)
theorem ent_liNext : enters Tryd.prog 101 := enters_of Tryd.func101 (by kernel_rfl) (by kernel_rfl)
theorem guide_ch (a : Option Addr) (n c : Nat) : GuideOk Tryd.prog 91 (.slice a n c) 104 :=
  ⟨fun w => by kernel_rfl, fun w => by kernel_rfl, ent_chNext⟩
theorem guide_li (a : Option Addr) (n c : Nat) : GuideOk Tryd.prog 88 (.slice a n c) 101 :=
  ⟨fun w => by kernel_rfl, fun w => by kernel_rfl, ent_liNext⟩
/-- The next move by choices, and by a list. -/
def nxC (ch : List Int) (rs Ol : List Int) : Option Int := some (chV ch rs.length Ol)
def nxL (mv : List Int) (rs Ol : List Int) : Option Int := if rs.length = mv.length then none else if mv[rs.length]?.getD 0 ∈ Ol then some (mv[rs.length]?.getD 0) else none
attribute [local irreducible] p2 low memB risB
theorem chNext_c (a : Option Addr) (c : Nat) (u v : Value) (ch rs Ol : List Int) (w : World) (hch : ints w.heap.size w (.slice a ch.length c) ch) (hcl : ch.length < 1000000000) (hpos : ∀ k, k < ch.length → 0 ≤ ch[k]?.getD 0) (hu : ints w.heap.size w u rs) (hv : ints w.heap.size w v Ol) (h0 : 0 < Ol.length) (h5 : Ol.length ≤ 5) :
    Calls Tryd.prog 104 #[.slice a ch.length c, u, v] w fun e w' => (∃ y, e = .returned (.tuple #[.int .i64 y, .bool (nxC ch rs Ol).isSome]) ∧ ∀ z, nxC ch rs Ol = some z → y = z) ∧ Below w.heap.size w w' := by
  have HC := hide (chosen_c (.slice a ch.length c) v ch Ol rs.length w hch hcl hpos hv h0 (by omega))
  obtain ⟨ua, uc, hue⟩ := hu.shape
  subst hue
  obtain ⟨va, vc, hve⟩ := hv.shape
  subst hve
  clear hch hu hv
  go_enter Tryd.func104, Tryd.ntmps104
  go_wp2_with (go_at_call 105; refine HC.out.mono ?_; rintro e w2 ⟨rfl, rfl⟩)
  go_ret2
  exact ⟨⟨_, rfl, fun z h => by cases h; rfl⟩, Below.refl _ _⟩
/-- The index of a number in a list, or -1. -/
theorem indexY_c (v : Value) (l : List Int) (x : Int) (w : World) (hl : ints w.heap.size w v l) (hlen : l.length < 1000000000) :
    Calls Tryd.prog 103 #[v, .int .i64 x] w fun e w' => (∃ r : Int, e = .returned (.int .i64 r) ∧ (0 ≤ r ↔ x ∈ l)) ∧ w = w' := by
  obtain ⟨a0, c0, e0⟩ := hl.shape
  subst e0
  have HL := hide hl
  clear hl
  go_enter Tryd.func103, Tryd.ntmps103
  go_wp2_with fail
  go_loop [8] (fun iv => ∃ k : Nat, k ≤ l.length ∧ iv = .int .i64 (k : Int) ∧ Hid (∀ j, j < k → l[j]?.getD 0 ≠ x)) (fun iv => l.length - (intOf iv).toNat)
  case atStart => exact ⟨0, Nat.zero_le _, rfl, fun j hj => by omega⟩
  case round =>
    obtain ⟨k, hk, rfl, HJ⟩ := hrel
    by_cases hlt : k < l.length
    · have hlt' : (k : Int) < (l.length : Int) := by omega
      have HIN := hide (show l[k]?.getD 0 ∈ l by rw [List.getElem?_eq_getElem hlt]; exact List.getElem_mem hlt)
      generalize hy : l[k]?.getD 0 = y at HIN
      have HY := hide hy
      clear hy
      by_cases hxy : x = y
      · subst hxy
        go_wp2_with (refine wpList_at sliceT intS rfl (.tmp _) (.tmp _) rfl _ rfl k rfl w.heap.size l HL.out hlt ?_; intro ad hcell hblk; rw [HY.out] at hcell)
        go_ret
        exact ⟨⟨_, rfl, ⟨fun _ => HIN.out, fun _ => by omega⟩⟩, rfl⟩
      · have hb : (x == y) = false := by simp [hxy]
        have HNE := hide hxy
        go_wp2_with (refine wpList_at sliceT intS rfl (.tmp _) (.tmp _) rfl _ rfl k rfl w.heap.size l HL.out hlt ?_; intro ad hcell hblk; rw [HY.out] at hcell)
        go_round
        case rel =>
          refine ⟨k + 1, by omega, by go_num, fun j hj => ?_⟩
          rcases Nat.lt_or_ge j k with h | h
          · exact HJ.out j h
          · rw [show j = k by omega, HY.out]; exact fun e => HNE.out e.symm
        case measure => (simp [intOf] <;> omega)
    · have hlt' : ¬ ((k : Int) < (l.length : Int)) := by omega
      have HE := hide (show ¬ x ∈ l from fun h => by
        obtain ⟨j, hj, e⟩ := List.getElem_of_mem h
        exact HJ.out j (by omega) (by rw [List.getElem?_eq_getElem hj]; exact e))
      go_wp2
      go_ret
      exact ⟨⟨_, rfl, ⟨fun h => by omega, fun h => absurd h HE.out⟩⟩, rfl⟩
theorem containsY_c (v : Value) (l : List Int) (x : Int) (w : World) (hl : ints w.heap.size w v l) (hlen : l.length < 1000000000) :
    Calls Tryd.prog 102 #[v, .int .i64 x] w fun e w' => e = .returned (.bool (decide (x ∈ l))) ∧ w = w' := by
  have HI := hide (indexY_c v l x w hl hlen)
  obtain ⟨a0, c0, e0⟩ := hl.shape
  subst e0
  clear hl
  go_enter Tryd.func102, Tryd.ntmps102
  go_wp2_with (go_at_call 103; refine HI.out.mono ?_; rintro e w2 ⟨⟨r, rfl, hr⟩, rfl⟩; have HR := hide hr; clear hr)
  go_ret
  exact ⟨ret_b (by have := HR.out; simp only [decide_eq_decide]; exact this), rfl⟩
theorem liNext_c (a : Option Addr) (c : Nat) (u v : Value) (mv rs Ol : List Int) (w : World) (hm : ints w.heap.size w (.slice a mv.length c) mv) (_hml : mv.length ≤ 120) (hu : ints w.heap.size w u rs) (hv : ints w.heap.size w v Ol) (h5 : Ol.length ≤ 5) (hle : rs.length ≤ mv.length) :
    Calls Tryd.prog 101 #[.slice a mv.length c, u, v] w fun e w' => (∃ y, e = .returned (.tuple #[.int .i64 y, .bool (nxL mv rs Ol).isSome]) ∧ ∀ z, nxL mv rs Ol = some z → y = z) ∧ Below w.heap.size w w' := by
  have HC := hide (fun x => containsY_c v Ol x w hv (by omega))
  have HM := hide hm
  obtain ⟨ua, uc, hue⟩ := hu.shape
  subst hue
  obtain ⟨va, vc, hve⟩ := hv.shape
  subst hve
  clear hm hu hv
  by_cases he : rs.length = mv.length
  · have HN := hide (show nxL mv rs Ol = none by unfold nxL; rw [if_pos he])
    have he' : ((rs.length : Int) == (mv.length : Int)) = true := by rw [he]; simp
    go_enter Tryd.func101, Tryd.ntmps101
    go_wp2_with fail
    go_ret2
    exact ⟨⟨_, by rw [HN.out]; rfl, fun z h => by rw [HN.out] at h; cases h⟩, Below.refl _ _⟩
  · have hlt : rs.length < mv.length := by omega
    have he' : ((rs.length : Int) == (mv.length : Int)) = false := by rw [beq_eq_false_iff_ne]; omega
    have HN := hide (show nxL mv rs Ol = if mv[rs.length]?.getD 0 ∈ Ol then some (mv[rs.length]?.getD 0) else none by unfold nxL; rw [if_neg he])
    generalize hx : mv[rs.length]?.getD 0 = x at *
    have HX := hide hx
    have HCX := hide (HC.out x)
    have hlt' : (rs.length : Int) < (mv.length : Int) := by omega
    clear hx HC he
    go_enter Tryd.func101, Tryd.ntmps101
    go_wp2_with (first
      | (refine wpList_at (show Tryd.prog.underlying 88 = some (.slice 3) by kernel_rfl) intS rfl (.tmp _) (.tmp _) rfl _ rfl rs.length rfl w.heap.size mv HM.out hlt ?_; intro ad hcell hblk; rw [HX.out] at hcell)
      | (go_at_call 102; refine HCX.out.mono ?_; rintro e w2 ⟨rfl, rfl⟩))
    go_ret2
    refine ⟨⟨x, ?_, fun z h => ?_⟩, Below.refl _ _⟩
    · rw [HN.out]
      by_cases hm : x ∈ Ol
      · rw [if_pos hm, decide_eq_true hm]; rfl
      · rw [if_neg hm, decide_eq_false hm]; rfl
    · rw [HN.out] at h
      split at h
      · cases h; rfl
      · cases h
/-- The run by choices is the full run. -/
theorem gd_fr {n : Nat} {L : Nat → Nat → Int} {ch : List Int} : ∀ (f : Nat) (rs : List Int) (a : Nat → Int), gdF n L (nxC ch) f rs a = (rs ++ (frF n L ch f rs.length a).1, (frF n L ch f rs.length a).2.1)
  | 0, rs, a => by simp [gdF, frF]
  | f + 1, rs, a => by
    by_cases h : opL n L a = []
    · rw [gdF_end h, frF_end h]; simp
    · rw [gdF_go h (p := chV ch rs.length (opL n L a)) rfl, gd_fr f, frF_next h]
      simp
theorem fr_open {n : Nat} {L : Nat → Nat → Int} {ch : List Int} : ∀ (f k : Nat) (a : Nat → Int), (frF n L ch f k a).2.2 = decide (opL n L (frF n L ch f k a).2.1 = [])
  | 0, k, a => by rw [Bool.eq_iff_iff]; simp [frF]; exact decide_eq_true_iff.symm
  | f + 1, k, a => by
    by_cases h : opL n L a = []
    · rw [frF_end h]; simp [h]
    · rw [frF_next h]; exact fr_open f (k + 1) _
/-- The run by a list goes as far as the list is a run. -/
theorem gd_rs {n : Nat} {L : Nat → Nat → Int} {mv : List Int} {a0 : Nat → Int} : ∀ (f : Nat) (rs : List Int) (a : Nat → Int), rs.length ≤ mv.length → mv.length ≤ rs.length + f → rsF n L mv a0 rs.length = some a →
    ((gdF n L (nxL mv) f rs a).1.length = mv.length ↔ (rsF n L mv a0 mv.length).isSome = true) ∧ (∀ b, rsF n L mv a0 mv.length = some b → (gdF n L (nxL mv) f rs a).2 = b) ∧ (gdF n L (nxL mv) f rs a).1.length ≤ mv.length := by
  intro f
  induction f with
  | zero =>
    intro rs a h1 h2 h3
    have e : rs.length = mv.length := by omega
    rw [e] at h3
    refine ⟨?_, ?_, ?_⟩
    · rw [h3]; simp [gdF, e]
    · intro b hb; rw [h3] at hb; cases hb; rfl
    · simp [gdF]; omega
  | succ f ih =>
    intro rs a h1 h2 h3
    by_cases hx : nxL mv rs (opL n L a) = none
    · rw [gdF_stop hx]
      unfold nxL at hx
      by_cases e : rs.length = mv.length
      · rw [e] at h3
        exact ⟨by rw [h3]; simp [e], fun b hb => (by rw [h3] at hb; cases hb; rfl), (by simp; omega)⟩
      · rw [if_neg e] at hx
        have hn : ¬ mv[rs.length]?.getD 0 ∈ opL n L a := fun hm => by rw [if_pos hm] at hx; cases hx
        have h4 := rsF_stay (rsF_no h3 hn) mv.length (by omega)
        exact ⟨by rw [h4]; simp [e], fun b hb => (by rw [h4] at hb; cases hb), (by simp; omega)⟩
    · obtain ⟨p, hp⟩ := Option.ne_none_iff_exists'.1 hx
      have hp2 := hp
      unfold nxL at hp2
      by_cases e : rs.length = mv.length
      · rw [if_pos e] at hp2; cases hp2
      · rw [if_neg e] at hp2
        by_cases hm : mv[rs.length]?.getD 0 ∈ opL n L a
        · rw [if_pos hm] at hp2
          cases hp2
          have h0 : opL n L a ≠ [] := fun e2 => by rw [e2] at hm; cases hm
          rw [gdF_go h0 hp]
          have h5 := rsF_yes h3 hm
          exact ih (rs ++ [mv[rs.length]?.getD 0]) _ (by simp; omega) (by simp; omega) (by simpa using h5)
        · rw [if_neg hm] at hp2; cases hp2
end Go.Proofs.YtjmhmmenampgbaaDoor
