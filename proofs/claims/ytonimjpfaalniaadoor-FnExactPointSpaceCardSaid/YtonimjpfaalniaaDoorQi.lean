/- Contracts: what a set of points covers, and its corners, the program's. -/
import Derived.Test.YtonimjpfaalniaaDoorQf
import Derived.Test.YtonimjpfaalniaaDoorQe
import Derived.Test.YtonimjpfaalniaaDoorTz
import Derived.Test.YtonimjpfaalniaaDoorNf
import Derived.Test.YtonimjpfaalniaaDoorNe
import Derived.Test.YtonimjpfaalniaaDoorNk
import Derived.Test.YtonimjpfaalniaaDoorCnt
import Derived.OwnWalk
namespace Go.Proofs.YtonimjpfaalniaaDoor
open Go.RowKit
set_option maxRecDepth 100000
set_option linter.unusedSimpArgs false
theorem rowPl : (Tryd.prog.underlying 137).map TypeDesc.isRow = some false := by kernel_rfl
theorem ent_isCovered : enters Tryd.prog 199 := enters_of Tryd.func199 (by kernel_rfl) (by kernel_rfl)
theorem ent_hasQ : enters Tryd.prog 135 := enters_of Tryd.func135 (by kernel_rfl) (by kernel_rfl)
theorem ent_withoutQ : enters Tryd.prog 203 := enters_of Tryd.func203 (by kernel_rfl) (by kernel_rfl)
theorem ent_itemsP : enters Tryd.prog 131 := enters_of Tryd.func131 (by kernel_rfl) (by kernel_rfl)
theorem ent_covered1 : enters Tryd.prog 198 := enters_of Tryd.func198 (by kernel_rfl) (by kernel_rfl)
attribute [local irreducible] p2 low memB risB trB3 cvB itemsL
theorem isCovered_nil (p : Value) (L : List (List Int)) (i s : Nat) (a : Option Addr) (c : Nat) (w : World) (hL : ptB L = true) (hi : i < L.length) (hs : s < 2 ^ L.length) (h0 : (itemsL s).length = 0) :
    Calls Tryd.prog 199 #[p, .int .i64 (i : Int), .slice a 0 c] w fun e w' => e = .returned (.bool (cvB L s i)) ∧ Below w.heap.size w w' := by
  have HV := hide (show cvB L s i = false by
    cases e : cvB L s i
    · rfl
    · obtain ⟨x', h1, _⟩ := (tri_iff hL hs hi).2 e
      omega)
  go_enter Tryd.func199, Tryd.ntmps199
  go_wp2_with fail
  go_loopw [15] (fun v wr => v = .int .i64 ((0 : Nat) : Int) ∧ Hid (Below w.heap.size w wr)) (fun _ _ => 0)
  case atStart => exact ⟨rfl, Below.refl _ _⟩
  case round =>
    obtain ⟨rfl, HB⟩ := hrel
    go_wp2
    go_ret
    exact ⟨by rw [HV.out]; rfl, HB.out⟩
theorem isCoveredO_c (p v : Value) (L : List (List Int)) (i s base : Nat) (w : World) (hL : ptB L = true) (hi : i < L.length) (hs : s < 2 ^ L.length) (hp : pls w.heap.size w p L L.length) (hv : own 3 w base v (itemsL s)) :
    Calls Tryd.prog 199 #[p, .int .i64 (i : Int), v] w fun e w' => e = .returned (.bool (cvB L s i)) ∧ Below w.heap.size w w' := by
  have hI := hv.ints
  obtain ⟨h1, h2⟩ := hv
  rcases h2 with ⟨e, h2⟩ | ⟨g, cap, cur, e, hg, hh, h3, h4, h5, h6⟩
  · subst e
    exact isCovered_nil p L i s none 0 w hL hi hs h2
  · subst e
    rcases hI with ⟨h7, _⟩ | ⟨b, o, c, e2, h8, h9, h10⟩
    · have h0 : (itemsL s).length = 0 := by rw [h7]; rfl
      rw [h0]
      exact isCovered_nil p L i s _ cap w hL hi hs h0
    · cases e2
      exact isCovered_c p L i s g 0 cap w hL hi hs hp h9 h10 h3
theorem coveredBy1_c (pv v : Value) (L : List (List Int)) (s i g1 g2 base : Nat) (w : World) (hL : ptB L = true) (hs : s < 2 ^ L.length) (hi : i < L.length) (hp : pls w.heap.size w pv L L.length) (hv : own 3 w base v (itemsL s))
    (hc1 : w.cell? ⟨g1, 0, none⟩ = some pv) (hc2 : w.cell? ⟨g2, 0, none⟩ = some v) :
    Calls Tryd.prog 198 #[.int .i64 (i : Int), .pointer (some ⟨g1, 0, none⟩), .pointer (some ⟨g2, 0, none⟩)] w fun e w' => e = .returned (.bool (cvB L s i)) ∧ Below w.heap.size w w' := by
  obtain ⟨a1, c1, e1⟩ := hp.shape
  obtain ⟨a2, c2, e2⟩ := hv.shape
  subst e1 e2
  have HC := hide (isCoveredO_c _ _ L i s base w hL hi hs hp hv)
  clear hp hv hL hs
  go_enter Tryd.func198, Tryd.ntmps198
  go_wp2_with (go_at_call 199; refine HC.out.mono ?_; rintro e w2 ⟨rfl, hb2⟩)
  go_ret
  exact ⟨rfl, hb2⟩
/-- The points that a set of the first n ones covers: none of none. -/
def pOk (L : List (List Int)) (n s : Nat) : Prop := s < 2 ^ n ∧ (n = 0 ∨ (ptB L = true ∧ n = L.length))
theorem pOk.lt {L : List (List Int)} {n s : Nat} (h : pOk L n s) : s < 128 ∧ n ≤ 7 := by
  have h7 : n ≤ 7 := by
    rcases h.2 with h1 | ⟨h1, h2⟩
    · omega
    · have := ptB_n h1; omega
  have := p2_le n 7 h7
  exact ⟨by have := h.1; omega, h7⟩
set_option maxHeartbeats 1000000 in
theorem coveredBy_c (pv : Value) (L : List (List Int)) (n s : Nat) (w : World) (hn : pOk L n s) (hp : pls w.heap.size w pv L n) (hT : tab w) :
    Calls Tryd.prog 170 #[pv, .int .i64 (s : Int)] w fun e w' => e = .returned (.int .i64 (itemsOf (cvB L s) n : Int)) ∧ Below w.heap.size w w' := by
  obtain ⟨a1, c1, e1⟩ := hp.shape
  subst e1
  have hs128 := hn.lt.1
  have h7 := hn.lt.2
  have HN := hide hn
  have HP := hide hp
  have HB0 := hide ((Below.refl w.heap.size w).alloc (Nat.le_refl _) (.cells #[.slice a1 n c1] 137))
  have HT0 := hide (hT.alloc (.cells #[.slice a1 n c1] 137))
  have HC0 := hide (hp_last w (.cells #[.slice a1 n c1] 137))
  have HZ0 := hide (show (w.alloc (.cells #[.slice a1 n c1] 137)).heap.size = w.heap.size + 1 by simp)
  clear hn hp hT
  go_enter Tryd.func170, Tryd.ntmps170
  go_wp2_with (go_at_call 131; refine (items_c s _ hs128 HT0.out).mono ?_; rintro e w1 ⟨v1, rfl, ho1, hb1⟩; obtain ⟨a2, c2, e2⟩ := ho1.shape; subst e2; have HO1 := hide ho1; have HB1 := hide (HB0.out.trans (hb1.mono (by rw [HZ0.out]; omega))); have HC1 := hide ((hb1.block w.heap.size (by rw [HZ0.out]; omega)).trans HC0.out); have hz1 := hb1.size; rw [HZ0.out] at hz1; have HTW := hide (HT0.out.below hb1); clear hb1 ho1; have c0 := cell1_at0 ((hp_old w1 (.cells #[.slice a2 (itemsL s).length c2] 22) w.heap.size (by omega)).trans HC1.out))
  have HB2 := hide ((Below.refl w1.heap.size w1).alloc (Nat.le_refl _) (.cells #[.slice a2 (itemsL s).length c2] 22))
  have HC2 := hide (hp_last w1 (.cells #[.slice a2 (itemsL s).length c2] 22))
  have HZ2 := hide (show (w1.alloc (.cells #[.slice a2 (itemsL s).length c2] 22)).heap.size = w1.heap.size + 1 by simp)
  have HO2 := hide (HO1.out.kept HB2.out)
  generalize w1.alloc (.cells #[.slice a2 (itemsL s).length c2] 22) = w2 at HB2 HC2 HZ2 HO2 c0 ⊢
  have HP2 := hide ((HP.out.below (HB1.out.trans (HB2.out.mono (by omega))) (Nat.le_refl _)).mono (show w.heap.size ≤ w2.heap.size by rw [HZ2.out]; omega))
  have HX2 := hide (cell1_at0 HC2.out)
  refine (itemsWhere_c (n : Int) 198 #[.pointer (some ⟨w.heap.size, 0, none⟩), .pointer (some ⟨w1.heap.size, 0, none⟩)] w2 (cvB L s) ent_covered1 (by omega) (by omega) ?h1).mono ?_
  case h1 =>
    intro i w3 hi0 hi hb
    obtain ⟨i, rfl⟩ := Int.eq_ofNat_of_zero_le hi0
    obtain ⟨h1, h2⟩ := HN.out
    rcases h2 with h2 | ⟨h2, h3⟩
    · omega
    · subst h3
      exact coveredBy1_c _ _ L s i w.heap.size w1.heap.size (w.alloc (.cells #[.slice a1 L.length c1] 137)).heap.size w3 h2 h1 (by omega) ((HP2.out.below hb (Nat.le_refl _)).mono hb.size) (HO2.out.kept hb) ((hb.cell (p := ⟨w.heap.size, 0, none⟩) (by show w.heap.size < w2.heap.size; rw [HZ2.out]; omega)).trans c0) ((hb.cell (p := ⟨w1.heap.size, 0, none⟩) (by show w1.heap.size < w2.heap.size; rw [HZ2.out]; omega)).trans HX2.out)
  rintro e w4 ⟨rfl, hb4⟩
  rw [Int.toNat_natCast]
  go_wp2
  go_ret
  exact ⟨rfl, (HB1.out.trans (HB2.out.mono (by omega))).trans (hb4.mono (by rw [HZ2.out]; omega))⟩
end Go.Proofs.YtonimjpfaalniaaDoor
/- Contracts: corners of a set of points, free triples, sets that cover no others: the program's; CornersOf, CoveredBy, FreeTriples, PointSpace, the program's. -/
namespace Go.Proofs.YtonimjpfaalniaaDoor
open Go.RowKit
set_option maxRecDepth 100000
set_option linter.unusedSimpArgs false
theorem ent_noOthers : enters Tryd.prog 125 := enters_of Tryd.func125 (by kernel_rfl) (by kernel_rfl)
def crK2 (L : List (List Int)) (s i : Nat) : Bool := s.testBit i && !cvB L (andNot s (p2 i)) i
def noB (L : List (List Int)) (s : Nat) : Bool := cvS L s == s
def ftB (L : List (List Int)) (s : Nat) : Bool := (pc s == 3) && ((crS L s == s) && noB L s)
def ftN (L : List (List Int)) : Nat → Nat
  | 0 => 0
  | k + 1 => ftN L k + if ftB L k then 1 else 0
theorem ftN_next (L : List (List Int)) (k : Nat) : ftN L (k + 1) = ftN L k + if ftB L k then 1 else 0 := rfl
theorem ftN_le (L : List (List Int)) : ∀ k, ftN L k ≤ k
  | 0 => Nat.le_refl _
  | k + 1 => by have := ftN_le L k; rw [ftN]; split <;> omega
def soP (L : List (List Int)) (s : Int) : Bool := ptB L && decide (0 ≤ s ∧ s ≤ (low L.length : Int))
def coR (L : List (List Int)) (s : Int) : Int := if soP L s then (crS L s.toNat : Int) else 0
def cbR (L : List (List Int)) (s : Int) : Int := if soP L s then (cvS L s.toNat : Int) else 0
def ftR (L : List (List Int)) : Int := if ptB L then (ftN L (p2 L.length) : Int) else 0
def psN (L : List (List Int)) : Int := if ptB L then (L.length : Int) else 0
def psS (L : List (List Int)) : List Int := if ptB L then setsTo (lvK (noB L) L.length) (p2 L.length) else []
theorem soP_no {L : List (List Int)} {s : Int} (h : soP L s = false) : coR L s = 0 ∧ cbR L s = 0 := by unfold coR cbR; rw [h]; exact ⟨rfl, rfl⟩
theorem soP_yes {L : List (List Int)} {s : Int} (h : soP L s = true) : coR L s = (crS L s.toNat : Int) ∧ cbR L s = (cvS L s.toNat : Int) := by unfold coR cbR; rw [h]; exact ⟨rfl, rfl⟩
theorem soP_in {L : List (List Int)} {s : Int} (h : soP L s = true) : ptB L = true ∧ 0 ≤ s ∧ s ≤ (low L.length : Int) := by
  unfold soP at h; rw [Bool.and_eq_true, decide_eq_true_eq] at h; exact h
theorem soP_p {L : List (List Int)} {s : Int} (h : ptB L = false) : soP L s = false := by unfold soP; rw [h]; rfl
theorem soP_is {L : List (List Int)} {s : Int} (h : ptB L = true) : soP L s = decide (0 ≤ s ∧ s ≤ (low L.length : Int)) := by unfold soP; rw [h]; rfl
theorem soP_lt {L : List (List Int)} {s : Nat} (h : soP L (s : Int) = true) : s < 2 ^ L.length := by
  have h1 := (soP_in h).2.2
  have h2 := p2_pos L.length
  have : low L.length + 1 = 2 ^ L.length := by unfold low; omega
  omega
theorem cvS_lt (L : List (List Int)) (s : Nat) (h7 : L.length ≤ 7) : cvS L s < 128 := by
  have h1 : cvS L s < 2 ^ L.length := itemsOf_lt (cvB L s) L.length
  have h2 := p2_le L.length 7 h7
  omega
theorem crS_lt (L : List (List Int)) (s : Nat) (h7 : L.length ≤ 7) : crS L s < 128 := by
  have h1 : crS L s < 2 ^ L.length := itemsOf_lt (crK2 L s) L.length
  have h2 := p2_le L.length 7 h7
  omega
attribute [local irreducible] p2 low memB risB trB3 cvB itemsL
theorem coversNoOthers_c (pv : Value) (L : List (List Int)) (s : Nat) (w : World) (hL : ptB L = true) (hs : s < 2 ^ L.length) (hp : pls w.heap.size w pv L L.length) (hT : tab w) :
    Calls Tryd.prog 125 #[pv, .int .i64 (s : Int)] w fun e w' => e = .returned (.bool (noB L s)) ∧ Below w.heap.size w w' := by
  have HC := hide (show Calls Tryd.prog 170 #[pv, .int .i64 (s : Int)] w fun e w' => e = .returned (.int .i64 (cvS L s : Int)) ∧ Below w.heap.size w w' from coveredBy_c pv L L.length s w ⟨hs, .inr ⟨hL, rfl⟩⟩ hp hT)
  have HE := hide (show noB L s = (cvS L s == s) from rfl)
  clear hp hT
  generalize cvS L s = c at HC HE
  have HB := hide (show ((c : Int) == (s : Int)) = noB L s by rw [HE.out, Bool.eq_iff_iff, beq_iff_eq, beq_iff_eq]; omega)
  go_enter Tryd.func125, Tryd.ntmps125
  go_wp2_with (go_at_call 170; refine HC.out.mono ?_; rintro e w2 ⟨rfl, hb2⟩)
  go_ret
  exact ⟨ret_b (by first | exact HB.out | (have := HB.out; simpa using this)), hb2⟩
theorem items0 (K : Nat → Bool) : itemsOf K 0 = 0 := rfl
end Go.Proofs.YtonimjpfaalniaaDoor
