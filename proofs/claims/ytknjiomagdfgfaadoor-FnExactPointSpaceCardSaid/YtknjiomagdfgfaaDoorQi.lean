/- Contracts: what a set of points covers, and its corners, the program's. -/
import Derived.Test.YtknjiomagdfgfaaDoorQf
import Derived.Test.YtknjiomagdfgfaaDoorQe
import Derived.Test.YtknjiomagdfgfaaDoorTz
import Derived.Test.YtknjiomagdfgfaaDoorNf
import Derived.Test.YtknjiomagdfgfaaDoorNe
import Derived.Test.YtknjiomagdfgfaaDoorNk
import Derived.Test.YtknjiomagdfgfaaDoorCnt
import Derived.OwnWalk
namespace Go.Proofs.YtknjiomagdfgfaaDoor
open Go.RowKit
set_option maxRecDepth 100000
set_option linter.unusedSimpArgs false
theorem rowPl : (Tryd.prog.underlying 85).map TypeDesc.isRow = some false := by kernel_rfl
theorem ent_isCovered : enters Tryd.prog 99 := enters_of Tryd.func99 (by kernel_rfl) (by kernel_rfl)
theorem ent_hasQ : enters Tryd.prog 98 := enters_of Tryd.func98 (by kernel_rfl) (by kernel_rfl)
theorem ent_withoutQ : enters Tryd.prog 100 := enters_of Tryd.func100 (by kernel_rfl) (by kernel_rfl)
theorem ent_itemsP : enters Tryd.prog 89 := enters_of Tryd.func89 (by kernel_rfl) (by kernel_rfl)
theorem ent_covered1 : enters Tryd.prog 101 := enters_of Tryd.func101 (by kernel_rfl) (by kernel_rfl)
theorem ent_corners1 : enters Tryd.prog 97 := enters_of Tryd.func97 (by kernel_rfl) (by kernel_rfl)
attribute [local irreducible] p2 low memB risB trB3 cvB itemsL
theorem isCovered_nil (p : Value) (L : List (List Int)) (i s : Nat) (a : Option Addr) (c : Nat) (w : World) (hL : ptB L = true) (hi : i < L.length) (hs : s < 2 ^ L.length) (h0 : (itemsL s).length = 0) :
    Calls Tryd.prog 99 #[p, .int .i64 (i : Int), .slice a 0 c] w fun e w' => e = .returned (.bool (cvB L s i)) ∧ Below w.heap.size w w' := by
  have HV := hide (show cvB L s i = false by
    cases e : cvB L s i
    · rfl
    · obtain ⟨x', h1, _⟩ := (tri_iff hL hs hi).2 e
      omega)
  go_enter Tryd.func99, Tryd.ntmps99
  go_wp2_with fail
  go_loopw [15] (fun v wr => v = .int .i64 ((0 : Nat) : Int) ∧ Hid (Below w.heap.size w wr)) (fun _ _ => 0)
  case atStart => exact ⟨rfl, Below.refl _ _⟩
  case round =>
    obtain ⟨rfl, HB⟩ := hrel
    go_wp2
    go_ret
    exact ⟨by rw [HV.out]; rfl, HB.out⟩
theorem isCoveredO_c (p v : Value) (L : List (List Int)) (i s base : Nat) (w : World) (hL : ptB L = true) (hi : i < L.length) (hs : s < 2 ^ L.length) (hp : pls w.heap.size w p L L.length) (hv : own 3 w base v (itemsL s)) :
    Calls Tryd.prog 99 #[p, .int .i64 (i : Int), v] w fun e w' => e = .returned (.bool (cvB L s i)) ∧ Below w.heap.size w w' := by
  have hI := hv.ints
  obtain ⟨h1, h2⟩ := hv
  rcases h2 with ⟨e, h2⟩ | ⟨g, cap, cur, e, hg, hh, h3, h4, h5, h6⟩
  · subst e
    exact isCovered_nil p L i s none 0 w hL hi hs h2
  · subst e
    rcases hI with ⟨h7, _⟩ | ⟨b, o, c, e2, h8, h9, h10⟩
    · have h0 : (itemsL s).length = 0 := by rw [h7]; rfl
      rw [h0]
      exact isCovered_nil p L i s _ cap w hL hi hs h0
    · cases e2
      exact isCovered_c p L i s g 0 cap w hL hi hs hp h9 h10 h3
theorem coveredBy1_c (pv v : Value) (L : List (List Int)) (s i g1 g2 base : Nat) (w : World) (hL : ptB L = true) (hs : s < 2 ^ L.length) (hi : i < L.length) (hp : pls w.heap.size w pv L L.length) (hv : own 3 w base v (itemsL s))
    (hc1 : w.cell? ⟨g1, 0, none⟩ = some pv) (hc2 : w.cell? ⟨g2, 0, none⟩ = some v) :
    Calls Tryd.prog 101 #[.int .i64 (i : Int), .pointer (some ⟨g1, 0, none⟩), .pointer (some ⟨g2, 0, none⟩)] w fun e w' => e = .returned (.bool (cvB L s i)) ∧ Below w.heap.size w w' := by
  obtain ⟨a1, c1, e1⟩ := hp.shape
  obtain ⟨a2, c2, e2⟩ := hv.shape
  subst e1 e2
  have HC := hide (isCoveredO_c _ _ L i s base w hL hi hs hp hv)
  clear hp hv hL hs
  go_enter Tryd.func101, Tryd.ntmps101
  go_wp2_with (go_at_call 99; refine HC.out.mono ?_; rintro e w2 ⟨rfl, hb2⟩)
  go_ret
  exact ⟨rfl, hb2⟩
/-- The points that a set of the first n ones covers: none of none. -/
def pOk (L : List (List Int)) (n s : Nat) : Prop := s < 2 ^ n ∧ (n = 0 ∨ (ptB L = true ∧ n = L.length))
theorem pOk.lt {L : List (List Int)} {n s : Nat} (h : pOk L n s) : s < 128 ∧ n ≤ 7 := by
  have h7 : n ≤ 7 := by
    rcases h.2 with h1 | ⟨h1, h2⟩
    · omega
    · have := ptB_n h1; omega
  have := p2_le n 7 h7
  exact ⟨by have := h.1; omega, h7⟩
set_option maxHeartbeats 1000000 in
theorem coveredBy_c (pv : Value) (L : List (List Int)) (n s : Nat) (w : World) (hn : pOk L n s) (hp : pls w.heap.size w pv L n) (hT : tab w) :
    Calls Tryd.prog 70 #[pv, .int .i64 (s : Int)] w fun e w' => e = .returned (.int .i64 (itemsOf (cvB L s) n : Int)) ∧ Below w.heap.size w w' := by
  obtain ⟨a1, c1, e1⟩ := hp.shape
  subst e1
  have hs128 := hn.lt.1
  have h7 := hn.lt.2
  have HN := hide hn
  have HP := hide hp
  have HB0 := hide ((Below.refl w.heap.size w).alloc (Nat.le_refl _) (.cells #[.slice a1 n c1] 85))
  have HT0 := hide (hT.alloc (.cells #[.slice a1 n c1] 85))
  have HC0 := hide (hp_last w (.cells #[.slice a1 n c1] 85))
  have HZ0 := hide (show (w.alloc (.cells #[.slice a1 n c1] 85)).heap.size = w.heap.size + 1 by simp)
  clear hn hp hT
  go_enter Tryd.func70, Tryd.ntmps70
  go_wp2_with (go_at_call 89; refine (items_c s _ hs128 HT0.out).mono ?_; rintro e w1 ⟨v1, rfl, ho1, hb1⟩; obtain ⟨a2, c2, e2⟩ := ho1.shape; subst e2; have HO1 := hide ho1; have HB1 := hide (HB0.out.trans (hb1.mono (by rw [HZ0.out]; omega))); have HC1 := hide ((hb1.block w.heap.size (by rw [HZ0.out]; omega)).trans HC0.out); have hz1 := hb1.size; rw [HZ0.out] at hz1; have HTW := hide (HT0.out.below hb1); clear hb1 ho1; have c0 := cell1_at0 ((hp_old w1 (.cells #[.slice a2 (itemsL s).length c2] 22) w.heap.size (by omega)).trans HC1.out))
  have HB2 := hide ((Below.refl w1.heap.size w1).alloc (Nat.le_refl _) (.cells #[.slice a2 (itemsL s).length c2] 22))
  have HC2 := hide (hp_last w1 (.cells #[.slice a2 (itemsL s).length c2] 22))
  have HZ2 := hide (show (w1.alloc (.cells #[.slice a2 (itemsL s).length c2] 22)).heap.size = w1.heap.size + 1 by simp)
  have HO2 := hide (HO1.out.kept HB2.out)
  generalize w1.alloc (.cells #[.slice a2 (itemsL s).length c2] 22) = w2 at HB2 HC2 HZ2 HO2 c0 ⊢
  have HP2 := hide ((HP.out.below (HB1.out.trans (HB2.out.mono (by omega))) (Nat.le_refl _)).mono (show w.heap.size ≤ w2.heap.size by rw [HZ2.out]; omega))
  have HX2 := hide (cell1_at0 HC2.out)
  refine (itemsWhere_c (n : Int) 101 #[.pointer (some ⟨w.heap.size, 0, none⟩), .pointer (some ⟨w1.heap.size, 0, none⟩)] w2 (cvB L s) ent_covered1 (by omega) (by omega) ?h1).mono ?_
  case h1 =>
    intro i w3 hi0 hi hb
    obtain ⟨i, rfl⟩ := Int.eq_ofNat_of_zero_le hi0
    obtain ⟨h1, h2⟩ := HN.out
    rcases h2 with h2 | ⟨h2, h3⟩
    · omega
    · subst h3
      exact coveredBy1_c _ _ L s i w.heap.size w1.heap.size (w.alloc (.cells #[.slice a1 L.length c1] 85)).heap.size w3 h2 h1 (by omega) ((HP2.out.below hb (Nat.le_refl _)).mono hb.size) (HO2.out.kept hb) ((hb.cell (p := ⟨w.heap.size, 0, none⟩) (by show w.heap.size < w2.heap.size; rw [HZ2.out]; omega)).trans c0) ((hb.cell (p := ⟨w1.heap.size, 0, none⟩) (by show w1.heap.size < w2.heap.size; rw [HZ2.out]; omega)).trans HX2.out)
  rintro e w4 ⟨rfl, hb4⟩
  rw [Int.toNat_natCast]
  go_wp2
  go_ret
  exact ⟨rfl, (HB1.out.trans (HB2.out.mono (by omega))).trans (hb4.mono (by rw [HZ2.out]; omega))⟩
set_option maxHeartbeats 2000000 in
theorem cornersOf1_c (pv : Value) (L : List (List Int)) (s i g1 g2 : Nat) (w : World) (hL : ptB L = true) (hs : s < 2 ^ L.length) (hi : i < L.length) (hp : pls w.heap.size w pv L L.length) (hT : tab w)
    (hc1 : w.cell? ⟨g1, 0, none⟩ = some (.int .i64 (s : Int))) (h1 : g1 < w.heap.size) (hc2 : w.cell? ⟨g2, 0, none⟩ = some pv) (h2 : g2 < w.heap.size) :
    Calls Tryd.prog 97 #[.int .i64 (i : Int), .pointer (some ⟨g1, 0, none⟩), .pointer (some ⟨g2, 0, none⟩)] w fun e w' => e = .returned (.bool (s.testBit i && !cvB L (andNot s (p2 i)) i)) ∧ Below w.heap.size w w' := by
  have h7 := (ptB_n hL).2
  have hs128 : s < 128 := by have := p2_le L.length 7 h7; omega
  have ha128 := andNot_lt128 s (p2 i) hs128
  have HAL := hide (andNot_lt s (p2 i) L.length hs)
  have HC1 := hide (fun w' (h : Below w.heap.size w w') => (h.cell (p := ⟨g1, 0, none⟩) h1).trans hc1)
  have HC2 := hide (fun w' (h : Below w.heap.size w w') => (h.cell (p := ⟨g2, 0, none⟩) h2).trans hc2)
  have HP := hide hp
  have HT := hide hT
  have HLL := hide hL
  have HI := hide hi
  clear hp hT hc1 hc2 hL hs
  cases hb : s.testBit i
  · have HB := hide hb
    clear hb
    go_enter Tryd.func97, Tryd.ntmps97
    go_wp2_with fail
    refine wp_region_old (by kernel_rfl) (by kernel_rfl) ?_
    refine q_load_cell rowSet rfl (.tmp _) rfl _ rfl (.int .i64 (s : Int)) HC1.out ?_
    simp only [Act.put, List.setIfInBounds_toArray, List.set_cons_zero, List.set_cons_succ]
    go_big_quiet_step ((first | exact fun _ => rfl | exact fun _ => ⟨rfl, rfl⟩))
    refine q_pure rfl 98 ent_hasQ _ _ rfl #[.int .i64 (s : Int), .int .i64 (i : Int)] rfl (.bool false) (fun w' _ => by have := has_c s i w' (by omega) (by omega) (by omega) (by omega); rw [Int.toNat_natCast, Int.toNat_natCast, HB.out] at this; exact this) ?_
    simp only [Act.put, List.setIfInBounds_toArray, List.set_cons_zero, List.set_cons_succ]
    repeat (go_big_quiet_step ((first | exact fun _ => rfl | exact fun _ => ⟨rfl, rfl⟩)))
    refine wpQuiet_nil ?_
    intro w2 hb2
    go_wp2
    go_ret
    exact ⟨rfl, hb2⟩
  · have HB := hide hb
    clear hb
    rw [Bool.true_and]
    go_enter Tryd.func97, Tryd.ntmps97
    go_wp2_with fail
    refine wp_region_held (S := Below w.heap.size w) (by kernel_rfl) ?_
    have hS0 : Below w.heap.size w { w with drawn := w.drawn + 1 } := (Below.refl _ _).drew
    generalize ({ w with drawn := w.drawn + 1 } : World) = C0 at hS0 ⊢
    have hz0 : w.heap.size ≤ C0.heap.size := hS0.size
    refine wpAnyH_take (i := 0) rfl (by kernel_rfl) (by kernel_rfl) (by kernel_rfl) (fun _ _ _ h => h) (yields_load_cell rowSet rfl (.tmp _) rfl ⟨g1, 0, none⟩ rfl (.int .i64 (s : Int)) HC1.out) hS0 ?_
    simp only [Act.put, List.getElem_toArray, List.getElem_cons_zero, List.getElem_cons_succ, List.setIfInBounds_toArray, List.set_cons_zero, List.set_cons_succ]
    refine wpAnyH_take (i := 1) (v := .int .i64 (i : Int)) rfl (by kernel_rfl) (by kernel_rfl) (by kernel_rfl) (fun _ _ _ h => h) (.inl ⟨rfl, fun w' _ => by go_simp⟩) hS0 ?_
    simp only [Act.put, List.getElem_toArray, List.getElem_cons_zero, List.getElem_cons_succ, List.setIfInBounds_toArray, List.set_cons_zero, List.set_cons_succ]
    refine anyH_call (i := 2) (by kernel_rfl) rfl rfl 98 ent_hasQ _ _ rfl #[.int .i64 (s : Int), .int .i64 (i : Int)] rfl (has_c s i _ (by omega) (by omega) (by omega) (by omega)) ?_
    rw [Int.toNat_natCast, Int.toNat_natCast, HB.out]
    rintro e _ ⟨rfl, rfl⟩
    refine ⟨_, rfl, hS0, ?_⟩
    simp only [Act.put, List.getElem_toArray, List.getElem_cons_zero, List.getElem_cons_succ, List.setIfInBounds_toArray, List.set_cons_zero, List.set_cons_succ]
    refine wpAnyH_take (i := 3) (v := .bool true) rfl (by kernel_rfl) (by kernel_rfl) (by kernel_rfl) (fun _ _ _ h => h) (.inl ⟨rfl, fun w' _ => by go_simp⟩) hS0 ?_
    simp only [Act.put, List.getElem_toArray, List.getElem_cons_zero, List.getElem_cons_succ, List.setIfInBounds_toArray, List.set_cons_zero, List.set_cons_succ]
    refine wpAnyH_take (i := 4) rfl (by kernel_rfl) (by kernel_rfl) (by kernel_rfl) (fun _ _ _ h => h) (yields_load_cell rowPl rfl (.tmp _) rfl ⟨g2, 0, none⟩ rfl pv HC2.out) hS0 ?_
    simp only [Act.put, List.getElem_toArray, List.getElem_cons_zero, List.getElem_cons_succ, List.setIfInBounds_toArray, List.set_cons_zero, List.set_cons_succ]
    refine wpAnyH_take (i := 5) (v := .int .i64 (i : Int)) rfl (by kernel_rfl) (by kernel_rfl) (by kernel_rfl) (fun _ _ _ h => h) (.inl ⟨rfl, fun w' _ => by go_simp⟩) hS0 ?_
    simp only [Act.put, List.getElem_toArray, List.getElem_cons_zero, List.getElem_cons_succ, List.setIfInBounds_toArray, List.set_cons_zero, List.set_cons_succ]
    refine wpAnyH_take (i := 6) rfl (by kernel_rfl) (by kernel_rfl) (by kernel_rfl) (fun _ _ _ h => h) (yields_load_cell rowSet rfl (.tmp _) rfl ⟨g1, 0, none⟩ rfl (.int .i64 (s : Int)) HC1.out) hS0 ?_
    simp only [Act.put, List.getElem_toArray, List.getElem_cons_zero, List.getElem_cons_succ, List.setIfInBounds_toArray, List.set_cons_zero, List.set_cons_succ]
    refine wpAnyH_take (i := 7) (v := .int .i64 (i : Int)) rfl (by kernel_rfl) (by kernel_rfl) (by kernel_rfl) (fun _ _ _ h => h) (.inl ⟨rfl, fun w' _ => by go_simp⟩) hS0 ?_
    simp only [Act.put, List.getElem_toArray, List.getElem_cons_zero, List.getElem_cons_succ, List.setIfInBounds_toArray, List.set_cons_zero, List.set_cons_succ]
    refine anyH_call (i := 8) (by kernel_rfl) rfl rfl 100 ent_withoutQ _ _ rfl #[.int .i64 (s : Int), .int .i64 (i : Int)] rfl (without_c s i _ (by omega) (by omega) (by omega) (by omega)) ?_
    rw [Int.toNat_natCast, Int.toNat_natCast]
    rintro e _ ⟨rfl, rfl⟩
    refine ⟨_, rfl, hS0, ?_⟩
    simp only [Act.put, List.getElem_toArray, List.getElem_cons_zero, List.getElem_cons_succ, List.setIfInBounds_toArray, List.set_cons_zero, List.set_cons_succ]
    refine anyH_call (i := 9) (by kernel_rfl) rfl rfl 89 ent_itemsP _ _ rfl #[.int .i64 ((andNot s (p2 i) : Nat) : Int)] rfl (items_c (andNot s (p2 i)) C0 ha128 (HT.out.below hS0)) ?_
    rintro e C1 ⟨v1, rfl, ho1, hb1⟩
    have hS1 : Below w.heap.size w C1 := hS0.trans (hb1.mono hz0)
    refine ⟨_, rfl, hS1, ?_⟩
    simp only [Act.put, List.getElem_toArray, List.getElem_cons_zero, List.getElem_cons_succ, List.setIfInBounds_toArray, List.set_cons_zero, List.set_cons_succ]
    refine anyH_call (i := 10) (by kernel_rfl) rfl rfl 99 ent_isCovered _ _ rfl #[pv, .int .i64 (i : Int), v1] rfl (isCoveredO_c pv v1 L i (andNot s (p2 i)) _ C1 HLL.out HI.out HAL.out ((HP.out.below hS1 (Nat.le_refl _)).mono hS1.size) ho1) ?_
    rintro e C2 ⟨rfl, hb2⟩
    have hS2 : Below w.heap.size w C2 := hS1.trans (hb2.mono hS1.size)
    refine ⟨_, rfl, hS2, ?_⟩
    simp only [Act.put, List.getElem_toArray, List.getElem_cons_zero, List.getElem_cons_succ, List.setIfInBounds_toArray, List.set_cons_zero, List.set_cons_succ]
    generalize hcv : cvB L (andNot s (p2 i)) i = b
    refine anyH_op (i := 11) (by kernel_rfl) rfl rfl (.bool (!b)) C2 (by simp [go_sem]) hS2 ?_
    simp only [Act.put, List.getElem_toArray, List.getElem_cons_zero, List.getElem_cons_succ, List.setIfInBounds_toArray, List.set_cons_zero, List.set_cons_succ]
    refine anyH_op (i := 12) (by kernel_rfl) rfl rfl (.bool (!b)) C2 (by simp [go_sem]) hS2 ?_
    simp only [Act.put, List.getElem_toArray, List.getElem_cons_zero, List.getElem_cons_succ, List.setIfInBounds_toArray, List.set_cons_zero, List.set_cons_succ]
    refine anyH_op (i := 13) (by kernel_rfl) rfl rfl (.bool (!b)) C2 (by simp [go_sem]) hS2 ?_
    refine wpAnyH_done (by kernel_rfl) ?_ _
    simp only [Act.put, List.getElem_toArray, List.getElem_cons_zero, List.getElem_cons_succ, List.setIfInBounds_toArray, List.set_cons_zero, List.set_cons_succ]
    go_wp2
    go_ret
    exact ⟨ret_b (by rw [hcv]), hS2⟩
end Go.Proofs.YtknjiomagdfgfaaDoor
/- Contracts: corners of a set of points, free triples, sets that cover no others: the program's; CornersOf, CoveredBy, FreeTriples, PointSpace, the program's. -/
namespace Go.Proofs.YtknjiomagdfgfaaDoor
open Go.RowKit
set_option maxRecDepth 100000
set_option linter.unusedSimpArgs false
theorem ent_noOthers : enters Tryd.prog 74 := enters_of Tryd.func74 (by kernel_rfl) (by kernel_rfl)
def crK2 (L : List (List Int)) (s i : Nat) : Bool := s.testBit i && !cvB L (andNot s (p2 i)) i
def noB (L : List (List Int)) (s : Nat) : Bool := cvS L s == s
def ftB (L : List (List Int)) (s : Nat) : Bool := (pc s == 3) && ((crS L s == s) && noB L s)
def ftN (L : List (List Int)) : Nat → Nat
  | 0 => 0
  | k + 1 => ftN L k + if ftB L k then 1 else 0
theorem ftN_next (L : List (List Int)) (k : Nat) : ftN L (k + 1) = ftN L k + if ftB L k then 1 else 0 := rfl
theorem ftN_le (L : List (List Int)) : ∀ k, ftN L k ≤ k
  | 0 => Nat.le_refl _
  | k + 1 => by have := ftN_le L k; rw [ftN]; split <;> omega
def soP (L : List (List Int)) (s : Int) : Bool := ptB L && decide (0 ≤ s ∧ s ≤ (low L.length : Int))
def coR (L : List (List Int)) (s : Int) : Int := if soP L s then (crS L s.toNat : Int) else 0
def cbR (L : List (List Int)) (s : Int) : Int := if soP L s then (cvS L s.toNat : Int) else 0
def ftR (L : List (List Int)) : Int := if ptB L then (ftN L (p2 L.length) : Int) else 0
def psN (L : List (List Int)) : Int := if ptB L then (L.length : Int) else 0
def psS (L : List (List Int)) : List Int := if ptB L then setsTo (lvK (noB L) L.length) (p2 L.length) else []
theorem soP_no {L : List (List Int)} {s : Int} (h : soP L s = false) : coR L s = 0 ∧ cbR L s = 0 := by unfold coR cbR; rw [h]; exact ⟨rfl, rfl⟩
theorem soP_yes {L : List (List Int)} {s : Int} (h : soP L s = true) : coR L s = (crS L s.toNat : Int) ∧ cbR L s = (cvS L s.toNat : Int) := by unfold coR cbR; rw [h]; exact ⟨rfl, rfl⟩
theorem soP_in {L : List (List Int)} {s : Int} (h : soP L s = true) : ptB L = true ∧ 0 ≤ s ∧ s ≤ (low L.length : Int) := by
  unfold soP at h; rw [Bool.and_eq_true, decide_eq_true_eq] at h; exact h
theorem soP_p {L : List (List Int)} {s : Int} (h : ptB L = false) : soP L s = false := by unfold soP; rw [h]; rfl
theorem soP_is {L : List (List Int)} {s : Int} (h : ptB L = true) : soP L s = decide (0 ≤ s ∧ s ≤ (low L.length : Int)) := by unfold soP; rw [h]; rfl
theorem soP_lt {L : List (List Int)} {s : Nat} (h : soP L (s : Int) = true) : s < 2 ^ L.length := by
  have h1 := (soP_in h).2.2
  have h2 := p2_pos L.length
  have : low L.length + 1 = 2 ^ L.length := by unfold low; omega
  omega
theorem cvS_lt (L : List (List Int)) (s : Nat) (h7 : L.length ≤ 7) : cvS L s < 128 := by
  have h1 : cvS L s < 2 ^ L.length := itemsOf_lt (cvB L s) L.length
  have h2 := p2_le L.length 7 h7
  omega
theorem crS_lt (L : List (List Int)) (s : Nat) (h7 : L.length ≤ 7) : crS L s < 128 := by
  have h1 : crS L s < 2 ^ L.length := itemsOf_lt (crK2 L s) L.length
  have h2 := p2_le L.length 7 h7
  omega
attribute [local irreducible] p2 low memB risB trB3 cvB itemsL
set_option maxHeartbeats 1000000 in
theorem cornersOf_c (pv : Value) (L : List (List Int)) (n s : Nat) (w : World) (hn : pOk L n s) (hp : pls w.heap.size w pv L n) (hT : tab w) :
    Calls Tryd.prog 68 #[pv, .int .i64 (s : Int)] w fun e w' => e = .returned (.int .i64 (itemsOf (crK2 L s) n : Int)) ∧ Below w.heap.size w w' := by
  obtain ⟨a1, c1, e1⟩ := hp.shape
  subst e1
  have hs128 := hn.lt.1
  have h7 := hn.lt.2
  have HN := hide hn
  have hz0 : ((w.alloc (.cells #[.slice a1 n c1] 85)).alloc (.cells #[.int .i64 (s : Int)] 64)).heap.size = w.heap.size + 2 := by simp
  have HB0 := hide (((Below.refl w.heap.size w).alloc (Nat.le_refl _) (.cells #[.slice a1 n c1] 85)).alloc (by simp) (.cells #[.int .i64 (s : Int)] 64))
  have HT0 := hide ((hT.alloc (.cells #[.slice a1 n c1] 85)).alloc (.cells #[.int .i64 (s : Int)] 64))
  have h0 : ((w.alloc (.cells #[.slice a1 n c1] 85)).alloc (.cells #[.int .i64 (s : Int)] 64)).heap[w.heap.size]? = some (.cells #[.slice a1 n c1] 85) := (hp_old _ _ _ (by simp)).trans (hp_last w (.cells #[.slice a1 n c1] 85))
  have h1 : ((w.alloc (.cells #[.slice a1 n c1] 85)).alloc (.cells #[.int .i64 (s : Int)] 64)).heap[w.heap.size + 1]? = some (.cells #[.int .i64 (s : Int)] 64) := by have h := hp_last (w.alloc (.cells #[.slice a1 n c1] 85)) (.cells #[.int .i64 (s : Int)] 64); simpa using h
  have HP := hide (((hp.alloc (.cells #[.slice a1 n c1] 85)).alloc (.cells #[.int .i64 (s : Int)] 64)).mono (show w.heap.size ≤ ((w.alloc (.cells #[.slice a1 n c1] 85)).alloc (.cells #[.int .i64 (s : Int)] 64)).heap.size by rw [hz0]; omega))
  have c0 := cell1_at0 h0
  have HC0 := hide c0
  have HC1 := hide (cell1_at0 h1)
  have HZ := hide hz0
  clear hn hp hT h0 h1 hz0
  go_enter Tryd.func68, Tryd.ntmps68
  go_wp2_with fail
  generalize (w.alloc (.cells #[.slice a1 n c1] 85)).alloc (.cells #[.int .i64 (s : Int)] 64) = W at HB0 HT0 HP HC0 HC1 HZ ⊢
  refine (itemsWhere_c (n : Int) 97 #[.pointer (some ⟨w.heap.size + 1, 0, none⟩), .pointer (some ⟨w.heap.size, 0, none⟩)] W (crK2 L s) ent_corners1 (by omega) (by omega) ?h1).mono ?_
  case h1 =>
    intro i w3 hi0 hi hb
    obtain ⟨i, rfl⟩ := Int.eq_ofNat_of_zero_le hi0
    obtain ⟨h1, h2⟩ := HN.out
    have hz := HZ.out
    have hbz := hb.size
    rcases h2 with h2 | ⟨h2, h3⟩
    · omega
    · subst h3
      exact cornersOf1_c _ L s i (w.heap.size + 1) w.heap.size w3 h2 h1 (by omega) ((HP.out.below hb (Nat.le_refl _)).mono hb.size) (HT0.out.below hb) ((hb.cell (p := ⟨w.heap.size + 1, 0, none⟩) (by show w.heap.size + 1 < W.heap.size; omega)).trans HC1.out) (by omega) ((hb.cell (p := ⟨w.heap.size, 0, none⟩) (by show w.heap.size < W.heap.size; omega)).trans HC0.out) (by omega)
  rintro e w4 ⟨rfl, hb4⟩
  rw [Int.toNat_natCast]
  go_wp2
  go_ret
  exact ⟨rfl, HB0.out.trans (hb4.mono (by rw [HZ.out]; omega))⟩
theorem coversNoOthers_c (pv : Value) (L : List (List Int)) (s : Nat) (w : World) (hL : ptB L = true) (hs : s < 2 ^ L.length) (hp : pls w.heap.size w pv L L.length) (hT : tab w) :
    Calls Tryd.prog 74 #[pv, .int .i64 (s : Int)] w fun e w' => e = .returned (.bool (noB L s)) ∧ Below w.heap.size w w' := by
  have HC := hide (show Calls Tryd.prog 70 #[pv, .int .i64 (s : Int)] w fun e w' => e = .returned (.int .i64 (cvS L s : Int)) ∧ Below w.heap.size w w' from coveredBy_c pv L L.length s w ⟨hs, .inr ⟨hL, rfl⟩⟩ hp hT)
  have HE := hide (show noB L s = (cvS L s == s) from rfl)
  clear hp hT
  generalize cvS L s = c at HC HE
  have HB := hide (show ((c : Int) == (s : Int)) = noB L s by rw [HE.out, Bool.eq_iff_iff, beq_iff_eq, beq_iff_eq]; omega)
  go_enter Tryd.func74, Tryd.ntmps74
  go_wp2_with (go_at_call 70; refine HC.out.mono ?_; rintro e w2 ⟨rfl, hb2⟩)
  go_ret
  exact ⟨ret_b (by first | exact HB.out | (have := HB.out; simpa using this)), hb2⟩
set_option maxHeartbeats 2000000 in
theorem isFreeTriple_c (pv : Value) (L : List (List Int)) (n s : Nat) (w : World) (hn : pOk L n s) (hp : pls w.heap.size w pv L n) (hT : tab w) :
    Calls Tryd.prog 78 #[pv, .int .i64 (s : Int)] w fun e w' => e = .returned (.bool (ftB L s)) ∧ Below w.heap.size w w' := by
  have hs128 := hn.lt.1
  have HSZ := hide (fun (w1 : World) => size_c (s : Int) w1 (by omega) (by omega))
  have HF := hide (show ftB L s = ((pc s == 3) && ((crS L s == s) && noB L s)) from rfl)
  have HP := hide hp
  have HT := hide hT
  by_cases h3 : pc s = 3
  · have h4 : ptB L = true ∧ n = L.length := by
      rcases hn.2 with h | h
      · subst h
        have : s = 0 := by have := hn.1; omega
        subst this
        rw [show pc 0 = 0 by decide] at h3; omega
      · exact h
    obtain ⟨hL, rfl⟩ := h4
    have hs := hn.1
    have HC := hide (fun (w1 : World) (h : Below w.heap.size w w1) => show Calls Tryd.prog 68 #[pv, .int .i64 (s : Int)] w1 fun e w' => e = .returned (.int .i64 (crS L s : Int)) ∧ Below w1.heap.size w1 w' from cornersOf_c pv L L.length s w1 hn ((HP.out.below h (Nat.le_refl _)).mono h.size) (HT.out.below h))
    have HN := hide (fun (w1 : World) (h : Below w.heap.size w w1) => coversNoOthers_c pv L s w1 hL hs ((HP.out.below h (Nat.le_refl _)).mono h.size) (HT.out.below h))
    rw [h3] at HF
    rw [Int.toNat_natCast, h3] at HSZ
    clear hn hp hT HP HT h3 hL hs
    generalize crS L s = c at HC HF
    generalize noB L s = b at HN HF
    generalize ftB L s = r at HF ⊢
    by_cases hcs : c = s
    · have hcb : ((c : Int) == (s : Int)) = true := by subst hcs; simp
      have HR := hide (show r = b by rw [HF.out, hcs]; simp)
      clear HF hcs
      go_enter Tryd.func78, Tryd.ntmps78
      go_wp2_with (first
        | (go_at_call 108; refine (HSZ.out _).mono ?_; rintro e w2 ⟨rfl, rfl⟩)
        | (go_at_call 68; refine (HC.out _ (Below.refl _ _)).mono ?_; rintro e w3 ⟨rfl, hb3⟩; have HB3 := hide hb3; clear hb3)
        | (go_at_call 74; refine (HN.out _ HB3.out).mono ?_; rintro e w4 ⟨rfl, hb4⟩; have HB4 := hide (HB3.out.trans (hb4.mono HB3.out.size)); clear hb4))
      go_ret
      exact ⟨ret_b (by rw [HR.out]), HB4.out⟩
    · have hcb : ((c : Int) == (s : Int)) = false := by simp; omega
      have HR := hide (show r = false by rw [HF.out]; simp [hcs])
      clear HF hcs
      go_enter Tryd.func78, Tryd.ntmps78
      go_wp2_with (first
        | (go_at_call 108; refine (HSZ.out _).mono ?_; rintro e w2 ⟨rfl, rfl⟩)
        | (go_at_call 68; refine (HC.out _ (Below.refl _ _)).mono ?_; rintro e w3 ⟨rfl, hb3⟩; have HB3 := hide hb3; clear hb3))
      go_ret
      exact ⟨ret_b (by rw [HR.out]), HB3.out⟩
  · have hpb : ((pc s : Int) == 3) = false := by simp; omega
    have hpb2 : (pc s == 3) = false := by simp; omega
    rw [hpb2, Bool.false_and] at HF
    rw [Int.toNat_natCast] at HSZ
    generalize pc s = c at hpb HSZ
    clear hn hp hT HP HT h3 hpb2
    generalize ftB L s = r at HF ⊢
    go_enter Tryd.func78, Tryd.ntmps78
    go_wp2_with (go_at_call 108; refine (HSZ.out _).mono ?_; rintro e w2 ⟨rfl, rfl⟩)
    go_ret
    exact ⟨ret_b (by rw [HF.out]), Below.refl _ _⟩
set_option maxHeartbeats 2000000 in
theorem readPlaneAndSet_c (u : Value) (L : List (List Int)) (s : Int) (w : World) (hl : rows w.heap.size w u L) :
    Calls Tryd.prog 67 #[u, .int .i64 s] w fun e w' => ∃ pv n S, e = .returned (.tuple #[pv, .int .i64 ((S : Nat) : Int), .bool (soP L s)]) ∧ pls w'.heap.size w' pv L n ∧ pOk L n S ∧ (soP L s = true → n = L.length ∧ (S : Int) = s) ∧ (soP L s = false → n = 0 ∧ S = 0) ∧ Below w.heap.size w w' := by
  have HRP := hide (readPlane_c u L w hl)
  clear hl
  cases hp : ptB L
  · rw [soP_p hp]
    rw [hp] at HRP
    clear hp
    go_enter Tryd.func67, Tryd.ntmps67
    go_wp2_with (go_at_call 72; refine HRP.out.mono ?_; rintro e w2 ⟨pv, rfl, hpl, hb2⟩; have HB2 := hide hb2; clear hpl hb2)
    go_ret3
    exact ⟨_, 0, 0, rfl, pls_nil _ _ _, ⟨by omega, .inl rfl⟩, (fun h => by cases h), (fun _ => ⟨rfl, rfl⟩), HB2.out⟩
  · have h7 := (ptB_n hp).2
    have HL := hide hp
    have HIS : Hid (∀ (w1 : World), Calls Tryd.prog 87 #[.agg (fam (L.length : Int) noSet), .int .i64 s] w1 fun e w' => e = .returned (.bool (soP L s)) ∧ Below w1.heap.size w1 w') := hide fun w1 => by
      have := isSet_c (L.length : Int) noSet s w1 (by omega) (by omega)
      rw [Int.toNat_natCast, ← soP_is hp] at this
      exact this
    rw [ptN_yes hp, hp] at HRP
    clear hp
    cases hs : soP L s
    · rw [hs] at HIS
      clear hs
      go_enter Tryd.func67, Tryd.ntmps67
      go_wp2_with (first
        | (go_at_call 72; refine HRP.out.mono ?_; rintro e w2 ⟨pv, rfl, hpl, hb2⟩; have HB2 := hide hb2; have HSH := hide hpl.shape; clear hpl hb2)
        | (refine wpList_lenP plT rfl (.tmp _) rfl pv rfl L.length HSH.out ?_)
        | (refine wpList_build_fam builtT rfl _ rfl _ rfl ?_)
        | (go_at_call 87; refine (HIS.out _).mono ?_; rintro e w3 ⟨rfl, hb3⟩; have HB3 := hide (HB2.out.trans (hb3.mono HB2.out.size)); clear hb3))
      go_ret3
      exact ⟨_, 0, 0, rfl, pls_nil _ _ _, ⟨by omega, .inl rfl⟩, (fun h => by cases h), (fun _ => ⟨rfl, rfl⟩), HB3.out⟩
    · obtain ⟨_, hs0, hs1⟩ := soP_in hs
      obtain ⟨S, rfl⟩ := Int.eq_ofNat_of_zero_le hs0
      have HLT := hide (soP_lt hs)
      rw [hs] at HIS
      clear hs hs0 hs1
      go_enter Tryd.func67, Tryd.ntmps67
      go_wp2_with (first
        | (go_at_call 72; refine HRP.out.mono ?_; rintro e w2 ⟨pv, rfl, hpl, hb2⟩; have HB2 := hide hb2; have HPL := hide hpl; have HSH := hide hpl.shape; clear hpl hb2)
        | (refine wpList_lenP plT rfl (.tmp _) rfl pv rfl L.length HSH.out ?_)
        | (refine wpList_build_fam builtT rfl _ rfl _ rfl ?_)
        | (go_at_call 87; refine (HIS.out _).mono ?_; rintro e w3 ⟨rfl, hb3⟩; have HPL3 := hide ((HPL.out.below hb3 (Nat.le_refl _)).mono hb3.size); have HB3 := hide (HB2.out.trans (hb3.mono HB2.out.size)); clear hb3))
      go_ret3
      exact ⟨_, L.length, S, rfl, HPL3.out, ⟨HLT.out, .inr ⟨HL.out, rfl⟩⟩, (fun _ => ⟨rfl, rfl⟩), (fun h => by cases h), HB3.out⟩
theorem items0 (K : Nat → Bool) : itemsOf K 0 = 0 := rfl
theorem implCornersOf_c (u : Value) (L : List (List Int)) (s : Int) (w : World) (hl : rows w.heap.size w u L) (_hs : small2 L) (hT : tab w) :
    Calls Tryd.prog 39 #[u, .int .i64 s] w fun e w' => e = .returned (.tuple #[.int .i64 (coR L s), .bool (soP L s)]) ∧ Below w.heap.size w w' := by
  have HT := hide hT
  have HRS := hide (readPlaneAndSet_c u L s w hl)
  clear hl hT
  go_enter Tryd.func39, Tryd.ntmps39
  go_wp2_with (first
    | (go_at_call 67; refine HRS.out.mono ?_; rintro e w2 ⟨pv, n, S, rfl, hpl, hok, hy, hn, hb2⟩; have HB2 := hide hb2; have HPL := hide hpl; have HOK := hide hok; have HY := hide hy; have HN := hide hn; clear hpl hok hy hn hb2)
    | (go_at_call 68; refine (cornersOf_c pv L n S _ HOK.out HPL.out (HT.out.below HB2.out)).mono ?_; rintro e w3 ⟨rfl, hb3⟩; have HB3 := hide (HB2.out.trans (hb3.mono HB2.out.size)); clear hb3))
  go_ret2
  refine ⟨?_, HB3.out⟩
  cases h : soP L s
  · obtain ⟨rfl, rfl⟩ := HN.out h
    rw [(soP_no h).1]; rfl
  · obtain ⟨rfl, rfl⟩ := HY.out h
    rw [(soP_yes h).1, Int.toNat_natCast]; rfl
theorem implCoveredBy_c (u : Value) (L : List (List Int)) (s : Int) (w : World) (hl : rows w.heap.size w u L) (_hs : small2 L) (hT : tab w) :
    Calls Tryd.prog 41 #[u, .int .i64 s] w fun e w' => e = .returned (.tuple #[.int .i64 (cbR L s), .bool (soP L s)]) ∧ Below w.heap.size w w' := by
  have HT := hide hT
  have HRS := hide (readPlaneAndSet_c u L s w hl)
  clear hl hT
  go_enter Tryd.func41, Tryd.ntmps41
  go_wp2_with (first
    | (go_at_call 67; refine HRS.out.mono ?_; rintro e w2 ⟨pv, n, S, rfl, hpl, hok, hy, hn, hb2⟩; have HB2 := hide hb2; have HPL := hide hpl; have HOK := hide hok; have HY := hide hy; have HN := hide hn; clear hpl hok hy hn hb2)
    | (go_at_call 70; refine (coveredBy_c pv L n S _ HOK.out HPL.out (HT.out.below HB2.out)).mono ?_; rintro e w3 ⟨rfl, hb3⟩; have HB3 := hide (HB2.out.trans (hb3.mono HB2.out.size)); clear hb3))
  go_ret2
  refine ⟨?_, HB3.out⟩
  cases h : soP L s
  · obtain ⟨rfl, rfl⟩ := HN.out h
    rw [(soP_no h).2]; rfl
  · obtain ⟨rfl, rfl⟩ := HY.out h
    rw [(soP_yes h).2, Int.toNat_natCast]; rfl
set_option maxHeartbeats 1000000 in
theorem implFreeTriples_c (u : Value) (L : List (List Int)) (w : World) (hl : rows w.heap.size w u L) (_hs : small2 L) (hT : tab w) :
    Calls Tryd.prog 46 #[u] w fun e w' => e = .returned (.tuple #[.int .i64 (ftR L), .bool (ptB L)]) ∧ Below w.heap.size w w' := by
  have HT := hide hT
  have HRP := hide (readPlane_c u L w hl)
  have h7 : ptN L ≤ 7 := by
    unfold ptN; split
    · rename_i h; exact (ptB_n h).2
    · omega
  have HOK := hide (fun k (h : k < p2 (ptN L)) => show pOk L (ptN L) k from ⟨by unfold p2 at h; exact h, by
    unfold ptN; split
    · rename_i h; exact .inr ⟨h, rfl⟩
    · exact .inl rfl⟩)
  have HR := hide (show (ftN L (p2 (ptN L)) : Int) = ftR L by
    unfold ftR ptN
    split
    · rfl
    · rw [show p2 0 = 1 by unfold p2; rfl]
      have : ftB L 0 = false := by unfold ftB; rw [show pc 0 = 0 by decide]; rfl
      rw [ftN, this]; rfl)
  clear hl hT
  generalize ptN L = n at *
  have hlow : low n + 1 = p2 n := low_succP n
  have hlo := low_lt n h7
  generalize ptB L = ok at *
  go_enter Tryd.func46, Tryd.ntmps46
  go_wp2_with (first
    | (go_at_call 72; refine HRP.out.mono ?_; rintro e w2 ⟨pv, rfl, hpl, hb2⟩; have HB2 := hide hb2; have HPL := hide hpl; have HSH := hide hpl.shape; clear hpl hb2)
    | (refine wpList_lenP plT rfl (.tmp _) rfl pv rfl n HSH.out ?_)
    | (go_at_call 77; refine (below_c (n : Int) _ (by omega) (by omega)).mono ?_; rw [Int.toNat_natCast]; rintro e w3 ⟨rfl, rfl⟩))
  go_loopw [6, 17] (fun cv iv wr => ∃ k : Nat, k ≤ low n + 1 ∧ iv = .int .i64 (k : Int) ∧ cv = .int .i64 (ftN L k : Int) ∧ Hid (Below w2.heap.size w2 wr)) (fun _ iv _ => low n + 1 - (intOf iv).toNat)
  case atStart => exact ⟨0, by omega, rfl, rfl, Below.refl _ _⟩
  case round =>
    obtain ⟨k, hk, rfl, rfl, HB⟩ := hrel
    have HNX := hide (ftN_next L k)
    have hle := ftN_le L k
    by_cases hlt : k < low n + 1
    · have hlt' : (k : Int) < (low n : Int) + 1 := by omega
      have hlt2 : (k : Int) ≤ (low n : Int) := by omega
      have HOKK := hide (HOK.out k (by omega))
      have HC := hide (fun (w1 : World) (h : Below w2.heap.size w2 w1) => isFreeTriple_c pv L n k w1 HOKK.out ((HPL.out.below h (Nat.le_refl _)).mono h.size) ((HT.out.below HB2.out).below h))
      generalize ftB L k = b at HC HNX
      generalize hmm : ftN L k = m at *
      clear hmm
      have HW := hide (show IntKind.i64.wrap ((m : Int) + 1) = ((m + 1 : Nat) : Int) from IntWalk.i64_in _ (by omega))
      cases b
      all_goals
        go_wp2_with (go_at_call 78; refine (HC.out _ HB.out).mono ?_; rintro e w4 ⟨rfl, hb4⟩; have HB4 := hide (HB.out.trans (hb4.mono HB.out.size)); clear hb4)
        go_roundw
        case rel => exact ⟨k + 1, by omega, by go_num, by rw [HNX.out]; go_num, HB4⟩
        case measure => simp [intOf]; omega
    · have HK := hide (show k = p2 n by omega)
      have hlt' : ¬ ((k : Int) < (low n : Int) + 1) := by omega
      have hlt2 : ¬ ((k : Int) ≤ (low n : Int)) := by omega
      go_wp2
      go_ret2
      exact ⟨by rw [← HR.out, HK.out]; rfl, HB2.out.trans (HB.out.mono HB2.out.size)⟩
end Go.Proofs.YtknjiomagdfgfaaDoor
