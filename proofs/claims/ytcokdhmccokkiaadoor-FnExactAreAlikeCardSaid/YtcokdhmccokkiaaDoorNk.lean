/- Contracts: all orders of items, the specification's. -/
import Derived.Test.YtcokdhmccokkiaaDoorAz
import Derived.Test.YtcokdhmccokkiaaDoorFs
import Derived.Test.YtcokdhmccokkiaaDoorRe
import Derived.Test.YtcokdhmccokkiaaDoorIs
import Derived.Test.YtcokdhmccokkiaaDoorQs
import Derived.Test.YtcokdhmccokkiaaDoorFl
namespace Go.Proofs.YtcokdhmccokkiaaDoor
open Go.RowKit
set_option maxRecDepth 100000
set_option linter.unusedSimpArgs false
/-- All sets of n items. -/
def FA (n : Nat) : Nat → Bool := fun x => decide (x < 2 ^ n)
theorem FA_step {n s x : Nat} (hs : s < 2 ^ n) (hx : x < n) : FA n (p2s s x) = true := by
  unfold FA p2s
  rw [decide_eq_true_eq]
  exact Nat.or_lt_two_pow hs (Nat.pow_lt_pow_right (by omega) hx)
theorem memB_snoc (word : List Int) (x y : Int) : memB (word ++ [x]) y = (memB word y || decide (x = y)) := by
  rw [Bool.eq_iff_iff, Bool.or_eq_true, decide_eq_true_eq]
  unfold memB
  rw [decide_eq_true_eq, decide_eq_true_eq]
  constructor
  · rintro ⟨j, hj, e⟩
    rw [List.length_append, List.length_singleton] at hj
    rcases Nat.lt_or_ge j word.length with h | h
    · rw [List.getElem?_append_left h] at e
      exact .inl ⟨j, h, e⟩
    · rw [show j = word.length by omega, List.getElem?_append_right (Nat.le_refl _)] at e
      simp at e
      exact .inr e
  · rintro (⟨j, hj, e⟩ | e)
    · exact ⟨j, by simp; omega, by rw [List.getElem?_append_left hj]; exact e⟩
    · exact ⟨word.length, by simp, by rw [List.getElem?_append_right (Nat.le_refl _)]; simpa using e⟩
theorem p2s_bit (s x y : Nat) : (p2s s x).testBit y = (s.testBit y || decide (x = y)) := by unfold p2s; rw [Nat.testBit_or, p2_bit]
/-- All orders that go on from a list. -/
def orL (n k s : Nat) : List (List Int) := awL (FA n) n k s
theorem FA_lt {n x : Nat} (h : FA n x = true) : x < 2 ^ n := by simpa [FA] using h
attribute [local irreducible] p2 low memB risB
set_option maxHeartbeats 4000000 in
theorem alOrders_c (N : Nat) (hN1 : 1 ≤ N) (hN7 : N ≤ 7) : ∀ k (wv : Value) (word : List Int) (s : Nat) (w : World),
    ints w.heap.size w wv word → word.length + k = N → (∀ x, x < N → memB word (x : Int) = s.testBit x) → s < 2 ^ N → pc s + k = N →
    Calls Tryd.prog 39 #[wv, .int .i64 (N : Int)] w fun e w' => ∃ v', e = .returned v' ∧ own2 25 3 w' w.heap.size v' ((awL (FA N) N k s).map (word ++ ·)) ∧ Below w.heap.size w w' := by
  have hp2 := p2_le N 7 hN7
  intro k
  induction k with
  | zero =>
    intro wv word s w hw hwl hm hs hpc
    have HW := hide hw
    have hb : ((word.length : Int) == (N : Int)) = true := by simp; omega
    clear hw hm hs hpc
    go_enter Tryd.func39, Tryd.ntmps39
    go_wp2_with (first
      | (refine wpList_len sliceT rfl (.tmp _) rfl wv rfl _ word HW.out ?_)
      | (go_at_call 51; refine (l1Own_c wv word _ HW.out (by omega)).mono ?_; rintro e w1 ⟨v1, rfl, ho1, hb1⟩; obtain ⟨a1, c1, hv1⟩ := ho1.shape; subst hv1; have hz1 := hb1.size; have HO1 := hide ho1; have HB1 := hide hb1; clear ho1 hb1))
    go_ret
    refine ⟨_, rfl, ?_, HB1.out.alloc (by omega) _⟩
    have h := own2_one (T := 25) HO1.out (show w.heap.size ≤ w1.heap.size by omega)
    simpa [awL] using h
  | succ k ih =>
    intro wv word s w hw hwl hm hs hpc
    have hs128 : s < 128 := by omega
    have HIH := hide (fun wv word s w h1 h2 h3 h4 h5 => ih wv word s w h1 h2 h3 h4 h5)
    have HAW := hide (show awL (FA N) N (k + 1) s = awTo (FA N) (awL (FA N) N k) s N from rfl)
    have HLE := hide (fun x => awTo_len (F := FA N) (A := awL (FA N) N k) (s := s) (c := 823543) (fun x hx hb => by
      rcases Nat.lt_or_ge x N with h | h
      · exact aw_len hN7 (fun _ h => FA_lt h) k (p2s s x) hx (by rw [show pc (p2s s x) = pc s + 1 from pc_orW s hs128 x (by omega) hb]; omega)
      · have h1 := FA_lt hx
        have h2 := p2s_ge s x
        have h3 := p2_geA N x h
        omega) x)
    have HLA := hide (fun q h1 h2 => aw_len (F := FA N) (n := N) hN7 (fun _ h => FA_lt h) k q h1 h2)
    have HM := hide hm
    have HW0 := hide hw
    have HH := hide (fun x w1 (h : ints w1.heap.size w1 wv word) => l1Has_c wv word x w1 h (by omega))
    have hb : ((word.length : Int) == (N : Int)) = false := by simp; omega
    clear hw ih hm
    rw [HAW.out]
    go_enter Tryd.func39, Tryd.ntmps39
    go_wp2_with (first
      | (refine wpList_len sliceT rfl (.tmp _) rfl wv rfl _ word HW0.out ?_))
    go_loopw [5, 6] (fun o i wr => ∃ x : Nat, x ≤ N ∧ i = .int .i64 (x : Int) ∧ Hid (own2 25 3 wr w.heap.size o ((awTo (FA N) (awL (FA N) N k) s x).map (word ++ ·))) ∧ Hid (Below w.heap.size w wr)) (fun _ i _ => N - (intOf i).toNat)
    case atStart => exact ⟨0, Nat.zero_le _, rfl, own2_nil _ _ _ _, Below.refl _ _⟩
    case round =>
      obtain ⟨x, hx, rfl, HO, HB⟩ := hrel
      have hsz := HB.out.size
      have HWR := hide ((HW0.out.below HB.out (Nat.le_refl _)).mono hsz)
      have hwl7 : word.length ≤ 7 := by omega
      by_cases hxN : x < N
      · have hxN' : (x : Int) < (N : Int) := by omega
        have HNX := hide (show awTo (FA N) (awL (FA N) N k) s (x + 1) = awTo (FA N) (awL (FA N) N k) s x ++ if (!s.testBit x && FA N (p2s s x)) = true then (awL (FA N) N k (p2s s x)).map (fun m => (x : Int) :: m) else [] from rfl)
        have hlx := HLE.out x
        have hcx : x * 823543 ≤ 5764801 := by omega
        have HHX := hide (fun w1 h => HH.out (x : Int) w1 h)
        rw [HM.out x hxN] at HHX
        rw [FA_step hs hxN, Bool.and_true] at HNX
        generalize hA : awTo (FA N) (awL (FA N) N k) s x = A at HO HNX hlx
        clear hA
        cases hyb : s.testBit x
        · rw [hyb] at HNX HHX
          have HE := hide (show awTo (FA N) (awL (FA N) N k) s (x + 1) = A ++ (awL (FA N) N k (p2s s x)).map (fun m => (x : Int) :: m) by rw [HNX.out]; simp)
          have hpx : pc (p2s s x) + k = N := by rw [show pc (p2s s x) = pc s + 1 from pc_orW s hs128 x (by omega) hyb]; omega
          have HLM := hide (HLA.out _ (FA_step hs hxN) hpx)
          have HIX := hide (fun wv2 w h1 => HIH.out wv2 (word ++ [(x : Int)]) (p2s s x) w h1 (by simp; omega) (fun y hy => by rw [memB_snoc, HM.out y hy, p2s_bit]; congr 1; rw [decide_eq_decide]; omega) (FA_lt (FA_step hs hxN)) hpx)
          generalize hM : awL (FA N) N k (p2s s x) = M at HE HLM HIX
          generalize hAm : A.map (word ++ ·) = A2 at HO
          have HAM := hide hAm
          have hA2 : A2.length ≤ 5764801 := by rw [← hAm, List.length_map]; omega
          obtain ⟨oa, oc, hso⟩ := HO.out.shape
          subst hso
          have hlm := HLM.out
          clear hyb hM hAm hcx hpx
          go_wp2_with (first
            | (go_at_call 56; refine (HHX.out _ HWR.out).mono ?_; rintro e w2 ⟨rfl, rfl⟩)
            | (go_at_call 51; refine (l1Own_c wv word _ HWR.out (by omega)).mono ?_; rintro e w3 ⟨v3, rfl, ho3, hb3⟩; have hz3 := hb3.size; have HO3 := hide ho3; have HB3 := hide hb3; clear ho3 hb3)
            | (at_builtin; refine wpList_append1 sliceT intI rfl (.tmp 25) (.tmp 27) rfl wr.heap.size _ word rfl (HO3.out.alloc _) _ (x : Int) rfl (by simp [go_sem]) (by simp; omega) (by omega) ?_; intro v4 w4 ho4 hb4; have hb4' := hb4; have HO4 := hide ho4; have HB4 := hide ((HB3.out.alloc (by omega) _).trans hb4); have hz4 := HB4.out.size; clear ho4 hb4 hb4')
            | (go_at_call 39; refine (HIX.out _ _ HO4.out.ints).mono ?_; rintro e w5 ⟨v5, rfl, ho5, hb5⟩; have hz5 := hb5.size; have HO5 := hide ho5; have HB5 := hide (HB4.out.trans (hb5.mono (by omega))); clear ho5 hb5)
            | (at_builtin; refine wpList_append2N sliceT2 rowI2 (by decide) rfl (.tmp 23) (.tmp 30) rfl w.heap.size _ A2 rfl wr HO.out HB5.out _ _ rfl (HO5.out.mono (by omega)) (by omega) (by rw [List.length_map]; omega) ?_; intro v6 w6 ho6 hb6; have HO6 := hide ho6; have HB6 := hide ((HB.out.trans (HB5.out.mono hsz)).trans hb6); clear ho6 hb6))
          go_roundw
          case rel => exact ⟨x + 1, by omega, by go_num, hide (by rw [HE.out, List.map_append, HAM.out, map_cons_app]; exact HO6.out), HB6⟩
          case measure => (simp [intOf] <;> omega)
        · rw [hyb] at HNX HHX
          clear hyb
          have HE := hide (show awTo (FA N) (awL (FA N) N k) s (x + 1) = A by rw [HNX.out]; simp)
          go_wp2_with (first
            | (go_at_call 56; refine (HHX.out _ HWR.out).mono ?_; rintro e w2 ⟨rfl, rfl⟩))
          go_roundw
          case rel => exact ⟨x + 1, by omega, by go_num, by rw [HE.out]; exact HO, HB⟩
          case measure => (simp [intOf] <;> omega)
      · have HXE := hide (show x = N by omega)
        have hx2 : ¬ ((x : Int) < (N : Int)) := by omega
        go_wp2
        go_ret
        exact ⟨_, rfl, by rw [show awTo (FA N) (awL (FA N) N k) s N = awTo (FA N) (awL (FA N) N k) s x by rw [HXE.out]]; exact HO.out, HB.out⟩
end Go.Proofs.YtcokdhmccokkiaaDoor
/- How many ways to name items leave a space as it is: mathematics. -/
namespace Go.Proofs.YtcokdhmccokkiaaDoor
open Go.RowKit
set_option maxRecDepth 100000
/-- A list that goes on from a word is a word. -/
theorem setTo_appP (p r : List Int) : ∀ k, k ≤ p.length → setTo (p ++ r) k = setTo p k
  | 0, _ => rfl
  | k + 1, h => by rw [setTo, setTo, setTo_appP p r k (by omega), List.getElem?_append_left (by omega)]
theorem wordTo_appP (F : Nat → Bool) (n : Nat) (p r : List Int) : ∀ k, k ≤ p.length → wordTo F n (p ++ r) k = wordTo F n p k
  | 0, _ => rfl
  | k + 1, h => by rw [wordTo, wordTo, wordTo_appP F n p r k (by omega), setTo_appP p r k (by omega), List.getElem?_append_left (by omega)]
theorem snoc_at (p : List Int) (x : Int) : (p ++ [x])[p.length]?.getD 0 = x := by
  rw [List.getElem?_append_right (Nat.le_refl _)]
  simp
theorem aw_word {n : Nat} : ∀ k s (p r : List Int), r ∈ awL (FA n) n k s → setTo p p.length = s → wordTo anySet n p p.length = true → wordTo anySet n (p ++ r) (p ++ r).length = true
  | 0, s, p, r, hr, hs, hp => by
    simp [awL] at hr
    subst hr
    rw [List.append_nil]
    exact hp
  | k + 1, s, p, r, hr, hs, hp => by
    have key : ∀ x, x ≤ n → ∀ r ∈ awTo (FA n) (awL (FA n) n k) s x, wordTo anySet n (p ++ r) (p ++ r).length = true := by
      intro x
      induction x with
      | zero => intro _ r hr; simp [awTo] at hr
      | succ x ih =>
        intro hx r hr
        rw [awTo, List.mem_append] at hr
        rcases hr with hr | hr
        · exact ih (by omega) r hr
        · by_cases hb : (!s.testBit x && FA n (p2s s x)) = true
          · rw [if_pos hb, List.mem_map] at hr
            obtain ⟨m, hm, rfl⟩ := hr
            rw [Bool.and_eq_true] at hb
            have hsn : (p ++ [(x : Int)]).length = p.length + 1 := by simp
            have h1 := aw_word k (p2s s x) (p ++ [(x : Int)]) m hm
              (by rw [hsn, setTo, setTo_appP p _ _ (Nat.le_refl _), hs, snoc_at]; rfl)
              (by
                rw [hsn, wordTo, wordTo_appP _ _ p _ _ (Nat.le_refl _), hp, setTo_appP p _ _ (Nat.le_refl _), hs, snoc_at, Bool.true_and]
                unfold stepB anySet
                rw [Int.toNat_natCast, hb.1, decide_eq_true (by omega)]
                rfl)
            rw [List.append_assoc, List.singleton_append] at h1
            exact h1
          · rw [if_neg hb] at hr
            cases hr
    exact key n (Nat.le_refl _) r hr
/-- All orders of n items. -/
def nkA (n : Nat) : List (List Int) := awL (FA n) n n 0
theorem FA_zero (n : Nat) : FA n 0 = true := by unfold FA; rw [decide_eq_true_eq]; exact Nat.two_pow_pos n
theorem pc_zeroA : pc 0 = 0 := rfl
theorem nk_row (n k : Nat) (h : k < (nkA n).length) : ((nkA n)[k]?.getD []).length = n ∧ wordTo anySet n ((nkA n)[k]?.getD []) ((nkA n)[k]?.getD []).length = true := by
  have hm : (nkA n)[k]?.getD [] ∈ nkA n := by rw [List.getElem?_eq_getElem h]; exact List.getElem_mem h
  exact ⟨aw_row n 0 _ hm, aw_word n 0 [] _ hm rfl rfl⟩
theorem nk_cnt (n : Nat) (h1 : 1 ≤ n) (h5 : n ≤ 5) : cnt (FA n) n 0 ≤ 200 := by
  rcases (show n = 1 ∨ n = 2 ∨ n = 3 ∨ n = 4 ∨ n = 5 by omega) with rfl | rfl | rfl | rfl | rfl <;> exact of_decide_eq_true (by kernel_rfl)
theorem nk_len (n : Nat) (h1 : 1 ≤ n) (h5 : n ≤ 5) : (nkA n).length ≤ 200 := by
  unfold nkA
  rw [aw_rank (by omega) (fun _ h => FA_lt h) n 0 (FA_zero n) (by rw [pc_zeroA]; omega), List.length_map, List.length_range]
  exact nk_cnt n h1 h5
theorem upTo_at (k j : Nat) (h : j < k) : (upTo k)[j]?.getD 0 = (j : Int) := by
  unfold upTo
  rw [List.getElem?_map, List.getElem?_range h]
  rfl
theorem fr_marks (n : Nat) (h1 : 1 ≤ n) (h5 : n ≤ 5) : marksTo (frL n) (frL n).length = FA n := by
  have e : frL (n : Int) = upTo (2 ^ n) := by unfold frL; rw [if_pos (by omega), Int.toNat_natCast]; rfl
  funext x
  rw [e, upTo_len, Bool.eq_iff_iff, marks_iff]
  unfold FA
  rw [decide_eq_true_eq]
  constructor
  · rintro ⟨j, hj, e2⟩
    rw [upTo_at _ _ hj, Int.toNat_natCast] at e2
    omega
  · intro hx
    exact ⟨x, hx, by rw [upTo_at _ _ hx, Int.toNat_natCast]⟩
theorem fr_rise (n : Nat) (h1 : 1 ≤ n) (h5 : n ≤ 5) : risingTo n (frL n) (frL n).length = true := by
  rcases (show n = 1 ∨ n = 2 ∨ n = 3 ∨ n = 4 ∨ n = 5 by omega) with rfl | rfl | rfl | rfl | rfl <;> kernel_rfl
theorem fr_okAw (n : Nat) (h1 : 1 ≤ n) (h5 : n ≤ 5) : okAw n (frL n) = true := by
  unfold okAw okSp
  rw [fr_marks n h1 h5, Int.toNat_natCast, fr_rise n h1 h5, decide_eq_true (nk_cnt n h1 h5), decide_eq_true (by omega)]
  have h := free_space n h1 (by omega)
  rw [show cutAt (fun _ => true) (low n + 1) = FA n by funext x; unfold cutAt FA; rw [low_succ]; simp] at h
  rw [h]
  rfl
theorem fr_aw (n : Nat) (h1 : 1 ≤ n) (h5 : n ≤ 5) : awR n (frL n) = nkA n := by
  rw [awR_yes (fr_okAw n h1 h5), fr_marks n h1 h5, Int.toNat_natCast]
  rfl
/-! ### How many -/
def nkG (n : Int) (l nm : List Int) : Bool := decide (setsTo (rmF n l nm) 128 = l)
def nkT (n : Int) (l : List Int) (A : List (List Int)) : Nat → Nat
  | 0 => 0
  | k + 1 => nkT n l A k + (if nkG n l (A[k]?.getD []) then 1 else 0)
theorem nkT_next (n : Int) (l : List Int) (A : List (List Int)) (k : Nat) : nkT n l A (k + 1) = nkT n l A k + (if nkG n l (A[k]?.getD []) then 1 else 0) := rfl
theorem nkT_le (n : Int) (l : List Int) (A : List (List Int)) : ∀ k, nkT n l A k ≤ k
  | 0 => Nat.le_refl 0
  | k + 1 => by
    have := nkT_le n l A k
    rw [nkT_next]
    split <;> omega
def nkB (n : Int) (l : List Int) : Bool := okSp n l && decide (n ≤ 5)
def nkN (n : Int) (l : List Int) : Nat := if nkB n l then nkT n l (nkA n.toNat) (nkA n.toNat).length else 0
theorem nkB_no1 {n : Int} {l : List Int} (h : okSp n l = false) : nkB n l = false := by unfold nkB; rw [h]; rfl
theorem nkB_no2 {n : Int} {l : List Int} (h : ¬ n ≤ 5) : nkB n l = false := by unfold nkB; rw [decide_eq_false h]; simp
theorem nkB_yes {n : Int} {l : List Int} (h : okSp n l = true) (h2 : n ≤ 5) : nkB n l = true := by unfold nkB; rw [h, decide_eq_true h2]; rfl
theorem nkN_no {n : Int} {l : List Int} (h : nkB n l = false) : nkN n l = 0 := by unfold nkN; rw [h]; rfl
theorem nkN_yes {n : Int} {l : List Int} (h : nkB n l = true) : nkN n l = nkT n l (nkA n.toNat) (nkA n.toNat).length := by unfold nkN; rw [h]; rfl
theorem sets_injK {F G : Nat → Bool} (h : setsTo F 128 = setsTo G 128) (x : Nat) (hx : x < 128) : F x = G x := by
  have h1 := sets_iff F x 128
  have h2 := sets_iff G x 128
  rw [h] at h1
  rw [Bool.eq_iff_iff]
  constructor
  · intro hf; exact (h2.1 (h1.2 ⟨hx, hf⟩)).2
  · intro hg; exact (h1.1 (h2.2 ⟨hx, hg⟩)).2
theorem nk_eq {n : Int} {l : List Int} (h : okSp n l = true) (nm : List Int) : allEq (imgTo (marksTo l l.length) (rnm nm n.toNat) 128) (marksTo l l.length) = nkG n l nm := by
  have e : imgTo (marksTo l l.length) (rnm nm n.toNat) 128 = rmF n l nm := by rw [img_lm h]; rfl
  have hl := okSp_list h
  rw [e]
  unfold nkG allEq
  rw [Bool.eq_iff_iff, List.all_eq_true, decide_eq_true_eq]
  clear e
  generalize rmF n l nm = R
  generalize marksTo l l.length = M at hl ⊢
  constructor
  · intro ha
    rw [hl]
    refine setsTo_congr 128 fun i hi => ?_
    have := ha i (List.mem_range.2 hi)
    simpa using this
  · intro hs i hi
    have := sets_injK (hs.trans hl) i (List.mem_range.1 hi)
    simp [this]
end Go.Proofs.YtcokdhmccokkiaaDoor
/- Contracts: NamesKept, the specification's. -/
namespace Go.Proofs.YtcokdhmccokkiaaDoor
open Go.RowKit
set_option maxRecDepth 100000
set_option linter.unusedSimpArgs false
theorem memB_nilA (x : Nat) : memB [] (x : Int) = (0 : Nat).testBit x := by
  rw [Nat.zero_testBit]
  unfold memB
  simp
theorem nk_mapA (n : Nat) : (nkA n).map (([] : List Int) ++ ·) = nkA n := by simp
attribute [local irreducible] p2 low memB risB
theorem ent_alNamedN : enters Tryd.prog 40 := enters_of Tryd.func40 (by kernel_rfl) (by kernel_rfl)
theorem ent_l1SameN : enters Tryd.prog 29 := enters_of Tryd.func29 (by kernel_rfl) (by kernel_rfl)
set_option maxHeartbeats 1000000 in
theorem alFew_c (n : Int) (v : Value) (l : List Int) (w : World) (hl : ints w.heap.size w v l) (hlen : l.length < 1000000000) :
    Calls Tryd.prog 35 #[.agg #[.int .i64 n, v]] w fun e w' => e = .returned (.bool (nkB n l)) ∧ Below w.heap.size w w' := by
  have HL := hide ((hl.alloc (.cells #[.int .i64 n, v] 29)).mono (show w.heap.size ≤ (w.alloc (.cells #[.int .i64 n, v] 29)).heap.size by simp))
  have H0 := hide ((Below.refl w.heap.size w).alloc (Nat.le_refl _) (.cells #[.int .i64 n, v] 29))
  have HS0 := hide (hp_last w (.cells #[.int .i64 n, v] 29))
  have HZ := hide (show (w.alloc (.cells #[.int .i64 n, v] 29)).heap.size = w.heap.size + 1 by simp)
  clear hl
  cases hok : okSp n l
  · have HG := hide (show goodB n l = false by rw [← ok_good]; exact hok)
    rw [nkB_no1 hok]
    clear hok
    go_enter Tryd.func35, Tryd.ntmps35
    go_wp2_with (go_at_call 43; refine (spGood_c n v l _ HL.out hlen).mono ?_; rw [HG.out]; rintro e w1 ⟨rfl, hb⟩; have HB := hide (H0.out.trans (hb.mono (by rw [HZ.out]; omega))); clear hb)
    go_ret
    exact ⟨rfl, HB.out⟩
  · have HG := hide (show goodB n l = true by rw [← ok_good]; exact hok)
    by_cases h5 : n ≤ 5
    · rw [nkB_yes hok h5]
      clear hok
      go_enter Tryd.func35, Tryd.ntmps35
      go_wp2_with (go_at_call 43; refine (spGood_c n v l _ HL.out hlen).mono ?_; rw [HG.out]; rintro e w1 ⟨rfl, hb⟩; have c0 := cells_at0 ((hb.block w.heap.size (by rw [HZ.out]; omega)).trans HS0.out); have HB := hide (H0.out.trans (hb.mono (by rw [HZ.out]; omega))); clear hb)
      refine bodyPost_ret (v := .bool true) (by simp [results, Tryd.results35, go_sem, h5]) rfl ⟨rfl, HB.out⟩
    · rw [nkB_no2 h5]
      clear hok
      go_enter Tryd.func35, Tryd.ntmps35
      go_wp2_with (go_at_call 43; refine (spGood_c n v l _ HL.out hlen).mono ?_; rw [HG.out]; rintro e w1 ⟨rfl, hb⟩; have c0 := cells_at0 ((hb.block w.heap.size (by rw [HZ.out]; omega)).trans HS0.out); have HB := hide (H0.out.trans (hb.mono (by rw [HZ.out]; omega))); clear hb)
      refine bodyPost_ret (v := .bool false) (by simp [results, Tryd.results35, go_sem, h5]) rfl ⟨rfl, HB.out⟩
set_option maxHeartbeats 4000000 in
theorem alNamed_c (m : Nat) (v : Value) (l : List Int) (u : Value) (nm : List Int) (w : World) (hl : ints w.heap.size w v l) (hlen : l.length < 1000000000) (hm : ints w.heap.size w u nm) (hsp : okSp (m : Int) l = true) (hlm : nm.length = m) (hw : wordTo anySet m nm nm.length = true) :
    Calls Tryd.prog 40 #[.agg #[.int .i64 (m : Int), v], u] w fun e w' => ∃ v', e = .returned v' ∧ own 3 w' w.heap.size v' (setsTo (rmF (m : Int) l nm) 128) ∧ Below w.heap.size w w' := by
  have HL0 := hide (hl.alloc (.cells #[.int .i64 (m : Int), v] 29))
  have HM0 := hide (hm.alloc (.cells #[.int .i64 (m : Int), v] 29))
  have H0 := hide ((Below.refl w.heap.size w).alloc (Nat.le_refl _) (.cells #[.int .i64 (m : Int), v] 29))
  have HS0 := hide (hp_last w (.cells #[.int .i64 (m : Int), v] 29))
  have c1 := cells_at1 HS0.out
  have HSP := hide hsp
  have HW := hide hw
  have HLM := hide hlm
  have hn := okSp_n hsp
  have hm7 : m ≤ 7 := by omega
  have HF := hide (show rmF (m : Int) l nm = lmTo l (fun _ => true) (rnm nm m) l.length from rfl)
  generalize rmF (m : Int) l nm = RF at HF ⊢
  clear hl hm hsp hw hlm
  go_enter Tryd.func40, Tryd.ntmps40
  go_wp2_with (refine wpList_len sliceT rfl (.tmp _) rfl v rfl _ l HL0.out ?_)
  go_loopw [5, 14] (fun s iv wr => ∃ k : Nat, k ≤ l.length ∧ iv = .int .i64 (k : Int) ∧ Hid (own 3 wr w.heap.size s (setsTo (lmTo l (fun _ => true) (rnm nm m) k) 128)) ∧ Hid (Below w.heap.size w wr) ∧ Hid (ints w.heap.size wr v l) ∧ Hid (ints w.heap.size wr u nm)) (fun _ iv _ => l.length - (intOf iv).toNat)
  case atStart => exact ⟨0, Nat.zero_le _, rfl, hide (by rw [show lmTo l (fun _ => true) (rnm nm m) 0 = noSet from rfl, ← sets_none]; exact own_nil _ _ _), H0, HL0, HM0⟩
  case round =>
    obtain ⟨k, hk, rfl, HO, HBB, HLL, HMM⟩ := hrel
    clear HL0 HM0 H0
    have hsz := HBB.out.size
    by_cases hlt : k < l.length
    · have hlt' : (k : Int) < (l.length : Int) := by omega
      have HX := hide (nth_cast HSP.out k hlt)
      have hy := okSp_lt128 HSP.out _ ((okSp_has HSP.out (nth l k)).2 ⟨k, hlt, rfl⟩)
      have HST := hide (show lmTo l (fun _ => true) (rnm nm m) (k + 1) = upd (lmTo l (fun _ => true) (rnm nm m) k) (rnm nm m (nth l k)) true by rw [lmTo, if_pos rfl])
      generalize nth l k = y at HX hy HST
      generalize lmTo l (fun _ => true) (rnm nm m) k = G at HO HST
      have HO0 := hide (show orTo (rnmG nm y) 0 = 0 from rfl)
      go_wp2_with (first
        | (refine wpList_at sliceT intS rfl (.tmp _) (.tmp _) rfl v rfl k rfl w.heap.size l HLL.out hlt ?_; intro ad hcell hblk; rw [HX.out] at hcell)
        | (refine wpList_len sliceT rfl (.tmp _) rfl u rfl w.heap.size nm HMM.out ?_))
      go_loop [8, 20] (fun o i => ∃ j : Nat, j ≤ nm.length ∧ i = .int .i64 j ∧ o = .int .i64 (orTo (rnmG nm y) j : Int)) (fun _ i => nm.length - (intOf i).toNat)
      case atStart => exact ⟨0, Nat.zero_le _, rfl, by rw [HO0.out]; rfl⟩
      case round =>
        obtain ⟨j, hj, rfl, rfl⟩ := hrel
        clear hcell
        have hO := rnm_lt hm7 HLM.out HW.out y j (by have := HLM.out; omega)
        have HG1 := hide (show orTo (rnmG nm y) (j + 1) = orTo (rnmG nm y) j ||| rnmG nm y j from rfl)
        by_cases hjl : j < nm.length
        · have hin := rnm_in HW.out j hjl
          have hj7 : j < 7 := by have := HLM.out; omega
          have hgd := (show rnmG nm y j = if y.testBit j = true then p2 (nm[j]?.getD 0).toNat else 0 from rfl)
          generalize orTo (rnmG nm y) j = oj at hO HG1
          generalize hx : nm[j]?.getD 0 = x at hin hgd
          have HX2 := hide hx
          clear hx
          obtain ⟨b, rfl⟩ := Int.eq_ofNat_of_zero_le hin.1
          rw [Int.toNat_natCast] at hgd
          cases hb : y.testBit j
          · have HBT := hide hb
            have HG2 := hide (show orTo (rnmG nm y) (j + 1) = oj by rw [HG1.out, hgd, hb]; simp)
            clear hgd hb
            go_wp2_with (first
              | (refine wpList_at sliceT intS rfl (.tmp _) (.tmp _) rfl u rfl j rfl w.heap.size nm HMM.out hjl ?_; intro ad2 hcell2 hblk2; rw [HX2.out] at hcell2)
              | (go_at_call 45; refine (spIn_c (y : Int) (j : Int) _ (by omega) (by omega) (by omega) (by omega)).mono ?_; rw [Int.toNat_natCast, Int.toNat_natCast, HBT.out]; rintro e w' ⟨rfl, rfl⟩))
            go_round
            case rel => exact ⟨j + 1, by omega, by go_num, by rw [HG2.out]⟩
            case measure => simp [intOf]; omega
          · have HBT := hide hb
            have HG2 := hide (show orTo (rnmG nm y) (j + 1) = oj ||| p2 b by rw [HG1.out, hgd, hb]; rfl)
            have hp := wrap_p2 b (by omega)
            have hp2 : IntKind.i64.wrap (2 ^ b) = (p2 b : Int) := by rw [IntWalk.i64_left]; exact hp
            have hpl := p2_lt128 b (by omega)
            have hor := i64_or oj (p2 b) (by omega) (by omega)
            clear hgd hb
            go_wp2_with (first
              | (refine wpList_at sliceT intS rfl (.tmp _) (.tmp _) rfl u rfl j rfl w.heap.size nm HMM.out hjl ?_; intro ad2 hcell2 hblk2; rw [HX2.out] at hcell2)
              | (go_at_call 45; refine (spIn_c (y : Int) (j : Int) _ (by omega) (by omega) (by omega) (by omega)).mono ?_; rw [Int.toNat_natCast, Int.toNat_natCast, HBT.out]; rintro e w' ⟨rfl, rfl⟩))
            go_round
            case rel => exact ⟨j + 1, by omega, by go_num, by rw [HG2.out]⟩
            case measure => simp [intOf]; omega
        · have hje : j = nm.length := by omega
          have HRN := hide (show orTo (rnmG nm y) j = rnm nm m y by rw [hje, HLM.out]; rfl)
          rw [HRN.out] at hO ⊢
          generalize rnm nm m y = r at hO HST HRN
          clear hj HG1 hje
          go_wp2_with (go_at_call 57; refine (spPut_c _ G r _ w.heap.size hO HO.out hsz).mono ?_; rw [← HST.out]; rintro e w2 ⟨v1, rfl, ho1, hb1⟩; have HO1 := hide ho1; have HB1 := hide (HBB.out.trans (hb1.mono hsz)); have HL1 := hide (HLL.out.below hb1 hsz); have HM1 := hide (HMM.out.below hb1 hsz); clear ho1 hb1)
          go_roundw
          case rel => exact ⟨k + 1, by omega, by go_num, HO1, HB1, HL1, HM1⟩
          case measure => (simp [intOf] <;> omega)
    · have hlt' : ¬ ((k : Int) < (l.length : Int)) := by omega
      have HE := hide (show lmTo l (fun _ => true) (rnm nm m) k = RF by rw [HF.out, show l.length = k by omega])
      rw [HE.out] at HO
      go_wp2
      go_ret
      exact ⟨_, rfl, HO.out, HBB.out⟩
set_option maxHeartbeats 4000000 in
theorem specNamesKept_c (n : Int) (v : Value) (l : List Int) (w : World) (hl : ints w.heap.size w v l) (hlen : l.length < 1000000000) (_ : tab w) :
    Calls Tryd.prog 19 #[.agg #[.int .i64 n, v]] w fun e w' => e = .returned (.tuple #[.int .i64 (nkN n l : Int), .bool (nkB n l)]) ∧ Below w.heap.size w w' := by
  have HL := hide ((hl.alloc (.cells #[.int .i64 n, v] 29)).mono (show w.heap.size ≤ (w.alloc (.cells #[.int .i64 n, v] 29)).heap.size by simp))
  have H0 := hide ((Below.refl w.heap.size w).alloc (Nat.le_refl _) (.cells #[.int .i64 n, v] 29))
  have HS0 := hide (hp_last w (.cells #[.int .i64 n, v] 29))
  have HZ := hide (show (w.alloc (.cells #[.int .i64 n, v] 29)).heap.size = w.heap.size + 1 by simp)
  clear hl
  cases hB : nkB n l
  · have HFW := hide (alFew_c n v l _ HL.out hlen)
    rw [hB] at HFW
    rw [nkN_no hB]
    clear hB
    go_enter Tryd.func19, Tryd.ntmps19
    go_wp2_with (go_at_call 35; refine HFW.out.mono ?_; rintro e w1 ⟨rfl, hb⟩; have HB := hide (H0.out.trans (hb.mono (by rw [HZ.out]; omega))); clear hb)
    go_ret2
    exact ⟨rfl, HB.out⟩
  · have HFW := hide (alFew_c n v l _ HL.out hlen)
    rw [hB] at HFW
    rw [nkN_yes hB]
    unfold nkB at hB
    rw [Bool.and_eq_true, decide_eq_true_eq] at hB
    have hn := okSp_n hB.1
    obtain ⟨N, rfl⟩ := Int.eq_ofNat_of_zero_le (show 0 ≤ n by omega)
    have hN1 : 1 ≤ N := by omega
    have hN5 : N ≤ 5 := by omega
    have HOK := hide hB.1
    have hal := nk_len N hN1 hN5
    have HROW := hide (nk_row N)
    have HAL := hide (fun w1 => alOrders_c N hN1 (by omega) N (.slice none 0 0) [] 0 w1 ((own_nil 3 w1 w1.heap.size).ints) (by simp) (fun x _ => memB_nilA x) (Nat.two_pow_pos N) (by rw [pc_zeroA]; omega))
    rw [show awL (FA N) N N 0 = nkA N from rfl, nk_mapA] at HAL
    have HLE := hide (nkT_le (N : Int) l (nkA N))
    have HNE := hide (nkT_next (N : Int) l (nkA N))
    rw [Int.toNat_natCast]
    generalize nkA N = A at hal HROW HAL HLE HNE ⊢
    clear hB hn
    go_enter Tryd.func19, Tryd.ntmps19
    go_wp2_with (first
      | (go_at_call 35; refine HFW.out.mono ?_; rintro e w1 ⟨rfl, hb⟩; have hz1 := hb.size; rw [HZ.out] at hz1; have hs1 := (hb.block w.heap.size (by rw [HZ.out]; omega)).trans HS0.out; have c0 := cells_at0 hs1; have HS1 := hide hs1; have HL1 := hide ((HL.out.below hb (Nat.le_refl _)).mono hb.size); have HB1 := hide (H0.out.trans (hb.mono (by rw [HZ.out]; omega))); clear hb hs1)
      | (go_at_call 39; refine (HAL.out w1).mono ?_; rintro e w2 ⟨v2, rfl, ho2, hb2⟩; obtain ⟨a2, c2, hv2⟩ := ho2.rows.shape; subst hv2; have hz2 := hb2.size; have HS2 := hide ((hb2.block w.heap.size (by omega)).trans HS1.out); have HR2 := hide ho2.rows; have HL2 := hide ((HL1.out.below hb2 (Nat.le_refl _)).mono hb2.size); have HB2 := hide (HB1.out.trans (hb2.mono (by omega))); clear ho2 hb2)
      | (refine wpList_len2 sliceT2 rfl (.tmp _) rfl _ rfl w2.heap.size A HR2.out ?_))
    go_loopw [4, 14] (fun cv iv wr => ∃ k : Nat, k ≤ A.length ∧ iv = .int .i64 (k : Int) ∧ cv = .int .i64 (nkT (N : Int) l A k : Int) ∧ Hid (w2.heap.size ≤ wr.heap.size ∧ Below w2.heap.size w2 wr)) (fun _ iv _ => A.length - (intOf iv).toNat)
    case atStart => exact ⟨0, Nat.zero_le _, rfl, rfl, hide ⟨Nat.le_refl _, Below.refl _ _⟩⟩
    case round =>
      obtain ⟨k, hk, rfl, rfl, HW⟩ := hrel
      have hsz := HW.out.1
      have hle := HLE.out k
      by_cases hlt : k < A.length
      · have hlt' : (k : Int) < (A.length : Int) := by omega
        have HRW := hide (HR2.out.below HW.out.2 (Nat.le_refl _))
        have HLW := hide ((HL2.out.below HW.out.2 (Nat.le_refl _)).mono hsz)
        have hsr := (HW.out.2.block w.heap.size (by omega)).trans HS2.out
        have c0 := cells_at0 hsr
        have c1 := cells_at1 hsr
        have HNX := hide (HNE.out k)
        have HRR := hide (HROW.out k hlt)
        generalize hr : A[k]?.getD [] = r at HNX HRR
        have HR := hide hr
        clear hr hsr
        generalize nkT (N : Int) l A k = c at hle HNX ⊢
        unfold nkG at HNX
        go_wp2_with (refine wpList_at2 sliceT2 rowS2 rfl (.tmp _) (.tmp _) rfl _ rfl _ rfl k rfl w2.heap.size A HRW.out hlt ?_; intro ad uu hcell hblk hu; rw [HR.out] at hu; have HU := hide (hu.mono hsz); clear hu)
        refine wp_region_held (S := Below wr.heap.size wr) (by kernel_rfl) ?_
        have hS : Below wr.heap.size wr { wr with drawn := wr.drawn + 1 } := (Below.refl _ _).drew
        refine wpAnyH_take (i := 0) rfl (by kernel_rfl) (by kernel_rfl) (by kernel_rfl) (fun _ _ _ h => h) (yields_load_two rowSp sizeSp rfl (.tmp _) rfl w.heap.size rfl (.int .i64 (N : Int)) v (fun w' h => (h.cell (p := ⟨w.heap.size, 0, none⟩) (by show w.heap.size < _; omega)).trans c0) (fun w' h => (h.cell (p := ⟨w.heap.size, 1, none⟩) (by show w.heap.size < _; omega)).trans c1)) hS ?_
        simp only [Act.put, List.getElem_toArray, List.getElem_cons_zero, List.getElem_cons_succ, List.setIfInBounds_toArray, List.set_cons_zero, List.set_cons_succ]
        refine wpAnyH_take (i := 1) (v := uu) rfl (by kernel_rfl) (by kernel_rfl) (by kernel_rfl) (fun _ _ _ h => h) (.inl ⟨rfl, fun w' _ => by go_simp⟩) hS ?_
        simp only [Act.put, List.getElem_toArray, List.getElem_cons_zero, List.getElem_cons_succ, List.setIfInBounds_toArray, List.set_cons_zero, List.set_cons_succ]
        refine wpAnyH_take (i := 3) (v := .pointer (some ⟨w.heap.size, 1, none⟩)) rfl (by kernel_rfl) (by kernel_rfl) (by kernel_rfl) (fun _ _ _ h => h) (.inl ⟨rfl, fun w' _ => by go_simp⟩) hS ?_
        simp only [Act.put, List.getElem_toArray, List.getElem_cons_zero, List.getElem_cons_succ, List.setIfInBounds_toArray, List.set_cons_zero, List.set_cons_succ]
        refine wpAnyH_take (i := 4) rfl (by kernel_rfl) (by kernel_rfl) (by kernel_rfl) (fun _ _ _ h => h) (yields_load_cell (by kernel_rfl) rfl (.tmp _) rfl ⟨w.heap.size, 1, none⟩ rfl v (fun w' h => (h.cell (p := ⟨w.heap.size, 1, none⟩) (by show w.heap.size < _; omega)).trans c1)) hS ?_
        simp only [Act.put, List.getElem_toArray, List.getElem_cons_zero, List.getElem_cons_succ, List.setIfInBounds_toArray, List.set_cons_zero, List.set_cons_succ]
        refine anyH_call (i := 2) (by kernel_rfl) rfl rfl 40 ent_alNamedN _ _ rfl #[.agg #[.int .i64 (N : Int), v], uu] rfl (alNamed_c N v l uu r _ ((HLW.out.below hS (Nat.le_refl _)).mono hS.size) hlen ((HU.out.below hS (Nat.le_refl _)).mono hS.size) HOK.out HRR.out.1 HRR.out.2) ?_
        have hrl := setsTo_len (rmF (N : Int) l r) 128
        generalize setsTo (rmF (N : Int) l r) 128 = R at hrl HNX ⊢
        rintro e w5 ⟨v5, rfl, ho5, hb5⟩
        have hS5 : Below wr.heap.size wr w5 := hS.trans (hb5.mono (Nat.le_refl _))
        refine ⟨_, rfl, hS5, ?_⟩
        simp only [Act.put, List.getElem_toArray, List.getElem_cons_zero, List.getElem_cons_succ, List.setIfInBounds_toArray, List.set_cons_zero, List.set_cons_succ]
        refine anyH_call (i := 5) (by kernel_rfl) rfl rfl 29 ent_l1SameN _ _ rfl #[v5, v] rfl (l1Same_c v5 v R l w5 ho5.ints ((HLW.out.below hS5 (Nat.le_refl _)).mono hS5.size) (by omega)) ?_
        rintro e w6 ⟨rfl, hb6⟩
        have hS6 : Below wr.heap.size wr w6 := hS5.trans (hb6.mono hS5.size)
        refine ⟨_, rfl, hS6, ?_⟩
        simp only [Act.put, List.getElem_toArray, List.getElem_cons_zero, List.getElem_cons_succ, List.setIfInBounds_toArray, List.set_cons_zero, List.set_cons_succ]
        refine wpAnyH_done (by kernel_rfl) ?_ _
        have HW6 := hide (show w2.heap.size ≤ w6.heap.size ∧ Below w2.heap.size w2 w6 from ⟨Nat.le_trans hsz hS6.size, HW.out.2.trans (hS6.mono hsz)⟩)
        clear hS hS5 hS6 hb5 hb6 ho5 hcell
        by_cases hd : R = l
        · have HD := hide (decide_eq_true hd)
          have HN2 := hide (show nkT (N : Int) l A (k + 1) = c + 1 by rw [HNX.out, HD.out]; rfl)
          rw [HD.out]
          clear hd
          go_wp2
          go_roundw
          case rel => exact ⟨k + 1, by omega, by go_num, by rw [HN2.out]; go_num, HW6⟩
          case measure => (simp [intOf] <;> omega)
        · have HD := hide (decide_eq_false hd)
          have HN2 := hide (show nkT (N : Int) l A (k + 1) = c by rw [HNX.out, HD.out]; rfl)
          rw [HD.out]
          clear hd
          go_wp2
          go_roundw
          case rel => exact ⟨k + 1, by omega, by go_num, by rw [HN2.out], HW6⟩
          case measure => (simp [intOf] <;> omega)
      · have hlt' : ¬ ((k : Int) < (A.length : Int)) := by omega
        have HE := hide (show k = A.length by omega)
        go_wp2
        go_ret2
        exact ⟨by rw [HE.out]; rfl, HB2.out.trans (HW.out.2.mono (by omega))⟩
end Go.Proofs.YtcokdhmccokkiaaDoor
/- A slice of one family is made. -/
namespace Go.Proofs.YtcokdhmccokkiaaDoor
open Go.RowKit
set_option maxRecDepth 100000
set_option linter.unusedSimpArgs false
theorem fill_zip : ∀ (l : List Value) (k : Nat) (cs : Array Value) (i : Nat), k + l.length ≤ cs.size →
    ((l.zipIdx k).foldl (fun cs (p : Value × Nat) => cs.setIfInBounds (0 + p.2) p.1) cs)[i]? = if k ≤ i ∧ i < k + l.length then l[i - k]? else cs[i]?
  | [], k, cs, i, _ => by
    rw [if_neg (by rw [List.length_nil]; omega)]
    rfl
  | c :: l, k, cs, i, h => by
    rw [List.length_cons] at h
    rw [List.zipIdx_cons, List.foldl_cons, fill_zip l (k + 1) _ i (by rw [Array.size_setIfInBounds]; omega)]
    show (if k + 1 ≤ i ∧ i < k + 1 + l.length then l[i - (k + 1)]? else (cs.setIfInBounds (0 + k) c)[i]?) = _
    rw [List.length_cons, Nat.zero_add]
    by_cases h1 : k + 1 ≤ i ∧ i < k + 1 + l.length
    · rw [if_pos h1, if_pos (by omega), show i - k = (i - (k + 1)) + 1 by omega, List.getElem?_cons_succ]
    · rw [if_neg h1]
      by_cases h2 : i = k
      · subst h2
        rw [if_pos (by omega), Nat.sub_self, Array.getElem?_setIfInBounds_self_of_lt (by omega)]
        rfl
      · rw [if_neg (by omega), Array.getElem?_setIfInBounds_ne (by omega)]
theorem fill_one (v cs : Array Value) (m : Nat) (hv : v.size = m) (hc : cs.size = m) : Instr.fill (fun i => some (i * m, m)) cs [(0, .agg v)] = some v := by
  unfold Instr.fill
  have e : (Value.agg v).cells = v := rfl
  simp only [e, Nat.zero_mul]
  rw [if_neg (by simp [hv, hc])]
  unfold Instr.fill
  congr 1
  apply Array.ext_getElem?
  intro i
  have h := fill_zip v.toList 0 cs i (by simp [hv, hc])
  rw [show (v.zipIdx.foldl (fun cs (x : Value × Nat) => match x with | (c, j) => cs.setIfInBounds (0 + j) c) cs) = (v.toList.zipIdx 0).foldl (fun cs (p : Value × Nat) => cs.setIfInBounds (0 + p.2) p.1) cs by
    rw [← Array.foldl_toList, Array.toList_zipIdx]]
  rw [h]
  split
  · rw [Nat.sub_zero, Array.getElem?_toList]
  · rename_i h2
    rw [Array.getElem?_eq_none (by simp at h2; omega), Array.getElem?_eq_none (by simp at h2; omega)]
theorem run_bsF (n : Int) (F : Nat → Bool) (w : World) :
    (Instr.buildSlice 54 1 #[(0, .agg (fam n F))]).run Tryd.prog w = .ok (.slice (some ⟨w.heap.size, 0, none⟩) 1 1) (w.alloc (.cells (fam n F) 53)) := by
  have hs : (sizeOf 53).run Tryd.prog w = .ok 129 w := run_sizeOf' sizeT w
  obtain ⟨z, hz, hzc⟩ : ∃ z : Value, (zeroValue 53).run Tryd.prog w = .ok z w ∧ z.cells = fam 0 noSet := by
    have hz := zeroT
    cases hq : Tryd.prog.info? 53 with
    | none => simp [hq] at hz
    | some i =>
      cases hv : i.zero with
      | none => simp [hq, hv] at hz
      | some v => exact ⟨v, by simp [zeroValue, typeInfo, hq, hv], by simpa [hq, hv] using hz⟩
  have hu : (underlying 54).run Tryd.prog w = .ok (.slice 53) w := by
    simp [underlying, fSl]
  have hf := fill_one (fam n F) ((Array.range (1 * 129)).map (z.cells[· % z.cells.size]!)) 129 (fam_size _ _) (by simp)
  unfold Instr.buildSlice
  simp only [Sem.run_bind, hu, Result.andThen_ok, hs]
  simp [hz, hf, newRow]
theorem wpList_bsF {ops : Array Oper} {rest : List Oper} {o : Oper} {a : Act} {w : World} {Q : Exit → Act → World → Prop} (hw : Region.wanted o (yielded ops a.tmps) = true)
    (x : Operand) (ho : o.op = .buildSlice 54 1 #[(0, x)]) (n : Int) (F : Nat → Bool) (hx : a.eval x = .agg (fam n F))
    (h : wpList Tryd.prog ops Q rest (a.put o.dst (.slice (some ⟨w.heap.size, 0, none⟩) 1 1)) (w.alloc (.cells (fam n F) 53))) : wpList Tryd.prog ops Q (o :: rest) a w := by
  refine wpList_of_wp hw fun K hK => ?_
  have hr := run_bsF n F w
  unfold Oper.wp execOp
  simp only [ho, List.map_toArray, List.map_cons, List.map_nil, hx, Sem.run_bind, hr, Sem.run_pure, Result.andThen_ok]
  exact hK _ _ h
end Go.Proofs.YtcokdhmccokkiaaDoor
/- Contracts: NamesKept, the program's. -/
namespace Go.Proofs.YtcokdhmccokkiaaDoor
open Go.RowKit
set_option maxRecDepth 100000
set_option linter.unusedSimpArgs false
def nkV (n : Int) (l : List Int) : Value := .tuple #[.agg (fam (if nkB n l then n else 0) (if nkB n l then marksTo l l.length else noSet)), .bool (nkB n l)]
theorem nkV_no {n : Int} {l : List Int} (h : nkB n l = false) : nkV n l = .tuple #[.agg (fam 0 noSet), .bool false] := by unfold nkV; rw [h]; rfl
theorem nkV_yes {n : Int} {l : List Int} (h : nkB n l = true) : nkV n l = .tuple #[.agg (fam n (marksTo l l.length)), .bool true] := by unfold nkV; rw [h]; rfl
theorem nk_cnF {n : Int} {l : List Int} (h : okSp n l = true) (A : List (List Int)) : ∀ k, k ≤ A.length →
    cnF (fun G => allEq G (marksTo l l.length)) (A.map fun nm => imgTo (marksTo l l.length) (rnm nm n.toNat) 128) k = nkT n l A k
  | 0, _ => rfl
  | k + 1, hk => by
    have e : (A.map fun nm => imgTo (marksTo l l.length) (rnm nm n.toNat) 128)[k]?.getD noSet = imgTo (marksTo l l.length) (rnm (A[k]?.getD []) n.toNat) 128 := by
      rw [List.getElem?_map, List.getElem?_eq_getElem (show k < A.length by omega)]
      rfl
    rw [cnF_next, nkT_next, nk_cnF h A k (by omega), e, nk_eq h]
theorem wpList_eqF {ops : Array Oper} {rest : List Oper} {o : Oper} {a : Act} {w : World} {Q : Exit → Act → World → Prop} (hw : Region.wanted o (yielded ops a.tmps) = true)
    (x y : Operand) (ho : o.op = .binOp .eql 53 x y 53) (m : Int) (G F : Nat → Bool) (hx : a.eval x = .agg (fam m G)) (hy : a.eval y = .agg (fam m F))
    (h : wpList Tryd.prog ops Q rest (a.put o.dst (.bool (allEq G F))) w) : wpList Tryd.prog ops Q (o :: rest) a w := by
  have e : (binOp .eql 53 (.agg (fam m G)) (.agg (fam m F))).run Tryd.prog w = .ok (.bool (allEq G F)) w := by
    rw [eqlT w m m G F]
    simp
  have hr := run_op_eql guardT x y ho hx hy e
  refine wpList_of_wp hw fun K hK => ?_
  unfold Oper.wp
  rw [hr]
  exact hK _ _ h
attribute [local irreducible] p2 low memB risB
theorem ent_nk1 : enters Tryd.prog 42 := enters_of Tryd.func42 (by kernel_rfl) (by kernel_rfl)
theorem nk1_c (m : Int) (G F : Nat → Bool) (g : Nat) (w : World) (hg : famAt 53 w g m F) :
    Calls Tryd.prog 42 #[.agg (fam m G), .pointer (some ⟨g, 0, none⟩)] w fun e w' => e = .returned (.bool (allEq G F)) ∧ Below w.heap.size w w' := by
  have HB0 := hide ((Below.refl w.heap.size w).alloc (Nat.le_refl _) (.cells (fam m G) 53))
  have HF0 := hide (hg.alloc (.cells (fam m G) 53))
  have HN := hide (famAt.new 53 w m G)
  clear hg
  go_enter Tryd.func42, Tryd.ntmps42
  go_wp2_with (first
    | (refine wpList_load_fam rowT sizeT rfl (.tmp 2) rfl w.heap.size rfl m G HN.out ?_)
    | (refine wpList_load_fam rowT sizeT rfl (.tmp 1) rfl g rfl m F HF0.out ?_)
    | (refine wpList_eqF rfl (.tmp _) (.tmp _) rfl m G F rfl rfl ?_))
  go_ret
  exact ⟨rfl, HB0.out⟩
set_option maxHeartbeats 1000000 in
theorem smallFamily_c (n : Int) (v : Value) (l : List Int) (w : World) (hl : ints w.heap.size w v l) (hlen : l.length < 1000000000) :
    Calls Tryd.prog 36 #[.agg #[.int .i64 n, v], .int .i64 5] w fun e w' => e = .returned (nkV n l) ∧ Below w.heap.size w w' := by
  have HL := hide (((hl.alloc (.cells #[.int .i64 n, v] 29)).alloc (.cells (fam 0 noSet) 53)).mono (show w.heap.size ≤ ((w.alloc (.cells #[.int .i64 n, v] 29)).alloc (.cells (fam 0 noSet) 53)).heap.size by simp; omega))
  have H0 := hide (((Below.refl w.heap.size w).alloc (Nat.le_refl _) (.cells #[.int .i64 n, v] 29)).alloc (by simp) (.cells (fam 0 noSet) 53))
  have HR := hide (show famAt 53 ((w.alloc (.cells #[.int .i64 n, v] 29)).alloc (.cells (fam 0 noSet) 53)) (w.heap.size + 1) 0 noSet by have h := famAt.new 53 (w.alloc (.cells #[.int .i64 n, v] 29)) 0 noSet; simpa using h)
  have HZ := hide (show ((w.alloc (.cells #[.int .i64 n, v] 29)).alloc (.cells (fam 0 noSet) 53)).heap.size = w.heap.size + 2 by simp)
  clear hl
  cases hok : okSp n l
  · have HK := hide hok
    rw [nkV_no (nkB_no1 hok)]
    clear hok
    go_enter Tryd.func36, Tryd.ntmps36
    go_wp2_with (first
      | (go_at_call 46; refine (familyOf_c n v l _ HL.out hlen).mono ?_; rw [famVal_no n l HK.out]; rintro e w1 ⟨rfl, hb⟩; have hz1 := hb.size; rw [HZ.out] at hz1; have HR2 := hide (((HR.out.below hb (by rw [HZ.out]; omega)).alloc (.cells (fam 0 noSet) 53)).rowO w1.heap.size (by omega) (fam 0 noSet)); have HB := hide (bl_row ((H0.out.trans (hb.mono (by rw [HZ.out]; omega))).alloc (by omega) (.cells (fam 0 noSet) 53)) (show w.heap.size ≤ w1.heap.size by omega) (fam 0 noSet)); clear hb)
      | (refine wpList_alloc_fam zeroT rfl rfl _ (by first | (simp only [World.size_alloc]; rfl) | rfl) ?_)
      | (refine wpList_store_fam sizeT rfl (.tmp _) (.tmp _) rfl w1.heap.size _ _ rfl rfl _ _ (famAt.new _ _ _ _) ?_)
      | (refine wpList_load_fam rowT sizeT rfl (.tmp _) rfl w1.heap.size rfl n _ HH.out ?_)
      | (refine wpList_build_fam0 built0 rfl rfl ?_)
      | (refine wpList_store_fam sizeT rfl (.tmp _) (.tmp _) rfl (w.heap.size + 1) _ _ rfl rfl 0 noSet HR2.out ?_)
      )
    refine bodyPost_ret (v := .tuple #[.agg (fam 0 noSet), .bool false]) (results_fam2 (p := 4) (q := 5) rowT sizeT rfl _ _ (w.heap.size + 1) rfl _ _ (HR2.out.row _ _)) rfl ⟨rfl, bl_row HB.out (by omega) _⟩
  · have HK := hide hok
    by_cases h5 : n ≤ 5
    · have hgt : decide ((5 : Int) < n) = false := by rw [decide_eq_false_iff_not]; omega
      rw [nkV_yes (nkB_yes hok h5)]
      clear hok
      generalize hM : marksTo l l.length = M at *
      have HM := hide hM
      clear hM
      go_enter Tryd.func36, Tryd.ntmps36
      go_wp2_with (first
        | (go_at_call 46; refine (familyOf_c n v l _ HL.out hlen).mono ?_; rw [famVal_yes n l HK.out, HM.out]; rintro e w1 ⟨rfl, hb⟩; have hz1 := hb.size; rw [HZ.out] at hz1; have HR2 := hide (((HR.out.below hb (by rw [HZ.out]; omega)).alloc (.cells (fam 0 noSet) 53)).rowO w1.heap.size (by omega) (fam n M)); have HH := hide ((famAt.new 53 w1 0 noSet).row n M); have d0 := HH.out.get0; have HB := hide (bl_row ((H0.out.trans (hb.mono (by rw [HZ.out]; omega))).alloc (by omega) (.cells (fam 0 noSet) 53)) (show w.heap.size ≤ w1.heap.size by omega) (fam n M)); clear hb)
        | (refine wpList_alloc_fam zeroT rfl rfl _ (by first | (simp only [World.size_alloc]; rfl) | rfl) ?_)
        | (refine wpList_store_fam sizeT rfl (.tmp _) (.tmp _) rfl w1.heap.size _ _ rfl rfl _ _ (famAt.new _ _ _ _) ?_)
        | (refine wpList_load_fam rowT sizeT rfl (.tmp _) rfl w1.heap.size rfl n _ HH.out ?_)
        | (refine wpList_build_fam0 built0 rfl rfl ?_)
        | (refine wpList_store_fam sizeT rfl (.tmp _) (.tmp _) rfl (w.heap.size + 1) _ _ rfl rfl 0 noSet HR2.out ?_)
        )
      refine bodyPost_ret (v := .tuple #[.agg (fam n M), .bool true]) (results_fam2 (p := 4) (q := 5) rowT sizeT rfl _ _ (w.heap.size + 1) rfl _ _ (HR2.out.row _ _)) rfl ⟨rfl, bl_row HB.out (by omega) _⟩
    · have hgt : decide ((5 : Int) < n) = true := decide_eq_true (by omega)
      rw [nkV_no (nkB_no2 h5)]
      clear hok
      generalize hM : marksTo l l.length = M at *
      have HM := hide hM
      clear hM
      go_enter Tryd.func36, Tryd.ntmps36
      go_wp2_with (first
        | (go_at_call 46; refine (familyOf_c n v l _ HL.out hlen).mono ?_; rw [famVal_yes n l HK.out, HM.out]; rintro e w1 ⟨rfl, hb⟩; have hz1 := hb.size; rw [HZ.out] at hz1; have HR2 := hide (((HR.out.below hb (by rw [HZ.out]; omega)).alloc (.cells (fam 0 noSet) 53)).rowO w1.heap.size (by omega) (fam n M)); have HH := hide ((famAt.new 53 w1 0 noSet).row n M); have d0 := HH.out.get0; have HB := hide (bl_row ((H0.out.trans (hb.mono (by rw [HZ.out]; omega))).alloc (by omega) (.cells (fam 0 noSet) 53)) (show w.heap.size ≤ w1.heap.size by omega) (fam n M)); clear hb)
        | (refine wpList_alloc_fam zeroT rfl rfl _ (by first | (simp only [World.size_alloc]; rfl) | rfl) ?_)
        | (refine wpList_store_fam sizeT rfl (.tmp _) (.tmp _) rfl w1.heap.size _ _ rfl rfl _ _ (famAt.new _ _ _ _) ?_)
        | (refine wpList_load_fam rowT sizeT rfl (.tmp _) rfl w1.heap.size rfl n _ HH.out ?_)
        | (refine wpList_build_fam0 built0 rfl rfl ?_)
        | (refine wpList_store_fam sizeT rfl (.tmp _) (.tmp _) rfl (w.heap.size + 1) _ _ rfl rfl 0 noSet HR2.out ?_)
        )
      refine bodyPost_ret (v := .tuple #[.agg (fam 0 noSet), .bool false]) (results_fam2 (p := 4) (q := 5) rowT sizeT rfl _ _ (w.heap.size + 1) rfl _ _ (HR2.out.row _ _)) rfl ⟨rfl, bl_row HB.out (by omega) _⟩
set_option maxHeartbeats 4000000 in
theorem allRenamed_c (m : Nat) (F : Nat → Bool) (w : World) (h1 : 1 ≤ m) (h5 : m ≤ 5) (hT : tab w) :
    Calls Tryd.prog 41 #[.agg (fam (m : Int) F)] w fun e w' => ∃ v', e = .returned v' ∧ ownF w' w.heap.size v' (m : Int) ((nkA m).map fun nm => imgTo F (rnm nm m) 128) ∧ Below w.heap.size w w' := by
  have HF0 := hide (famAt.new 53 w (m : Int) F)
  have c0 := HF0.out.get0
  have H0 := hide ((Below.refl w.heap.size w).alloc (Nat.le_refl _) (.cells (fam (m : Int) F) 53))
  have HZ0 := hide (show (w.alloc (.cells (fam (m : Int) F) 53)).heap.size = w.heap.size + 1 by simp)
  have HT0 := hide (hT.below H0.out)
  have HFS := hide (fun w1 => implFreeSpace_c (m : Int) w1)
  rw [show frN (m : Int) = (m : Int) by unfold frN; rw [if_pos (by omega)]] at HFS
  have HAW := hide (fun v1 w1 (h : ints w1.heap.size w1 v1 (frL (m : Int))) (ht : tab w1) => implAllWords_c (m : Int) v1 (frL (m : Int)) w1 h (frL_len (m : Int)) ht)
  rw [fr_aw m h1 h5] at HAW
  have hal := nk_len m h1 h5
  have HROW := hide (nk_row m)
  generalize frB (m : Int) = fb at HFS
  generalize okAw (m : Int) (frL (m : Int)) = ob at HAW
  generalize frL (m : Int) = FL at HFS HAW
  generalize nkA m = A at HROW HAW hal ⊢
  clear hT
  go_enter Tryd.func41, Tryd.ntmps41
  go_wp2_with (first
    | (go_at_call 58; refine (HFS.out _).mono ?_; rintro e w1 ⟨v1, rfl, ho1, hb1⟩; obtain ⟨a1, c1, hv1⟩ := ho1.shape; subst hv1; have hz1 := hb1.size; rw [HZ0.out] at hz1; have HF2 := hide ((HF0.out.below hb1 (by rw [HZ0.out]; omega)).alloc (.cells #[.int .i64 (m : Int), .slice a1 FL.length c1] 29)); have HI2 := hide ((ho1.ints.alloc (.cells #[.int .i64 (m : Int), .slice a1 FL.length c1] 29)).mono (show w1.heap.size ≤ (w1.alloc (.cells #[.int .i64 (m : Int), .slice a1 FL.length c1] 29)).heap.size by simp)); have HT2 := hide ((HT0.out.below hb1).below ((Below.refl w1.heap.size w1).alloc (Nat.le_refl _) (.cells #[.int .i64 (m : Int), .slice a1 FL.length c1] 29))); have HB2 := hide ((H0.out.trans (hb1.mono (by rw [HZ0.out]; omega))).alloc (by omega) (.cells #[.int .i64 (m : Int), .slice a1 FL.length c1] 29)); have HZ2 := hide (show (w1.alloc (.cells #[.int .i64 (m : Int), .slice a1 FL.length c1] 29)).heap.size = w1.heap.size + 1 by simp); clear ho1 hb1)
    | (go_at_call 59; refine (HAW.out _ _ HI2.out HT2.out).mono ?_; rintro e w2 ⟨v2, rfl, ho2, hb2⟩; obtain ⟨a2, c2, hv2⟩ := ho2.rows.shape; subst hv2; have hz2 := hb2.size; rw [HZ2.out] at hz2; have HF3 := hide (HF2.out.below hb2 (by rw [HZ2.out]; omega)); have HR3 := hide ho2.rows; have HB3 := hide (HB2.out.trans (hb2.mono (by rw [HZ2.out]; omega))); clear ho2 hb2)
    | (refine wpList_len2 sliceT2 rfl (.tmp _) rfl _ rfl w2.heap.size A HR3.out ?_))
  go_loopw [7, 23] (fun s iv wr => ∃ k : Nat, k ≤ A.length ∧ iv = .int .i64 (k : Int) ∧ Hid (ownF wr w2.heap.size s (m : Int) ((A.map fun nm => imgTo F (rnm nm m) 128).take k)) ∧ Hid (w2.heap.size ≤ wr.heap.size ∧ Below w2.heap.size w2 wr)) (fun _ iv _ => A.length - (intOf iv).toNat)
  case atStart => exact ⟨0, Nat.zero_le _, rfl, hide (by rw [List.take_zero]; exact ownF_nil _ _ _), hide ⟨Nat.le_refl _, Below.refl _ _⟩⟩
  case round =>
    obtain ⟨k, hk, rfl, HO, HW⟩ := hrel
    have hsz := HW.out.1
    by_cases hlt : k < A.length
    · have hlt' : (k : Int) < (A.length : Int) := by omega
      have HRW := hide (HR3.out.below HW.out.2 (Nat.le_refl _))
      have HFW := hide (HF3.out.below HW.out.2 (by omega))
      have HRR := hide (HROW.out k hlt)
      have HTK := hide (show (A.map fun nm => imgTo F (rnm nm m) 128).take (k + 1) = (A.map fun nm => imgTo F (rnm nm m) 128).take k ++ [imgTo F (rnm (A[k]?.getD []) m) 128] by rw [List.take_add_one, List.getElem?_map, List.getElem?_eq_getElem hlt]; rfl)
      have hlk : ((A.map fun nm => imgTo F (rnm nm m) 128).take k).length ≤ 200 := by rw [List.length_take, List.length_map]; omega
      generalize hr : A[k]?.getD [] = r at HRR HTK
      have HR := hide hr
      clear hr
      have HRN := hide (fun ua uc (h : ints wr.heap.size wr (.slice ua r.length uc) r) => renamed_c m F ua uc r wr h (by omega) HRR.out.1 HRR.out.2)
      generalize imgTo F (rnm r m) 128 = G at HRN HTK
      generalize (A.map fun nm => imgTo F (rnm nm m) 128).take k = Fs at HO HTK hlk
      obtain ⟨sa, sc, hsv⟩ := HO.out.shape
      subst hsv
      go_wp2_with (first
        | (refine wpList_at2 sliceT2 rowS2 rfl (.tmp _) (.tmp _) rfl _ rfl _ rfl k rfl w2.heap.size A HRW.out hlt ?_; intro ad uu hcell hblk hu; rw [HR.out] at hu; obtain ⟨ua, uc, hus⟩ := hu.shape; subst hus; have HU := hide (hu.mono hsz); clear hu)
        | (refine wpList_load_fam rowT sizeT rfl (.tmp _) rfl w.heap.size rfl (m : Int) F HFW.out ?_)
        | (go_at_call 60; refine (HRN.out ua uc HU.out).mono ?_; rintro e w4 ⟨rfl, hb4⟩; have hz4 := hb4.size; have HO4 := hide ((HO.out.kept hb4).alloc (.cells (fam (m : Int) G) 53)); have HG4 := hide (famAt.new 53 w4 (m : Int) G); have HW4 := hide ((HW.out.2.trans (hb4.mono hsz)).alloc (by omega) (.cells (fam (m : Int) G) 53)); clear hb4)
        | (refine wpList_bsF rfl (.tmp _) rfl (m : Int) G rfl ?_)
        | (at_builtin; refine wpList_appendF rfl (.tmp _) (.tmp _) rfl w2.heap.size _ (m : Int) Fs rfl HO4.out w4.heap.size G rfl HG4.out (by simp; omega) (by omega) ?_; intro v5 w5 ho5 hb5; rw [← HTK.out] at ho5; have HO5 := hide ho5; have hz5 := hb5.size; rw [World.size_alloc] at hz5; have HW5 := hide (show w2.heap.size ≤ w5.heap.size ∧ Below w2.heap.size w2 w5 from ⟨by omega, HW4.out.trans hb5⟩); clear ho5 hb5))
      go_roundw
      case rel => exact ⟨k + 1, by omega, by go_num, HO5, HW5⟩
      case measure => (simp [intOf] <;> omega)
    · have hlt' : ¬ ((k : Int) < (A.length : Int)) := by omega
      have HOE := hide (show (A.map fun nm => imgTo F (rnm nm m) 128).take k = A.map fun nm => imgTo F (rnm nm m) 128 from List.take_of_length_le (by rw [List.length_map]; omega))
      rw [HOE.out] at HO
      go_wp2
      go_ret
      exact ⟨_, rfl, HO.out.mono (by omega), HB3.out.trans (HW.out.2.mono (by omega))⟩
set_option maxHeartbeats 4000000 in
theorem implNamesKept_c (n : Int) (v : Value) (l : List Int) (w : World) (hl : ints w.heap.size w v l) (hlen : l.length < 1000000000) (hT : tab w) :
    Calls Tryd.prog 20 #[.agg #[.int .i64 n, v]] w fun e w' => e = .returned (.tuple #[.int .i64 (nkN n l : Int), .bool (nkB n l)]) ∧ Below w.heap.size w w' := by
  have HL := hide ((hl.alloc (.cells #[.int .i64 n, v] 29)).mono (show w.heap.size ≤ (w.alloc (.cells #[.int .i64 n, v] 29)).heap.size by simp))
  have H0 := hide ((Below.refl w.heap.size w).alloc (Nat.le_refl _) (.cells #[.int .i64 n, v] 29))
  have HZ := hide (show (w.alloc (.cells #[.int .i64 n, v] 29)).heap.size = w.heap.size + 1 by simp)
  have HT := hide hT
  have HSM := hide (smallFamily_c n v l _ HL.out hlen)
  clear hl hT
  cases hB : nkB n l
  · rw [nkV_no hB] at HSM
    rw [nkN_no hB]
    clear hB
    go_enter Tryd.func20, Tryd.ntmps20
    go_wp2_with (first
      | (go_at_call 36; refine HSM.out.mono ?_; rintro e w1 ⟨rfl, hb⟩; have hz1 := hb.size; rw [HZ.out] at hz1; have HB := hide (bl_row ((H0.out.trans (hb.mono (by rw [HZ.out]; omega))).alloc (by omega) (.cells (fam 0 noSet) 53)) (show w.heap.size ≤ w1.heap.size by omega) (fam 0 noSet)); clear hb)
      | (refine wpList_alloc_fam zeroT rfl rfl _ (by first | (simp only [World.size_alloc]; rfl) | rfl) ?_)
      | (refine wpList_store_fam sizeT rfl (.tmp _) (.tmp _) rfl w1.heap.size _ _ rfl rfl _ _ (famAt.new _ _ _ _) ?_))
    go_ret2
    exact ⟨rfl, HB.out⟩
  · rw [nkV_yes hB] at HSM
    rw [nkN_yes hB]
    unfold nkB at hB
    rw [Bool.and_eq_true, decide_eq_true_eq] at hB
    have hn := okSp_n hB.1
    obtain ⟨m, rfl⟩ := Int.eq_ofNat_of_zero_le (show 0 ≤ n by omega)
    have hm1 : 1 ≤ m := by omega
    have hm5 : m ≤ 5 := by omega
    have HC := hide (nk_cnF hB.1 (nkA m) (nkA m).length (Nat.le_refl _))
    have HAR := hide (fun w1 (ht : tab w1) => allRenamed_c m (marksTo l l.length) w1 hm1 hm5 ht)
    have hal := nk_len m hm1 hm5
    rw [Int.toNat_natCast] at HC ⊢
    have hLl : ((nkA m).map fun nm => imgTo (marksTo l l.length) (rnm nm m) 128).length = (nkA m).length := List.length_map _
    rw [← hLl] at HC hal
    rw [← show cnF (fun G => allEq G (marksTo l l.length)) ((nkA m).map fun nm => imgTo (marksTo l l.length) (rnm nm m) 128) ((nkA m).map fun nm => imgTo (marksTo l l.length) (rnm nm m) 128).length = nkT (m : Int) l (nkA m) (nkA m).length by rw [HC.out, hLl]]
    generalize ((nkA m).map fun nm => imgTo (marksTo l l.length) (rnm nm m) 128) = Fs at HAR hal ⊢
    generalize marksTo l l.length = M at HAR HSM ⊢
    clear hB hn HC hLl
    go_enter Tryd.func20, Tryd.ntmps20
    go_wp2_with (first
      | (go_at_call 36; refine HSM.out.mono ?_; rintro e w1 ⟨rfl, hb⟩; have hz1 := hb.size; rw [HZ.out] at hz1; have HH := hide ((famAt.new 53 w1 0 noSet).row (m : Int) M); have HZ2 := hide (show ((w1.alloc (.cells (fam 0 noSet) 53)).setRow w1.heap.size (fam (m : Int) M)).heap.size = w1.heap.size + 1 by simp [World.setRow]); have HB := hide (bl_row ((H0.out.trans (hb.mono (by rw [HZ.out]; omega))).alloc (by omega) (.cells (fam 0 noSet) 53)) (show w.heap.size ≤ w1.heap.size by omega) (fam (m : Int) M)); have HT2 := hide (HT.out.below HB.out); clear hb)
      | (refine wpList_alloc_fam zeroT rfl rfl _ (by first | (simp only [World.size_alloc]; rfl) | rfl) ?_)
      | (refine wpList_store_fam sizeT rfl (.tmp _) (.tmp _) rfl w1.heap.size _ _ rfl rfl _ _ (famAt.new _ _ _ _) ?_)
      | (refine wpList_load_fam rowT sizeT rfl (.tmp _) rfl w1.heap.size rfl (m : Int) M HH.out ?_)
      | (go_at_call 41; refine (HAR.out _ HT2.out).mono ?_; rintro e w2 ⟨v2, rfl, ho2, hb2⟩; have hz2 := hb2.size; rw [HZ2.out] at hz2; have HH2 := hide (HH.out.below hb2 (by rw [HZ2.out]; omega)); have HL2 := hide ho2.fls; have HB2 := hide (HB.out.trans (hb2.mono (by rw [HZ2.out]; omega))); clear ho2 hb2)
      | (go_at_call 31; refine (countWhereF_c v2 (m : Int) Fs 42 #[] #[.pointer (some ⟨w1.heap.size, 0, none⟩)] (fun G => allEq G M) w2 HL2.out (by omega) ent_nk1 (fun k w3 _ hb3 => nk1_c (m : Int) _ M w1.heap.size w3 (HH2.out.below hb3 (by omega)))).mono ?_; rintro e w4 ⟨rfl, hb4⟩; have HB4 := hide (HB2.out.trans (hb4.mono (by omega))); clear hb4))
    go_ret2
    exact ⟨rfl, HB4.out⟩
end Go.Proofs.YtcokdhmccokkiaaDoor
