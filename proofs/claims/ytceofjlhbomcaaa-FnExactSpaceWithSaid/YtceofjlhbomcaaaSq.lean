/- Contracts: the least space with given sets, the specification's and the program's. -/
import Derived.Test.YtceofjlhbomcaaaUn
import Derived.Test.YtceofjlhbomcaaaNm
namespace Go.Proofs.Ytceofjlhbomcaaa
open Go.RowKit
set_option maxRecDepth 100000

/-- U, and a's unions with the first k of a list. -/
def inU (U : Nat → Bool) (a : Nat) (C : List Int) : Nat → (Nat → Bool)
  | 0 => U
  | k + 1 => upd (inU U a C k) (a ||| nth C k) true
theorem inU_iff (U : Nat → Bool) (a : Nat) (C : List Int) (y : Nat) : ∀ k, inU U a C k y = true ↔ U y = true ∨ ∃ j, j < k ∧ a ||| nth C j = y
  | 0 => by simp [inU]
  | k + 1 => by
    rw [inU, upd]
    by_cases hx : y = a ||| nth C k
    · rw [if_pos hx]; exact ⟨fun _ => .inr ⟨k, by omega, hx.symm⟩, fun _ => rfl⟩
    · rw [if_neg hx, inU_iff U a C y k]
      constructor
      · rintro (h | ⟨j, h1, h2⟩)
        · exact .inl h
        · exact .inr ⟨j, by omega, h2⟩
      · rintro (h | ⟨j, h1, h2⟩)
        · exact .inl h
        · refine .inr ⟨j, ?_, h2⟩
          rcases Nat.lt_or_ge j k with h | h
          · exact h
          · have : j = k := by omega
            subst this; exact absurd h2.symm hx
theorem inU_step (U : Nat → Bool) (a : Nat) : inU U a (setsTo U 128) (setsTo U 128).length = stepTo U a 128 := by
  funext y
  rw [Bool.eq_iff_iff, inU_iff, step_iff]
  constructor
  · rintro (h | ⟨j, hj, e⟩)
    · exact .inl h
    · exact .inr ⟨nth (setsTo U 128) j, ((sets_iff U _ 128).1 ⟨j, hj, rfl⟩).1, sets_at U j hj, by rw [Nat.or_comm]; exact e⟩
  · rintro (h | ⟨i, hi, h1, e⟩)
    · exact .inl h
    · obtain ⟨j, hj, e2⟩ := (sets_iff U i 128).2 ⟨hi, h1⟩
      exact .inr ⟨j, hj, by rw [e2, Nat.or_comm]; exact e⟩
theorem sets_nth (U : Nat → Bool) (j : Nat) (hj : j < (setsTo U 128).length) : (setsTo U 128)[j]?.getD 0 = (nth (setsTo U 128) j : Int) ∧ nth (setsTo U 128) j < 128 := by
  have := setsTo_range U 128 j hj
  unfold nth; omega
def sqA (n : Int) (l : List Int) : Bool := decide (1 ≤ n ∧ n ≤ 7) && (decide (l.length ≤ 40) && allTo 0 (low n.toNat) l l.length)
def sqG (n : Int) (l : List Int) : Bool := gradedTo (givTo l l.length) n.toNat 128
def sqF (n : Int) (l : List Int) : Bool := withinOf (givTo l l.length) n.toNat (low n.toNat) == low n.toNat
def sqB (n : Int) (l : List Int) : Bool := sqA n l && (sqG n l && sqF n l)
def sqN (n : Int) (l : List Int) : Int := if sqB n l then n else 0
def sqL (n : Int) (l : List Int) : List Int := if sqB n l then setsTo (unionsF l) 128 else []
theorem sqB_no1 {n : Int} {l : List Int} (h : sqA n l = false) : sqB n l = false := by simp [sqB, h]
theorem sqB_no2 {n : Int} {l : List Int} (h : sqG n l = false) : sqB n l = false := by simp [sqB, h]
theorem sqB_no3 {n : Int} {l : List Int} (h : sqF n l = false) : sqB n l = false := by simp [sqB, h]
theorem sqB_yes {n : Int} {l : List Int} (h : sqA n l = true) (h2 : sqG n l = true) (h3 : sqF n l = true) : sqB n l = true := by simp [sqB, h, h2, h3]
theorem sqN_no {n : Int} {l : List Int} (h : sqB n l = false) : sqN n l = 0 := by simp [sqN, h]
theorem sqN_yes {n : Int} {l : List Int} (h : sqB n l = true) : sqN n l = n := by simp [sqN, h]
theorem sqL_no {n : Int} {l : List Int} (h : sqB n l = false) : sqL n l = [] := by simp [sqL, h]
theorem sqL_yes {n : Int} {l : List Int} (h : sqB n l = true) : sqL n l = setsTo (unionsF l) 128 := by simp [sqL, h]
theorem sqL_len (n : Int) (l : List Int) : (sqL n l).length < 1000000000 := by
  unfold sqL
  split
  · have := setsTo_len (unionsF l) 128; omega
  · simp
theorem sqA_in {n : Int} {l : List Int} (h : sqA n l = true) : (1 ≤ n ∧ n ≤ 7) ∧ l.length ≤ 40 ∧ ∀ j, j < l.length → 0 ≤ l[j]?.getD 0 ∧ l[j]?.getD 0 ≤ (low n.toNat : Int) := by
  simp only [sqA, Bool.and_eq_true, decide_eq_true_eq] at h
  exact ⟨h.1, h.2.1, (allTo_iff _ _ l _).1 h.2.2⟩
theorem sqA_lt {n : Int} {l : List Int} (h : sqA n l = true) (j : Nat) (hj : j < l.length) : nth l j < 2 ^ n.toNat ∧ l[j]?.getD 0 = (nth l j : Int) := by
  have h1 := (sqA_in h).2.2 j hj
  have h2 := low_succ n.toNat
  unfold nth; omega
theorem giv_lt {n : Int} {l : List Int} (h : sqA n l = true) (x : Nat) (hx : givTo l l.length x = true) : x < 2 ^ n.toNat := by
  rcases (giv_iff l x _).1 hx with h1 | ⟨j, hj, e⟩
  · have := p2_pos n.toNat; omega
  · rw [← e]; exact (sqA_lt h j hj).1
theorem giv_lt128 {n : Int} {l : List Int} (h : sqA n l = true) (x : Nat) (hx : givTo l l.length x = true) : x < 128 := by
  have h1 := giv_lt h x hx
  have h2 := p2_le n.toNat 7 (by have := (sqA_in h).1; omega)
  omega
/-- The specification's last test. -/
theorem sq_good {n : Int} {l : List Int} (h : sqA n l = true) (h2 : sqG n l = true) : goodB n (setsTo (unionsF l) 128) = sqF n l := by
  obtain ⟨m, rfl⟩ := Int.eq_ofNat_of_zero_le (show 0 ≤ n by have := (sqA_in h).1; omega)
  have hn := (sqA_in h).1
  have hU : ∀ x, unionsF l x = true → x < 2 ^ m := by
    intro x hx
    have := uni_in l (fun x => decide (x < 2 ^ m)) (decide_eq_true (p2_pos m)) (fun j hj => by have := (sqA_lt h j hj).1; rw [Int.toNat_natCast] at this; simpa using this) (fun a b ha hb => by
      rw [decide_eq_true_eq] at ha hb ⊢; exact Nat.or_lt_two_pow ha hb) l.length (Nat.le_refl _) x hx
    simpa using this
  rw [← ok_good, okSp_sets m (unionsF l) (by omega) (by omega) hU]
  unfold sqG at h2
  rw [Int.toNat_natCast] at h2
  rw [given_space m l (by omega) (fun j hj => by have := (sqA_lt h j hj).1; rwa [Int.toNat_natCast] at this) h2]
  unfold sqF
  rw [Int.toNat_natCast]
/-- The specification's test of each given set. -/
theorem sq_inner {n : Int} {l : List Int} (h : sqA n l = true) (x : Nat) (hx : givTo l l.length x = true) : innerOf (givTo l l.length) n.toNat x = itemsOf (innerSp (setsTo (givTo l l.length) 128) x) 7 := by
  refine inner_same _ _ n.toNat x (by have := (sqA_in h).1; omega) (giv_lt h x hx) fun y hy => ?_
  have hp : ∀ j, j < (setsTo (givTo l l.length) 128).length → 0 ≤ (setsTo (givTo l l.length) 128)[j]?.getD 0 := fun j hj => (setsTo_range _ 128 j hj).1
  rw [← marks_mem _ hp, sets_marks _ (giv_lt128 h)]
theorem sq_bad {n : Int} {l : List Int} (h : sqA n l = true) (j : Nat) (hj : j < (setsTo (givTo l l.length) 128).length) (h0 : nth (setsTo (givTo l l.length) 128) j ≠ 0) (hz : itemsOf (innerSp (setsTo (givTo l l.length) 128) (nth (setsTo (givTo l l.length) 128) j)) 7 = 0) : sqG n l = false := by
  have hg := sets_at (givTo l l.length) j hj
  rw [← sq_inner h _ hg] at hz
  cases hq : sqG n l
  · rfl
  · exact absurd hz ((graded_iff _ _ 128).1 hq _ (giv_lt128 h _ hg) hg h0)
theorem sq_fine {n : Int} {l : List Int} (h : sqA n l = true) (hz : ∀ j, j < (setsTo (givTo l l.length) 128).length → nth (setsTo (givTo l l.length) 128) j ≠ 0 → itemsOf (innerSp (setsTo (givTo l l.length) 128) (nth (setsTo (givTo l l.length) 128) j)) 7 ≠ 0) : sqG n l = true := by
  refine (graded_iff _ _ 128).2 fun s hs hg h0 => ?_
  obtain ⟨j, hj, e⟩ := (sets_iff (givTo l l.length) s 128).2 ⟨hs, hg⟩
  rw [sq_inner h s hg, ← e]
  exact hz j hj (by rw [e]; exact h0)
attribute [local irreducible] p2 low memB risB

set_option maxHeartbeats 1000000 in
theorem spUnions_c (v : Value) (G : List Int) (w : World) (base : Nat) (hl : own 3 w base v G) (hG : ∀ j, j < G.length → nth G j < 128 ∧ G[j]?.getD 0 = (nth G j : Int)) (hlen : G.length < 1000000) :
    Calls Try.prog 50 #[v] w fun e w' => ∃ v', e = .returned v' ∧ own 3 w' w.heap.size v' (setsTo (unionsF G) 128) ∧ Below w.heap.size w w' := by
  have HGG := hide hG
  have H0 := hide ((Below.refl w.heap.size w).alloc (Nat.le_refl _) (.cells #[.int .i64 0] 3))
  have HL0 := hide (hl.alloc (.cells #[.int .i64 0] 3)).ints
  have HI := hide hl.ints
  have HO0 := hide (show own 3 (w.alloc (.cells #[.int .i64 0] 3)) w.heap.size (.slice (some ⟨w.heap.size, 0, none⟩) 1 1) (setsTo (upd noSet 0 true) 128) by
    rw [← sets_zero]
    exact ⟨by simp, .inr ⟨w.heap.size, 1, #[.int .i64 0], rfl, Nat.le_refl _, hp_last _ _, Nat.le_refl _, by unfold maxLen; omega, by simp, by simp⟩⟩)
  clear hl hG
  go_enter Try.func50, Try.ntmps50
  go_wp2_with (refine wpList_len sliceT rfl (.tmp _) rfl v rfl _ G HL0.out ?_)
  go_loopw [3, 11] (fun o i wr => ∃ k : Nat, k ≤ G.length ∧ i = .int .i64 k ∧ Hid (own 3 wr w.heap.size o (setsTo (unionsTo G k) 128)) ∧ Hid (Below w.heap.size w wr)) (fun _ i _ => G.length - (intOf i).toNat)
  case atStart => exact ⟨0, Nat.zero_le _, rfl, HO0, H0⟩
  case round =>
    obtain ⟨k, hk, rfl, HO, HB⟩ := hrel
    clear HO0 H0 HL0
    have hsz := HB.out.size
    have HLW := hide (HI.out.below HB.out (Nat.le_refl _))
    by_cases hlt : k < G.length
    · have HX := hide (HGG.out k hlt).2
      have ha := (HGG.out k hlt).1
      have HST := hide (show unionsTo G (k + 1) = stepTo (unionsTo G k) (nth G k) 128 from rfl)
      have HIS := hide (inU_step (unionsTo G k) (nth G k))
      have HI0 := hide (show inU (unionsTo G k) (nth G k) (setsTo (unionsTo G k) 128) 0 = unionsTo G k from rfl)
      have HI1 := hide (fun d => show inU (unionsTo G k) (nth G k) (setsTo (unionsTo G k) 128) (d + 1) = upd (inU (unionsTo G k) (nth G k) (setsTo (unionsTo G k) 128) d) (nth G k ||| nth (setsTo (unionsTo G k) 128) d) true from rfl)
      have HSN := hide (sets_nth (unionsTo G k))
      have hsl := setsTo_len (unionsTo G k) 128
      generalize nth G k = a at HX ha HST HIS HI0 HI1
      generalize unionsTo G k = U at HO HST HIS HI0 HI1 HSN hsl
      generalize hC : setsTo U 128 = C at HO HIS HI0 HI1 HSN hsl
      have HCE := hide hC
      clear hC
      go_wp2_with (first
        | (refine wpList_at sliceT intS rfl (.tmp _) (.tmp _) rfl v rfl k rfl w.heap.size G HLW.out hlt ?_; intro ad hcell hblk; rw [HX.out] at hcell)
        | (go_at_call 87; refine (l1Own_c _ C wr HO.out.ints (by omega)).mono ?_; rintro e w1 ⟨v1, rfl, ho1, hb1⟩; have HO1 := hide (HO.out.kept hb1); have HC1 := hide ho1; have HB1 := hide (HB.out.trans (hb1.mono hsz)); have hz1 := hb1.size; clear ho1 hb1)
        | (refine wpList_len sliceT rfl (.tmp _) rfl v1 rfl _ C HC1.out.ints ?_))
      go_loopw [3, 18] (fun o i wr2 => ∃ d : Nat, d ≤ C.length ∧ i = .int .i64 d ∧ Hid (own 3 wr2 w.heap.size o (setsTo (inU U a C d) 128)) ∧ Hid (Below w.heap.size w wr2) ∧ Hid (ints w1.heap.size wr2 v1 C) ∧ w1.heap.size ≤ wr2.heap.size) (fun _ i _ => C.length - (intOf i).toNat)
      case atStart => exact ⟨0, Nat.zero_le _, rfl, by rw [HI0.out, HCE.out]; exact HO1, HB1, HC1.out.ints, Nat.le_refl _⟩
      case round =>
        clear HO1 HB1 HC1 hcell HO HB HLW
        obtain ⟨d, hd, rfl, HO, HB, HC, hszr⟩ := hrel
        by_cases hdl : d < C.length
        · have hsn := HSN.out d hdl
          have HX2 := hide hsn.1
          have hb2 := hsn.2
          have HS2 := hide (HI1.out d)
          generalize nth C d = z at HX2 hb2 HS2 hsn
          have hor := i64_or a z (by omega) (by omega)
          have hor2 := or_lt128 a z ha hb2
          generalize a ||| z = r at hor hor2 HS2
          generalize inU U a C d = H at HO HS2
          clear hsn
          go_wp2_with (first
            | (refine wpList_at sliceT intS rfl (.tmp _) (.tmp _) rfl v1 rfl d rfl w1.heap.size C HC.out hdl ?_; intro ad2 hcell2 hblk2; rw [HX2.out] at hcell2)
            | (go_at_call 48; refine (spPut_c _ H r _ w.heap.size hor2 HO.out HB.out.size).mono ?_; rw [← HS2.out]; rintro e w3 ⟨v3, rfl, ho3, hb3⟩; have HO3 := hide ho3; have HB3 := hide (HB.out.trans (hb3.mono HB.out.size)); have HC3 := hide (HC.out.below hb3 hszr); have hz3 := hb3.size; clear ho3 hb3))
          go_roundw
          case rel => exact ⟨d + 1, by omega, by go_num, HO3, HB3, HC3, by omega⟩
          case measure => simp [intOf]; omega
        · have HDE := hide (show d = C.length by omega)
          clear hd
          have hdl2 : ¬ ((d : Int) < (C.length : Int)) := by have := HDE.out; omega
          go_wp2
          go_roundw
          case rel => exact ⟨k + 1, by omega, by go_num, by rw [HST.out, ← HIS.out, ← HDE.out]; exact HO, HB⟩
          case measure => simp [intOf]; omega
    · have HKE := hide (show k = G.length by omega)
      have hlt' : ¬ ((k : Int) < (G.length : Int)) := by omega
      clear hk
      go_wp2
      go_ret
      exact ⟨_, rfl, by rw [show unionsF G = unionsTo G G.length from rfl, ← HKE.out]; exact HO.out, HB.out⟩

theorem zero_slotsQ {w : World} {b : Nat} {T : TypeId} (h : w.heap[b]? = some (.cells #[.int .i64 0, .slice none 0 0] T)) : w.cell? ⟨b, 0, none⟩ = some (.int .i64 0) ∧ w.cell? ⟨b, 1, none⟩ = some (.slice none 0 0) ∧ w.frozen? ⟨b, 0, none⟩ = false ∧ w.frozen? ⟨b, 1, none⟩ = false :=
  ⟨cells_at0 h, cells_at1 h, hp_free h 0, hp_free h 1⟩
theorem giv_zero (l : List Int) : givTo l 0 = upd noSet 0 true := rfl

set_option maxHeartbeats 3000000 in
theorem specSpaceWith_c (n : Int) (u : Value) (l : List Int) (w : World) (hl : ints w.heap.size w u l) (hlen : l.length < 1000000000) :
    Calls Try.prog 13 #[.int .i64 n, u] w fun e w' => ∃ v', e = .returned (.tuple #[.agg #[.int .i64 (sqN n l), v'], .bool (sqB n l)]) ∧ own 3 w' w.heap.size v' (sqL n l) ∧ Below w.heap.size w w' := by
  have HR0 := hide (hp_last w (.cells #[.int .i64 0, .slice none 0 0] 24))
  have H0 := hide ((Below.refl w.heap.size w).alloc (Nat.le_refl _) (.cells #[.int .i64 0, .slice none 0 0] 24))
  have HL0 := hide (hl.alloc (.cells #[.int .i64 0, .slice none 0 0] 24))
  have HZ0 := hide (show (w.alloc (.cells #[.int .i64 0, .slice none 0 0] 24)).heap.size = w.heap.size + 1 by simp)
  obtain ⟨q0, q1, q2, q3⟩ := zero_slotsQ HR0.out
  clear hl
  by_cases hn : 1 ≤ n ∧ n ≤ 7
  · obtain ⟨m, rfl⟩ := Int.eq_ofNat_of_zero_le (show 0 ≤ n by omega)
    have HN := hide hn
    have hp1 := wrap_p2 m (by omega)
    have hp2 : IntKind.i64.wrap (2 ^ m) = (p2 m : Int) := by rw [IntWalk.i64_left]; exact hp1
    have hp3 := wrap_low m (by omega)
    have hp4 : wrap64 ((p2 m : Int) - 1) = (low m : Int) := by rw [← IntWalk.i64_left]; exact hp3
    have hmin : min m 64 = m := by omega
    by_cases h40 : 40 < l.length
    · have HB := hide (sqB_no1 (n := (m : Int)) (l := l) (by unfold sqA; rw [decide_eq_false (show ¬ l.length ≤ 40 by omega)]; simp))
      have hgt : (40 : Int) < (l.length : Int) := by omega
      rw [sqN_no HB.out, sqL_no HB.out, HB.out]
      clear hn
      go_enter Try.func13, Try.ntmps13
      go_wp2_with (first
        | (go_at_call 46; refine (spItems_c _ _).mono ?_; rw [decide_eq_true HN.out]; rintro e w1 ⟨rfl, rfl⟩)
        | (refine wpList_len sliceT rfl (.tmp _) rfl u rfl w.heap.size l HL0.out ?_))
      refine bodyPost_ret (v := .tuple #[.agg #[.int .i64 0, .slice none 0 0], .bool false]) (by simp [results, Try.results13, go_sem, q0, q1]) rfl ⟨_, rfl, own_nil _ _ _, ?_⟩
      first | exact H0.out | exact (H0.out.setCell (by show w.heap.size ≤ w.heap.size; omega) _).setCell (by show w.heap.size ≤ w.heap.size; omega) _
    · have hgt : ¬ ((40 : Int) < (l.length : Int)) := by omega
      have hgt2 : ¬ (40 < l.length) := h40
      cases ha : allTo 0 (low m) l l.length
      · have HA := hide ha
        have HB := hide (sqB_no1 (n := (m : Int)) (l := l) (by unfold sqA; rw [Int.toNat_natCast, ha]; simp))
        rw [sqN_no HB.out, sqL_no HB.out, HB.out]
        clear hn ha
        go_enter Try.func13, Try.ntmps13
        go_wp2_with (first
          | (go_at_call 46; refine (spItems_c _ _).mono ?_; rw [decide_eq_true HN.out]; rintro e w1 ⟨rfl, rfl⟩)
          | (refine wpList_len sliceT rfl (.tmp _) rfl u rfl w.heap.size l HL0.out ?_)
          | (go_at_call 47; refine (l1All_c u l 0 (low m : Int) _ (HL0.out.mono (by rw [HZ0.out]; omega)) hlen).mono ?_; rw [HA.out]; rintro e w1 ⟨rfl, rfl⟩))
        refine bodyPost_ret (v := .tuple #[.agg #[.int .i64 0, .slice none 0 0], .bool false]) (by simp [results, Try.results13, go_sem, q0, q1]) rfl ⟨_, rfl, own_nil _ _ _, ?_⟩
        first | exact H0.out | exact (H0.out.setCell (by show w.heap.size ≤ w.heap.size; omega) _).setCell (by show w.heap.size ≤ w.heap.size; omega) _
      · have HA := hide ha
        have hsq : sqA (m : Int) l = true := by unfold sqA; rw [decide_eq_true hn, decide_eq_true (show l.length ≤ 40 by omega), Int.toNat_natCast, ha]; rfl
        have HSQ := hide hsq
        have HAT := hide (fun j hj => sqA_lt hsq j hj)
        have HNL := hide (fun j hj => (sqA_lt hsq j hj).2)
        have HN128 := hide (fun j (hj : j < l.length) => show nth l j < 128 by have := (sqA_lt hsq j hj).1; have := p2_le (m : Int).toNat 7 (by omega); omega)
        have HG0 := hide (giv_zero l)
        have HO0 := hide (show own 3 ((w.alloc (.cells #[.int .i64 0, .slice none 0 0] 24)).alloc (.cells #[.int .i64 0] 3)) (w.heap.size + 1) (.slice (some ⟨w.heap.size + 1, 0, none⟩) 1 1) (setsTo (upd noSet 0 true) 128) by
          rw [← sets_zero]
          have h := hp_last (w.alloc (.cells #[.int .i64 0, .slice none 0 0] 24)) (.cells #[.int .i64 0] 3)
          rw [HZ0.out] at h
          exact ⟨by simp, .inr ⟨w.heap.size + 1, 1, #[.int .i64 0], rfl, Nat.le_refl _, h, Nat.le_refl _, by unfold maxLen; omega, by simp, by simp⟩⟩)
        have HR1 := hide ((hp_old (w.alloc (.cells #[.int .i64 0, .slice none 0 0] 24)) (.cells #[.int .i64 0] 3) w.heap.size (by rw [HZ0.out]; omega)).trans HR0.out)
        have H1 := hide (H0.out.alloc (by rw [HZ0.out]; omega) (.cells #[.int .i64 0] 3))
        have HL1 := hide (HL0.out.alloc (.cells #[.int .i64 0] 3))
        have HZ1 := hide (show ((w.alloc (.cells #[.int .i64 0, .slice none 0 0] 24)).alloc (.cells #[.int .i64 0] 3)).heap.size = w.heap.size + 2 by simp)
        clear hn ha q0 q1 q2 q3 hsq
        go_enter Try.func13, Try.ntmps13
        go_wp2_with (first
          | (go_at_call 46; refine (spItems_c _ _).mono ?_; rw [decide_eq_true HN.out]; rintro e w1 ⟨rfl, rfl⟩)
          | (refine wpList_len sliceT rfl (.tmp 16) rfl u rfl w.heap.size l HL0.out ?_)
          | (refine wpList_len sliceT rfl (.tmp 30) rfl u rfl w.heap.size l HL1.out ?_)
          | (go_at_call 47; refine (l1All_c u l 0 (low m : Int) _ (HL0.out.mono (by rw [HZ0.out]; omega)) hlen).mono ?_; rw [HA.out]; rintro e w1 ⟨rfl, rfl⟩))
        go_loopw [6, 32] (fun o i wr => ∃ k : Nat, k ≤ l.length ∧ i = .int .i64 k ∧ Hid (own 3 wr (w.heap.size + 1) o (setsTo (givTo l k) 128)) ∧ Hid (wr.heap[w.heap.size]? = some (.cells #[.int .i64 0, .slice none 0 0] 24)) ∧ Hid (Below w.heap.size w wr) ∧ Hid (ints w.heap.size wr u l) ∧ w.heap.size + 2 ≤ wr.heap.size) (fun _ i _ => l.length - (intOf i).toNat)
        case atStart => exact ⟨0, Nat.zero_le _, rfl, by rw [HG0.out]; exact HO0, HR1, H1, HL1, by rw [HZ1.out]; exact Nat.le_refl _⟩
        case round =>
          obtain ⟨k, hk, rfl, HO, HR, HB, HL, hsz⟩ := hrel
          clear HO0 HR1 H1 HL1 HZ1 HR0 H0 HL0 HZ0
          by_cases hlt : k < l.length
          · have HX := hide (HNL.out k hlt)
            have hy := HN128.out k hlt
            have HS := hide (show givTo l (k + 1) = upd (givTo l k) (nth l k) true from rfl)
            generalize nth l k = y at HX hy HS
            generalize givTo l k = G at HO HS
            go_wp2_with (first
              | (refine wpList_at sliceT intS rfl (.tmp _) (.tmp _) rfl u rfl k rfl w.heap.size l HL.out hlt ?_; intro ad hcell hblk; rw [HX.out] at hcell)
              | (go_at_call 48; refine (spPut_c _ G y wr (w.heap.size + 1) hy HO.out (by omega)).mono ?_; rw [← HS.out]; rintro e w3 ⟨v3, rfl, ho3, hb3⟩; have HO3 := hide ho3; have HR3 := hide ((hb3.block w.heap.size (by omega)).trans HR.out); have HB3 := hide (HB.out.trans (hb3.mono HB.out.size)); have HL3 := hide (HL.out.below hb3 (by omega)); have hz3 := hb3.size; clear ho3 hb3))
            go_roundw
            case rel => exact ⟨k + 1, by omega, by go_num, HO3, HR3, HB3, HL3, by omega⟩
            case measure => simp [intOf]; omega
          · have HKE := hide (show k = l.length by omega)
            have HGE := hide (show givTo l k = givTo l l.length by rw [HKE.out])
            have hlt' : ¬ ((k : Int) < (l.length : Int)) := by omega
            rw [HGE.out] at HO
            have HBAD := hide (fun j hj h0 hz => sq_bad HSQ.out j hj h0 hz)
            have HFINE := hide (fun hz => sq_fine HSQ.out hz)
            have HSN := hide (sets_nth (givTo l l.length))
            have HINC := hide (sets_inc (givTo l l.length) 128)
            have hgl := setsTo_len (givTo l l.length) 128
            have HGOOD := hide (fun h2 => sq_good HSQ.out h2)
            have HUG := hide (unions_giv l (fun j hj => HN128.out j hj))
            generalize hGL : setsTo (givTo l l.length) 128 = GL at HO HBAD HFINE HSN HINC hgl HUG
            clear hk hGL
            obtain ⟨ga, gc, hgv⟩ := HO.out.shape
            subst hgv
            have hr := HR.out
            obtain ⟨q0, q1, q2, q3⟩ := zero_slotsQ hr
            clear hr
            go_wp2_with (refine wpList_len sliceT rfl (.tmp _) rfl _ rfl _ GL HO.out.ints ?_)
            go_loop [42] (fun i => ∃ j : Nat, j ≤ GL.length ∧ i = .int .i64 j ∧ Hid (∀ d, d < j → nth GL d ≠ 0 → itemsOf (innerSp GL (nth GL d)) 7 ≠ 0)) (fun i => GL.length - (intOf i).toNat)
            case atStart => exact ⟨0, Nat.zero_le _, rfl, fun d hd => by omega⟩
            case round =>
              obtain ⟨j, hj, rfl, HJ⟩ := hrel
              by_cases hjl : j < GL.length
              · have hsn := HSN.out j hjl
                have HX := hide hsn.1
                have hy := hsn.2
                have HBJ := hide (HBAD.out j hjl)
                generalize hyy : nth GL j = y at HX hy HBJ hsn
                have HY := hide hyy
                clear hyy hsn
                by_cases hy0 : y = 0
                · subst hy0
                  go_wp2_with (refine wpList_at sliceT intS rfl (.tmp _) (.tmp _) rfl _ rfl j rfl _ GL HO.out.ints hjl ?_; intro ad hcell hblk; rw [HX.out] at hcell)
                  go_round
                  case rel =>
                    refine ⟨j + 1, by omega, by go_num, fun d hd h0 => ?_⟩
                    rcases Nat.lt_or_ge d j with h | h
                    · exact HJ.out d h h0
                    · rw [show d = j by omega, HY.out] at h0; exact absurd rfl h0
                  case measure => simp [intOf]; omega
                · have hpos : (0 : Int) < (y : Int) := by omega
                  have hpos2 : 0 < y := by omega
                  have HY0 := hide hy0
                  clear hy0
                  generalize hi : itemsOf (innerSp GL y) 7 = ii
                  have HI := hide hi
                  clear hi
                  by_cases hi0 : ii = 0
                  · subst hi0
                    have hb := HBJ.out (by have := HY0.out; omega) HI.out
                    have HB2 := hide (sqB_no2 hb)
                    have HBX := hide (show sqN (m : Int) l = 0 ∧ sqL (m : Int) l = [] from ⟨sqN_no HB2.out, sqL_no HB2.out⟩)
                    clear hb
                    go_wp2_with (first
                      | (refine wpList_at sliceT intS rfl (.tmp _) (.tmp _) rfl _ rfl j rfl _ GL HO.out.ints hjl ?_; intro ad hcell hblk; rw [HX.out] at hcell)
                      | (go_at_call 49; refine (spInner_c _ GL (y : Int) wr HO.out.ints HINC.out (by omega) (by omega) (by omega)).mono ?_; rw [Int.toNat_natCast, HI.out]; rintro e w3 ⟨rfl, rfl⟩))
                    refine bodyPost_ret (v := .tuple #[.agg #[.int .i64 0, .slice none 0 0], .bool false]) (by simp [results, Try.results13, go_sem, q0, q1]) rfl ⟨_, by rw [HBX.out.1, HB2.out], by rw [HBX.out.2]; exact own_nil _ _ _, ?_⟩
                    exact (HB.out.setCell (Nat.le_refl _) _).setCell (Nat.le_refl _) _
                  · have hne : ((ii : Int) == 0) = false := by simp; omega
                    have HI0 := hide hi0
                    clear hi0
                    go_wp2_with (first
                      | (refine wpList_at sliceT intS rfl (.tmp _) (.tmp _) rfl _ rfl j rfl _ GL HO.out.ints hjl ?_; intro ad hcell hblk; rw [HX.out] at hcell)
                      | (go_at_call 49; refine (spInner_c _ GL (y : Int) wr HO.out.ints HINC.out (by omega) (by omega) (by omega)).mono ?_; rw [Int.toNat_natCast, HI.out]; rintro e w3 ⟨rfl, rfl⟩))
                    go_round
                    case rel =>
                      refine ⟨j + 1, by omega, by go_num, fun d hd h0 => ?_⟩
                      rcases Nat.lt_or_ge d j with h | h
                      · exact HJ.out d h h0
                      · rw [show d = j by omega, HY.out, HI.out]; exact HI0.out
                    case measure => simp [intOf]; omega
              · have HJE := hide (show j = GL.length by omega)
                have hjl' : ¬ ((j : Int) < (GL.length : Int)) := by omega
                have hfine := HFINE.out fun d hd => HJ.out d (by rw [HJE.out]; exact hd)
                have hgood := HGOOD.out hfine
                have HFI := hide hfine
                have HUL := hide (setsTo_len (unionsF l) 128)
                have HUO := hide (fun (w5 : World) (v5 : Value) (h : own 3 w5 wr.heap.size v5 (setsTo (unionsF l) 128)) => h)
                have HGG := hide (fun j hj => show nth GL j < 128 ∧ GL[j]?.getD 0 = (nth GL j : Int) from ⟨(HSN.out j hj).2, (HSN.out j hj).1⟩)
                clear hj hfine
                cases hsf : sqF (m : Int) l
                · rw [hsf] at hgood
                  have HGD := hide hgood
                  have HB2 := hide (sqB_no3 hsf)
                  have HBX := hide (show sqN (m : Int) l = 0 ∧ sqL (m : Int) l = [] from ⟨sqN_no HB2.out, sqL_no HB2.out⟩)
                  clear hgood hsf
                  go_wp2_with fail
                  refine (spUnions_c _ GL wr (w.heap.size + 1) HO.out HGG.out (by omega)).mono ?_
                  rw [HUG.out]
                  rintro e w5 ⟨v5, rfl, ho5, hb5⟩
                  obtain ⟨ua, uc, huv⟩ := ho5.shape
                  subst huv
                  have hz5 := hb5.size
                  have HR5 := hide ((hb5.block w.heap.size (by omega)).trans HR.out)
                  have HB5 := hide (HB.out.trans (hb5.mono HB.out.size))
                  have HO6 := hide (ho5.alloc (.cells #[.int .i64 (m : Int), .slice ua (setsTo (unionsF l) 128).length uc] 24))
                  have HV6 := hide HO6.out.ints
                  have HR6 := hide ((hp_old w5 (.cells #[.int .i64 (m : Int), .slice ua (setsTo (unionsF l) 128).length uc] 24) w.heap.size (by omega)).trans HR5.out)
                  have HB6 := hide (HB5.out.alloc (by omega) (.cells #[.int .i64 (m : Int), .slice ua (setsTo (unionsF l) 128).length uc] 24))
                  have HZ6 := hide (show (w5.alloc (.cells #[.int .i64 (m : Int), .slice ua (setsTo (unionsF l) 128).length uc] 24)).heap.size = w5.heap.size + 1 by simp)
                  clear q0 q1 q2 q3 ho5 hb5
                  go_wp2_with fail
                  refine (spIf_no_c (m : Int) _ _ _ HV6.out (by have := HUL.out; omega) HGD.out).mono ?_
                  rintro e w7 ⟨rfl, hb7⟩
                  have HO7 := hide (HO6.out.kept hb7)
                  have hr7 := (hb7.block w.heap.size (by rw [HZ6.out]; omega)).trans HR6.out
                  obtain ⟨q0, q1, q2, q3⟩ := zero_slotsQ hr7
                  have HB7 := hide (HB6.out.trans (hb7.mono (by rw [HZ6.out]; omega)))
                  clear hb7 hr7
                  go_wp2
                  refine bodyPost_ret (v := .tuple #[.agg #[.int .i64 0, .slice none 0 0], .bool false]) (by simp [results, Try.results13, go_sem, q0, q1]) rfl ⟨_, by rw [HBX.out.1, HB2.out], by rw [HBX.out.2]; exact own_nil _ _ _, ?_⟩
                  exact (HB7.out.setCell (Nat.le_refl _) _).setCell (Nat.le_refl _) _
                · rw [hsf] at hgood
                  have HGD := hide hgood
                  have HB2 := hide (sqB_yes HSQ.out HFI.out hsf)
                  have HBX := hide (show sqN (m : Int) l = (m : Int) ∧ sqL (m : Int) l = setsTo (unionsF l) 128 from ⟨sqN_yes HB2.out, sqL_yes HB2.out⟩)
                  clear hgood hsf
                  go_wp2_with fail
                  refine (spUnions_c _ GL wr (w.heap.size + 1) HO.out HGG.out (by omega)).mono ?_
                  rw [HUG.out]
                  rintro e w5 ⟨v5, rfl, ho5, hb5⟩
                  obtain ⟨ua, uc, huv⟩ := ho5.shape
                  subst huv
                  have hz5 := hb5.size
                  have HR5 := hide ((hb5.block w.heap.size (by omega)).trans HR.out)
                  have HB5 := hide (HB.out.trans (hb5.mono HB.out.size))
                  have HO6 := hide (ho5.alloc (.cells #[.int .i64 (m : Int), .slice ua (setsTo (unionsF l) 128).length uc] 24))
                  have HV6 := hide HO6.out.ints
                  have HR6 := hide ((hp_old w5 (.cells #[.int .i64 (m : Int), .slice ua (setsTo (unionsF l) 128).length uc] 24) w.heap.size (by omega)).trans HR5.out)
                  have HB6 := hide (HB5.out.alloc (by omega) (.cells #[.int .i64 (m : Int), .slice ua (setsTo (unionsF l) 128).length uc] 24))
                  have HZ6 := hide (show (w5.alloc (.cells #[.int .i64 (m : Int), .slice ua (setsTo (unionsF l) 128).length uc] 24)).heap.size = w5.heap.size + 1 by simp)
                  clear q0 q1 q2 q3 ho5 hb5
                  go_wp2_with fail
                  refine (spIf_c (m : Int) _ _ _ HV6.out (by have := HUL.out; omega) HGD.out).mono ?_
                  rintro e w7 ⟨rfl, hb7⟩
                  have HO7 := hide (HO6.out.kept hb7)
                  have hr7 := (hb7.block w.heap.size (by rw [HZ6.out]; omega)).trans HR6.out
                  obtain ⟨q0, q1, q2, q3⟩ := zero_slotsQ hr7
                  have HB7 := hide (HB6.out.trans (hb7.mono (by rw [HZ6.out]; omega)))
                  clear hb7 hr7
                  go_wp2
                  refine bodyPost_ret (v := .tuple #[.agg #[.int .i64 (m : Int), .slice ua (setsTo (unionsF l) 128).length uc], .bool true]) (by simp [results, Try.results13, go_sem, q0, q1]) rfl ⟨_, by rw [HBX.out.1, HB2.out], ?_, ?_⟩
                  · rw [HBX.out.2]
                    have hfin := ((HO7.out.setLow ⟨w.heap.size, 0, none⟩ (show w.heap.size < wr.heap.size by omega) (.int .i64 (m : Int))).setLow ⟨w.heap.size, 1, none⟩ (show w.heap.size < wr.heap.size by omega) (.slice ua (setsTo (unionsF l) 128).length uc))
                    exact hfin.mono (show w.heap.size ≤ wr.heap.size by omega)
                  · exact (HB7.out.setCell (Nat.le_refl _) _).setCell (Nat.le_refl _) _
  · have HN := hide hn
    have HB := hide (sqB_no1 (n := n) (l := l) (by unfold sqA; rw [decide_eq_false hn]; rfl))
    rw [sqN_no HB.out, sqL_no HB.out, HB.out]
    clear hn
    go_enter Try.func13, Try.ntmps13
    go_wp2_with (first
      | (go_at_call 46; refine (spItems_c _ _).mono ?_; rw [decide_eq_false HN.out]; rintro e w1 ⟨rfl, rfl⟩))
    refine bodyPost_ret (v := .tuple #[.agg #[.int .i64 0, .slice none 0 0], .bool false]) (by simp [results, Try.results13, go_sem, q0, q1]) rfl ⟨_, rfl, own_nil _ _ _, ?_⟩
    first | exact H0.out | exact (H0.out.setCell (by show w.heap.size ≤ w.heap.size; omega) _).setCell (by show w.heap.size ≤ w.heap.size; omega) _

theorem ent_gradedQ : enters Try.prog 54 := enters_of Try.func54 (by kernel_rfl) (by kernel_rfl)
theorem ent_fullQ : enters Try.prog 56 := enters_of Try.func56 (by kernel_rfl) (by kernel_rfl)
theorem ent_withinQ : enters Try.prog 55 := enters_of Try.func55 (by kernel_rfl) (by kernel_rfl)
theorem q_belowQ {P : Program} {ops : Array Oper} {rest : List Oper} {o : Oper} {a : Act} {Q : Act → Prop} {w : World} (hw : Region.wanted o (yielded ops a.tmps) = true) (k : FuncId) (hk : enters P k) (xs : Array Operand) (ts : Array TypeId)
    (ho : o.op = .call { callee := .value (.func k), args := xs, argTypes := ts }) (args : Array Value) (hal : xs.toList.map a.eval = args.toList) (v : Value)
    (hc : ∀ w', Below w.heap.size w w' → Calls P k args w' fun e w'' => e = .returned v ∧ Below w'.heap.size w' w'')
    (h : wpQuiet P ops (fun w' => Below w.heap.size w w') Q rest (a.put o.dst v)) : wpQuiet P ops (fun w' => Below w.heap.size w w') Q (o :: rest) a :=
  q_call hw k hk xs ts ho args (Array.toList_inj.1 (by simpa using hal)) v hc h

set_option maxHeartbeats 3000000 in
theorem implSpaceWith_c (n : Int) (u : Value) (l : List Int) (w : World) (hl : ints w.heap.size w u l) (hlen : l.length < 1000000000) :
    Calls Try.prog 15 #[.int .i64 n, u] w fun e w' => ∃ v', e = .returned (.tuple #[.agg #[.int .i64 (sqN n l), v'], .bool (sqB n l)]) ∧ own 3 w' w.heap.size v' (sqL n l) ∧ Below w.heap.size w w' := by
  have HR0 := hide (hp_last w (.cells #[.int .i64 0, .slice none 0 0] 24))
  have H0 := hide ((Below.refl w.heap.size w).alloc (Nat.le_refl _) (.cells #[.int .i64 0, .slice none 0 0] 24))
  have HL0 := hide (hl.alloc (.cells #[.int .i64 0, .slice none 0 0] 24))
  have HZ0 := hide (show (w.alloc (.cells #[.int .i64 0, .slice none 0 0] 24)).heap.size = w.heap.size + 1 by simp)
  obtain ⟨q0, q1, q2, q3⟩ := zero_slotsQ HR0.out
  clear hl
  by_cases hn : 1 ≤ n ∧ n ≤ 7
  · obtain ⟨m, rfl⟩ := Int.eq_ofNat_of_zero_le (show 0 ≤ n by omega)
    have HN := hide hn
    have hm1 : 0 ≤ (m : Int) := by omega
    have hm7 : (m : Int) ≤ 7 := hn.2
    by_cases h40 : 40 < l.length
    · have HB := hide (sqB_no1 (n := (m : Int)) (l := l) (by unfold sqA; rw [decide_eq_false (show ¬ l.length ≤ 40 by omega)]; simp))
      have hgt : (40 : Int) < (l.length : Int) := by omega
      rw [sqN_no HB.out, sqL_no HB.out, HB.out]
      clear hn
      go_enter Try.func15, Try.ntmps15
      go_wp2_with (first
        | (go_at_call 52; refine (isItemCount_c _ _).mono ?_; rw [decide_eq_true HN.out]; rintro e w1 ⟨rfl, rfl⟩)
        | (refine wpList_len sliceT rfl (.tmp _) rfl u rfl w.heap.size l HL0.out ?_))
      refine bodyPost_ret (v := .tuple #[.agg #[.int .i64 0, .slice none 0 0], .bool false]) (by simp [results, Try.results15, go_sem, q0, q1]) rfl ⟨_, rfl, own_nil _ _ _, ?_⟩
      first | exact H0.out | exact (H0.out.setCell (by show w.heap.size ≤ w.heap.size; omega) _).setCell (by show w.heap.size ≤ w.heap.size; omega) _
    · have hgt : ¬ ((40 : Int) < (l.length : Int)) := by omega
      have hgt2 : ¬ (40 < l.length) := h40
      have hf2 : famAt 64 ((w.alloc (.cells #[.int .i64 0, .slice none 0 0] 24)).alloc (.cells (fam 0 noSet) 64)) (w.heap.size + 1) 0 noSet := by have h := famAt.new 64 (w.alloc (.cells #[.int .i64 0, .slice none 0 0] 24)) 0 noSet; rw [HZ0.out] at h; exact h
      have hf2r := hf2.row (m : Int) noSet
      have hg0 := hf2r.get 0 (by omega)
      have hfr0 := hf2r.free (1 + 0)
      have HF2 := hide hf2
      have HF0 := hide (hf2r.set 0 (by omega) true)
      have HR1 := hide (show ((((w.alloc (.cells #[.int .i64 0, .slice none 0 0] 24)).alloc (.cells (fam 0 noSet) 64)).setRow (w.heap.size + 1) (fam (m : Int) noSet)).setCell ⟨w.heap.size + 1, 1 + 0, none⟩ (.bool true)).heap[w.heap.size]? = some (.cells #[.int .i64 0, .slice none 0 0] 24) from (hp_setO _ ⟨w.heap.size + 1, 1 + 0, none⟩ _ _ (by show w.heap.size ≠ w.heap.size + 1; omega)).trans ((hp_rowO _ _ _ _ (by omega)).trans ((hp_old _ _ _ (by rw [HZ0.out]; omega)).trans HR0.out)))
      have HB1 := hide ((bl_row (H0.out.alloc (by rw [HZ0.out]; omega) (.cells (fam 0 noSet) 64)) (show w.heap.size ≤ w.heap.size + 1 by omega) (fam (m : Int) noSet)).setCell (p := ⟨w.heap.size + 1, 1 + 0, none⟩) (by show w.heap.size ≤ w.heap.size + 1; omega) (.bool true))
      have HL1 := hide (((HL0.out.alloc (.cells (fam 0 noSet) 64)).below (bl_row (Below.refl w.heap.size _) (show w.heap.size ≤ w.heap.size + 1 by omega) (fam (m : Int) noSet)) (Nat.le_refl _)).setCell ⟨w.heap.size + 1, 1 + 0, none⟩ (by show w.heap.size ≤ w.heap.size + 1; omega) (.bool true))
      have HZ1 := hide (show w.heap.size + 2 ≤ ((((w.alloc (.cells #[.int .i64 0, .slice none 0 0] 24)).alloc (.cells (fam 0 noSet) 64)).setRow (w.heap.size + 1) (fam (m : Int) noSet)).setCell ⟨w.heap.size + 1, 1 + 0, none⟩ (.bool true)).heap.size by simp [World.setCell, World.setRow])
      have HAI := hide (allTo_iff 0 (low m) l l.length)
      have HAD := hide (show sqA (m : Int) l = allTo 0 (low m) l l.length by unfold sqA; rw [decide_eq_true hn, decide_eq_true (show l.length ≤ 40 by omega), Int.toNat_natCast]; rfl)
      have hlo := low_lt m (by omega)
      clear hn hf2 hf2r
      go_enter Try.func15, Try.ntmps15
      go_wp2_with (first
        | (go_at_call 52; refine (isItemCount_c _ _).mono ?_; rw [decide_eq_true HN.out]; rintro e w1 ⟨rfl, rfl⟩)
        | (refine wpList_len sliceT rfl (.tmp 13) rfl u rfl w.heap.size l HL0.out ?_)
        | (refine wpList_len sliceT rfl (.tmp 22) rfl u rfl w.heap.size l HL1.out ?_)
        | (refine wpList_alloc_fam zeroT rfl rfl _ (by first | (simp only [World.size_alloc]; rfl) | rfl) ?_)
        | (refine wpList_build_fam builtT rfl _ rfl _ rfl ?_)
        | (refine wpList_store_fam sizeT rfl (.tmp _) (.tmp _) rfl _ (m : Int) noSet rfl rfl _ _ HF2.out ?_))
      go_loopw [24] (fun i wr => ∃ k : Nat, k ≤ l.length ∧ i = .int .i64 k ∧ Hid (∀ j, j < k → 0 ≤ l[j]?.getD 0 ∧ l[j]?.getD 0 ≤ (low m : Int)) ∧ Hid (famAt 64 wr (w.heap.size + 1) (m : Int) (givTo l k)) ∧ Hid (wr.heap[w.heap.size]? = some (.cells #[.int .i64 0, .slice none 0 0] 24)) ∧ Hid (Below w.heap.size w wr) ∧ Hid (ints w.heap.size wr u l) ∧ w.heap.size + 2 ≤ wr.heap.size) (fun i _ => l.length - (intOf i).toNat)
      case atStart => exact ⟨0, Nat.zero_le _, rfl, fun j hj => by omega, HF0, HR1, HB1, HL1, HZ1.out⟩
      case round =>
        obtain ⟨k, hk, rfl, HJ, HF, HR, HB, HL, hsz⟩ := hrel
        clear HF0 HR1 HB1 HL1 HZ1 HR0 H0 HL0 HZ0 HF2 hg0 hfr0 q0 q1 q2 q3
        by_cases hlt : k < l.length
        · generalize hx : l[k]?.getD 0 = x
          have HX := hide hx
          clear hx
          have HNT := hide (show nth l k = x.toNat by unfold nth; rw [HX.out])
          have HS := hide (show givTo l (k + 1) = upd (givTo l k) (nth l k) true from rfl)
          by_cases hin : 0 ≤ x ∧ x ≤ (low m : Int)
          · have HIN := hide hin
            obtain ⟨y, rfl⟩ := Int.eq_ofNat_of_zero_le hin.1
            have hy : y < 128 := by omega
            have HS2 := hide (show givTo l (k + 1) = upd (givTo l k) y true by rw [HS.out, HNT.out, Int.toNat_natCast])
            clear hin
            generalize givTo l k = G at HF HS2
            go_wp2_with (first
              | (refine wpList_at sliceT intS rfl (.tmp _) (.tmp _) rfl u rfl k rfl w.heap.size l HL.out hlt ?_; intro ad hcell hblk; rw [HX.out] at hcell)
              | (refine wpList_load_fam rowT sizeT rfl (.tmp _) rfl _ rfl (m : Int) G HF.out ?_)
              | (go_at_call 53; refine (isSet_c (m : Int) G (y : Int) wr hm1 hm7).mono ?_; rw [Int.toNat_natCast, decide_eq_true HIN.out]; rintro e w3 ⟨rfl, hb3⟩; have hf3 := HF.out.below hb3 HF.out.lt; have hg3 := hf3.get y hy; have hfr3 := hf3.free (1 + y); have HF3 := hide (hf3.set y hy true); have HR3 := hide ((hp_setO w3 ⟨w.heap.size + 1, 1 + y, none⟩ w.heap.size (.bool true) (by show w.heap.size ≠ w.heap.size + 1; omega)).trans ((hb3.block w.heap.size (by omega)).trans HR.out)); have HB3 := hide ((HB.out.trans (hb3.mono HB.out.size)).setCell (p := ⟨w.heap.size + 1, 1 + y, none⟩) (by show w.heap.size ≤ w.heap.size + 1; omega) (.bool true)); have HL3 := hide ((HL.out.below hb3 (by omega)).setCell ⟨w.heap.size + 1, 1 + y, none⟩ (by show w.heap.size ≤ w.heap.size + 1; omega) (.bool true)); have hz3 := hb3.size; clear hb3 hf3))
            go_roundw
            case rel => exact ⟨k + 1, by omega, by go_num, (fun j hj => by
              rcases Nat.lt_or_ge j k with h | h
              · exact HJ.out j h
              · rw [show j = k by omega, HX.out]; exact HIN.out), by rw [HS2.out]; exact HF3, HR3, HB3, HL3, by simp [World.setCell]; omega⟩
            case measure => simp [intOf]; omega
          · have HIN := hide hin
            have hna : sqA (m : Int) l = false := by
              rw [HAD.out, ← Bool.not_eq_true, HAI.out]
              intro h
              exact hin (by rw [← HX.out]; exact h k hlt)
            have HB2 := hide (sqB_no1 hna)
            have HBX := hide (show sqN (m : Int) l = 0 ∧ sqL (m : Int) l = [] from ⟨sqN_no HB2.out, sqL_no HB2.out⟩)
            clear hin hna
            generalize givTo l k = G at HF
            go_wp2_with (first
              | (refine wpList_at sliceT intS rfl (.tmp _) (.tmp _) rfl u rfl k rfl w.heap.size l HL.out hlt ?_; intro ad hcell hblk; rw [HX.out] at hcell)
              | (refine wpList_load_fam rowT sizeT rfl (.tmp _) rfl _ rfl (m : Int) G HF.out ?_)
              | (go_at_call 53; refine (isSet_c (m : Int) G x wr hm1 hm7).mono ?_; rw [Int.toNat_natCast, decide_eq_false HIN.out]; rintro e w3 ⟨rfl, hb3⟩; have hr3 := (hb3.block w.heap.size (by omega)).trans HR.out; obtain ⟨q0, q1, q2, q3⟩ := zero_slotsQ hr3; have HB3 := hide (HB.out.trans (hb3.mono HB.out.size)); clear hb3 hr3))
            refine bodyPost_ret (v := .tuple #[.agg #[.int .i64 0, .slice none 0 0], .bool false]) (by simp [results, Try.results15, go_sem, q0, q1]) rfl ⟨_, by rw [HBX.out.1, HB2.out], by rw [HBX.out.2]; exact own_nil _ _ _, ?_⟩
            exact (HB3.out.setCell (by show w.heap.size ≤ w.heap.size; omega) _).setCell (by show w.heap.size ≤ w.heap.size; omega) _
        · have HKE := hide (show k = l.length by omega)
          have HSQ := hide (show sqA (m : Int) l = true by rw [HAD.out, HAI.out]; exact fun j hj => HJ.out j (by rw [HKE.out]; exact hj))
          have hlt' : ¬ ((k : Int) < (l.length : Int)) := by omega
          have HGE := hide (show givTo l k = givTo l l.length by rw [HKE.out])
          rw [HGE.out] at HF
          have HGQ := hide (show gradedTo (givTo l l.length) m 128 = sqG (m : Int) l by unfold sqG; rw [Int.toNat_natCast])
          have HFQ := hide (show (withinOf (givTo l l.length) m (low m) == low m) = sqF (m : Int) l by unfold sqF; rw [Int.toNat_natCast])
          have HRG := hide (fun j (hj : j < l.length) => show 0 ≤ l[j]?.getD 0 ∧ l[j]?.getD 0 < 128 by have := (sqA_in HSQ.out).2.2 j hj; rw [Int.toNat_natCast] at this; omega)
          generalize givTo l l.length = G at HF HGQ HFQ
          have hwl := withinOf_lt G m (low m)
          have hw7 := p2_le m 7 (by omega)
          clear hk
          generalize hww : withinOf G m (low m) = ww at hwl HFQ
          have HWW := hide hww
          clear hww
          have DF := hide (fun w' (h : Below wr.heap.size wr w') => HF.out.below h HF.out.lt)
          cases hg : sqG (m : Int) l
          · have HG := hide (HGQ.out.trans hg)
            have HB2 := hide (sqB_no2 hg)
            have HBX := hide (show sqN (m : Int) l = 0 ∧ sqL (m : Int) l = [] from ⟨sqN_no HB2.out, sqL_no HB2.out⟩)
            clear hg
            go_wp2
            refine wp_region_old (by kernel_rfl) (by kernel_rfl) ?_
            refine q_load_fam rowT sizeT rfl (.tmp _) rfl _ rfl (m : Int) G DF.out ?_
            simp only [Act.put, List.setIfInBounds_toArray, List.set_cons_zero, List.set_cons_succ]
            refine q_belowQ rfl 54 ent_gradedQ _ _ rfl #[.agg (fam (m : Int) G)] rfl (.bool false) (fun w' _ => by have := isGraded_c (m : Int) G w' hm1 hm7; rw [Int.toNat_natCast, HG.out] at this; exact this) ?_
            simp only [Act.put, List.setIfInBounds_toArray, List.set_cons_zero, List.set_cons_succ]
            repeat (first | go_big_quiet_skip | go_big_quiet_step ((first | exact fun _ => rfl | exact fun _ => ⟨rfl, rfl⟩)))
            refine wpQuiet_nil ?_
            intro w4 hb4
            have hr4 := (hb4.block w.heap.size (by omega)).trans HR.out
            obtain ⟨q0, q1, q2, q3⟩ := zero_slotsQ hr4
            have HB4 := hide (HB.out.trans (hb4.mono HB.out.size))
            clear hb4 hr4
            go_wp2
            refine bodyPost_ret (v := .tuple #[.agg #[.int .i64 0, .slice none 0 0], .bool false]) (by simp [results, Try.results15, go_sem, q0, q1]) rfl ⟨_, by rw [HBX.out.1, HB2.out], by rw [HBX.out.2]; exact own_nil _ _ _, ?_⟩
            exact (HB4.out.setCell (by show w.heap.size ≤ w.heap.size; omega) _).setCell (by show w.heap.size ≤ w.heap.size; omega) _
          · have HG := hide (HGQ.out.trans hg)
            cases hf : sqF (m : Int) l
            · have hne : ((ww : Int) != (low m : Int)) = true := by have := HFQ.out; rw [hf] at this; simp at this ⊢; omega
              have HB2 := hide (sqB_no3 hf)
              have HBX := hide (show sqN (m : Int) l = 0 ∧ sqL (m : Int) l = [] from ⟨sqN_no HB2.out, sqL_no HB2.out⟩)
              clear hg hf
              go_wp2
              refine wp_region_old (by kernel_rfl) (by kernel_rfl) ?_
              refine q_load_fam rowT sizeT rfl (.tmp _) rfl _ rfl (m : Int) G DF.out ?_
              simp only [Act.put, List.setIfInBounds_toArray, List.set_cons_zero, List.set_cons_succ]
              refine q_belowQ rfl 54 ent_gradedQ _ _ rfl #[.agg (fam (m : Int) G)] rfl (.bool true) (fun w' _ => by have := isGraded_c (m : Int) G w' hm1 hm7; rw [Int.toNat_natCast, HG.out] at this; exact this) ?_
              simp only [Act.put, List.setIfInBounds_toArray, List.set_cons_zero, List.set_cons_succ]
              go_big_quiet_step ((first | exact fun _ => rfl | exact fun _ => ⟨rfl, rfl⟩))
              go_big_quiet_step ((first | exact fun _ => rfl | exact fun _ => ⟨rfl, rfl⟩))
              refine q_load_fam rowT sizeT rfl (.tmp _) rfl _ rfl (m : Int) G DF.out ?_
              simp only [Act.put, List.setIfInBounds_toArray, List.set_cons_zero, List.set_cons_succ]
              refine q_load_fam rowT sizeT rfl (.tmp _) rfl _ rfl (m : Int) G DF.out ?_
              simp only [Act.put, List.setIfInBounds_toArray, List.set_cons_zero, List.set_cons_succ]
              refine q_belowQ rfl 56 ent_fullQ _ _ rfl #[.agg (fam (m : Int) G)] rfl (.int .i64 (low m : Int)) (fun w' _ => by have := full_c (m : Int) G w' hm1 hm7; rw [Int.toNat_natCast] at this; exact this) ?_
              simp only [Act.put, List.setIfInBounds_toArray, List.set_cons_zero, List.set_cons_succ]
              refine q_belowQ rfl 55 ent_withinQ _ _ rfl #[.agg (fam (m : Int) G), .int .i64 (low m : Int)] rfl (.int .i64 (ww : Int)) (fun w' _ => by have := greatestWithin_c (m : Int) G (low m : Int) w' hm1 hm7 (by omega); rw [Int.toNat_natCast, Int.toNat_natCast, HWW.out] at this; exact this) ?_
              simp only [Act.put, List.setIfInBounds_toArray, List.set_cons_zero, List.set_cons_succ]
              refine q_load_fam rowT sizeT rfl (.tmp _) rfl _ rfl (m : Int) G DF.out ?_
              simp only [Act.put, List.setIfInBounds_toArray, List.set_cons_zero, List.set_cons_succ]
              refine q_belowQ rfl 56 ent_fullQ _ _ rfl #[.agg (fam (m : Int) G)] rfl (.int .i64 (low m : Int)) (fun w' _ => by have := full_c (m : Int) G w' hm1 hm7; rw [Int.toNat_natCast] at this; exact this) ?_
              simp only [Act.put, List.setIfInBounds_toArray, List.set_cons_zero, List.set_cons_succ]
              repeat (go_big_quiet_step ((first | exact fun _ => rfl | exact fun _ => ⟨rfl, rfl⟩)))
              refine wpQuiet_nil ?_
              intro w4 hb4
              have hr4 := (hb4.block w.heap.size (by omega)).trans HR.out
              obtain ⟨q0, q1, q2, q3⟩ := zero_slotsQ hr4
              have HB4 := hide (HB.out.trans (hb4.mono HB.out.size))
              clear hb4 hr4
              go_wp2
              refine bodyPost_ret (v := .tuple #[.agg #[.int .i64 0, .slice none 0 0], .bool false]) (by simp [results, Try.results15, go_sem, q0, q1]) rfl ⟨_, by rw [HBX.out.1, HB2.out], by rw [HBX.out.2]; exact own_nil _ _ _, ?_⟩
              exact (HB4.out.setCell (by show w.heap.size ≤ w.heap.size; omega) _).setCell (by show w.heap.size ≤ w.heap.size; omega) _
            · have hne : ((ww : Int) != (low m : Int)) = false := by have := HFQ.out; rw [hf] at this; simp at this ⊢; omega
              have HB2 := hide (sqB_yes HSQ.out hg hf)
              have HBX := hide (show sqN (m : Int) l = (m : Int) ∧ sqL (m : Int) l = setsTo (unionsF l) 128 from ⟨sqN_yes HB2.out, sqL_yes HB2.out⟩)
              clear hg hf
              go_wp2
              refine wp_region_old (by kernel_rfl) (by kernel_rfl) ?_
              refine q_load_fam rowT sizeT rfl (.tmp _) rfl _ rfl (m : Int) G DF.out ?_
              simp only [Act.put, List.setIfInBounds_toArray, List.set_cons_zero, List.set_cons_succ]
              refine q_belowQ rfl 54 ent_gradedQ _ _ rfl #[.agg (fam (m : Int) G)] rfl (.bool true) (fun w' _ => by have := isGraded_c (m : Int) G w' hm1 hm7; rw [Int.toNat_natCast, HG.out] at this; exact this) ?_
              simp only [Act.put, List.setIfInBounds_toArray, List.set_cons_zero, List.set_cons_succ]
              go_big_quiet_step ((first | exact fun _ => rfl | exact fun _ => ⟨rfl, rfl⟩))
              go_big_quiet_step ((first | exact fun _ => rfl | exact fun _ => ⟨rfl, rfl⟩))
              refine q_load_fam rowT sizeT rfl (.tmp _) rfl _ rfl (m : Int) G DF.out ?_
              simp only [Act.put, List.setIfInBounds_toArray, List.set_cons_zero, List.set_cons_succ]
              refine q_load_fam rowT sizeT rfl (.tmp _) rfl _ rfl (m : Int) G DF.out ?_
              simp only [Act.put, List.setIfInBounds_toArray, List.set_cons_zero, List.set_cons_succ]
              refine q_belowQ rfl 56 ent_fullQ _ _ rfl #[.agg (fam (m : Int) G)] rfl (.int .i64 (low m : Int)) (fun w' _ => by have := full_c (m : Int) G w' hm1 hm7; rw [Int.toNat_natCast] at this; exact this) ?_
              simp only [Act.put, List.setIfInBounds_toArray, List.set_cons_zero, List.set_cons_succ]
              refine q_belowQ rfl 55 ent_withinQ _ _ rfl #[.agg (fam (m : Int) G), .int .i64 (low m : Int)] rfl (.int .i64 (ww : Int)) (fun w' _ => by have := greatestWithin_c (m : Int) G (low m : Int) w' hm1 hm7 (by omega); rw [Int.toNat_natCast, Int.toNat_natCast, HWW.out] at this; exact this) ?_
              simp only [Act.put, List.setIfInBounds_toArray, List.set_cons_zero, List.set_cons_succ]
              refine q_load_fam rowT sizeT rfl (.tmp _) rfl _ rfl (m : Int) G DF.out ?_
              simp only [Act.put, List.setIfInBounds_toArray, List.set_cons_zero, List.set_cons_succ]
              refine q_belowQ rfl 56 ent_fullQ _ _ rfl #[.agg (fam (m : Int) G)] rfl (.int .i64 (low m : Int)) (fun w' _ => by have := full_c (m : Int) G w' hm1 hm7; rw [Int.toNat_natCast] at this; exact this) ?_
              simp only [Act.put, List.setIfInBounds_toArray, List.set_cons_zero, List.set_cons_succ]
              repeat (go_big_quiet_step ((first | exact fun _ => rfl | exact fun _ => ⟨rfl, rfl⟩)))
              refine wpQuiet_nil ?_
              intro w4 hb4
              have HR4 := hide ((hb4.block w.heap.size (by omega)).trans HR.out)
              have HB4 := hide (HB.out.trans (hb4.mono HB.out.size))
              have HL4 := hide ((HL.out.below hb4 (by omega)).mono (show w.heap.size ≤ w4.heap.size by have := hb4.size; omega))
              have hz4 := hb4.size
              clear hb4
              go_wp2_with (first
                | (go_at_call 57; refine (unionsOf_c (m : Int) u l w4 HL4.out HRG.out hlen).mono ?_; rintro e w5 ⟨rfl, hb5⟩; have HR5 := hide ((hb5.block w.heap.size (by omega)).trans HR4.out); have HB5 := hide (HB4.out.trans (hb5.mono HB4.out.size)); have hz5 := hb5.size; clear hb5)
                | (go_at_call 58; refine (space_c (m : Int) (unionsF l) w5).mono ?_; rintro e w6 ⟨v6, rfl, ho6, hb6⟩; obtain ⟨ua, uc, huv⟩ := ho6.shape; subst huv; have hr6 := (hb6.block w.heap.size (by omega)).trans HR5.out; obtain ⟨q0, q1, q2, q3⟩ := zero_slotsQ hr6; have HB6 := hide (HB5.out.trans (hb6.mono HB5.out.size)); have HO6 := hide ho6; clear hb6 hr6 ho6))
              refine bodyPost_ret (v := .tuple #[.agg #[.int .i64 (m : Int), .slice ua (setsTo (unionsF l) 128).length uc], .bool true]) (by simp [results, Try.results15, go_sem, q0, q1]) rfl ⟨_, by rw [HBX.out.1, HB2.out], ?_, ?_⟩
              · rw [HBX.out.2]
                have hfin := ((HO6.out.setLow ⟨w.heap.size, 0, none⟩ (show w.heap.size < w5.heap.size by omega) (.int .i64 (m : Int))).setLow ⟨w.heap.size, 1, none⟩ (show w.heap.size < w5.heap.size by omega) (.slice ua (setsTo (unionsF l) 128).length uc))
                exact hfin.mono (show w.heap.size ≤ w5.heap.size by omega)
              · exact (HB6.out.setCell (by show w.heap.size ≤ w.heap.size; omega) _).setCell (by show w.heap.size ≤ w.heap.size; omega) _
  · have HN := hide hn
    have HB := hide (sqB_no1 (n := n) (l := l) (by unfold sqA; rw [decide_eq_false hn]; rfl))
    rw [sqN_no HB.out, sqL_no HB.out, HB.out]
    clear hn
    go_enter Try.func15, Try.ntmps15
    go_wp2_with (first
      | (go_at_call 52; refine (isItemCount_c _ _).mono ?_; rw [decide_eq_false HN.out]; rintro e w1 ⟨rfl, rfl⟩))
    refine bodyPost_ret (v := .tuple #[.agg #[.int .i64 0, .slice none 0 0], .bool false]) (by simp [results, Try.results15, go_sem, q0, q1]) rfl ⟨_, rfl, own_nil _ _ _, ?_⟩
    first | exact H0.out | exact (H0.out.setCell (by show w.heap.size ≤ w.heap.size; omega) _).setCell (by show w.heap.size ≤ w.heap.size; omega) _
end Go.Proofs.Ytceofjlhbomcaaa
