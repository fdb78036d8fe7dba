/- Contracts: extreme items, the program's and the specification's. -/
import Derived.Test.YtcdledapadnpnaaHi
namespace Go.Proofs.Ytcdledapadnpnaa
open Go.RowKit
set_option maxRecDepth 100000
attribute [local irreducible] p2 low memB risB
theorem ent_has : enters Try.prog 24 := enters_of Try.func24 (by kernel_rfl) (by kernel_rfl)
theorem ent_withoutX : enters Try.prog 26 := enters_of Try.func26 (by kernel_rfl) (by kernel_rfl)
theorem ent_hull : enters Try.prog 25 := enters_of Try.func25 (by kernel_rfl) (by kernel_rfl)
theorem ent_extreme1 : enters Try.prog 23 := enters_of Try.func23 (by kernel_rfl) (by kernel_rfl)
theorem ent_spHull : enters Try.prog 12 := enters_of Try.func12 (by kernel_rfl) (by kernel_rfl)
theorem ent_spInX : enters Try.prog 11 := enters_of Try.func11 (by kernel_rfl) (by kernel_rfl)
theorem rowIt : (Try.prog.underlying 40).map TypeDesc.isRow = some false := by kernel_rfl
theorem q_load_two {P : Program} {ops : Array Oper} {rest : List Oper} {o : Oper} {a : Act} {C : World → Prop} {Q : Act → Prop} {ty : TypeId} (hT : (P.underlying ty).map TypeDesc.isRow = some true) (hZ : (P.info? ty).map (·.size) = some 2) (hw : Region.wanted o (yielded ops a.tmps) = true) (x : Operand) (ho : o.op = .load ty x)
    (g : Nat) (hx : a.eval x = .pointer (some ⟨g, 0, none⟩)) (u v : Value) (h0 : ∀ w, C w → w.cell? ⟨g, 0, none⟩ = some u) (h1 : ∀ w, C w → w.cell? ⟨g, 1, none⟩ = some v)
    (h : wpQuiet P ops C Q rest (a.put o.dst (.agg #[u, v]))) : wpQuiet P ops C Q (o :: rest) a := by
  obtain ⟨d, hu, hd⟩ := rowTy_of hT
  refine BigFrame.wpQuiet_want hw fun K hK => ⟨_, fun w hC => ?_, hK _ h⟩
  have hr : w.rangeAt g 0 [u, v] := fun j y hy => by
    match j, hy with
    | 0, hy => simp at hy; subst hy; exact h0 w hC
    | 1, hy => simp at hy; subst hy; exact h1 w hC
    | j + 2, hy => simp at hy
  unfold Oper.quietAt execOp
  simp only [ho, hx, Instr.loadAt, Instr.sureAddr, Sem.run_bind, Sem.run_pure, Result.andThen_ok, run_loadVar_mid w g 0 ty [u, v] d hr hu hd (by rw [hZ]; rfl)]
  exact ⟨rfl, rfl⟩

def exP (F : Nat → Bool) (m s i : Nat) : Bool := s.testBit i && !(hullOf F m (andNot s (p2 i))).testBit i
theorem hullOf_lt (F : Nat → Bool) (m s : Nat) (hm : m ≤ 7) : hullOf F m s < 128 := andNot_lt128 _ _ (low_lt m hm)

set_option maxHeartbeats 800000 in
theorem extreme1_c (i : Nat) (m : Nat) (F : Nat → Bool) (s g gs : Nat) (w : World) (hm7 : m ≤ 7) (hi : i < 7) (hs : s < 128) (hf : famAt 39 w g (m : Int) F) (hcs : w.cell? ⟨gs, 0, none⟩ = some (.int .i64 (s : Int))) (hgs : gs < w.heap.size) :
    Calls Try.prog 23 #[.int .i64 (i : Int), .pointer (some ⟨gs, 0, none⟩), .pointer (some ⟨g, 0, none⟩)] w fun e w' => e = .returned (.bool (exP F m s i)) ∧ Below w.heap.size w w' := by
  have hg := hf.lt
  have HF := hide (fun w' (h : Below w.heap.size w w') => hf.below h hg)
  have HC := hide (fun w' (h : Below w.heap.size w w') => (h.cell (p := ⟨gs, 0, none⟩) hgs).trans hcs)
  have ha128 := andNot_lt128 s (p2 i) hs
  have hh128 := hullOf_lt F m (andNot s (p2 i)) hm7
  clear hf hcs hg
  cases hb : s.testBit i
  · have HT := hide hb
    clear hb
    go_enter Try.func23, Try.ntmps23
    go_wp2_with fail
    refine wp_region_old (by kernel_rfl) (by kernel_rfl) ?_
    refine q_load_cell rowIt rfl (.tmp _) rfl _ rfl (.int .i64 (s : Int)) HC.out ?_
    simp only [Act.put, List.setIfInBounds_toArray, List.set_cons_zero, List.set_cons_succ]
    go_big_quiet_step ((first | exact fun _ => rfl | exact fun _ => ⟨rfl, rfl⟩))
    refine q_pure rfl 24 ent_has _ _ rfl #[.int .i64 (s : Int), .int .i64 (i : Int)] rfl (.bool false) (fun w' _ => by have := has_c s i w' (by omega) (by omega) (by omega) (by omega); rw [Int.toNat_natCast, Int.toNat_natCast, HT.out] at this; exact this) ?_
    simp only [Act.put, List.setIfInBounds_toArray, List.set_cons_zero, List.set_cons_succ]
    repeat (go_big_quiet_step ((first | exact fun _ => rfl | exact fun _ => ⟨rfl, rfl⟩)))
    refine wpQuiet_nil ?_
    intro w2 hb2
    go_wp2
    go_ret
    exact ⟨ret_b (by simp [exP, HT.out]), hb2⟩
  · have HT := hide hb
    clear hb
    cases hv : (hullOf F m (andNot s (p2 i))).testBit i
    all_goals
      have HV := hide hv
      clear hv
      go_enter Try.func23, Try.ntmps23
      go_wp2_with fail
      refine wp_region_old (by kernel_rfl) (by kernel_rfl) ?_
      refine q_load_cell rowIt rfl (.tmp _) rfl _ rfl (.int .i64 (s : Int)) HC.out ?_
      simp only [Act.put, List.setIfInBounds_toArray, List.set_cons_zero, List.set_cons_succ]
      go_big_quiet_step ((first | exact fun _ => rfl | exact fun _ => ⟨rfl, rfl⟩))
      refine q_pure rfl 24 ent_has _ _ rfl #[.int .i64 (s : Int), .int .i64 (i : Int)] rfl (.bool true) (fun w' _ => by have := has_c s i w' (by omega) (by omega) (by omega) (by omega); rw [Int.toNat_natCast, Int.toNat_natCast, HT.out] at this; exact this) ?_
      simp only [Act.put, List.setIfInBounds_toArray, List.set_cons_zero, List.set_cons_succ]
      go_big_quiet_step ((first | exact fun _ => rfl | exact fun _ => ⟨rfl, rfl⟩))
      refine q_load_fam rowT sizeT rfl (.tmp _) rfl _ rfl (m : Int) F HF.out ?_
      simp only [Act.put, List.setIfInBounds_toArray, List.set_cons_zero, List.set_cons_succ]
      refine q_load_cell rowIt rfl (.tmp _) rfl _ rfl (.int .i64 (s : Int)) HC.out ?_
      simp only [Act.put, List.setIfInBounds_toArray, List.set_cons_zero, List.set_cons_succ]
      go_big_quiet_step ((first | exact fun _ => rfl | exact fun _ => ⟨rfl, rfl⟩))
      refine q_pure rfl 26 ent_withoutX _ _ rfl #[.int .i64 (s : Int), .int .i64 (i : Int)] rfl (.int .i64 ((andNot s (p2 i) : Nat) : Int)) (fun w' _ => by have := without_c s i w' (by omega) (by omega) (by omega) (by omega); rw [Int.toNat_natCast, Int.toNat_natCast] at this; exact this) ?_
      simp only [Act.put, List.setIfInBounds_toArray, List.set_cons_zero, List.set_cons_succ]
      refine q_below rfl 25 ent_hull _ _ rfl #[.agg (fam (m : Int) F), .int .i64 ((andNot s (p2 i) : Nat) : Int)] rfl (.int .i64 (hullOf F m (andNot s (p2 i)) : Int)) (fun w' _ => hull_c m F _ w' hm7) ?_
      simp only [Act.put, List.setIfInBounds_toArray, List.set_cons_zero, List.set_cons_succ]
      go_big_quiet_step ((first | exact fun _ => rfl | exact fun _ => ⟨rfl, rfl⟩))
      refine q_pure rfl 24 ent_has _ _ rfl #[.int .i64 (hullOf F m (andNot s (p2 i)) : Int), .int .i64 (i : Int)] rfl (.bool _) (fun w' _ => by have := has_c (hullOf F m (andNot s (p2 i))) i w' (by omega) (by omega) (by omega) (by omega); rw [Int.toNat_natCast, Int.toNat_natCast, HV.out] at this; exact this) ?_
      simp only [Act.put, List.setIfInBounds_toArray, List.set_cons_zero, List.set_cons_succ]
      repeat (go_big_quiet_step ((first | exact fun _ => rfl | exact fun _ => ⟨rfl, rfl⟩)))
      refine wpQuiet_nil ?_
      intro w2 hb2
      go_wp2
      go_ret
      exact ⟨ret_b (by simp [exP, HT.out, HV.out]), hb2⟩

theorem extreme_c (m : Nat) (F : Nat → Bool) (s : Nat) (w : World) (hm7 : m ≤ 7) (hs : s < 128) :
    Calls Try.prog 15 #[.agg (fam (m : Int) F), .int .i64 (s : Int)] w fun e w' => e = .returned (.int .i64 (itemsOf (exP F m s) m : Int)) ∧ Below w.heap.size w w' := by
  go_enter Try.func15, Try.ntmps15
  go_wp2_with fail
  refine (itemsWhere_c (m : Int) 23 #[.pointer (some ⟨w.heap.size + 1, 0, none⟩), .pointer (some ⟨w.heap.size, 0, none⟩)] _ (exP F m s) ent_extreme1 (by omega) (by omega) ?h1).mono ?_
  case h1 =>
    intro i w1 hi0 hi hb
    obtain ⟨i, rfl⟩ := Int.eq_ofNat_of_zero_le hi0
    have hz := hb.size
    simp at hz
    refine extreme1_c i m F s w.heap.size (w.heap.size + 1) w1 hm7 (by omega) hs ?_ ?_ (by omega)
    · exact ((famAt.new _ w _ F).alloc _).below hb (by simp; omega)
    · rw [hb.cell (p := ⟨w.heap.size + 1, 0, none⟩) (by simp)]; simp [go_sem]
  rintro e w' ⟨rfl, hb⟩
  rw [Int.toNat_natCast]
  go_wp2
  go_ret
  exact ⟨rfl, (((Below.refl _ _).alloc (Nat.le_refl _) _).alloc (by simp) _).trans (hb.mono (by simp; omega))⟩

def hullSp (l : List Int) (m t : Nat) : Nat := andNot (low m) (wiTo l (andNot (low m) t) l.length)
def exSp (l : List Int) (m s i : Nat) : Bool := s.testBit i && !(hullSp l m (andNot s (p2 i))).testBit i
def exR (n : Int) (l : List Int) (x : Int) : Int := if okSet n l x then (itemsOf (exSp l n.toNat x.toNat) n.toNat : Int) else 0
theorem exR_no {n : Int} {l : List Int} {x : Int} (h : okSet n l x = false) : exR n l x = 0 := by simp [exR, h]
theorem exR_yes {n : Int} {l : List Int} {x : Int} (h : okSet n l x = true) : exR n l x = (itemsOf (exSp l n.toNat x.toNat) n.toNat : Int) := by simp [exR, h]

theorem implExtremeOf_c (n : Int) (v : Value) (l : List Int) (x : Int) (w : World) (hl : ints w.heap.size w v l) (hlen : l.length < 1000000000) :
    Calls Try.prog 7 #[.agg #[.int .i64 n, v], .int .i64 x] w fun e w' => e = .returned (.tuple #[.int .i64 (exR n l x), .bool (okSet n l x)]) ∧ Below w.heap.size w w' := by
  have HL := hide ((hl.alloc (.cells #[.int .i64 n, v] 28)).mono (show w.heap.size ≤ (w.alloc (.cells #[.int .i64 n, v] 28)).heap.size by simp))
  clear hl
  have H0 := hide ((Below.refl w.heap.size w).alloc (Nat.le_refl _) (.cells #[.int .i64 n, v] 28))
  have key : ∀ (N : Nat) (F : Nat → Bool) (S : Nat) (b : Bool), famVal2 n l x = .tuple #[.agg (fam (N : Int) F), .int .i64 (S : Int), .bool b] → N ≤ 7 → S < 128 → exR n l x = (itemsOf (exP F N S) N : Int) → okSet n l x = b →
      Calls Try.prog 7 #[.agg #[.int .i64 n, v], .int .i64 x] w fun e w' => e = .returned (.tuple #[.int .i64 (exR n l x), .bool (okSet n l x)]) ∧ Below w.heap.size w w' := by
    intro N F S b hv hN7 hS7 hr hb0
    have HV := hide hv
    have HR := hide hr
    have HO := hide hb0
    clear hv hr hb0
    go_enter Try.func7, Try.ntmps7
    go_wp2_with (first
      | (go_at_call 14; refine (familyAndSet_c n v l x _ HL.out hlen).mono ?_; rw [HV.out]; rintro e w1 ⟨rfl, hb⟩; have hz := hb.size; simp at hz; have hh := (famAt.new 39 w1 0 noSet).row N F; have HB := hide (bl_row ((H0.out.trans (hb.mono (by simp))).alloc (by omega) (.cells (fam 0 noSet) 39)) (show w.heap.size ≤ w1.heap.size by omega) (fam N F)); clear hb)
      | (refine wpList_alloc_fam zeroT rfl rfl _ (by first | (simp only [World.size_alloc]; rfl) | rfl) ?_)
      | (refine wpList_store_fam sizeT rfl (.tmp _) (.tmp _) rfl _ _ _ rfl rfl _ _ (famAt.new _ _ _ _) ?_)
      | (refine wpList_load_fam rowT sizeT rfl (.tmp _) rfl _ rfl N F hh ?_)
      | (go_at_call 15; refine (extreme_c N F S _ hN7 hS7).mono ?_; rintro e w3 ⟨rfl, hb3⟩))
    go_ret2
    exact ⟨by rw [HR.out, HO.out]; rfl, HB.out.trans (hb3.mono (by simp [World.setRow]; omega))⟩
  cases hok : okSet n l x
  · rw [← hok]
    exact key 0 noSet 0 false (famVal2_no n l x hok) (by omega) (by omega) (by rw [exR_no hok]; rfl) hok
  · obtain ⟨hi0, hi1⟩ := okSet_in hok
    obtain ⟨hn1, hn2⟩ := okSp_n (okSet_sp hok)
    obtain ⟨m, rfl⟩ := Int.eq_ofNat_of_zero_le (show 0 ≤ n by omega)
    obtain ⟨s, rfl⟩ := Int.eq_ofNat_of_zero_le hi0
    rw [Int.toNat_natCast] at hi1
    have hlo := low_lt m (by omega)
    rw [← hok]
    refine key m _ s true (famVal2_yes m l s hok) (by omega) (by omega) ?_ hok
    rw [exR_yes hok, Int.toNat_natCast, Int.toNat_natCast]
    congr 1
    refine itemsOf_congr m fun i _ => ?_
    have hw := wi_same (okSet_sp hok) (andNot (low m) (andNot s (p2 i)))
    rw [Int.toNat_natCast] at hw
    unfold exSp exP hullSp hullOf
    rw [hw]

set_option maxHeartbeats 1500000 in
theorem specExtremeOf_c (n : Int) (v : Value) (l : List Int) (x : Int) (w : World) (hl : ints w.heap.size w v l) (hlen : l.length < 1000000000) :
    Calls Try.prog 5 #[.agg #[.int .i64 n, v], .int .i64 x] w fun e w' => e = .returned (.tuple #[.int .i64 (exR n l x), .bool (okSet n l x)]) ∧ Below w.heap.size w w' := by
  have HL := hide ((hl.alloc (.cells #[.int .i64 n, v] 28)).mono (show w.heap.size ≤ (w.alloc (.cells #[.int .i64 n, v] 28)).heap.size by simp))
  clear hl
  cases hok : okSet n l x
  · have HR := hide (exR_no hok)
    have HK := hide hok
    clear hok
    go_enter Try.func5, Try.ntmps5
    go_wp2_with (go_at_call 10; refine (spSet_c n v l x _ HL.out hlen).mono ?_; rw [HK.out]; rintro e w' ⟨rfl, hb⟩)
    go_ret2
    exact ⟨by rw [HR.out]; rfl, ((Below.refl _ _).alloc (Nat.le_refl _) _).trans (hb.mono (by simp))⟩
  · obtain ⟨hi0, hi1⟩ := okSet_in hok
    obtain ⟨hn1, hn2⟩ := okSp_n (okSet_sp hok)
    obtain ⟨m, rfl⟩ := Int.eq_ofNat_of_zero_le (show 0 ≤ n by omega)
    obtain ⟨s, rfl⟩ := Int.eq_ofNat_of_zero_le hi0
    rw [Int.toNat_natCast] at hi1
    have hm7 : m ≤ 7 := by omega
    have hlo := low_lt m hm7
    have hs128 : s < 128 := by omega
    have HP := hide (fun j (hj : j < l.length) => show 0 ≤ l[j]?.getD 0 ∧ l[j]?.getD 0 < 128 by have := okSp_pos (okSet_sp hok) j hj; rw [Int.toNat_natCast] at this; omega)
    have HR := hide (exR_yes hok)
    have HK := hide hok
    clear hok
    go_enter Try.func5, Try.ntmps5
    go_wp2_with (go_at_call 10; refine (spSet_c m v l s _ HL.out hlen).mono ?_; rw [HK.out]; rintro e w1 ⟨rfl, hb⟩; have hz := hb.size; simp at hz; have c0 : w1.cell? ⟨w.heap.size, 0, none⟩ = some (.int .i64 (m : Int)) := (by (rw [hb.cell (p := ⟨w.heap.size, 0, none⟩) (by simp)]; simp)); have c1 : w1.cell? ⟨w.heap.size, 1, none⟩ = some v := (by (rw [hb.cell (p := ⟨w.heap.size, 1, none⟩) (by simp)]; simp)); have HL1 := hide ((HL.out.below hb (Nat.le_refl _)).mono hb.size); have HB1 := hide (((Below.refl w.heap.size w).alloc (Nat.le_refl _) (.cells #[.int .i64 (m : Int), v] 28)).trans (hb.mono (by simp))); clear hb)
    go_loopw [6, 7] (fun o i wr => ∃ k : Nat, k ≤ m ∧ i = .int .i64 k ∧ o = .int .i64 (orTo (fun i => if exSp l m s i then p2 i else 0) k : Int) ∧ Below w1.heap.size w1 wr) (fun _ i _ => m - (intOf i).toNat)
    case atStart => exact ⟨0, by omega, rfl, rfl, Below.refl _ _⟩
    case round =>
      obtain ⟨k, hk, rfl, rfl, hb⟩ := hrel
      have hlt : orTo (fun i => if exSp l m s i then p2 i else 0) k < 2 ^ k := itemsOf_lt (exSp l m s) k
      have hlt7 := p2_le k 7 (by omega)
      have hq128 : orTo (fun i => if exSp l m s i then p2 i else 0) k < 128 := by omega
      have HG := hide (show orTo (fun i => if exSp l m s i then p2 i else 0) (k + 1) = orTo (fun i => if exSp l m s i then p2 i else 0) k ||| (if exSp l m s k then p2 k else 0) from rfl)
      have HE := hide (show k = m → itemsOf (exSp l m s) m = orTo (fun i => if exSp l m s i then p2 i else 0) k from fun h => by subst h; rfl)
      clear hlt hlt7
      generalize orTo (fun i => if exSp l m s i then p2 i else 0) k = q at hq128 HG HE ⊢
      have hszr := hb.size
      have d0 : wr.cell? ⟨w.heap.size, 0, none⟩ = some (.int .i64 (m : Int)) := (hb.cell (p := ⟨w.heap.size, 0, none⟩) (by show w.heap.size < _; omega)).trans c0
      have D0 := hide (fun w' (h : Below wr.heap.size wr w') => (h.cell (p := ⟨w.heap.size, 0, none⟩) (by show w.heap.size < _; omega)).trans d0)
      have D1 := hide (fun w' (h : Below wr.heap.size wr w') => ((h.cell (p := ⟨w.heap.size, 1, none⟩) (by show w.heap.size < _; omega)).trans (hb.cell (p := ⟨w.heap.size, 1, none⟩) (by show w.heap.size < _; omega))).trans c1)
      have HLW := hide ((HL1.out.below hb (Nat.le_refl _)).mono hszr)
      have HB := hide hb
      clear hb
      by_cases h7 : k < m
      · have hp := wrap_p2 k (by omega)
        have hp2 : IntKind.i64.wrap (2 ^ k) = (p2 k : Int) := by rw [IntWalk.i64_left]; exact hp
        have hpl := p2_lt128 k (by omega)
        have han := i64_andNot s (p2 k) (by omega)
        have ha128 := andNot_lt128 s (p2 k) hs128
        have hh128 : hullSp l m (andNot s (p2 k)) < 128 := andNot_lt128 _ _ hlo
        have ho := i64_or q (p2 k) (by omega) (by omega)
        cases hb2 : s.testBit k
        · have HT := hide hb2
          clear hb2
          go_wp2_with fail
          refine wp_region_old (by kernel_rfl) (by kernel_rfl) ?_
          go_big_quiet_step ((first | exact fun _ => rfl | exact fun _ => ⟨rfl, rfl⟩))
          go_big_quiet_step ((first | exact fun _ => rfl | exact fun _ => ⟨rfl, rfl⟩))
          refine q_pure rfl 11 ent_spInX _ _ rfl #[.int .i64 (s : Int), .int .i64 (k : Int)] rfl (.bool false) (fun w' _ => by have := spIn_c s k w' (by omega) (by omega) (by omega) (by omega); rw [Int.toNat_natCast, Int.toNat_natCast, HT.out] at this; exact this) ?_
          simp only [Act.put, List.setIfInBounds_toArray, List.set_cons_zero, List.set_cons_succ]
          repeat (go_big_quiet_step ((first | exact fun _ => rfl | exact fun _ => ⟨rfl, rfl⟩)))
          refine wpQuiet_nil ?_
          intro w2 hb2
          have HW2 := hide (HB.out.trans (hb2.mono hszr))
          clear hb2 d0
          go_wp2
          go_roundw
          case rel => exact ⟨k + 1, by omega, by go_num, by rw [HG.out]; simp [exSp, HT.out], HW2.out⟩
          case measure => simp [intOf]; omega
        · have HT := hide hb2
          clear hb2
          cases hv : (hullSp l m (andNot s (p2 k))).testBit k
          all_goals
            have HV := hide hv
            clear hv
            go_wp2_with fail
            refine wp_region_old (by kernel_rfl) (by kernel_rfl) ?_
            go_big_quiet_step ((first | exact fun _ => rfl | exact fun _ => ⟨rfl, rfl⟩))
            go_big_quiet_step ((first | exact fun _ => rfl | exact fun _ => ⟨rfl, rfl⟩))
            refine q_pure rfl 11 ent_spInX _ _ rfl #[.int .i64 (s : Int), .int .i64 (k : Int)] rfl (.bool true) (fun w' _ => by have := spIn_c s k w' (by omega) (by omega) (by omega) (by omega); rw [Int.toNat_natCast, Int.toNat_natCast, HT.out] at this; exact this) ?_
            simp only [Act.put, List.setIfInBounds_toArray, List.set_cons_zero, List.set_cons_succ]
            go_big_quiet_step ((first | exact fun _ => rfl | exact fun _ => ⟨rfl, rfl⟩))
            refine q_load_two rowSp sizeSp rfl (.tmp _) rfl _ rfl _ _ D0.out D1.out ?_
            simp only [Act.put, List.setIfInBounds_toArray, List.set_cons_zero, List.set_cons_succ]
            go_big_quiet_step ((first | exact fun _ => rfl | exact fun _ => ⟨rfl, rfl⟩))
            go_big_quiet_step ((first | exact fun _ => rfl | exact fun _ => ⟨rfl, rfl⟩))
            go_big_quiet_step ((first | exact fun _ => rfl | exact fun _ => ⟨rfl, rfl⟩))
            go_big_quiet_step ((first | exact fun _ => rfl | exact fun _ => ⟨rfl, rfl⟩))
            refine q_below rfl 12 ent_spHull _ _ rfl #[.agg #[.int .i64 (m : Int), v], .int .i64 ((andNot s (p2 k) : Nat) : Int)] rfl (.int .i64 (hullSp l m (andNot s (p2 k)) : Int)) (fun w' hb => spHull_c m v l (andNot s (p2 k)) w' ((HLW.out.below hb (Nat.le_refl _)).mono hb.size) hlen HP.out hm7) ?_
            simp only [Act.put, List.setIfInBounds_toArray, List.set_cons_zero, List.set_cons_succ]
            go_big_quiet_step ((first | exact fun _ => rfl | exact fun _ => ⟨rfl, rfl⟩))
            refine q_pure rfl 11 ent_spInX _ _ rfl #[.int .i64 (hullSp l m (andNot s (p2 k)) : Int), .int .i64 (k : Int)] rfl (.bool _) (fun w' _ => by have := spIn_c (hullSp l m (andNot s (p2 k))) k w' (by omega) (by omega) (by omega) (by omega); rw [Int.toNat_natCast, Int.toNat_natCast, HV.out] at this; exact this) ?_
            simp only [Act.put, List.setIfInBounds_toArray, List.set_cons_zero, List.set_cons_succ]
            repeat (go_big_quiet_step ((first | exact fun _ => rfl | exact fun _ => ⟨rfl, rfl⟩)))
            refine wpQuiet_nil ?_
            intro w2 hb2
            have HW2 := hide (HB.out.trans (hb2.mono hszr))
            clear hb2 d0
            go_wp2
            go_roundw
            case rel => exact ⟨k + 1, by omega, by go_num, by rw [HG.out]; simp [exSp, HT.out, HV.out], HW2.out⟩
            case measure => simp [intOf]; omega
      · have HK2 := hide (show k = m by omega)
        have h7' : ¬ ((k : Int) < (m : Int)) := by omega
        clear HG h7
        go_wp2
        go_ret2
        exact ⟨by rw [HR.out, Int.toNat_natCast, Int.toNat_natCast, HE.out HK2.out]; rfl, HB1.out.trans (HB.out.mono (by omega))⟩
end Go.Proofs.Ytcdledapadnpnaa
