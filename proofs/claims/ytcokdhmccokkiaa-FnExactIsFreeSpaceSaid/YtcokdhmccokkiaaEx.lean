/- Contracts: extreme items, the program's and the specification's. -/
import Derived.Test.YtcokdhmccokkiaaHi
namespace Go.Proofs.Ytcokdhmccokkiaa
open Go.RowKit
set_option maxRecDepth 100000
attribute [local irreducible] p2 low memB risB
theorem ent_has : enters Try.prog 94 := enters_of Try.func94 (by kernel_rfl) (by kernel_rfl)
theorem ent_withoutX : enters Try.prog 110 := enters_of Try.func110 (by kernel_rfl) (by kernel_rfl)
theorem ent_hull : enters Try.prog 109 := enters_of Try.func109 (by kernel_rfl) (by kernel_rfl)
theorem ent_extreme1 : enters Try.prog 108 := enters_of Try.func108 (by kernel_rfl) (by kernel_rfl)
theorem ent_spInX : enters Try.prog 69 := enters_of Try.func69 (by kernel_rfl) (by kernel_rfl)
theorem rowIt : (Try.prog.underlying 72).map TypeDesc.isRow = some false := by kernel_rfl
theorem q_load_two {P : Program} {ops : Array Oper} {rest : List Oper} {o : Oper} {a : Act} {C : World → Prop} {Q : Act → Prop} {ty : TypeId} (hT : (P.underlying ty).map TypeDesc.isRow = some true) (hZ : (P.info? ty).map (·.size) = some 2) (hw : Region.wanted o (yielded ops a.tmps) = true) (x : Operand) (ho : o.op = .load ty x)
    (g : Nat) (hx : a.eval x = .pointer (some ⟨g, 0, none⟩)) (u v : Value) (h0 : ∀ w, C w → w.cell? ⟨g, 0, none⟩ = some u) (h1 : ∀ w, C w → w.cell? ⟨g, 1, none⟩ = some v)
    (h : wpQuiet P ops C Q rest (a.put o.dst (.agg #[u, v]))) : wpQuiet P ops C Q (o :: rest) a := by
  obtain ⟨d, hu, hd⟩ := rowTy_of hT
  refine BigFrame.wpQuiet_want hw fun K hK => ⟨_, fun w hC => ?_, hK _ h⟩
  have hr : w.rangeAt g 0 [u, v] := fun j y hy => by
    match j, hy with
    | 0, hy => simp at hy; subst hy; exact h0 w hC
    | 1, hy => simp at hy; subst hy; exact h1 w hC
    | j + 2, hy => simp at hy
  unfold Oper.quietAt execOp
  simp only [ho, hx, Instr.loadAt, Instr.sureAddr, Sem.run_bind, Sem.run_pure, Result.andThen_ok, run_loadVar_mid w g 0 ty [u, v] d hr hu hd (by rw [hZ]; rfl)]
  exact ⟨rfl, rfl⟩

def exP (F : Nat → Bool) (m s i : Nat) : Bool := s.testBit i && !(hullOf F m (andNot s (p2 i))).testBit i
theorem hullOf_lt (F : Nat → Bool) (m s : Nat) (hm : m ≤ 7) : hullOf F m s < 128 := andNot_lt128 _ _ (low_lt m hm)

set_option maxHeartbeats 800000 in
theorem extreme1_c (i : Nat) (m : Nat) (F : Nat → Bool) (s g gs : Nat) (w : World) (hm7 : m ≤ 7) (hi : i < 7) (hs : s < 128) (hf : famAt 58 w g (m : Int) F) (hcs : w.cell? ⟨gs, 0, none⟩ = some (.int .i64 (s : Int))) (hgs : gs < w.heap.size) :
    Calls Try.prog 108 #[.int .i64 (i : Int), .pointer (some ⟨gs, 0, none⟩), .pointer (some ⟨g, 0, none⟩)] w fun e w' => e = .returned (.bool (exP F m s i)) ∧ Below w.heap.size w w' := by
  have hg := hf.lt
  have HF := hide (fun w' (h : Below w.heap.size w w') => hf.below h hg)
  have HC := hide (fun w' (h : Below w.heap.size w w') => (h.cell (p := ⟨gs, 0, none⟩) hgs).trans hcs)
  have ha128 := andNot_lt128 s (p2 i) hs
  have hh128 := hullOf_lt F m (andNot s (p2 i)) hm7
  clear hf hcs hg
  cases hb : s.testBit i
  · have HT := hide hb
    clear hb
    go_enter Try.func108, Try.ntmps108
    go_wp2_with fail
    refine wp_region_old (by kernel_rfl) (by kernel_rfl) ?_
    refine q_load_cell rowIt rfl (.tmp _) rfl _ rfl (.int .i64 (s : Int)) HC.out ?_
    simp only [Act.put, List.setIfInBounds_toArray, List.set_cons_zero, List.set_cons_succ]
    go_big_quiet_step ((first | exact fun _ => rfl | exact fun _ => ⟨rfl, rfl⟩))
    refine q_pure rfl 94 ent_has _ _ rfl #[.int .i64 (s : Int), .int .i64 (i : Int)] rfl (.bool false) (fun w' _ => by have := has_c s i w' (by omega) (by omega) (by omega) (by omega); rw [Int.toNat_natCast, Int.toNat_natCast, HT.out] at this; exact this) ?_
    simp only [Act.put, List.setIfInBounds_toArray, List.set_cons_zero, List.set_cons_succ]
    repeat (go_big_quiet_step ((first | exact fun _ => rfl | exact fun _ => ⟨rfl, rfl⟩)))
    refine wpQuiet_nil ?_
    intro w2 hb2
    go_wp2
    go_ret
    exact ⟨ret_b (by simp [exP, HT.out]), hb2⟩
  · have HT := hide hb
    clear hb
    cases hv : (hullOf F m (andNot s (p2 i))).testBit i
    all_goals
      have HV := hide hv
      clear hv
      go_enter Try.func108, Try.ntmps108
      go_wp2_with fail
      refine wp_region_old (by kernel_rfl) (by kernel_rfl) ?_
      refine q_load_cell rowIt rfl (.tmp _) rfl _ rfl (.int .i64 (s : Int)) HC.out ?_
      simp only [Act.put, List.setIfInBounds_toArray, List.set_cons_zero, List.set_cons_succ]
      go_big_quiet_step ((first | exact fun _ => rfl | exact fun _ => ⟨rfl, rfl⟩))
      refine q_pure rfl 94 ent_has _ _ rfl #[.int .i64 (s : Int), .int .i64 (i : Int)] rfl (.bool true) (fun w' _ => by have := has_c s i w' (by omega) (by omega) (by omega) (by omega); rw [Int.toNat_natCast, Int.toNat_natCast, HT.out] at this; exact this) ?_
      simp only [Act.put, List.setIfInBounds_toArray, List.set_cons_zero, List.set_cons_succ]
      go_big_quiet_step ((first | exact fun _ => rfl | exact fun _ => ⟨rfl, rfl⟩))
      refine q_load_fam rowT sizeT rfl (.tmp _) rfl _ rfl (m : Int) F HF.out ?_
      simp only [Act.put, List.setIfInBounds_toArray, List.set_cons_zero, List.set_cons_succ]
      refine q_load_cell rowIt rfl (.tmp _) rfl _ rfl (.int .i64 (s : Int)) HC.out ?_
      simp only [Act.put, List.setIfInBounds_toArray, List.set_cons_zero, List.set_cons_succ]
      go_big_quiet_step ((first | exact fun _ => rfl | exact fun _ => ⟨rfl, rfl⟩))
      refine q_pure rfl 110 ent_withoutX _ _ rfl #[.int .i64 (s : Int), .int .i64 (i : Int)] rfl (.int .i64 ((andNot s (p2 i) : Nat) : Int)) (fun w' _ => by have := without_c s i w' (by omega) (by omega) (by omega) (by omega); rw [Int.toNat_natCast, Int.toNat_natCast] at this; exact this) ?_
      simp only [Act.put, List.setIfInBounds_toArray, List.set_cons_zero, List.set_cons_succ]
      refine q_below rfl 109 ent_hull _ _ rfl #[.agg (fam (m : Int) F), .int .i64 ((andNot s (p2 i) : Nat) : Int)] rfl (.int .i64 (hullOf F m (andNot s (p2 i)) : Int)) (fun w' _ => hull_c m F _ w' hm7) ?_
      simp only [Act.put, List.setIfInBounds_toArray, List.set_cons_zero, List.set_cons_succ]
      go_big_quiet_step ((first | exact fun _ => rfl | exact fun _ => ⟨rfl, rfl⟩))
      refine q_pure rfl 94 ent_has _ _ rfl #[.int .i64 (hullOf F m (andNot s (p2 i)) : Int), .int .i64 (i : Int)] rfl (.bool _) (fun w' _ => by have := has_c (hullOf F m (andNot s (p2 i))) i w' (by omega) (by omega) (by omega) (by omega); rw [Int.toNat_natCast, Int.toNat_natCast, HV.out] at this; exact this) ?_
      simp only [Act.put, List.setIfInBounds_toArray, List.set_cons_zero, List.set_cons_succ]
      repeat (go_big_quiet_step ((first | exact fun _ => rfl | exact fun _ => ⟨rfl, rfl⟩)))
      refine wpQuiet_nil ?_
      intro w2 hb2
      go_wp2
      go_ret
      exact ⟨ret_b (by simp [exP, HT.out, HV.out]), hb2⟩

theorem extreme_c (m : Nat) (F : Nat → Bool) (s : Nat) (w : World) (hm7 : m ≤ 7) (hs : s < 128) :
    Calls Try.prog 88 #[.agg (fam (m : Int) F), .int .i64 (s : Int)] w fun e w' => e = .returned (.int .i64 (itemsOf (exP F m s) m : Int)) ∧ Below w.heap.size w w' := by
  go_enter Try.func88, Try.ntmps88
  go_wp2_with fail
  refine (itemsWhere_c (m : Int) 108 #[.pointer (some ⟨w.heap.size + 1, 0, none⟩), .pointer (some ⟨w.heap.size, 0, none⟩)] _ (exP F m s) ent_extreme1 (by omega) (by omega) ?h1).mono ?_
  case h1 =>
    intro i w1 hi0 hi hb
    obtain ⟨i, rfl⟩ := Int.eq_ofNat_of_zero_le hi0
    have hz := hb.size
    simp at hz
    refine extreme1_c i m F s w.heap.size (w.heap.size + 1) w1 hm7 (by omega) hs ?_ ?_ (by omega)
    · exact ((famAt.new _ w _ F).alloc _).below hb (by simp; omega)
    · rw [hb.cell (p := ⟨w.heap.size + 1, 0, none⟩) (by simp)]; simp [go_sem]
  rintro e w' ⟨rfl, hb⟩
  rw [Int.toNat_natCast]
  go_wp2
  go_ret
  exact ⟨rfl, (((Below.refl _ _).alloc (Nat.le_refl _) _).alloc (by simp) _).trans (hb.mono (by simp; omega))⟩

def hullSp (l : List Int) (m t : Nat) : Nat := andNot (low m) (wiTo l (andNot (low m) t) l.length)
def exSp (l : List Int) (m s i : Nat) : Bool := s.testBit i && !(hullSp l m (andNot s (p2 i))).testBit i
def exR (n : Int) (l : List Int) (x : Int) : Int := if okSet n l x then (itemsOf (exSp l n.toNat x.toNat) n.toNat : Int) else 0
theorem exR_no {n : Int} {l : List Int} {x : Int} (h : okSet n l x = false) : exR n l x = 0 := by simp [exR, h]
theorem exR_yes {n : Int} {l : List Int} {x : Int} (h : okSet n l x = true) : exR n l x = (itemsOf (exSp l n.toNat x.toNat) n.toNat : Int) := by simp [exR, h]

end Go.Proofs.Ytcokdhmccokkiaa
