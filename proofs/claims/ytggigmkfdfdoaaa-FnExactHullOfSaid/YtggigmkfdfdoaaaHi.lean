/- Contracts: hulls, the program's. -/
import Derived.Test.YtggigmkfdfdoaaaHu
namespace Go.Proofs.Ytggigmkfdfdoaaa
open Go.RowKit
set_option maxRecDepth 100000
attribute [local irreducible] p2 low memB risB
theorem ent_full : enters Try.prog 21 := enters_of Try.func21 (by kernel_rfl) (by kernel_rfl)
theorem ent_greatestWithin : enters Try.prog 22 := enters_of Try.func22 (by kernel_rfl) (by kernel_rfl)
theorem q_below {P : Program} {ops : Array Oper} {rest : List Oper} {o : Oper} {a : Act} {Q : Act → Prop} {w : World} (hw : Region.wanted o (yielded ops a.tmps) = true) (k : FuncId) (hk : enters P k) (xs : Array Operand) (ts : Array TypeId)
    (ho : o.op = .call { callee := .value (.func k), args := xs, argTypes := ts }) (args : Array Value) (hal : xs.toList.map a.eval = args.toList) (v : Value)
    (hc : ∀ w', Below w.heap.size w w' → Calls P k args w' fun e w'' => e = .returned v ∧ Below w'.heap.size w' w'')
    (h : wpQuiet P ops (fun w' => Below w.heap.size w w') Q rest (a.put o.dst v)) : wpQuiet P ops (fun w' => Below w.heap.size w w') Q (o :: rest) a :=
  q_call hw k hk xs ts ho args (Array.toList_inj.1 (by simpa using hal)) v hc h

def hullOf (F : Nat → Bool) (n s : Nat) : Nat := andNot (low n) (withinOf F n (andNot (low n) s))

set_option maxHeartbeats 600000 in
theorem hull_c (m : Nat) (F : Nat → Bool) (s : Nat) (w : World) (hm7 : m ≤ 7) :
    Calls Try.prog 14 #[.agg (fam (m : Int) F), .int .i64 (s : Int)] w fun e w' => e = .returned (.int .i64 (hullOf F m s : Int)) ∧ Below w.heap.size w w' := by
  have hlo := low_lt m hm7
  have han := i64_andNot (low m) s (by omega)
  have han2 := i64_andNot (low m) (withinOf F m (andNot (low m) s)) (by omega)
  have hf : ∀ w', Below (w.alloc (.cells (fam (m : Int) F) 38)).heap.size (w.alloc (.cells (fam (m : Int) F) 38)) w' → famAt 38 w' w.heap.size (m : Int) F := fun w' h => (famAt.new _ _ _ _).below h (by simp)
  have HF := hide hf
  clear hf
  go_enter Try.func14, Try.ntmps14
  go_wp2_with fail
  refine wp_region_old (by kernel_rfl) (by kernel_rfl) ?_
  refine q_load_fam rowT sizeT rfl (.tmp _) rfl _ rfl (m : Int) F HF.out ?_
  simp only [Act.put, List.setIfInBounds_toArray, List.set_cons_zero, List.set_cons_succ]
  refine q_below rfl 21 ent_full _ _ rfl #[.agg (fam (m : Int) F)] rfl (.int .i64 (low m : Int)) (fun w' _ => by have := full_c (m : Int) F w' (by omega) (by omega); rw [Int.toNat_natCast] at this; exact this) ?_
  simp only [Act.put, List.setIfInBounds_toArray, List.set_cons_zero, List.set_cons_succ]
  refine q_load_fam rowT sizeT rfl (.tmp _) rfl _ rfl (m : Int) F HF.out ?_
  simp only [Act.put, List.setIfInBounds_toArray, List.set_cons_zero, List.set_cons_succ]
  refine q_load_fam rowT sizeT rfl (.tmp _) rfl _ rfl (m : Int) F HF.out ?_
  simp only [Act.put, List.setIfInBounds_toArray, List.set_cons_zero, List.set_cons_succ]
  refine q_below rfl 21 ent_full _ _ rfl #[.agg (fam (m : Int) F)] rfl (.int .i64 (low m : Int)) (fun w' _ => by have := full_c (m : Int) F w' (by omega) (by omega); rw [Int.toNat_natCast] at this; exact this) ?_
  simp only [Act.put, List.setIfInBounds_toArray, List.set_cons_zero, List.set_cons_succ]
  go_big_quiet_step ((first | exact fun _ => rfl | exact fun _ => ⟨rfl, rfl⟩))
  go_big_quiet_step ((first | exact fun _ => rfl | exact fun _ => ⟨rfl, rfl⟩))
  refine q_below rfl 22 ent_greatestWithin _ _ rfl #[.agg (fam (m : Int) F), .int .i64 ((andNot (low m) s : Nat) : Int)] rfl (.int .i64 (withinOf F m (andNot (low m) s) : Int)) (fun w' _ => by have := greatestWithin_c (m : Int) F ((andNot (low m) s : Nat) : Int) w' (by omega) (by omega) (by omega); rw [Int.toNat_natCast, Int.toNat_natCast] at this; exact this) ?_
  simp only [Act.put, List.setIfInBounds_toArray, List.set_cons_zero, List.set_cons_succ]
  go_big_quiet_step ((first | exact fun _ => rfl | exact fun _ => ⟨rfl, rfl⟩))
  go_big_quiet_step ((first | exact fun _ => rfl | exact fun _ => ⟨rfl, rfl⟩))
  refine wpQuiet_nil ?_
  intro w2 hb2
  go_wp2
  go_ret
  exact ⟨rfl, ((Below.refl _ _).alloc (Nat.le_refl _) _).trans (hb2.mono (by simp))⟩

theorem implHullOf_c (n : Int) (v : Value) (l : List Int) (x : Int) (w : World) (hl : ints w.heap.size w v l) (hlen : l.length < 1000000000) :
    Calls Try.prog 7 #[.agg #[.int .i64 n, v], .int .i64 x] w fun e w' => e = .returned (.tuple #[.int .i64 (hullR n l x), .bool (okSet n l x)]) ∧ Below w.heap.size w w' := by
  have HL := hide ((hl.alloc (.cells #[.int .i64 n, v] 28)).mono (show w.heap.size ≤ (w.alloc (.cells #[.int .i64 n, v] 28)).heap.size by simp))
  clear hl
  have H0 := hide ((Below.refl w.heap.size w).alloc (Nat.le_refl _) (.cells #[.int .i64 n, v] 28))
  have key : ∀ (N : Nat) (F : Nat → Bool) (S : Nat) (b : Bool), famVal2 n l x = .tuple #[.agg (fam (N : Int) F), .int .i64 (S : Int), .bool b] → N ≤ 7 → hullR n l x = (hullOf F N S : Int) → okSet n l x = b →
      Calls Try.prog 7 #[.agg #[.int .i64 n, v], .int .i64 x] w fun e w' => e = .returned (.tuple #[.int .i64 (hullR n l x), .bool (okSet n l x)]) ∧ Below w.heap.size w w' := by
    intro N F S b hv hN7 hr hb0
    have HV := hide hv
    have HR := hide hr
    have HO := hide hb0
    clear hv hr hb0
    go_enter Try.func7, Try.ntmps7
    go_wp2_with (first
      | (go_at_call 13; refine (familyAndSet_c n v l x _ HL.out hlen).mono ?_; rw [HV.out]; rintro e w1 ⟨rfl, hb⟩; have hz := hb.size; simp at hz; have hh := (famAt.new 38 w1 0 noSet).row N F; have HB := hide (bl_row ((H0.out.trans (hb.mono (by simp))).alloc (by omega) (.cells (fam 0 noSet) 38)) (show w.heap.size ≤ w1.heap.size by omega) (fam N F)); clear hb)
      | (refine wpList_alloc_fam zeroT rfl rfl _ (by first | (simp only [World.size_alloc]; rfl) | rfl) ?_)
      | (refine wpList_store_fam sizeT rfl (.tmp _) (.tmp _) rfl _ _ _ rfl rfl _ _ (famAt.new _ _ _ _) ?_)
      | (refine wpList_load_fam rowT sizeT rfl (.tmp _) rfl _ rfl N F hh ?_)
      | (go_at_call 14; refine (hull_c N F S _ hN7).mono ?_; rintro e w3 ⟨rfl, hb3⟩))
    go_ret2
    exact ⟨by rw [HR.out, HO.out]; rfl, HB.out.trans (hb3.mono (by simp [World.setRow]; omega))⟩
  cases hok : okSet n l x
  · rw [← hok]
    refine key 0 noSet 0 false (famVal2_no n l x hok) (by omega) (by rw [hullR_no hok]; unfold hullOf; rw [show low 0 = 0 by unfold low; rfl]; rfl) hok
  · obtain ⟨hi0, hi1⟩ := okSet_in hok
    obtain ⟨hn1, hn2⟩ := okSp_n (okSet_sp hok)
    obtain ⟨m, rfl⟩ := Int.eq_ofNat_of_zero_le (show 0 ≤ n by omega)
    obtain ⟨s, rfl⟩ := Int.eq_ofNat_of_zero_le hi0
    rw [← hok]
    refine key m _ s true (famVal2_yes m l s hok) (by omega) ?_ hok
    have hw := wi_same (okSet_sp hok) (andNot (low m) s)
    rw [Int.toNat_natCast] at hw
    rw [hullR_yes hok, Int.toNat_natCast, Int.toNat_natCast, hullOf, hw]
end Go.Proofs.Ytggigmkfdfdoaaa
