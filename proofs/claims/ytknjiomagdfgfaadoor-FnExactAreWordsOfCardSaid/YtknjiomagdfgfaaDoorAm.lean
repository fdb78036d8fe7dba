/- Contracts: the program's taking of full words out of a set of lists. -/
import Derived.Test.YtknjiomagdfgfaaDoorAl
import Derived.Test.YtknjiomagdfgfaaDoorRm
namespace Go.Proofs.YtknjiomagdfgfaaDoor
open Go.RowKit
open Go.WideMaps
set_option maxRecDepth 100000
set_option linter.unusedSimpArgs false
theorem plainElem_bool_inv {v : Value} {z : DataW Unit × List MemPlace} (h : plainElem Tryd.prog 4 v = some z) : ∃ c, v = .bool c := by
  unfold plainElem at h
  rw [boolU] at h
  cases v <;> simp at h
  exact ⟨_, rfl⟩
theorem ent_isFullA : enters Tryd.prog 59 := enters_of Tryd.func59 (by kernel_rfl) (by kernel_rfl)
/-- Whether the first n of seven numbers are a full word. -/
def fw (F : Nat → Bool) (n : Nat) (l : List Int) : Bool := decide ((l.take n).length = n) && wordB F n (l.take n)
/-- What the map keeps: what it had, but for the full words that have come. -/
def Kept (F : Nat → Bool) (n : Nat) (D0 D : DataW Unit) (left : Lit → Bool) : Prop := ∀ l : List Int, l.length = 7 → i64s l → Maps.has D (kk l) = (Maps.has D0 (kk l) && (!fw F n l || left (kk l)))
theorem kept_start (F : Nat → Bool) (n : Nat) (D0 : DataW Unit) : Kept F n D0 D0 (Maps.has D0) := fun l _ _ => by
  cases Maps.has D0 (kk l) <;> simp
theorem same_kk {l m : List Int} (hl : l.length = 7) (hwl : i64s l) (hm : m.length = 7) (hwm : i64s m) : (kk m).sameKey (kk l) = decide (l = m) := by
  by_cases h : l = m
  · subst h
    rw [decide_eq_true rfl]
    simp [kk, Lit.sameKey]
  · rw [decide_eq_false h]
    exact Maps.sameKey_ne fun e => h (kk_inj hl hwl hm hwm e.symm)
theorem kept_not {F : Nat → Bool} {n : Nat} {D0 D : DataW Unit} {left : Lit → Bool} {m : List Int} (h : Kept F n D0 D left) (hm : m.length = 7) (hwm : i64s m) (hf : fw F n m = false) : Kept F n D0 D (fun z => left z && !z.sameKey (kk m)) := fun l hl hwl => by
  rw [h l hl hwl]
  show (Maps.has D0 (kk l) && (!fw F n l || left (kk l))) = (Maps.has D0 (kk l) && (!fw F n l || (left (kk l) && !(kk l).sameKey (kk m))))
  rw [same_kk hm hwm hl hwl]
  by_cases e : m = l
  · subst e; rw [hf]; simp
  · rw [decide_eq_false e]; simp
theorem kept_yes {F : Nat → Bool} {n : Nat} {D0 D : DataW Unit} {left : Lit → Bool} {m : List Int} (h : Kept F n D0 D left) (hm : m.length = 7) (hwm : i64s m) (hf : fw F n m = true) : Kept F n D0 (D.del (kk m)) (fun z => left z && !z.sameKey (kk m)) := fun l hl hwl => by
  show Maps.has (D.del (kk m)) (kk l) = (Maps.has D0 (kk l) && (!fw F n l || (left (kk l) && !(kk l).sameKey (kk m))))
  rw [same_kk hm hwm hl hwl]
  by_cases e : m = l
  · subst e; rw [Maps.has_del_same, hf]; simp
  · rw [Maps.has_del_other fun e2 => e (kk_inj hm hwm hl hwl e2.symm), h l hl hwl, decide_eq_false e]; simp
theorem kept_end {F : Nat → Bool} {n : Nat} {D0 D : DataW Unit} {left : Lit → Bool} (h : Kept F n D0 D left) (hl0 : ∀ z, left z = false) (l : List Int) (hl : l.length = 7) (hw : i64s l) : Maps.has D (kk l) = (Maps.has D0 (kk l) && !fw F n l) := by
  rw [h l hl hw, hl0, Bool.or_false]
theorem blk_ints {w : World} {g : Nat} {l : List Int} (h : blk 102 w g l) (n : Nat) (hn : n ≤ l.length) (c : Nat) : ints w.heap.size w (.slice (some ⟨g, 0, none⟩) n c) (l.take n) := by
  refine .inr ⟨g, 0, c, by rw [List.length_take, Nat.min_eq_left hn], hp_lt h, hp_lt h, fun j hj => ?_⟩
  rw [List.length_take] at hj
  have := h.cell j (by omega)
  rw [List.getElem?_take, if_pos (by omega), Nat.zero_add]
  exact this
attribute [local irreducible] p2 low memB risB
theorem q_callA {P : Program} {ops : Array Oper} {rest : List Oper} {o : Oper} {a : Act} {w : World} {Q : Act → Prop} (hw : Region.wanted o (yielded ops a.tmps) = true) (k : FuncId) (hk : enters P k) (xs : Array Operand) (ts : Array TypeId)
    (ho : o.op = .call { callee := .value (.func k), args := xs, argTypes := ts }) (args : Array Value) (hal : xs.toList.map a.eval = args.toList) (v : Value)
    (hc : ∀ w', Below w.heap.size w w' → Calls P k args w' fun e w'' => e = .returned v ∧ Below w'.heap.size w' w'')
    (h : wpQuiet P ops (fun w' => Below w.heap.size w w') Q rest (a.put o.dst v)) : wpQuiet P ops (fun w' => Below w.heap.size w w') Q (o :: rest) a :=
  q_call hw k hk xs ts ho args (Array.toList_inj.1 (by simpa using hal)) v hc h
theorem len7A : Tryd.prog.arrayLen 102 = 7 := by kernel_rfl
theorem slice7_run (g n : Nat) (hn : n ≤ 7) (w : World) : (Instr.sliceAt 102 (.pointer (some ⟨g, 0, none⟩)) none (some (.int .i64 (n : Int))) none).run Tryd.prog w = .ok (.slice (some ⟨g, 0, none⟩) n 7) w := by
  have hA : Tryd.prog.underlying 102 = some (.array (Tryd.prog.arrayLen 102) (Tryd.prog.elem 102)) := by kernel_rfl
  have he : Tryd.prog.elem 102 = 3 := by kernel_rfl
  have hs : (sizeOf 3).run Tryd.prog w = .ok 1 w := by
    have hI := intS
    cases hq : Tryd.prog.info? 3 with
    | none => simp [hq] at hI
    | some j =>
      have : j.size = 1 := by simpa [hq] using hI
      simp [sizeOf, typeInfo, hq, this]
  rw [run_sliceAt_array_h w 102 ⟨g, 0, none⟩ hA .i64 (n : Int) (by omega) (by rw [len7A]; omega), he, hs]
  simp [slicedAt, len7A, Addr.add]
theorem q_slice7 {ops : Array Oper} {rest : List Oper} {o : Oper} {a : Act} {C : World → Prop} {Q : Act → Prop} (hw : Region.wanted o (yielded ops a.tmps) = true) (x y : Operand) (ho : o.op = .slice 102 x none (some y) none)
    (g n : Nat) (hx : a.eval x = .pointer (some ⟨g, 0, none⟩)) (hy : a.eval y = .int .i64 (n : Int)) (hn : n ≤ 7) (h : wpQuiet Tryd.prog ops C Q rest (a.put o.dst (.slice (some ⟨g, 0, none⟩) n 7))) : wpQuiet Tryd.prog ops C Q (o :: rest) a := by
  refine BigFrame.wpQuiet_want hw fun K hK => ⟨_, fun w hC => ?_, hK _ h⟩
  unfold Oper.quietAt execOp
  simp only [ho, hx, hy, Option.map_some, Option.map_none, Sem.run_bind, Sem.run_pure, slice7_run g n hn w, Result.andThen_ok]
  exact ⟨rfl, rfl⟩
def rangesW (w : World) (b r N : Nat) (D : DataW Unit) (left : Lit → Bool) (cnt : Nat) : Prop := w.ranges Tryd.prog 102 (plainElem Tryd.prog 4) b r N D left cnt
set_option maxHeartbeats 2000000 in
theorem takeFullWords_c (n : Nat) (F : Nat → Bool) (b N B : Nat) (D0 : DataW Unit) (w : World) (hD : ownsW w b N D0) (h7 : n ≤ 7) (hN : N ≤ 1000) (hB : B ≤ b) :
    Calls Tryd.prog 64 #[.agg (fam (n : Int) F), .map (some b)] w fun e w' => ∃ (t : Nat) (D : DataW Unit), e = .returned (.int .i64 (t : Int)) ∧ t + Maps.size D = Maps.size D0 ∧ ownsW w' b N D ∧
      (∀ l : List Int, l.length = 7 → i64s l → Maps.has D (kk l) = (Maps.has D0 (kk l) && !fw F n l)) ∧ Below B w w' := by
  have hlb := World.ownsMap.lt hD
  have HD := hide (show ownsW (w.alloc (.cells (fam (n : Int) F) 63)) b N D0 from World.ownsMap.alloc hD _)
  have HBB := hide ((Below.refl B w).alloc (by omega) (.cells (fam (n : Int) F) 63))
  have HF := hide (famAt.new 63 w (n : Int) F)
  have HZ := hide (show (w.alloc (.cells (fam (n : Int) F) 63)).heap.size = w.heap.size + 1 by simp)
  have hs0 := World.ownsMap.size_le hD
  clear hD
  go_enter Tryd.func64, Tryd.ntmps64
  go_wp2_with (first
    | (at_range; refine wpList_range_own _ rfl _ 80 rfl 102 4 law7 mapU _ b N D0 rfl HD.out ?_; intro w0 hrg0 hg0 hs0; have HRG := hide (show rangesW w0 b (w.alloc (.cells (fam (n : Int) F) 63)).heap.size N D0 (Maps.has D0) (Maps.size D0) from hrg0); have HG := hide hg0; clear hrg0 hg0)
    | go_in)
  have hr0 := HG.out.size
  have HF0 := hide (show famAt 63 w0 w.heap.size (n : Int) F from (HG.out.block w.heap.size (by rw [HZ.out]; omega) (by simp)).trans HF.out)
  have HB0 := hide (HBB.out.trans (show Below B (w.alloc (.cells (fam (n : Int) F) 63)) w0 from ⟨HG.out.os, HG.out.tape, HG.out.output, HG.out.size, fun k hk => HG.out.block k (by rw [HZ.out]; omega) (by simp)⟩))
  clear HD HBB HF HG hr0
  go_frame
  have HRR := HZ
  generalize (w.alloc (.cells (fam (n : Int) F) 63)).heap.size = r at HRG HRR ⊢
  clear HZ
  go_loopw [5] (fun t wr => ∃ (tk : Nat) (D : DataW Unit) (left : Lit → Bool) (cnt : Nat), t = .int .i64 (tk : Int) ∧ Hid (rangesW wr b r N D left cnt) ∧ Hid (tk + Maps.size D = Maps.size D0) ∧ Hid (Kept F n D0 D left) ∧ Hid (famAt 63 wr w.heap.size (n : Int) F) ∧ Hid (Below B w wr)) (fun _ wr => wr.rangeLeft b r)
  case atStart => exact ⟨0, D0, _, _, rfl, HRG, hide (by omega), kept_start F n D0, HF0, HB0⟩
  case round =>
    obtain ⟨tk, D, left, cnt, rfl, HRQ, HT, HK, HFR, HBR⟩ := hrel
    have hrg : wr.ranges Tryd.prog 102 (plainElem Tryd.prog 4) b r N D left cnt := HRQ.out
    go_wp2_with (first
      | (at_next; refine wpList_next_ranges _ rfl _ rfl 102 law7 (plainElem Tryd.prog 4) agg7 (fun v : Value => v) (fun key kl h => by obtain ⟨l, e, _⟩ := keyOf7_inv h; exact ⟨l, e⟩) (fun v y h => ⟨v, rfl⟩) b r N D left cnt rfl hrg ?_ ?_)
      | go_in)
    · intro hc0 hl0
      have HE := hide (kept_end HK.out hl0)
      have HOW := hide (show ownsW wr b N D from hrg.owns)
      clear hrg hl0
      go_wp2
      go_ret
      exact ⟨tk, D, rfl, HT.out, HOW.out, HE.out, HBR.out⟩
    · intro x c kl ya yb w1 cnt1 hkey hlk hv hat hrg1 hlt hg1 hs1 hen
      obtain ⟨l, hxl, hl7, hlw, hkl⟩ := keyOf7_inv hkey
      obtain rfl := agg7_inj hxl
      subst hkl
      have HHS := hide (Maps.has_true_of_atKey hat)
      have HLW := hide hlw
      have HKY := hide hkey
      have HRQ1 := hide (show rangesW w1 b r N D (fun z => left z && !z.sameKey (kk x)) cnt1 from hrg1)
      have hrr : r = w.heap.size + 1 := HRR.out
      have HB1 := hide (HBR.out.trans (grown_below hg1 (show B ≤ r by omega) (show B ≤ wr.heap.size by have := HFR.out.lt; omega)))
      have HF1 := hide (show famAt 63 w1 w.heap.size (n : Int) F from (hg1.block w.heap.size HFR.out.lt (by simp; omega)).trans HFR.out)
      have HLT := hide hlt
      have hxl7 : x.length = 7 := hl7
      clear hkey hlk hv hat hrg1 hg1 hxl hlw hlt hrr
      go_wp2_with (first
        | (refine wpList_alloc_arr zero7 rfl rfl _ rfl ?_)
        | (refine wpList_store_7 size7 rfl (.tmp 6) (.tmp 12) rfl w1.heap.size x hxl7 rfl rfl _ (by rfl) (blk.new _ _ _) ?_)
        | go_in)
      go_frame
      have hbW : Below w1.heap.size w1 ((w1.alloc (.cells (rowV [0, 0, 0, 0, 0, 0, 0]) 102)).setRow w1.heap.size (rowV x)) := below_setRow ((Below.refl w1.heap.size w1).alloc (Nat.le_refl _) _) (Nat.le_refl _) _
      have HBK := hide ((blk.new 102 w1 [0, 0, 0, 0, 0, 0, 0]).row x)
      have HRQ2 := hide (show rangesW ((w1.alloc (.cells (rowV [0, 0, 0, 0, 0, 0, 0]) 102)).setRow w1.heap.size (rowV x)) b r N D (fun z => left z && !z.sameKey (kk x)) cnt1 from World.ranges.kept HRQ1.out (below_grown hbW) (by simp) (by simp))
      have HF2 := hide (HF1.out.below hbW HF1.out.lt)
      have HZ2 := hide (show ((w1.alloc (.cells (rowV [0, 0, 0, 0, 0, 0, 0]) 102)).setRow w1.heap.size (rowV x)).heap.size = w1.heap.size + 1 by simp [World.setRow])
      have HB2 := hide (HB1.out.trans (hbW.mono (show B ≤ w1.heap.size by have := HF1.out.lt; omega)))
      have hlf1 := HF1.out.lt
      clear hbW HF1 HB1 HRQ1
      generalize ((w1.alloc (.cells (rowV [0, 0, 0, 0, 0, 0, 0]) 102)).setRow w1.heap.size (rowV x)) = W2 at HBK HRQ2 HF2 HZ2 HB2 ⊢
      generalize w1.heap.size = g at HBK HZ2 hlf1 ⊢
      have hz2 := HZ2.out
      have HG0 := hide HF2.out.get0
      have HFW := hide (show ∀ w', Below W2.heap.size W2 w' → Calls Tryd.prog 59 #[.agg (fam (n : Int) F), .slice (some ⟨g, 0, none⟩) n 7] w' fun e w'' => e = .returned (.bool (fw F n x)) ∧ Below w'.heap.size w' w'' from fun w' hb =>
        isFullWord_c n F _ (x.take n) w' (blk_ints (show blk 102 w' g x from (hb.block g (by omega)).trans HBK.out) n (by omega) 7) (by rw [List.length_take]; omega) h7)
      refine wp_region_old (by kernel_rfl) (by kernel_rfl) ?_
      refine q_load_fam rowT sizeT rfl (.tmp _) rfl w.heap.size rfl (n : Int) F (fun w' h => HF2.out.below h (by omega)) ?_
      simp only [Act.put, List.setIfInBounds_toArray, List.set_cons_zero, List.set_cons_succ]
      go_big_quiet_step ((first | exact fun _ => rfl | exact fun _ => ⟨rfl, rfl⟩))
      refine q_load_cell rowI rfl (.tmp _) rfl ⟨w.heap.size, 0, none⟩ rfl (.int .i64 (n : Int)) (fun w' h => (h.cell (by show w.heap.size < W2.heap.size; omega)).trans HG0.out) ?_
      simp only [Act.put, List.setIfInBounds_toArray, List.set_cons_zero, List.set_cons_succ]
      refine q_slice7 rfl (.tmp 6) (.tmp 15) rfl g n rfl rfl h7 ?_
      simp only [Act.put, List.setIfInBounds_toArray, List.set_cons_zero, List.set_cons_succ]
      cases hfw : fw F n x
      · rw [hfw] at HFW
        have HKN := hide (kept_not HK.out hxl7 HLW.out hfw)
        clear hfw
        refine q_callA rfl 59 ent_isFullA _ _ rfl #[.agg (fam (n : Int) F), .slice (some ⟨g, 0, none⟩) n 7] rfl (.bool false) HFW.out ?_
        simp only [Act.put, List.setIfInBounds_toArray, List.set_cons_zero, List.set_cons_succ]
        refine wpQuiet_nil ?_
        intro w3 hb3
        have HRQ3 := hide (show rangesW w3 b r N D (fun z => left z && !z.sameKey (kk x)) cnt1 from World.ranges.kept HRQ2.out (below_grown hb3) (by simp) (by simp))
        have HF3 := hide (HF2.out.below hb3 (by omega))
        have HB3 := hide (HB2.out.trans (hb3.mono (by omega)))
        clear hb3
        go_wp2
        go_roundw
        case rel => exact ⟨tk, D, _, cnt1, rfl, HRQ3, HT, HKN, HF3, HB3⟩
        case measure => rw [World.ranges.left_eq HRQ3.out, World.ranges.left_eq hrg]; exact HLT.out
      · rw [hfw] at HFW
        have HKN := hide (kept_yes HK.out hxl7 HLW.out hfw)
        clear hfw
        refine q_callA rfl 59 ent_isFullA _ _ rfl #[.agg (fam (n : Int) F), .slice (some ⟨g, 0, none⟩) n 7] rfl (.bool true) HFW.out ?_
        simp only [Act.put, List.setIfInBounds_toArray, List.set_cons_zero, List.set_cons_succ]
        refine wpQuiet_nil ?_
        intro w3 hb3
        have HRQ3 := hide (show rangesW w3 b r N D (fun z => left z && !z.sameKey (kk x)) cnt1 from World.ranges.kept HRQ2.out (below_grown hb3) (by simp) (by simp))
        have HBK3 := hide (show blk 102 w3 g x from (hb3.block g (by omega)).trans HBK.out)
        have HF3 := hide (HF2.out.below hb3 (by omega))
        have HB3 := hide (HB2.out.trans (hb3.mono (by omega)))
        have hz3 := hb3.size
        have hty := World.ownsMap.tidy (World.ranges.owns HRQ3.out) law7
        have hsd := Maps.size_del (k := kk x) hty
        rw [HHS.out, if_pos rfl] at hsd
        have htt := HT.out
        have hsn : tk < 1001 := by have := World.ownsMap.size_le (World.ranges.owns hrg); omega
        have HT3 := hide (show (tk + 1) + Maps.size (D.del (kk x)) = Maps.size D0 by omega)
        clear hb3 hty hsd htt
        go_wp2_with (first
          | (refine wpList_load_7 row7 size7 rfl (.tmp 6) rfl _ rfl x hxl7 HBK3.out ?_)
          | (at_delete; refine wpList_delete_ranges _ rfl _ _ 80 102 rfl 4 law7 mapU _ b r N D _ cnt1 rfl HRQ3.out _ (kk x) rfl HKY.out ?_; intro w4 cnt4 hrg4 hle4 hturn4; go_frame)
          | go_in)
        have hrg4W : rangesW w4 b r N (D.del (kk x)) (fun z => left z && !z.sameKey (kk x)) cnt4 := by
          have h := hrg4
          rw [Maps.strike_twice] at h
          exact h
        have HRQ4 := hide hrg4W
        have hg4 := hturn4.grown
        have HF4 := hide (show famAt 63 w4 w.heap.size (n : Int) F from (hg4.block w.heap.size (by omega) (by simp; omega)).trans HF3.out)
        have HB4 := hide (HB3.out.trans (grown_below hg4 hB (by omega)))
        have HLE := hide hle4
        clear hrg4 hturn4 hg4 hrg4W hle4
        go_roundw
        case rel => exact ⟨tk + 1, D.del (kk x), _, cnt4, by go_num, HRQ4, HT3, HKN, HF4, HB4⟩
        case measure => rw [World.ranges.left_eq HRQ4.out, World.ranges.left_eq hrg]; have := HLT.out; have := HLE.out; omega
end Go.Proofs.YtknjiomagdfgfaaDoor
