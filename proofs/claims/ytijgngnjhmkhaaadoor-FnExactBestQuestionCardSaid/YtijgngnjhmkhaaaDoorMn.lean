/- Contracts: the least of a set's items for a cost (slices.MinFunc); a function value called in a quiet region. -/
import Derived.Test.YtijgngnjhmkhaaaDoorKa
import Derived.Test.YtijgngnjhmkhaaaDoorHar
namespace Go.Proofs.YtijgngnjhmkhaaaDoor
open Go.RowKit
set_option maxRecDepth 100000
set_option linter.unusedSimpArgs false
/-- The items of a set, as numbers in order. -/
theorem items_seq {O : Nat} (hO : O < 128) : (∀ j, j < (itemsL O).length → (itemsL O)[j]?.getD 0 = (nth (itemsL O) j : Int) ∧ nth (itemsL O) j < 7 ∧ O.testBit (nth (itemsL O) j) = true) ∧
    (∀ i j, i < j → j < (itemsL O).length → nth (itemsL O) i < nth (itemsL O) j) ∧ ∀ b, O.testBit b = true → ∃ j, j < (itemsL O).length ∧ nth (itemsL O) j = b := by
  have hl : (itemsL O).length = (itemsN O).length := by simp [itemsL]
  have e : ∀ j, j < (itemsL O).length → (itemsL O)[j]?.getD 0 = ((itemsN O)[j]?.getD 0 : Nat) ∧ nth (itemsL O) j = (itemsN O)[j]?.getD 0 := by
    intro j hj
    unfold nth itemsL
    rw [List.getElem?_map, List.getElem?_eq_getElem (by omega)]
    simp
  have hp : List.Pairwise (· < ·) (itemsN O) := List.Pairwise.filter _ List.pairwise_lt_range
  have hm : ∀ j, (h : j < (itemsN O).length) → (itemsN O)[j] < 7 ∧ O.testBit (itemsN O)[j] = true := by
    intro j h
    have := List.getElem_mem h
    unfold itemsN at this
    rw [List.mem_filter, List.mem_range] at this
    exact this
  refine ⟨fun j hj => ?_, fun i j hij hj => ?_, fun b hb => ?_⟩
  · rw [(e j hj).1, (e j hj).2]
    refine ⟨rfl, ?_⟩
    rw [List.getElem?_eq_getElem (by omega)]
    exact hm j (by omega)
  · rw [(e i (by omega)).2, (e j hj).2, List.getElem?_eq_getElem (by omega), List.getElem?_eq_getElem (by omega)]
    exact List.pairwise_iff_getElem.1 hp i j (by omega) (by omega) hij
  · have h7 : b < 7 := bit_ltK (n := 7) hO hb
    have hmem : b ∈ itemsN O := by
      unfold itemsN
      rw [List.mem_filter]
      exact ⟨List.mem_range.2 h7, hb⟩
    obtain ⟨j, hj, hjb⟩ := List.mem_iff_getElem.1 hmem
    refine ⟨j, by omega, ?_⟩
    rw [(e j (by omega)).2, List.getElem?_eq_getElem hj]
    exact hjb
attribute [local irreducible] p2 low memB risB itemsL
/-- Of the first i items, this one is the least one of least cost. -/
def LeastOf (f : Nat → Int) (x : Nat → Nat) (i b : Nat) : Prop := ∀ j, j < i → f b ≤ f (x j) ∧ (f (x j) = f b → b ≤ x j)
set_option maxHeartbeats 2000000 in
theorem minFunc_c (kg : Nat) (caps : Array Value) (f : Nat → Int) (v : Value) (O : Nat) (w : World) (base : Nat) (hk : enters Tryd.prog kg) (hO : O < 128) (h0 : O ≠ 0) (hl : own 3 w base v (itemsL O)) (hbd : ∀ b, O.testBit b = true → -1000000 ≤ f b ∧ f b ≤ 1000000)
    (hcl : ∀ (w1 : World), Below w.heap.size w w1 → ∀ a b : Nat, O.testBit a = true → O.testBit b = true → Calls Tryd.prog kg (#[.int .i64 (a : Int), .int .i64 (b : Int)] ++ caps) w1 fun e w2 => e = .returned (.int .i64 (f a - f b)) ∧ Below w1.heap.size w1 w2) :
    Calls Tryd.prog 65 #[v, .func (.func kg) #[] caps] w fun e w' => e = .returned (.int .i64 (mnI f O : Int)) ∧ Below w.heap.size w w' := by
  have hk1 : ∀ (args : Array Value) (w : World), Sem.run Tryd.prog (callFunc kg args) w = .ok (.enter kg args) w := hk
  obtain ⟨hs1, hs2, hs3⟩ := items_seq hO
  have hlen7 : (itemsL O).length ≤ 7 := itemsL_len O hO
  have hpos : 0 < (itemsL O).length := by
    obtain ⟨j, hj, _⟩ := hs3 (tzN O) (tz_bit O hO h0)
    omega
  have HAT := hide hs1
  have HINC := hide hs2
  have HFIN := hide (show ∀ b, (∃ j, j < (itemsL O).length ∧ nth (itemsL O) j = b) → LeastOf f (nth (itemsL O)) (itemsL O).length b → mnI f O = b from fun b hb hL => by
    refine mnI_of hO ⟨?_, fun j hj => ?_, fun j hj he => ?_⟩
    · obtain ⟨j, hj, rfl⟩ := hb; exact (hs1 j hj).2.2
    · obtain ⟨i, hi, rfl⟩ := hs3 j hj; exact (hL i hi).1
    · obtain ⟨i, hi, rfl⟩ := hs3 j hj; exact (hL i hi).2 he)
  have HI := hide hl.ints
  have HBD := hide hbd
  have HCL := hide hcl
  obtain ⟨va, vc, hv⟩ := hl.shape
  subst hv
  clear hs1 hs2 hs3 hl hcl hbd
  generalize itemsL O = I at *
  have hge : ¬ ((I.length : Int) < 1) := by omega
  have h00 := HAT.out 0 hpos
  go_enter Tryd.func65, Tryd.ntmps65
  go_wp2_with (refine wpList_at sliceT intS rfl (.tmp 11) _ rfl _ rfl 0 rfl w.heap.size I HI.out hpos ?_; intro ad0 hcell0 hblk0; rw [h00.1] at hcell0)
  clear hcell0 hblk0
  go_loopw [5, 6] (fun mv iv wr => ∃ i j : Nat, 1 ≤ i ∧ i ≤ I.length ∧ j < i ∧ iv = .int .i64 (i : Int) ∧ mv = .int .i64 (nth I j : Int) ∧ Hid (LeastOf f (nth I) i (nth I j)) ∧ Hid (Below w.heap.size w wr)) (fun _ iv _ => I.length - (intOf iv).toNat)
  case atStart => exact ⟨1, 0, Nat.le_refl _, hpos, by omega, by go_num, rfl, hide (fun j hj => by rw [show j = 0 by omega]; exact ⟨Int.le_refl _, fun _ => Nat.le_refl _⟩), Below.refl _ _⟩
  case round =>
    obtain ⟨i, j, hi1, hi2, hji, rfl, rfl, HL, HB⟩ := hrel
    have HIW := hide (HI.out.below HB.out (Nat.le_refl _))
    by_cases hlt : i < I.length
    · have hlt' : (i : Int) < (I.length : Int) := by omega
      have hx := HAT.out i hlt
      have hm := HAT.out j (by omega)
      have HX := hide hx.1
      have b1 := HBD.out _ hx.2.2
      have b2 := HBD.out _ hm.2.2
      have HC := hide (HCL.out wr HB.out _ _ hx.2.2 hm.2.2)
      have HN1 := hide (fun (h : f (nth I i) < f (nth I j)) => show LeastOf f (nth I) (i + 1) (nth I i) from fun q hq => by
        rcases Nat.lt_or_ge q i with h1 | h1
        · have := HL.out q h1
          exact ⟨by omega, fun he => by omega⟩
        · rw [show q = i by omega]; exact ⟨Int.le_refl _, fun _ => Nat.le_refl _⟩)
      have HN2 := hide (fun (h : ¬ f (nth I i) < f (nth I j)) => show LeastOf f (nth I) (i + 1) (nth I j) from fun q hq => by
        rcases Nat.lt_or_ge q i with h1 | h1
        · exact HL.out q h1
        · rw [show q = i by omega]; exact ⟨by omega, fun _ => Nat.le_of_lt (HINC.out j i hji hlt)⟩)
      clear hx hm
      generalize f (nth I i) = fi at *
      generalize f (nth I j) = fj at *
      by_cases hc : fi - fj < 0
      · have HP := hide (HN1.out (by omega))
        go_wp2_with (refine wpList_at sliceT intS rfl (.tmp 21) (.tmp _) rfl _ rfl i rfl w.heap.size I HIW.out hlt ?_; intro ad hcell hblk; rw [HX.out] at hcell)
        refine HC.out.mono ?_
        rintro e w2 ⟨rfl, hb2⟩
        have HB2 := hide (HB.out.trans (hb2.mono HB.out.size))
        have HIW2 := hide (HI.out.below HB2.out (Nat.le_refl _))
        clear hb2 hcell hblk
        go_wp2_with (refine wpList_at sliceT intS rfl (.tmp 28) (.tmp _) rfl _ rfl i rfl w.heap.size I HIW2.out hlt ?_; intro ad2 hcell2 hblk2; rw [HX.out] at hcell2)
        go_roundw
        case rel => exact ⟨i + 1, i, by omega, by omega, by omega, by go_num, rfl, HP, HB2⟩
        case measure => (simp [intOf] <;> omega)
      · have HP := hide (HN2.out (by omega))
        go_wp2_with (refine wpList_at sliceT intS rfl (.tmp 21) (.tmp _) rfl _ rfl i rfl w.heap.size I HIW.out hlt ?_; intro ad hcell hblk; rw [HX.out] at hcell)
        refine HC.out.mono ?_
        rintro e w2 ⟨rfl, hb2⟩
        have HB2 := hide (HB.out.trans (hb2.mono HB.out.size))
        clear hb2 hcell hblk
        go_wp2
        go_roundw
        case rel => exact ⟨i + 1, j, by omega, by omega, by omega, by go_num, rfl, HP, HB2⟩
        case measure => (simp [intOf] <;> omega)
    · have hlt' : ¬ ((i : Int) < (I.length : Int)) := by omega
      have HV := hide (HFIN.out (nth I j) ⟨j, by omega, rfl⟩ (by rw [← show i = I.length by omega]; exact HL.out))
      go_wp2
      go_ret
      exact ⟨ret_i (by rw [HV.out]), HB.out⟩
/-- A function value is called, in a drawn region that only reads. -/
theorem q_callF {P : Program} {ops : Array Oper} {rest : List Oper} {o : Oper} {a : Act} {w : World} {Q : Act → Prop} (hw : Region.wanted o (yielded ops a.tmps) = true) (k : FuncId) (caps : Array Value) (hk : enters P k) (x : Operand) (xs : Array Operand) (ts : Array TypeId)
    (ho : o.op = .call { callee := .value x, args := xs, argTypes := ts }) (hx : a.eval x = .func (.func k) #[] caps) (args : Array Value) (hal : xs.toList.map a.eval = args.toList) (v : Value)
    (hc : ∀ w', Below w.heap.size w w' → Calls P k (args ++ caps) w' fun e w'' => e = .returned v ∧ Below w'.heap.size w' w'')
    (h : wpQuiet P ops (fun w' => Below w.heap.size w w') Q rest (a.put o.dst v)) : wpQuiet P ops (fun w' => Below w.heap.size w w') Q (o :: rest) a := by
  have ha : xs.map a.eval = args := Array.toList_inj.1 (by simpa using hal)
  refine BigFrame.wpQuiet_want hw fun K hK => ⟨v, fun w' hC => ?_, hK _ h⟩
  have he : execOp a.eval o = callFunc k (args ++ caps) := by
    unfold execOp
    simp only [ho, resolve, hx, ha, Deferred.ofValue, pure_bind, invoke, Array.empty_append]
  unfold Oper.quietAt
  rw [he, hk]
  exact ⟨rfl, (hc w' hC).mono fun e w'' ⟨he, hb⟩ => ⟨he, hC.trans (hb.mono hC.size)⟩⟩
end Go.Proofs.YtijgngnjhmkhaaaDoor
