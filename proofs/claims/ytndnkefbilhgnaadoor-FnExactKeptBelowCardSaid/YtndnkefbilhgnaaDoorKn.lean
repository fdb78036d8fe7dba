/- Contracts: the greedy word, the program's. -/
import Derived.Test.YtndnkefbilhgnaaDoorKl
import Derived.Test.YtndnkefbilhgnaaDoorKb
namespace Go.Proofs.YtndnkefbilhgnaaDoor
open Go.RowKit
set_option maxRecDepth 100000
set_option linter.unusedSimpArgs false
theorem ent_greedy1 : enters Tryd.prog 114 := enters_of Tryd.func114 (by kernel_rfl) (by kernel_rfl)
theorem ent_fullG : enters Tryd.prog 111 := enters_of Tryd.func111 (by kernel_rfl) (by kernel_rfl)
theorem rowRule : (Tryd.prog.underlying 81).map TypeDesc.isRow = some false := by kernel_rfl
/-- The items of a set, as numbers in order. -/
theorem items_seq {O : Nat} (hO : O < 128) : (∀ j, j < (itemsL O).length → (itemsL O)[j]?.getD 0 = (nth (itemsL O) j : Int) ∧ nth (itemsL O) j < 7 ∧ O.testBit (nth (itemsL O) j) = true) ∧
    (∀ i j, i < j → j < (itemsL O).length → nth (itemsL O) i < nth (itemsL O) j) ∧ ∀ b, O.testBit b = true → ∃ j, j < (itemsL O).length ∧ nth (itemsL O) j = b := by
  have hl : (itemsL O).length = (itemsN O).length := by simp [itemsL]
  have e : ∀ j, j < (itemsL O).length → (itemsL O)[j]?.getD 0 = ((itemsN O)[j]?.getD 0 : Nat) ∧ nth (itemsL O) j = (itemsN O)[j]?.getD 0 := by
    intro j hj
    unfold nth itemsL
    rw [List.getElem?_map, List.getElem?_eq_getElem (by omega)]
    simp
  have hp : List.Pairwise (· < ·) (itemsN O) := List.Pairwise.filter _ List.pairwise_lt_range
  have hm : ∀ j, (h : j < (itemsN O).length) → (itemsN O)[j] < 7 ∧ O.testBit (itemsN O)[j] = true := by
    intro j h
    have := List.getElem_mem h
    unfold itemsN at this
    rw [List.mem_filter, List.mem_range] at this
    exact this
  refine ⟨fun j hj => ?_, fun i j hij hj => ?_, fun b hb => ?_⟩
  · rw [(e j hj).1, (e j hj).2]
    refine ⟨rfl, ?_⟩
    rw [List.getElem?_eq_getElem (by omega)]
    exact hm j (by omega)
  · rw [(e i (by omega)).2, (e j hj).2, List.getElem?_eq_getElem (by omega), List.getElem?_eq_getElem (by omega)]
    exact List.pairwise_iff_getElem.1 hp i j (by omega) (by omega) hij
  · have h7 : b < 7 := bit_ltK (n := 7) hO hb
    have hmem : b ∈ itemsN O := by
      unfold itemsN
      rw [List.mem_filter]
      exact ⟨List.mem_range.2 h7, hb⟩
    obtain ⟨j, hj, hjb⟩ := List.mem_iff_getElem.1 hmem
    refine ⟨j, by omega, ?_⟩
    rw [(e j (by omega)).2, List.getElem?_eq_getElem hj]
    exact hjb
attribute [local irreducible] p2 low memB risB itemsL
/-- Of the first i items, this one is the least one of least cost. -/
def LeastOf (f : Nat → Int) (x : Nat → Nat) (i b : Nat) : Prop := ∀ j, j < i → f b ≤ f (x j) ∧ (f (x j) = f b → b ≤ x j)
set_option maxHeartbeats 2000000 in
theorem minFunc_c (kg : Nat) (caps : Array Value) (f : Nat → Int) (v : Value) (O : Nat) (w : World) (base : Nat) (hk : enters Tryd.prog kg) (hO : O < 128) (h0 : O ≠ 0) (hl : own 3 w base v (itemsL O)) (hbd : ∀ b, O.testBit b = true → -1000000 ≤ f b ∧ f b ≤ 1000000)
    (hcl : ∀ (w1 : World), Below w.heap.size w w1 → ∀ a b : Nat, O.testBit a = true → O.testBit b = true → Calls Tryd.prog kg (#[.int .i64 (a : Int), .int .i64 (b : Int)] ++ caps) w1 fun e w2 => e = .returned (.int .i64 (f a - f b)) ∧ Below w1.heap.size w1 w2) :
    Calls Tryd.prog 112 #[v, .func (.func kg) #[] caps] w fun e w' => e = .returned (.int .i64 (mnI f O : Int)) ∧ Below w.heap.size w w' := by
  have hk1 : ∀ (args : Array Value) (w : World), Sem.run Tryd.prog (callFunc kg args) w = .ok (.enter kg args) w := hk
  obtain ⟨hs1, hs2, hs3⟩ := items_seq hO
  have hlen7 : (itemsL O).length ≤ 7 := itemsL_len O hO
  have hpos : 0 < (itemsL O).length := by
    obtain ⟨j, hj, _⟩ := hs3 (tzN O) (tz_bit O hO h0)
    omega
  have HAT := hide hs1
  have HINC := hide hs2
  have HFIN := hide (show ∀ b, (∃ j, j < (itemsL O).length ∧ nth (itemsL O) j = b) → LeastOf f (nth (itemsL O)) (itemsL O).length b → mnI f O = b from fun b hb hL => by
    refine mnI_of hO ⟨?_, fun j hj => ?_, fun j hj he => ?_⟩
    · obtain ⟨j, hj, rfl⟩ := hb; exact (hs1 j hj).2.2
    · obtain ⟨i, hi, rfl⟩ := hs3 j hj; exact (hL i hi).1
    · obtain ⟨i, hi, rfl⟩ := hs3 j hj; exact (hL i hi).2 he)
  have HI := hide hl.ints
  have HBD := hide hbd
  have HCL := hide hcl
  obtain ⟨va, vc, hv⟩ := hl.shape
  subst hv
  clear hs1 hs2 hs3 hl hcl hbd
  generalize itemsL O = I at *
  have hge : ¬ ((I.length : Int) < 1) := by omega
  have h00 := HAT.out 0 hpos
  go_enter Tryd.func112, Tryd.ntmps112
  go_wp2_with (refine wpList_at sliceT intS rfl (.tmp 11) _ rfl _ rfl 0 rfl w.heap.size I HI.out hpos ?_; intro ad0 hcell0 hblk0; rw [h00.1] at hcell0)
  clear hcell0 hblk0
  go_loopw [5, 6] (fun mv iv wr => ∃ i j : Nat, 1 ≤ i ∧ i ≤ I.length ∧ j < i ∧ iv = .int .i64 (i : Int) ∧ mv = .int .i64 (nth I j : Int) ∧ Hid (LeastOf f (nth I) i (nth I j)) ∧ Hid (Below w.heap.size w wr)) (fun _ iv _ => I.length - (intOf iv).toNat)
  case atStart => exact ⟨1, 0, Nat.le_refl _, hpos, by omega, by go_num, rfl, hide (fun j hj => by rw [show j = 0 by omega]; exact ⟨Int.le_refl _, fun _ => Nat.le_refl _⟩), Below.refl _ _⟩
  case round =>
    obtain ⟨i, j, hi1, hi2, hji, rfl, rfl, HL, HB⟩ := hrel
    have HIW := hide (HI.out.below HB.out (Nat.le_refl _))
    by_cases hlt : i < I.length
    · have hlt' : (i : Int) < (I.length : Int) := by omega
      have hx := HAT.out i hlt
      have hm := HAT.out j (by omega)
      have HX := hide hx.1
      have b1 := HBD.out _ hx.2.2
      have b2 := HBD.out _ hm.2.2
      have HC := hide (HCL.out wr HB.out _ _ hx.2.2 hm.2.2)
      have HN1 := hide (fun (h : f (nth I i) < f (nth I j)) => show LeastOf f (nth I) (i + 1) (nth I i) from fun q hq => by
        rcases Nat.lt_or_ge q i with h1 | h1
        · have := HL.out q h1
          exact ⟨by omega, fun he => by omega⟩
        · rw [show q = i by omega]; exact ⟨Int.le_refl _, fun _ => Nat.le_refl _⟩)
      have HN2 := hide (fun (h : ¬ f (nth I i) < f (nth I j)) => show LeastOf f (nth I) (i + 1) (nth I j) from fun q hq => by
        rcases Nat.lt_or_ge q i with h1 | h1
        · exact HL.out q h1
        · rw [show q = i by omega]; exact ⟨by omega, fun _ => Nat.le_of_lt (HINC.out j i hji hlt)⟩)
      clear hx hm
      generalize f (nth I i) = fi at *
      generalize f (nth I j) = fj at *
      by_cases hc : fi - fj < 0
      · have HP := hide (HN1.out (by omega))
        go_wp2_with (refine wpList_at sliceT intS rfl (.tmp 21) (.tmp _) rfl _ rfl i rfl w.heap.size I HIW.out hlt ?_; intro ad hcell hblk; rw [HX.out] at hcell)
        refine HC.out.mono ?_
        rintro e w2 ⟨rfl, hb2⟩
        have HB2 := hide (HB.out.trans (hb2.mono HB.out.size))
        have HIW2 := hide (HI.out.below HB2.out (Nat.le_refl _))
        clear hb2 hcell hblk
        go_wp2_with (refine wpList_at sliceT intS rfl (.tmp 28) (.tmp _) rfl _ rfl i rfl w.heap.size I HIW2.out hlt ?_; intro ad2 hcell2 hblk2; rw [HX.out] at hcell2)
        go_roundw
        case rel => exact ⟨i + 1, i, by omega, by omega, by omega, by go_num, rfl, HP, HB2⟩
        case measure => (simp [intOf] <;> omega)
      · have HP := hide (HN2.out (by omega))
        go_wp2_with (refine wpList_at sliceT intS rfl (.tmp 21) (.tmp _) rfl _ rfl i rfl w.heap.size I HIW.out hlt ?_; intro ad hcell hblk; rw [HX.out] at hcell)
        refine HC.out.mono ?_
        rintro e w2 ⟨rfl, hb2⟩
        have HB2 := hide (HB.out.trans (hb2.mono HB.out.size))
        clear hb2 hcell hblk
        go_wp2
        go_roundw
        case rel => exact ⟨i + 1, j, by omega, by omega, by omega, by go_num, rfl, HP, HB2⟩
        case measure => (simp [intOf] <;> omega)
    · have hlt' : ¬ ((i : Int) < (I.length : Int)) := by omega
      have HV := hide (HFIN.out (nth I j) ⟨j, by omega, rfl⟩ (by rw [← show i = I.length by omega]; exact HL.out))
      go_wp2
      go_ret
      exact ⟨ret_i (by rw [HV.out]), HB.out⟩
/-- A function value is called, in a drawn region that only reads. -/
theorem q_callF {P : Program} {ops : Array Oper} {rest : List Oper} {o : Oper} {a : Act} {w : World} {Q : Act → Prop} (hw : Region.wanted o (yielded ops a.tmps) = true) (k : FuncId) (caps : Array Value) (hk : enters P k) (x : Operand) (xs : Array Operand) (ts : Array TypeId)
    (ho : o.op = .call { callee := .value x, args := xs, argTypes := ts }) (hx : a.eval x = .func (.func k) #[] caps) (args : Array Value) (hal : xs.toList.map a.eval = args.toList) (v : Value)
    (hc : ∀ w', Below w.heap.size w w' → Calls P k (args ++ caps) w' fun e w'' => e = .returned v ∧ Below w'.heap.size w' w'')
    (h : wpQuiet P ops (fun w' => Below w.heap.size w w') Q rest (a.put o.dst v)) : wpQuiet P ops (fun w' => Below w.heap.size w w') Q (o :: rest) a := by
  have ha : xs.map a.eval = args := Array.toList_inj.1 (by simpa using hal)
  refine BigFrame.wpQuiet_want hw fun K hK => ⟨v, fun w' hC => ?_, hK _ h⟩
  have he : execOp a.eval o = callFunc k (args ++ caps) := by
    unfold execOp
    simp only [ho, resolve, hx, ha, Deferred.ofValue, pure_bind, invoke, Array.empty_append]
  unfold Oper.quietAt
  rw [he, hk]
  exact ⟨rfl, (hc w' hC).mono fun e w'' ⟨he, hb⟩ => ⟨he, hC.trans (hb.mono hC.size)⟩⟩
/-- The comparison of two items by their costs. -/
theorem greedy1_c (kf : Nat) (caps : Array Value) (c : Nat → Nat → Int) (n s a b g1 g2 : Nat) (w : World) (hk : enters Tryd.prog kf) (hc : isCost w kf caps n c) (hs : s < 128) (ha : a < n) (hb : b < n) (hba : -1000000 ≤ c s a ∧ c s a ≤ 1000000) (hbb : -1000000 ≤ c s b ∧ c s b ≤ 1000000)
    (hc1 : w.cell? ⟨g1, 0, none⟩ = some (.func (.func kf) #[] caps)) (h1 : g1 < w.heap.size) (hc2 : w.cell? ⟨g2, 0, none⟩ = some (.int .i64 (s : Int))) (h2 : g2 < w.heap.size) :
    Calls Tryd.prog 114 #[.int .i64 (a : Int), .int .i64 (b : Int), .pointer (some ⟨g1, 0, none⟩), .pointer (some ⟨g2, 0, none⟩)] w fun e w' => e = .returned (.int .i64 (c s a - c s b)) ∧ Below w.heap.size w w' := by
  have hk1 : ∀ (args : Array Value) (w : World), Sem.run Tryd.prog (callFunc kf args) w = .ok (.enter kf args) w := hk
  have HC1 := hide (fun w' (h : Below w.heap.size w w') => (h.cell (p := ⟨g1, 0, none⟩) h1).trans hc1)
  have HC2 := hide (fun w' (h : Below w.heap.size w w') => (h.cell (p := ⟨g2, 0, none⟩) h2).trans hc2)
  have HA := hide (fun w1 (h : Below w.heap.size w w1) => hc w1 h s a hs ha)
  have HB := hide (fun w1 (h : Below w.heap.size w w1) => hc w1 h s b hs hb)
  clear hc1 hc2 hc
  generalize c s a = x at *
  generalize c s b = y at *
  have hw : IntKind.i64.wrap (x - y) = x - y := IntWalk.i64_in _ (by omega)
  go_enter Tryd.func114, Tryd.ntmps114
  go_wp2_with fail
  refine wp_region_old (by kernel_rfl) (by kernel_rfl) ?_
  refine q_load_cell rowRule rfl (.tmp _) rfl _ rfl _ HC1.out ?_
  simp only [Act.put, List.setIfInBounds_toArray, List.set_cons_zero, List.set_cons_succ]
  refine q_load_cell rowSetK rfl (.tmp _) rfl _ rfl _ HC2.out ?_
  simp only [Act.put, List.setIfInBounds_toArray, List.set_cons_zero, List.set_cons_succ]
  go_big_quiet_step ((first | exact fun _ => rfl | exact fun _ => ⟨rfl, rfl⟩))
  refine q_callF rfl kf caps hk (.tmp _) _ _ rfl rfl #[.int .i64 (s : Int), .int .i64 (a : Int)] rfl (.int .i64 x) (fun w' h => HA.out w' h) ?_
  simp only [Act.put, List.setIfInBounds_toArray, List.set_cons_zero, List.set_cons_succ]
  refine q_load_cell rowRule rfl (.tmp _) rfl _ rfl _ HC1.out ?_
  simp only [Act.put, List.setIfInBounds_toArray, List.set_cons_zero, List.set_cons_succ]
  refine q_load_cell rowSetK rfl (.tmp _) rfl _ rfl _ HC2.out ?_
  simp only [Act.put, List.setIfInBounds_toArray, List.set_cons_zero, List.set_cons_succ]
  go_big_quiet_step ((first | exact fun _ => rfl | exact fun _ => ⟨rfl, rfl⟩))
  refine q_callF rfl kf caps hk (.tmp _) _ _ rfl rfl #[.int .i64 (s : Int), .int .i64 (b : Int)] rfl (.int .i64 y) (fun w' h => HB.out w' h) ?_
  simp only [Act.put, List.setIfInBounds_toArray, List.set_cons_zero, List.set_cons_succ]
  repeat (go_big_quiet_step ((first | exact fun _ => rfl | exact fun _ => ⟨rfl, rfl⟩)))
  refine wpQuiet_nil ?_
  intro w2 hb2
  go_wp2
  go_ret
  exact ⟨rfl, hb2⟩
theorem cell1_at0G {w : World} {b : Nat} {x : Value} {T : TypeId} (h : w.heap[b]? = some (.cells #[x] T)) : w.cell? ⟨b, 0, none⟩ = some x := by rw [hp_cell h]; rfl
/-- The length of a slice. -/
def grLen : Value → Nat
  | .slice _ n _ => n
  | _ => 0
set_option maxHeartbeats 4000000 in
theorem greedyWord_c (kf : Nat) (caps : Array Value) (c : Nat → Nat → Int) (n : Nat) (F : Nat → Bool) (w : World) (h7 : n ≤ 7) (hsp : Spc F n) (hk : enters Tryd.prog kf) (hc : isCost w kf caps n c) (hbd : ∀ s i, i < n → -10000 ≤ c s i ∧ c s i ≤ 10000) (hT : tab w) :
    Calls Tryd.prog 73 #[.agg (fam (n : Int) F), .func (.func kf) #[] caps] w fun e w' => ∃ v', e = .returned v' ∧ own 3 w' w.heap.size v' (grW c (outerOf F n) n) ∧ Below w.heap.size w w' := by
  have hz0 : (((w.alloc (.cells (fam (n : Int) F) 73)).alloc (.cells #[.func (.func kf) #[] caps] 81)).alloc (.cells #[.int .i64 0] 74)).heap.size = w.heap.size + 3 := by simp
  have HB0 := hide ((((Below.refl w.heap.size w).alloc (Nat.le_refl _) (.cells (fam (n : Int) F) 73)).alloc (by simp) (.cells #[.func (.func kf) #[] caps] 81)).alloc (by simp; omega) (.cells #[.int .i64 0] 74))
  have HF := hide (((famAt.new 73 w (n : Int) F).alloc (.cells #[.func (.func kf) #[] caps] 81)).alloc (.cells #[.int .i64 0] 74))
  have hx1 : (((w.alloc (.cells (fam (n : Int) F) 73)).alloc (.cells #[.func (.func kf) #[] caps] 81)).alloc (.cells #[.int .i64 0] 74)).heap[w.heap.size + 1]? = some (.cells #[.func (.func kf) #[] caps] 81) := by
    refine (hp_old _ _ _ (by simp)).trans ?_
    have h := hp_last (w.alloc (.cells (fam (n : Int) F) 73)) (.cells #[.func (.func kf) #[] caps] 81)
    simpa using h
  have hx2 : (((w.alloc (.cells (fam (n : Int) F) 73)).alloc (.cells #[.func (.func kf) #[] caps] 81)).alloc (.cells #[.int .i64 0] 74)).heap[w.heap.size + 2]? = some (.cells #[.int .i64 0] 74) := by
    have h := hp_last ((w.alloc (.cells (fam (n : Int) F) 73)).alloc (.cells #[.func (.func kf) #[] caps] 81)) (.cells #[.int .i64 0] 74)
    simpa using h
  have HX1 := hide hx1
  have HX2 := hide hx2
  have HZ := hide hz0
  have HT := hide hT
  have HC := hide hc
  have HBD := hide hbd
  have HOK := hide (fun k hk => gs_ok c hsp h7 k hk)
  have HNE := hide (fun k hk => gs_ne c hsp h7 (k := k) hk)
  have HFU := hide (gs_full c hsp h7)
  have HGI := hide (fun k hk => gi_ok c hsp h7 (k := k) hk)
  have HLT := hide (fun x (hx : F x = true) => show x < 128 by have h1 := hsp.lt x hx; have h2 := p2_le n 7 h7; omega)
  have HGN := hide (fun k => gs_next c (outerOf F n) k)
  have HWN := hide (fun k => grW_next c (outerOf F n) k)
  have HWL := hide (fun k => grW_len c (outerOf F n) k)
  have HGD := hide (fun k => show gi c (outerOf F n) k = mnI (c (gs c (outerOf F n) k)) (outerOf F n (gs c (outerOf F n) k)) from rfl)
  clear hx1 hx2 hz0 hT hc hbd hsp
  go_enter Tryd.func73, Tryd.ntmps73
  go_wp2_with fail
  generalize ((w.alloc (.cells (fam (n : Int) F) 73)).alloc (.cells #[.func (.func kf) #[] caps] 81)).alloc (.cells #[.int .i64 0] 74) = W at HB0 HF HX1 HX2 HZ ⊢
  go_loopw [5] (fun o wr => ∃ k : Nat, k ≤ n ∧ Hid (own 3 wr (w.heap.size + 3) o (grW c (outerOf F n) k)) ∧ Hid (wr.heap[w.heap.size + 2]? = some (.cells #[.int .i64 (gs c (outerOf F n) k : Int)] 74)) ∧ Hid (Below (w.heap.size + 2) W wr) ∧ w.heap.size + 3 ≤ wr.heap.size) (fun o wr => 8 - (grLen o))
  case atStart => exact ⟨0, Nat.zero_le _, own_nil _ _ _, HX2, Below.refl _ _, by rw [HZ.out]; omega⟩
  case round =>
    obtain ⟨k, hk2, HO, HS, HB, hsz⟩ := hrel
    have hlenk := HWL.out k
    obtain ⟨oa, oc, ho⟩ := HO.out.shape
    rw [hlenk] at ho
    subst ho
    have hz := HZ.out
    have hok := HOK.out k hk2
    have hs128 := HLT.out _ hok.1
    have HFW := hide (fun w' (h : Below wr.heap.size wr w') => (HF.out.below HB.out (by omega)).below h (by omega))
    have HSW := hide (fun w' (h : Below wr.heap.size wr w') => (h.block (w.heap.size + 2) (by omega)).trans HS.out)
    have HXW := hide (fun w' (h : Below wr.heap.size wr w') => (h.block (w.heap.size + 1) (by omega)).trans ((HB.out.block (w.heap.size + 1) (by omega)).trans HX1.out))
    have HBW := hide (HB0.out.trans (HB.out.mono (show w.heap.size ≤ w.heap.size + 2 by omega)))
    have HFC := hide (fun w' => by have := full_c (n : Int) F w' (by omega) (by omega); rw [Int.toNat_natCast] at this; exact this)
    by_cases hlt : k < n
    · have hne := HNE.out k hlt
      have hnb : ((gs c (outerOf F n) k : Int) != (low n : Int)) = true := by simp; omega
      have hgi := HGI.out k hlt
      have hin := outer_in hgi.1
      have HGK := hide (HGN.out k)
      have HWK := hide (HWN.out k)
      have HGDK := hide (HGD.out k)
      have HBDK := hide (fun b (hb : (outerOf F n (gs c (outerOf F n) k)).testBit b = true) => And.intro (outer_in hb).1 (HBD.out (gs c (outerOf F n) k) b (outer_in hb).1))
      have hO0 : outerOf F n (gs c (outerOf F n) k) ≠ 0 := fun h => by have := hgi.1; rw [h, Nat.zero_testBit] at this; cases this
      have hO128 := outer_lt F n (gs c (outerOf F n) k) h7
      generalize gs c (outerOf F n) k = s at *
      generalize grW c (outerOf F n) k = L0 at *
      generalize gi c (outerOf F n) k = i at *
      have HOF := hide (fun w1 => by have := outerFringe_c (n : Int) F (s : Int) w1 (by omega) (by omega) (by omega) (by omega); rw [Int.toNat_natCast, Int.toNat_natCast] at this; exact this)
      generalize outerOf F n s = O at *
      clear hgi
      go_wp2_with fail
      refine wp_region_old (by kernel_rfl) (by kernel_rfl) ?_
      refine q_load_cell rowSetK rfl (.tmp _) rfl ⟨w.heap.size + 2, 0, none⟩ rfl (.int .i64 (s : Int)) (fun w' h => cell1_at0G (HSW.out w' h)) ?_
      simp only [Act.put, List.setIfInBounds_toArray, List.set_cons_zero, List.set_cons_succ]
      refine q_load_fam rowT sizeT rfl (.tmp _) rfl _ rfl (n : Int) F (fun w' h => HFW.out w' h) ?_
      simp only [Act.put, List.setIfInBounds_toArray, List.set_cons_zero, List.set_cons_succ]
      refine q_belowN rfl 111 ent_fullG _ _ rfl #[.agg (fam (n : Int) F)] rfl (.int .i64 (low n : Int)) (fun w' _ => HFC.out w') ?_
      simp only [Act.put, List.setIfInBounds_toArray, List.set_cons_zero, List.set_cons_succ]
      go_big_quiet_step ((first | exact fun _ => rfl | exact fun _ => ⟨rfl, rfl⟩))
      refine wpQuiet_nil ?_
      intro w2 hb2
      have hz2 := hb2.size
      have c2 := cell1_at0G (HSW.out w2 hb2)
      have HF2 := hide (HFW.out w2 hb2)
      have HS2 := hide (HSW.out w2 hb2)
      have HX3 := hide (HXW.out w2 hb2)
      have HB2 := hide (HB.out.trans (hb2.mono (show w.heap.size + 2 ≤ wr.heap.size by omega)))
      have HBW2 := hide (HBW.out.trans (hb2.mono (show w.heap.size ≤ wr.heap.size by omega)))
      have HO2 := hide (HO.out.kept hb2)
      clear hb2
      go_wp2_with (first
        | (refine wpList_load_fam rowT sizeT rfl (.tmp _) rfl _ rfl (n : Int) F HF2.out ?_)
        | (go_at_call 63; refine (HOF.out _).mono ?_; rintro e w3 ⟨rfl, hb3⟩; have hz3 := hb3.size; have HO3 := hide (HO2.out.kept hb3); have HS3 := hide ((hb3.block (w.heap.size + 2) (by omega)).trans HS2.out); have HX4 := hide ((hb3.block (w.heap.size + 1) (by omega)).trans HX3.out); have HB3 := hide (HB2.out.trans (hb3.mono (show w.heap.size + 2 ≤ w2.heap.size by omega))); have HBW3 := hide (HBW2.out.trans (hb3.mono (show w.heap.size ≤ w2.heap.size by omega))); clear hb3)
        | (go_at_call 113; refine (items_c O _ hO128 (HT.out.below HBW3.out)).mono ?_; rintro e w4 ⟨v4, rfl, ho4, hb4⟩; have hz4 := hb4.size; have HI4 := hide ho4; have HO4 := hide (HO3.out.kept hb4); have HS4 := hide ((hb4.block (w.heap.size + 2) (by omega)).trans HS3.out); have HX5 := hide ((hb4.block (w.heap.size + 1) (by omega)).trans HX4.out); have HB4 := hide (HB3.out.trans (hb4.mono (show w.heap.size + 2 ≤ w3.heap.size by omega))); have HBW4 := hide (HBW3.out.trans (hb4.mono (show w.heap.size ≤ w3.heap.size by omega))); clear ho4 hb4)
        | (go_at_call 112; refine (minFunc_c 114 #[.pointer (some ⟨w.heap.size + 1, 0, none⟩), .pointer (some ⟨w.heap.size + 2, 0, none⟩)] (c s) v4 O _ _ ent_greedy1 hO128 hO0 HI4.out (fun b hb => by have := (HBDK.out b hb).2; omega) (fun w1 h1 a b ha hb => greedy1_c kf caps c n s a b (w.heap.size + 1) (w.heap.size + 2) w1 hk (HC.out.below (HBW4.out.trans (h1.mono (show w.heap.size ≤ w4.heap.size by omega)))) hs128 (HBDK.out a ha).1 (HBDK.out b hb).1 (by have := (HBDK.out a ha).2; omega) (by have := (HBDK.out b hb).2; omega) (cell1_at0G ((h1.block (w.heap.size + 1) (by omega)).trans HX5.out)) (by have := h1.size; omega) (cell1_at0G ((h1.block (w.heap.size + 2) (by omega)).trans HS4.out)) (by have := h1.size; omega))).mono ?_; rw [← HGDK.out]; rintro e w5 ⟨rfl, hb5⟩; have hz5 := hb5.size; have HO5 := hide (HO4.out.kept hb5); have HS5 := hide ((hb5.block (w.heap.size + 2) (by omega)).trans HS4.out); have HB5 := hide (HB4.out.trans (hb5.mono (show w.heap.size + 2 ≤ w4.heap.size by omega))); clear hb5)
        | (at_builtin; refine wpList_append1 sliceT intI rfl (.tmp 18) (.tmp 20) rfl (w.heap.size + 3) _ _ rfl (HO5.out.alloc _) _ (i : Int) rfl (by simp [go_sem]) (by simp; omega) (by omega) ?_; intro v7 w7 ho7 hb7; have HO7 := hide ho7; have hb8 := ((Below.refl w5.heap.size w5).alloc (Nat.le_refl _) (.cells #[.int .i64 (i : Int)] 3)); have HS7 := hide ((hb7.block (w.heap.size + 2) (by omega)).trans ((hb8.block (w.heap.size + 2) (by omega)).trans HS5.out)); have c7 := cell1_at0G HS7.out; have f7 := hp_free HS7.out 0; have HB7 := hide ((HB5.out.trans (hb8.mono (by omega))).trans (hb7.mono (show w.heap.size + 2 ≤ w.heap.size + 3 by omega))); have hz7 := hb7.size; clear ho7 hb7 hb8)
        | (go_at_call 103; refine (with_c _ _ _ (by omega) (by omega) (by omega) (by omega)).mono ?_; rw [Int.toNat_natCast, Int.toNat_natCast]; rintro e w8 ⟨rfl, rfl⟩))
      go_roundw
      case rel => exact ⟨k + 1, by omega, by rw [HWK.out]; exact HO7.out.setLow ⟨w.heap.size + 2, 0, none⟩ (show w.heap.size + 2 < w.heap.size + 3 by omega) _, by rw [HGK.out]; have h := hp_set _ (w.heap.size + 2) 0 _ _ (.int .i64 ((s ||| p2 i : Nat) : Int)) HS7.out; exact h, HB7.out.setCell (by show w.heap.size + 2 ≤ w.heap.size + 2; omega) _, by simp [World.setCell]; simp at hz7; omega⟩
      case measure =>
        obtain ⟨xa, xc, hx⟩ := HO7.out.shape
        rw [hx, List.length_append, List.length_singleton, hlenk]
        simp [grLen]
        omega
    · have hkn : k = n := by omega
      subst hkn
      have hfu := HFU.out
      have hnb : ((gs c (outerOf F k) k : Int) != (low k : Int)) = false := by simp; omega
      generalize hW : grW c (outerOf F k) k = L0 at *
      have HWW := hide hW
      clear hW
      generalize gs c (outerOf F k) k = s at *
      go_wp2_with fail
      refine wp_region_old (by kernel_rfl) (by kernel_rfl) ?_
      refine q_load_cell rowSetK rfl (.tmp _) rfl ⟨w.heap.size + 2, 0, none⟩ rfl (.int .i64 (s : Int)) (fun w' h => cell1_at0G (HSW.out w' h)) ?_
      simp only [Act.put, List.setIfInBounds_toArray, List.set_cons_zero, List.set_cons_succ]
      refine q_load_fam rowT sizeT rfl (.tmp _) rfl _ rfl (k : Int) F (fun w' h => HFW.out w' h) ?_
      simp only [Act.put, List.setIfInBounds_toArray, List.set_cons_zero, List.set_cons_succ]
      refine q_belowN rfl 111 ent_fullG _ _ rfl #[.agg (fam (k : Int) F)] rfl (.int .i64 (low k : Int)) (fun w' _ => HFC.out w') ?_
      simp only [Act.put, List.setIfInBounds_toArray, List.set_cons_zero, List.set_cons_succ]
      go_big_quiet_step ((first | exact fun _ => rfl | exact fun _ => ⟨rfl, rfl⟩))
      refine wpQuiet_nil ?_
      intro w2 hb2
      have HO2 := hide (HO.out.kept hb2)
      have HBW2 := hide (HBW.out.trans (hb2.mono (show w.heap.size ≤ wr.heap.size by omega)))
      clear hb2
      go_wp2
      go_ret
      exact ⟨_, rfl, by rw [HWW.out]; exact HO2.out.mono (by omega), HBW2.out⟩
end Go.Proofs.YtndnkefbilhgnaaDoor
