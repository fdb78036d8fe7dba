/- Contracts: the ends of paths: EndOf, PathsTo: the specification's and the program's. -/
import Derived.Test.YtagahoaogfogkaaDoorPi
import Derived.Test.YtagahoaogfogkaaDoorTz
namespace Go.Proofs.YtagahoaogfogkaaDoor
open Go.RowKit
set_option maxRecDepth 100000
def endF (F : Nat → Bool) (n s : Nat) : Nat := tzN (innerOf F n s)
def endSp (l : List Int) (s : Nat) : Nat := tzN (itemsOf (innerSp l s) 7)
theorem end_same {n : Int} {l : List Int} (h : okSp n l = true) (s : Nat) (hs : s < 2 ^ n.toNat) : endF (marksTo l l.length) n.toNat s = endSp l s := by
  have hn := okSp_n h
  unfold endF endSp
  rw [inner_same _ l n.toNat s (by omega) hs (fun y _ => okSp_marks h y)]
theorem path_ne {F : Nat → Bool} {n s : Nat} (h : pathF F n s = true) : innerOf F n s ≠ 0 := by
  simp only [pathF, Bool.and_eq_true, beq_iff_eq] at h
  intro e
  rw [e] at h
  exact absurd h.2 (by decide)
theorem pathSp_ne {l : List Int} {s : Nat} (h : pathSp l s = true) : itemsOf (innerSp l s) 7 ≠ 0 := by
  simp only [pathSp, Bool.and_eq_true, beq_iff_eq] at h
  intro e
  rw [e] at h
  exact absurd h.2 (by decide)
theorem where_end {n : Int} {l : List Int} (h : okSp n l = true) (i : Nat) : setsTo (fun x => pathF (marksTo l l.length) n.toNat x && (endF (marksTo l l.length) n.toNat x == i)) (2 ^ n.toNat) = paTo (fun s => pathSp l s && (endSp l s == i)) l l.length := by
  refine (paTo_sp h _ _ (fun x hx _ => ?_) (fun x hx => ?_)).symm
  · rw [path_same h x hx, end_same h x hx]
  · simp only [pathF, Bool.and_eq_true] at hx
    exact hx.1.1
def eoR (n : Int) (l : List Int) (x : Int) : Int := if ipR n l x then (endSp l x.toNat : Int) else 0
theorem eoR_no {n : Int} {l : List Int} {x : Int} (h : ipR n l x = false) : eoR n l x = 0 := by simp [eoR, h]
theorem eoR_yes {n : Int} {l : List Int} {x : Int} (h : ipR n l x = true) : eoR n l x = (endSp l x.toNat : Int) := by simp [eoR, h]
def ptB (n : Int) (l : List Int) (x : Int) : Bool := okSp n l && decide (0 ≤ x ∧ x < n)
def ptL (n : Int) (l : List Int) (x : Int) : List Int := if ptB n l x then paTo (fun s => pathSp l s && (endSp l s == x.toNat)) l l.length else []
theorem ptL_no {n : Int} {l : List Int} {x : Int} (h : ptB n l x = false) : ptL n l x = [] := by simp [ptL, h]
theorem ptL_yes {n : Int} {l : List Int} {x : Int} (h : ptB n l x = true) : ptL n l x = paTo (fun s => pathSp l s && (endSp l s == x.toNat)) l l.length := by simp [ptL, h]
theorem ptB_sp {n : Int} {l : List Int} {x : Int} (h : ptB n l x = true) : okSp n l = true ∧ 0 ≤ x ∧ x < n := by
  simp only [ptB, Bool.and_eq_true, decide_eq_true_eq] at h
  exact ⟨h.1, h.2.1, h.2.2⟩
theorem ptL_len (n : Int) (l : List Int) (x : Int) : (ptL n l x).length < 1000000000 := by
  unfold ptL
  split
  · rename_i h
    have h1 := paTo_len (fun s => pathSp l s && (endSp l s == x.toNat)) l l.length
    have h2 := okSp_len (ptB_sp h).1
    omega
  · simp
attribute [local irreducible] p2 low memB risB

/-! ### The program's end of a path -/
theorem ent_endOf : enters Tryd.prog 59 := enters_of Tryd.func59 (by kernel_rfl) (by kernel_rfl)
theorem endOf_c (n : Int) (F : Nat → Bool) (s : Nat) (w : World) (h0 : 0 ≤ n) (h7 : n ≤ 7) (hs : s < 128) (hp : pathF F n.toNat s = true) (hT : tab w) :
    Calls Tryd.prog 59 #[.agg (fam n F), .int .i64 (s : Int)] w fun e w' => e = .returned (.int .i64 (endF F n.toNat s : Int)) ∧ Below w.heap.size w w' := by
  have HT := hide (hT.alloc (.cells (fam n F) 55))
  have HB := hide ((Below.refl w.heap.size w).alloc (Nat.le_refl _) (.cells (fam n F) 55))
  have HF := hide (famAt.new 55 w n F)
  have hi := inner_lt F n.toNat s (by omega)
  have hne := path_ne hp
  have HI : Hid (∀ (w1 : World), Calls Tryd.prog 87 #[.agg (fam n F), .int .i64 (s : Int)] w1 fun e w' => e = .returned (.int .i64 (innerOf F n.toNat s : Int)) ∧ Below w1.heap.size w1 w') := hide fun w1 => by
    have := innerFringe_c n F (s : Int) w1 h0 h7 (by omega) (by omega)
    rw [Int.toNat_natCast] at this
    exact this
  have HE := hide (show endF F n.toNat s = tzN (innerOf F n.toNat s) from rfl)
  clear hT hp
  generalize innerOf F n.toNat s = I at hi hne HI HE
  have HFI := hide (fun (w1 : World) (h1 : tab w1) => first_c I w1 hi hne h1)
  have HNE := hide hne
  clear hne
  generalize tzN I = t at HE HFI
  rw [HE.out]
  go_enter Tryd.func59, Tryd.ntmps59
  go_wp2_with (first
    | (refine wpList_load_fam rowT sizeT rfl (.tmp _) rfl _ rfl n F HF.out ?_)
    | (go_at_call 87; refine (HI.out _).mono ?_; rintro e w1 ⟨rfl, hb1⟩; have HB1 := hide (HB.out.trans (hb1.mono (by simp))); have HT1 := hide (HT.out.belowB HT.out hb1 (Nat.le_refl _)); clear hb1)
    | (go_at_call 89; refine (HFI.out _ HT1.out).mono ?_; rintro e w2 ⟨rfl, rfl⟩))
  go_ret
  exact ⟨rfl, HB1.out⟩

/-! ### The closure of pathsTo -/
theorem ent_pt1 : enters Tryd.prog 91 := enters_of Tryd.func91 (by kernel_rfl) (by kernel_rfl)
set_option maxHeartbeats 1000000 in
theorem pt1_c (n : Int) (F : Nat → Bool) (s i g gi : Nat) (w : World) (h0 : 0 ≤ n) (h7 : n ≤ 7) (hs : s < 128) (hp : pathF F n.toNat s = true) (hT : tab w)
    (hf : famAt 55 w g n F) (hgi : w.cell? ⟨gi, 0, none⟩ = some (.int .i64 (i : Int))) :
    Calls Tryd.prog 91 #[.int .i64 (s : Int), .pointer (some ⟨g, 0, none⟩), .pointer (some ⟨gi, 0, none⟩)] w fun e w' => e = .returned (.bool (endF F n.toNat s == i)) ∧ Below w.heap.size w w' := by
  have HT := hide hT
  have HF := hide hf
  have HG := hide hgi
  have HP := hide hp
  have hgl := block_lt_of_cell hgi
  clear hT hf hgi hp
  go_enter Tryd.func91, Tryd.ntmps91
  go_wp2
  refine wp_region_held (S := Below w.heap.size w) (by kernel_rfl) ?_
  have hS : Below w.heap.size w { w with drawn := w.drawn + 1 } := (Below.refl _ _).drew
  refine wpAnyH_take (i := 0) rfl (by kernel_rfl) (by kernel_rfl) (by kernel_rfl) (fun _ _ _ h => h) (yields_load_fam rowT sizeT rfl (.tmp _) rfl _ rfl n F (fun w' h => HF.out.below h HF.out.lt)) hS ?_
  refine wpAnyH_take (i := 1) (v := .int .i64 (s : Int)) rfl (by kernel_rfl) (by kernel_rfl) (by kernel_rfl) (fun _ _ _ h => h) (.inl ⟨rfl, fun w' _ => by go_simp⟩) hS ?_
  refine wpAnyH_take (i := 3) rfl (by kernel_rfl) (by kernel_rfl) (by kernel_rfl) (fun _ _ _ h => h) (yields_load_cell rowI rfl (.tmp _) rfl ⟨gi, 0, none⟩ rfl (.int .i64 (i : Int)) (fun w' h => (h.cell (p := ⟨gi, 0, none⟩) (by show gi < w.heap.size; exact hgl)).trans HG.out)) hS ?_
  simp only [Act.put, List.getElem_toArray, List.getElem_cons_zero, List.getElem_cons_succ, List.setIfInBounds_toArray, List.set_cons_zero, List.set_cons_succ]
  refine anyH_call (i := 2) (by kernel_rfl) rfl rfl 59 ent_endOf _ _ rfl #[.agg (fam n F), .int .i64 (s : Int)] rfl (endOf_c n F s _ h0 h7 hs HP.out (HT.out.belowB HT.out hS (Nat.le_refl _))) ?_
  rintro e w2 ⟨rfl, hb2⟩
  have hS2 : Below w.heap.size w w2 := hS.trans hb2
  refine ⟨_, rfl, hS2, ?_⟩
  simp only [Act.put, List.getElem_toArray, List.getElem_cons_zero, List.getElem_cons_succ, List.setIfInBounds_toArray, List.set_cons_zero, List.set_cons_succ]
  generalize hE : endF F n.toNat s = E
  have HE := hide hE
  clear hE
  refine anyH_op (i := 4) (by kernel_rfl) rfl rfl (.bool (E == i)) w2 ?hq hS2 ?_
  case hq =>
    simp [go_sem]
    rw [Bool.eq_iff_iff]; simp; try omega
  refine anyH_op (i := 5) (by kernel_rfl) rfl rfl (.bool (E == i)) w2 (by simp [go_sem]) hS2 ?_
  refine wpAnyH_done (by kernel_rfl) ?_ _
  simp only [Act.put, List.getElem_toArray, List.getElem_cons_zero, List.getElem_cons_succ, List.setIfInBounds_toArray, List.set_cons_zero, List.set_cons_succ]
  have HB2 := hide hS2
  clear hS hS2 hb2
  go_wp2
  go_ret
  exact ⟨ret_b (by rw [HE.out]), HB2.out⟩
theorem pathsTo_c (n : Int) (F : Nat → Bool) (i : Nat) (w : World) (h0 : 0 ≤ n) (h7 : n ≤ 7) (hT : tab w) :
    Calls Tryd.prog 63 #[.agg (fam n F), .int .i64 (i : Int)] w fun e w' => ∃ v, e = .returned v ∧ own 3 w' w.heap.size v (setsTo (fun x => pathF F n.toNat x && (endF F n.toNat x == i)) (2 ^ n.toNat)) ∧ Below w.heap.size w w' := by
  have HB := hide (((Below.refl w.heap.size w).alloc (Nat.le_refl _) (.cells (fam n F) 55)).alloc (by simp) (.cells #[.int .i64 (i : Int)] 3))
  have HF := hide ((famAt.new 55 w n F).alloc (.cells #[.int .i64 (i : Int)] 3))
  have hcl : ((w.alloc (.cells (fam n F) 55)).alloc (.cells #[.int .i64 (i : Int)] 3)).cell? ⟨w.heap.size + 1, 0, none⟩ = some (.int .i64 (i : Int)) := by simp [go_sem]
  have hz : ((w.alloc (.cells (fam n F) 55)).alloc (.cells #[.int .i64 (i : Int)] 3)).heap.size = w.heap.size + 2 := by simp
  have HC := hide hcl
  have HZ := hide hz
  have HT := hide hT
  clear hcl hz hT
  go_enter Tryd.func63, Tryd.ntmps63
  go_wp2_with (refine wpList_load_fam rowT sizeT rfl (.tmp _) rfl _ rfl n F HF.out ?_)
  refine (pathsWhere_c n F 91 #[.pointer (some ⟨w.heap.size, 0, none⟩), .pointer (some ⟨w.heap.size + 1, 0, none⟩)] _ (fun x => endF F n.toNat x == i) ent_pt1 h0 h7 ?h1).mono ?_
  case h1 =>
    intro s w1 hs hp hb
    exact pt1_c n F s i w.heap.size (w.heap.size + 1) w1 h0 h7 hs hp (HT.out.belowB HT.out (HB.out.trans (hb.mono (by rw [HZ.out]; omega))) (Nat.le_refl _)) (HF.out.below hb (by rw [HZ.out]; omega)) ((hb.cell (p := ⟨w.heap.size + 1, 0, none⟩) (by show w.heap.size + 1 < _; rw [HZ.out]; omega)).trans HC.out)
  rintro e w' ⟨v, rfl, ho, hb⟩
  go_wp2
  go_ret
  exact ⟨v, rfl, ho.mono (by rw [HZ.out]; omega), HB.out.trans (hb.mono (by rw [HZ.out]; omega))⟩

/-! ### The specification's end of a path -/
set_option maxHeartbeats 1000000 in
theorem paEnd_c (n : Int) (v : Value) (l : List Int) (s : Nat) (w : World) (hl : ints w.heap.size w v l) (hinc : inc l) (hlen : l.length < 1000000000) (hs : s < 128) (hp : pathSp l s = true) :
    Calls Tryd.prog 56 #[.agg #[.int .i64 n, v], .int .i64 (s : Int)] w fun e w' => e = .returned (.int .i64 (endSp l s : Int)) ∧ Below w.heap.size w w' := by
  have HL := hide ((hl.alloc (.cells #[.int .i64 n, v] 29)).mono (show w.heap.size ≤ (w.alloc (.cells #[.int .i64 n, v] 29)).heap.size by simp))
  have HI := hide hinc
  have H0 := hide ((Below.refl w.heap.size w).alloc (Nat.le_refl _) (.cells #[.int .i64 n, v] 29))
  have hc1 := cells_at1 (hp_last w (.cells #[.int .i64 n, v] 29))
  have hi7 : itemsOf (innerSp l s) 7 < 128 := itemsOf_lt _ 7
  have hne := pathSp_ne hp
  have HN : Hid (∀ (w1 : World), ints w1.heap.size w1 v l → Calls Tryd.prog 79 #[v, .int .i64 (s : Int)] w1 fun e w' => e = .returned (.int .i64 (itemsOf (innerSp l s) 7 : Int)) ∧ w1 = w') := hide fun w1 h1 => by
    have := spInner_c v l (s : Int) w1 h1 HI.out hlen (by omega) (by omega)
    rw [Int.toNat_natCast] at this
    exact this
  have HE := hide (show endSp l s = tzN (itemsOf (innerSp l s) 7) from rfl)
  clear hl hinc hp
  generalize itemsOf (innerSp l s) 7 = I at hi7 hne HN HE
  have HB1 := hide (tzN_bit I hi7 hne)
  have HB2 := hide (tzN_least I hi7)
  have ht7 := tzN_lt I hi7
  have HNE := hide hne
  clear hne
  generalize tzN I = t at HE HB1 HB2 ht7
  rw [HE.out]
  go_enter Tryd.func56, Tryd.ntmps56
  go_wp2_with (go_at_call 79; refine (HN.out _ HL.out).mono ?_; rintro e w' ⟨rfl, rfl⟩)
  go_loop [5] (fun i => ∃ k : Nat, k ≤ t ∧ i = .int .i64 (k : Int)) (fun i => t - (intOf i).toNat)
  case atStart => exact ⟨0, by omega, rfl⟩
  case round =>
    obtain ⟨k, hk, rfl⟩ := hrel
    have HX : Hid (∀ (w1 : World), Calls Tryd.prog 74 #[.int .i64 (I : Int), .int .i64 (k : Int)] w1 fun e w' => e = .returned (.bool (I.testBit k)) ∧ w1 = w') := hide fun w1 => by
      have := spIn_c (I : Int) (k : Int) w1 (by omega) (by omega) (by omega) (by omega)
      rw [Int.toNat_natCast, Int.toNat_natCast] at this
      exact this
    by_cases hlt : k < t
    · have hb : I.testBit k = false := by
        cases h : I.testBit k
        · rfl
        · have := HB2.out k (by omega) h; omega
      have HB := hide hb
      clear hb
      go_wp2_with (go_at_call 74; refine (HX.out _).mono ?_; rw [HB.out]; rintro e w' ⟨rfl, rfl⟩)
      go_round
      case rel => exact ⟨k + 1, by omega, by go_num⟩
      case measure => simp [intOf]; omega
    · have hkt : k = t := by omega
      subst hkt
      go_wp2_with (go_at_call 74; refine (HX.out _).mono ?_; rw [HB1.out]; rintro e w' ⟨rfl, rfl⟩)
      go_ret
      exact ⟨rfl, H0.out⟩
end Go.Proofs.YtagahoaogfogkaaDoor
