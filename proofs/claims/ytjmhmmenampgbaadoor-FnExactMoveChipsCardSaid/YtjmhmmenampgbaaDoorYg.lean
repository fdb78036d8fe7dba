/- Contracts: piles in memory; degrees and what can be moved, the program's. -/
import Derived.Test.YtjmhmmenampgbaaDoorYa
import Derived.Test.YtjmhmmenampgbaaDoorYr
import Derived.Test.YtjmhmmenampgbaaDoorRh
import Derived.Handy
import Derived.Deep.MidRow
namespace Go.Proofs.YtjmhmmenampgbaaDoor
open Go.RowKit
set_option maxRecDepth 100000
set_option linter.unusedSimpArgs false
/-- The cells of piles: how many places, the lines place by place, the chips. -/
def plR (n : Nat) (L : Nat → Nat → Int) (a : Nat → Int) : List Int := (n : Int) :: (((List.range 25).map fun k => L (k / 5) (k % 5)) ++ toL 5 a)
theorem plR_len (n : Nat) (L : Nat → Nat → Int) (a : Nat → Int) : (plR n L a).length = 31 := by simp [plR, toL]
theorem plR_n (n : Nat) (L : Nat → Nat → Int) (a : Nat → Int) : (plR n L a)[0]?.getD 0 = (n : Int) := rfl
theorem plR_line (n : Nat) (L : Nat → Nat → Int) (a : Nat → Int) {i j : Nat} (hi : i < 5) (hj : j < 5) : (plR n L a)[1 + i * 5 + j]?.getD 0 = L i j := by
  unfold plR
  rw [show 1 + i * 5 + j = (i * 5 + j) + 1 by omega, List.getElem?_cons_succ, List.getElem?_append_left (by simp; omega)]
  have e1 : (i * 5 + j) / 5 = i := by omega
  have e2 : (i * 5 + j) % 5 = j := by omega
  rw [List.getElem?_map, List.getElem?_range (by omega)]
  simp [e1, e2]
theorem plR_at (n : Nat) (L : Nat → Nat → Int) (a : Nat → Int) {j : Nat} (hj : j < 5) : (plR n L a)[26 + j]?.getD 0 = a j := by
  unfold plR
  rw [show 26 + j = (25 + j) + 1 by omega, List.getElem?_cons_succ, List.getElem?_append_right (by simp)]
  rw [show 25 + j - ((List.range 25).map fun k => L (k / 5) (k % 5)).length = j by simp]
  exact toL_at a hj
theorem plR_setAt (n : Nat) (L : Nat → Nat → Int) (a : Nat → Int) {j : Nat} (x : Int) : (plR n L a).set (26 + j) x = plR n L (updF a j x) := by
  unfold plR
  rw [show 26 + j = (25 + j) + 1 by omega, List.set_cons_succ, List.set_append_right _ _ (by simp)]
  rw [show 25 + j - ((List.range 25).map fun k => L (k / 5) (k % 5)).length = j by simp, toL_set]
theorem rowPK : (Tryd.prog.underlying 55).map TypeDesc.isRow = some true := by kernel_rfl
theorem sizePK : (Tryd.prog.info? 55).map (·.size) = some 31 := by kernel_rfl
theorem sizePKl (n : Nat) (L : Nat → Nat → Int) (a : Nat → Int) : (Tryd.prog.info? 55).map (·.size) = some (rowV (plR n L a)).size := by rw [rowV_size, plR_len]; exact sizePK
def zL : Nat → Nat → Int := fun _ _ => 0
def zA : Nat → Int := fun _ => 0
theorem zeroPK : ((Tryd.prog.info? 55).bind (·.zero)).map Value.cells = some (rowV (plR 0 zL zA)) := by kernel_rfl
/-- Piles in a block. -/
def pkAt (w : World) (g n : Nat) (L : Nat → Nat → Int) (a : Nat → Int) : Prop := blk 55 w g (plR n L a)
theorem pkAt.cell {w : World} {g n : Nat} {L : Nat → Nat → Int} {a : Nat → Int} (h : pkAt w g n L a) : w.cell? ⟨g, 0, none⟩ = some (.int .i64 (n : Int)) := by
  have h1 := blk.cell h 0 (by rw [plR_len]; omega)
  rwa [plR_n] at h1
theorem pkAt.line {w : World} {g n : Nat} {L : Nat → Nat → Int} {a : Nat → Int} (h : pkAt w g n L a) {i j : Nat} (hi : i < 5) (hj : j < 5) : w.cell? ⟨g, 1 + i * 5 + j, none⟩ = some (.int .i64 (L i j)) := by
  have h1 := blk.cell h (1 + i * 5 + j) (by rw [plR_len]; omega)
  rwa [plR_line n L a hi hj] at h1
theorem pkAt.chip {w : World} {g n : Nat} {L : Nat → Nat → Int} {a : Nat → Int} (h : pkAt w g n L a) {j : Nat} (hj : j < 5) : w.cell? ⟨g, 26 + j, none⟩ = some (.int .i64 (a j)) := by
  have h1 := blk.cell h (26 + j) (by rw [plR_len]; omega)
  rwa [plR_at n L a hj] at h1
theorem pkAt.setA {w : World} {g n : Nat} {L : Nat → Nat → Int} {a : Nat → Int} (h : pkAt w g n L a) (j : Nat) (x : Int) : pkAt (w.setCell ⟨g, 26 + j, none⟩ (.int .i64 x)) g n L (updF a j x) := by
  have h1 := blk.set h (26 + j) x
  rwa [plR_setAt] at h1
theorem pkAt.free {w : World} {g n : Nat} {L : Nat → Nat → Int} {a : Nat → Int} (h : pkAt w g n L a) (j : Nat) : w.frozen? ⟨g, j, none⟩ = false := blk.free h j
theorem pkAt.lt {w : World} {g n : Nat} {L : Nat → Nat → Int} {a : Nat → Int} (h : pkAt w g n L a) : g < w.heap.size := blk.lt h
theorem pkAt.below {w w' : World} {g n B : Nat} {L : Nat → Nat → Int} {a : Nat → Int} (h : pkAt w g n L a) (hb : Below B w w') (hg : g < B) : pkAt w' g n L a := blk.below h hb hg
theorem pkAt.new (w : World) (n : Nat) (L : Nat → Nat → Int) (a : Nat → Int) : pkAt (w.alloc (.cells (rowV (plR n L a)) 55)) w.heap.size n L a := blk.new _ _ _
theorem pkAt.alloc {w : World} {g n : Nat} {L : Nat → Nat → Int} {a : Nat → Int} (h : pkAt w g n L a) (o : Obj) : pkAt (w.alloc o) g n L a := blk.alloc h o
theorem pkAt.row {w : World} {g n m : Nat} {L K : Nat → Nat → Int} {a b : Nat → Int} (h : pkAt w g n L a) : pkAt (w.setRow g (rowV (plR m K b))) g m K b := blk.row h _
theorem pkAt.rowO {w : World} {g n : Nat} {L : Nat → Nat → Int} {a : Nat → Int} (h : pkAt w g n L a) (b : Nat) (hb : g ≠ b) (c : Array Value) : pkAt (w.setRow b c) g n L a := blk.rowO h b hb c
/-- Five numbers in a row of a block, as a slice. -/
theorem five_ints {w : World} {g off : Nat} {f : Nat → Int} (hg : g < w.heap.size) (h : ∀ j, j < 5 → w.cell? ⟨g, off + j, none⟩ = some (.int .i64 (f j))) (n c : Nat) (hn : n ≤ 5) : ints w.heap.size w (.slice (some ⟨g, off, none⟩) n c) (toL n f) :=
  .inr ⟨g, off, c, by rw [toL_len], hg, hg, fun j hj => by rw [toL_len] at hj; rw [toL_at f hj]; exact h j (by omega)⟩
theorem pkAt.lineS {w : World} {g n : Nat} {L : Nat → Nat → Int} {a : Nat → Int} (h : pkAt w g n L a) {i : Nat} (hi : i < 5) (c : Nat) : ints w.heap.size w (.slice (some ⟨g, 1 + i * 5, none⟩) 5 c) (toL 5 (L i)) :=
  five_ints h.lt (fun _ hj => h.line hi hj) 5 c (Nat.le_refl _)
/-- The sum of a list of numbers. -/
def smL (l : List Int) : Nat → Int := smF (fun k => l[k]?.getD 0)
theorem smL_toL (n : Nat) (f : Nat → Int) : smL (toL n f) n = smF f n := smF_congr fun _ hi => toL_at f hi
attribute [local irreducible] p2 low memB risB
theorem total_cY (v : Value) (l : List Int) (w : World) (hl : ints w.heap.size w v l) (hlen : l.length < 1000000000) (hb : ∀ k, k ≤ l.length → -1000000 ≤ smL l k ∧ smL l k ≤ 1000000) :
    Calls Tryd.prog 66 #[v] w fun e w' => e = .returned (.int .i64 (smL l l.length)) ∧ w = w' := by
  obtain ⟨a0, c0, e0⟩ := hl.shape
  subst e0
  have HL := hide hl
  have HB := hide hb
  clear hl hb
  go_enter Tryd.func66, Tryd.ntmps66
  go_wp2_with fail
  go_loop [3, 8] (fun sv iv => ∃ k : Nat, k ≤ l.length ∧ iv = .int .i64 (k : Int) ∧ sv = .int .i64 (smL l k)) (fun _ iv => l.length - (intOf iv).toNat)
  case atStart => exact ⟨0, Nat.zero_le _, rfl, rfl⟩
  case round =>
    obtain ⟨k, hk, rfl, rfl⟩ := hrel
    have HNX := hide (show smL l (k + 1) = smL l k + l[k]?.getD 0 from rfl)
    by_cases hlt : k < l.length
    · have hlt' : (k : Int) < (l.length : Int) := by omega
      have h1 := HB.out k hk
      have h2 := HB.out (k + 1) hlt
      rw [HNX.out] at h2
      generalize hx : l[k]?.getD 0 = x at *
      have HX := hide hx
      clear hx
      generalize hs : smL l k = s at *
      clear hs
      have hw : IntKind.i64.wrap (s + x) = s + x := IntWalk.i64_in _ (by omega)
      go_wp2_with (refine wpList_at sliceT intS rfl (.tmp _) (.tmp _) rfl _ rfl k rfl w.heap.size l HL.out hlt ?_; intro ad hcell hblk; rw [HX.out] at hcell)
      go_round
      case rel => exact ⟨k + 1, by omega, by go_num, by rw [HNX.out]⟩
      case measure => (simp [intOf] <;> omega)
    · have HK := hide (show k = l.length by omega)
      have hlt' : ¬ ((k : Int) < (l.length : Int)) := by omega
      go_wp2
      go_ret
      exact ⟨ret_i (by rw [HK.out]), rfl⟩
set_option maxHeartbeats 1000000 in
theorem degree_c (n : Nat) (L : Nat → Nat → Int) (a : Nat → Int) (i : Nat) (w : World) (hL : LnOk n L) (hi : i < 5) :
    Calls Tryd.prog 80 #[.agg (rowV (plR n L a)), .int .i64 (i : Int)] w fun e w' => e = .returned (.int .i64 (dg L i)) ∧ Below w.heap.size w w' := by
  have HP := hide (pkAt.new w n L a)
  have hsum : ∀ k, k ≤ (toL 5 (L i)).length → -1000000 ≤ smL (toL 5 (L i)) k ∧ smL (toL 5 (L i)) k ≤ 1000000 := fun k hk => by
    rw [toL_len] at hk
    have e : smL (toL 5 (L i)) k = smF (L i) k := smF_congr fun j hj => toL_at (L i) (by omega)
    have h1 := smF_lo (f := L i) (k := k) fun j _ => hL.lo i j
    have h2 := smF_hi (f := L i) (c := 3) (k := k) fun j _ => hL.hi i j
    rw [e]; omega
  have HT := hide (fun c => total_cY (.slice (some ⟨w.heap.size, 1 + i * 5, none⟩) 5 c) (toL 5 (L i)) (w.alloc (.cells (rowV (plR n L a)) 55)) (HP.out.lineS hi c) (by rw [toL_len]; omega) hsum)
  have HE := hide (show smL (toL 5 (L i)) (toL 5 (L i)).length = dg L i by rw [toL_len]; exact smL_toL 5 (L i))
  rw [HE.out] at HT
  have HB := hide ((Below.refl w.heap.size w).alloc (Nat.le_refl _) (.cells (rowV (plR n L a)) 55))
  clear hsum
  have hi' : (i : Int) < 5 := by omega
  go_enter Tryd.func80, Tryd.ntmps80
  go_wp2_with (go_at_call 66; refine (HT.out _).mono ?_; rintro e w2 ⟨rfl, rfl⟩)
  go_ret
  exact ⟨rfl, HB.out⟩
theorem ent_canMove : enters Tryd.prog 69 := enters_of Tryd.func69 (by kernel_rfl) (by kernel_rfl)
set_option maxHeartbeats 1000000 in
theorem canMove_c (n : Nat) (L : Nat → Nat → Int) (a : Nat → Int) (i : Nat) (w : World) (hL : LnOk n L) (hi : i < 5) :
    Calls Tryd.prog 69 #[.agg (rowV (plR n L a)), .int .i64 (i : Int)] w fun e w' => e = .returned (.bool (canB L a i)) ∧ Below w.heap.size w w' := by
  have HP := hide (pkAt.new w n L a)
  have HB := hide ((Below.refl w.heap.size w).alloc (Nat.le_refl _) (.cells (rowV (plR n L a)) 55))
  have HD := hide (fun w1 => degree_c n L a i w1 hL hi)
  have HC := hide (show canB L a i = (decide (0 < dg L i) && decide (dg L i ≤ a i)) from rfl)
  have hi' : (i : Int) < 5 := by omega
  have HX := hide (fun w1 (h : pkAt w1 w.heap.size n L a) => h.chip hi)
  rw [HC.out]
  generalize dg L i = d at *
  generalize a i = x at *
  have hws : (w.alloc (.cells (rowV (plR n L a)) 55)).heap.size = w.heap.size + 1 := by simp
  cases hd : decide (0 < d)
  · have hd2 : ¬ 0 < d := of_decide_eq_false hd
    go_enter Tryd.func69, Tryd.ntmps69
    go_wp2_with (first
      | (refine wpList_load_csY rowPK (sizePKl n L a) rfl (.tmp _) rfl _ rfl HP.out ?_)
      | (go_at_call 80; refine (HD.out _).mono ?_; rintro e w2 ⟨rfl, hb2⟩; have HB2 := hide (HB.out.trans (hb2.mono (by simp))); clear hb2))
    go_ret
    exact ⟨rfl, HB2.out⟩
  · have hd2 : 0 < d := of_decide_eq_true hd
    go_enter Tryd.func69, Tryd.ntmps69
    go_wp2_with (first
      | (refine wpList_load_csY rowPK (sizePKl n L a) rfl (.tmp _) rfl _ rfl HP.out ?_)
      | (go_at_call 80; refine (HD.out _).mono ?_; rintro e w2 ⟨rfl, hb2⟩; have HB2 := hide (HB.out.trans (hb2.mono (by simp))); have c1 := HX.out w2 (HP.out.below hb2 (by simp)); clear hb2))
    go_ret
    exact ⟨ret_b (by simp [hd2]), HB2.out⟩
/-! ### Items where a function value with what stands ahead of its arguments says so -/
theorem itemsWhereP1_c (i : Int) (g : Nat) (k : Nat) (pre caps : Array Value) (w : World) (b : Bool) (hk : enters Tryd.prog k) (h0 : 0 ≤ i) (h2 : i ≤ 7)
    (hc : w.cell? ⟨g, 0, none⟩ = some (.func (.func k) pre caps))
    (hcl : Calls Tryd.prog k (pre ++ #[.int .i64 i] ++ caps) w fun e w2 => e = .returned (.bool b) ∧ Below w.heap.size w w2) :
    Calls Tryd.prog 78 #[.int .i64 i, .pointer (some ⟨g, 0, none⟩)] w fun e w' => e = .returned (.int .i64 ((if b then p2 i.toNat else 0 : Nat) : Int)) ∧ Below w.heap.size w w' := by
  have hk1 : ∀ (args : Array Value) (w : World), Sem.run Tryd.prog (callFunc k args) w = .ok (.enter k args) w := hk
  go_enter Tryd.func78, Tryd.ntmps78
  go_wp2_with fail
  refine hcl.mono ?_
  rintro e w1 ⟨rfl, hb⟩
  cases b
  · go_wp2
    go_ret
    exact ⟨rfl, hb⟩
  · go_wp2_with (go_at_call 79; refine (single_c _ _ (by omega) (by omega)).mono ?_; rintro e w' ⟨rfl, rfl⟩)
    go_ret
    exact ⟨rfl, hb⟩
theorem itemsWhereP_c (n : Int) (k : Nat) (pre caps : Array Value) (w : World) (K : Nat → Bool) (hk : enters Tryd.prog k) (h0 : 0 ≤ n) (h2 : n ≤ 7)
    (hcl : ∀ (i : Int) (w1 : World), 0 ≤ i → i < n → Below w.heap.size w w1 → Calls Tryd.prog k (pre ++ #[.int .i64 i] ++ caps) w1 fun e w2 => e = .returned (.bool (K i.toNat)) ∧ Below w1.heap.size w1 w2) :
    Calls Tryd.prog 68 #[.int .i64 n, .func (.func k) pre caps] w fun e w' => e = .returned (.int .i64 (itemsOf K n.toNat : Int)) ∧ Below w.heap.size w w' := by
  have hb0 : Below w.heap.size w (w.alloc (.cells #[.func (.func k) pre caps] 84)) := (Below.refl _ _).alloc (Nat.le_refl _) _
  go_enter Tryd.func68, Tryd.ntmps68
  go_wp2_with fail
  refine (sumOf_c n 78 #[.pointer (some ⟨w.heap.size, 0, none⟩)] _ (fun i => if K i then p2 i else 0) h0 (by omega) ent_itemsWhere1 ?h1 ?h2).mono ?_
  case h1 => intro i hi; show (if K i then p2 i else 0) < 128; split; exact p2_lt128 _ (by omega); omega
  case h2 =>
    intro i w1 hi0 hi hb
    refine itemsWhereP1_c i w.heap.size k pre caps w1 (K i.toNat) hk hi0 (by omega) ?_ (hcl i w1 hi0 hi (hb0.trans (hb.mono (by simp))))
    rw [hb.cell (by simp)]
    simp
  rintro e w' ⟨rfl, hb⟩
  go_wp2
  go_ret
  exact ⟨rfl, hb0.trans (hb.mono (by simp))⟩
set_option maxHeartbeats 1000000 in
theorem open_cY (n : Nat) (L : Nat → Nat → Int) (a : Nat → Int) (w : World) (hL : LnOk n L) :
    Calls Tryd.prog 45 #[.agg (rowV (plR n L a))] w fun e w' => e = .returned (.int .i64 (opM n L a : Int)) ∧ Below w.heap.size w w' := by
  have HP := hide (pkAt.new w n L a)
  have c0 := HP.out.cell
  have h5 := hL.n5
  have HB := hide ((Below.refl w.heap.size w).alloc (Nat.le_refl _) (.cells (rowV (plR n L a)) 55))
  have HI := hide (fun w1 => itemsWhereP_c (n : Int) 69 #[.agg (rowV (plR n L a))] #[] w1 (canB L a) ent_canMove (by omega) (by omega) (fun i w2 h0 h1 _ => by
    have h := canMove_c n L a i.toNat w2 hL (by omega)
    rw [Int.toNat_of_nonneg h0] at h
    exact h))
  rw [Int.toNat_natCast] at HI
  go_enter Tryd.func45, Tryd.ntmps45
  go_wp2_with (first
    | (refine wpList_load_csY rowPK (sizePKl n L a) rfl (.tmp _) rfl _ rfl HP.out ?_)
    | (go_at_call 68; refine (HI.out _).mono ?_; rintro e w2 ⟨rfl, hb2⟩; have HB2 := hide (HB.out.trans (hb2.mono (by simp))); clear hb2))
  go_ret
  exact ⟨rfl, HB2.out⟩
end Go.Proofs.YtjmhmmenampgbaaDoor
