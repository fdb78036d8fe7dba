/- Contracts: numbers up to a limit, lines as many both ways, the program's. -/
import Derived.Test.YtjmhmmenampgbaaDoorYh
import Derived.Test.YtjmhmmenampgbaaDoorCi
import Derived.Test.YtjmhmmenampgbaaDoorPs
import Derived.Laws.CopyRow
namespace Go.Proofs.YtjmhmmenampgbaaDoor
open Go.RowKit
set_option maxRecDepth 100000
set_option linter.unusedSimpArgs false
theorem ent_areUpTo1 : enters Tryd.prog 76 := enters_of Tryd.func76 (by kernel_rfl) (by kernel_rfl)
attribute [local irreducible] p2 low memB risB
theorem areUpTo1_c (x m : Int) (g : Nat) (w : World) (hc : w.cell? ⟨g, 0, none⟩ = some (.int .i64 m)) :
    Calls Tryd.prog 76 #[.int .i64 x, .pointer (some ⟨g, 0, none⟩)] w fun e w' => e = .returned (.bool (decide (x < 0) || decide (m < x))) ∧ Below w.heap.size w w' := by
  by_cases h : x < 0
  all_goals
    go_enter Tryd.func76, Tryd.ntmps76
    go_wp2
    go_ret
    exact ⟨ret_b (by simp [h] <;> omega), Below.refl _ _⟩
theorem upTo_all (m : Int) (l : List Int) : (!anTo (fun x => decide (x < 0) || decide (m < x)) l l.length) = allTo 0 m l l.length := by
  rw [Bool.eq_iff_iff, Bool.not_eq_true', ← Bool.not_eq_true, anTo_iff, allTo_iff]
  constructor
  · intro h j hj
    by_cases h1 : l[j]?.getD 0 < 0
    · exact absurd ⟨j, hj, by simp [h1]⟩ h
    · by_cases h2 : m < l[j]?.getD 0
      · exact absurd ⟨j, hj, by simp [h2]⟩ h
      · omega
  · rintro h ⟨j, hj, hj2⟩
    have := h j hj
    simp at hj2
    omega
theorem areUpTo_c (m : Int) (v : Value) (l : List Int) (w : World) (hl : ints w.heap.size w v l) (hlen : l.length < 1000000000) :
    Calls Tryd.prog 65 #[.int .i64 m, v] w fun e w' => e = .returned (.bool (allTo 0 m l l.length)) ∧ Below w.heap.size w w' := by
  have HB := hide ((Below.refl w.heap.size w).alloc (Nat.le_refl _) (.cells #[.int .i64 m] 3))
  have HL := hide ((hl.alloc (.cells #[.int .i64 m] 3)).mono (show w.heap.size ≤ (w.alloc (.cells #[.int .i64 m] 3)).heap.size by simp))
  have HC := hide (containsFuncI_c v l 76 #[] #[.pointer (some ⟨w.heap.size, 0, none⟩)] (fun x => decide (x < 0) || decide (m < x)) (w.alloc (.cells #[.int .i64 m] 3)) HL.out hlen ent_areUpTo1 (fun k w1 hk hb => by
    refine areUpTo1_c _ m w.heap.size w1 ?_
    rw [hb.cell (p := ⟨w.heap.size, 0, none⟩) (by simp)]
    simp))
  have HE := hide (upTo_all m l)
  generalize anTo (fun x => decide (x < 0) || decide (m < x)) l l.length = b at *
  rw [← HE.out]
  clear hl
  go_enter Tryd.func65, Tryd.ntmps65
  go_wp2_with (go_at_call 74; refine HC.out.mono ?_; rintro e w3 ⟨rfl, hb3⟩; have HB3 := hide (HB.out.trans (hb3.mono (by simp))); clear hb3)
  go_ret
  exact ⟨rfl, HB3.out⟩
/-! ### As many lines both ways -/
def LnSy (L : Nat → Nat → Int) : Prop := ∀ i j, i < 5 → j < 5 → L i j = L j i ∧ (i = j → L i j = 0)
def LsTo (L : Nat → Nat → Int) (k : Nat) : Prop := ∀ i j, i < k → j < 5 → L i j = L j i ∧ (i = j → L i j = 0)
def LsRow (L : Nat → Nat → Int) (i k : Nat) : Prop := ∀ j, j < k → L i j = L j i ∧ (i = j → L i j = 0)
noncomputable def lsB (L : Nat → Nat → Int) : Bool := @decide (LnSy L) (Classical.propDecidable _)
theorem lsB_yes {L : Nat → Nat → Int} (h : LnSy L) : lsB L = true := by unfold lsB; simp [h]
theorem lsB_no {L : Nat → Nat → Int} (h : ¬ LnSy L) : lsB L = false := by unfold lsB; simp [h]
theorem LsTo_next {L : Nat → Nat → Int} {k : Nat} (h : LsTo L k) (h2 : LsRow L k 5) : LsTo L (k + 1) := by
  intro i j hi hj
  rcases Nat.lt_or_ge i k with h4 | h4
  · exact h i j h4 hj
  · rw [show i = k by omega]; exact h2 j hj
theorem LsRow_next {L : Nat → Nat → Int} {i k : Nat} (h : LsRow L i k) (h2 : L i k = L k i) (h3 : i = k → L i k = 0) : LsRow L i (k + 1) := by
  intro j hj
  rcases Nat.lt_or_ge j k with h4 | h4
  · exact h j h4
  · rw [show j = k by omega]; exact ⟨h2, h3⟩
theorem arr25 : Tryd.prog.underlying 53 = some (.array 5 52) := by kernel_rfl
theorem row25 : (Tryd.prog.underlying 53).map TypeDesc.isRow = some true := by kernel_rfl
theorem size25 : (Tryd.prog.info? 53).map (·.size) = some 25 := by kernel_rfl
theorem zero5 : ((Tryd.prog.info? 52).bind (·.zero)).map Value.cells = some (rowV [0, 0, 0, 0, 0]) := by kernel_rfl
def l25 (L : Nat → Nat → Int) : List Int := (List.range 25).map fun k => L (k / 5) (k % 5)
theorem l25_len (L : Nat → Nat → Int) : (l25 L).length = 25 := by simp [l25]
theorem l25_row (L : Nat → Nat → Int) {i : Nat} (hi : i < 5) : (rowV (l25 L)).extract (i * 5) (i * 5 + 5) = rowV (toL 5 (L i)) := by
  apply Array.ext_getElem?
  intro j
  rw [Array.getElem?_extract]
  have hs : (rowV (l25 L)).size = 25 := by rw [rowV_size, l25_len]
  by_cases hj : j < 5
  · rw [if_pos (by rw [hs]; omega)]
    unfold rowV l25 toL
    have e1 : (i * 5 + j) / 5 = i := by omega
    have e2 : (i * 5 + j) % 5 = j := by omega
    rw [List.getElem?_toArray, List.getElem?_toArray, List.getElem?_map, List.getElem?_map, List.getElem?_map, List.getElem?_map, List.getElem?_range (by omega), List.getElem?_range hj]
    simp [e1, e2]
  · rw [if_neg (by rw [hs]; omega), Array.getElem?_eq_none (by rw [rowV_size, toL_len]; omega)]
theorem wpList_index25 {ops : Array Oper} {rest : List Oper} {o : Oper} {a : Act} {w : World} {Q : Exit → Act → World → Prop} (hw : Region.wanted o (yielded ops a.tmps) = true) (x y : Operand) (ho : o.op = .index 53 x y)
    (L : Nat → Nat → Int) (hx : a.eval x = .agg (rowV (l25 L))) (i : Nat) (hy : a.eval y = .int .i64 (i : Int)) (hi : i < 5)
    (h : wpList Tryd.prog ops Q rest (a.put o.dst (.agg (rowV (toL 5 (L i))))) w) : wpList Tryd.prog ops Q (o :: rest) a w := by
  have hB' : (sizeOf 52).run Tryd.prog w = .ok 5 w := by kernel_rfl
  have hag : (isAgg 52).run Tryd.prog w = .ok true w := by kernel_rfl
  have hrun : (Instr.index 53 (.agg (rowV (l25 L))) (.int .i64 (i : Int))).run Tryd.prog w = .ok (.agg (rowV (toL 5 (L i)))) w := by
    unfold Instr.index part
    have h1 : (0 : Int) ≤ (i : Int) ∧ (i : Int) < ((5 : Nat) : Int) := by omega
    simp only [asIntOf, Sem.run_bind, Sem.run_pure, Result.andThen_ok, run_underlying arr25 w, if_pos h1, hB', hag, Int.toNat_natCast]
    rw [← l25_row L hi]
    simp [hB']
  refine wpList_of_wp hw fun K hK => ?_
  unfold Oper.wp execOp
  simp only [ho, hx, hy, Sem.run_bind, Sem.run_pure, hrun, Result.andThen_ok]
  exact hK _ _ h
set_option maxHeartbeats 2000000 in
theorem areLines_c (n : Nat) (L : Nat → Nat → Int) (a : Nat → Int) (w : World) :
    Calls Tryd.prog 67 #[.agg (rowV (plR n L a))] w fun e w' => e = .returned (.bool (lsB L)) ∧ Below w.heap.size w w' := by
  have HP := hide (pkAt.new w n L a)
  have HB0 := hide ((Below.refl w.heap.size w).alloc (Nat.le_refl _) (.cells (rowV (plR n L a)) 55))
  have hz0 : (w.alloc (.cells (rowV (plR n L a)) 55)).heap.size = w.heap.size + 1 := by simp
  have HS25 := hide (show ∀ j, j < (l25 L).length → (w.alloc (.cells (rowV (plR n L a)) 55)).cell? ⟨w.heap.size, 1 + j, none⟩ = some (.int .i64 ((l25 L)[j]?.getD 0)) from fun j hj => by
    rw [l25_len] at hj
    have h := HP.out.line (i := j / 5) (j := j % 5) (by omega) (by omega)
    rw [show 1 + j / 5 * 5 + j % 5 = 1 + j by omega] at h
    rw [h]
    simp [l25, hj])
  have HNO := hide (fun (h : ¬ LnSy L) => lsB_no h)
  have HYE := hide (fun (h : LnSy L) => lsB_yes h)
  go_enter Tryd.func67, Tryd.ntmps67
  go_wp2_with (first
    | (refine wpList_load_subY row25 rfl (.tmp _) rfl w.heap.size 1 rfl (l25 L) (by rw [l25_len]; exact size25) HS25.out ?_))
  clear HS25
  generalize w.alloc (.cells (rowV (plR n L a)) 55) = W at *
  go_loopw [9] (fun iv wr => ∃ i : Nat, i ≤ 5 ∧ iv = .int .i64 (i : Int) ∧ Hid (LsTo L i) ∧ Hid (Below (w.heap.size + 1) W wr)) (fun iv _ => 5 - (intOf iv).toNat)
  case atStart => exact ⟨0, by omega, rfl, fun i j hi => by omega, Below.refl _ _⟩
  case round =>
    obtain ⟨i, hi, rfl, HLS, HB⟩ := hrel
    have hs := HB.out.size
    by_cases hlt : i < 5
    · have hlt' : (i : Int) < 5 := by omega
      have HP1 := hide (HP.out.below HB.out (by omega))
      have HZ1 := hide (blk.new 52 wr [0, 0, 0, 0, 0])
      have HP2 := hide ((HP1.out.alloc (.cells (rowV [0, 0, 0, 0, 0]) 52)).rowO wr.heap.size (by omega) (rowV (toL 5 (L i))))
      have HR2 := hide (HZ1.out.row (toL 5 (L i)))
      have hbx := bl_row ((Below.refl wr.heap.size wr).alloc (Nat.le_refl _) (.cells (rowV [0, 0, 0, 0, 0]) 52)) (Nat.le_refl _) (rowV (toL 5 (L i)))
      have HB2 := hide (HB.out.trans (hbx.mono (by omega)))
      have HN1 := hide (fun h => LsTo_next HLS.out h)
      have HIO := hide (show ¬ LsRow L i 5 → ¬ LnSy L from fun h h2 => h fun j hj => h2 i j hlt hj)
      clear hbx
      go_wp2_with (first
        | (refine wpList_index25 rfl (.tmp _) (.tmp _) rfl L rfl i rfl hlt ?_)
        | (refine wpList_alloc_csY zero5 rfl rfl _ rfl ?_)
        | (refine wpList_store_csY (cs := rowV (toL 5 (L i))) (by rw [rowV_size, toL_len]; exact size5) rfl (.tmp _) (.tmp _) rfl wr.heap.size rfl rfl _ HZ1.out (by simp [rowV, toL_len]) (rowV_one _) ?_)
        | (refine wpList_load_csY (cs := rowV (toL 5 (L i))) row5 (by rw [rowV_size, toL_len]; exact size5) rfl (.tmp _) rfl wr.heap.size rfl HR2.out ?_))
      generalize (wr.alloc (.cells (rowV [0, 0, 0, 0, 0]) 52)).setRow wr.heap.size (rowV (toL 5 (L i))) = V at *
      go_loop [14] (fun iv => ∃ j : Nat, j ≤ 5 ∧ iv = .int .i64 (j : Int) ∧ Hid (LsRow L i j)) (fun iv => 5 - (intOf iv).toNat)
      case atStart => exact ⟨0, by omega, rfl, fun j hj => by omega⟩
      case round =>
        obtain ⟨j, hj, rfl, HLR⟩ := hrel
        by_cases hjt : j < 5
        · have hjt' : (j : Int) < 5 := by omega
          have HX := hide (toL_at (L i) hjt)
          have hc := HP2.out.line hjt hlt
          have HNR := hide (fun h h2 => LsRow_next HLR.out (k := j) h h2)
          have HNF := hide (show ¬ (L i j = L j i ∧ (i = j → L i j = 0)) → ¬ LnSy L from fun h h2 => h (h2 i j hlt hjt))
          generalize L i j = x at HX HNR HNF
          generalize L j i = y at hc HNR HNF
          by_cases hxy : x = y
          · subst hxy
            by_cases hij : i = j
            · subst hij
              by_cases hx0 : x = 0
              · have HD := hide (HNR.out rfl fun _ => hx0)
                subst hx0
                go_wp2_with (first
                  | (refine wpList_indexY arr5 intS rowIntY rfl (.tmp _) (.tmp _) rfl (toL 5 (L i)) (toL_len _ _) rfl i rfl hjt ?_; rw [HX.out])
                  )
                go_round
                case rel => exact ⟨i + 1, by omega, by go_num, HD⟩
                case measure => (simp [intOf] <;> omega)
              · have HF := hide (HNO.out (HNF.out fun h => hx0 (h.2 rfl)))
                have hx1 : (x != 0) = true := by simp [hx0]
                go_wp2_with (first
                  | (refine wpList_indexY arr5 intS rowIntY rfl (.tmp _) (.tmp _) rfl (toL 5 (L i)) (toL_len _ _) rfl i rfl hjt ?_; rw [HX.out])
                  )
                go_ret
                exact ⟨ret_b HF.out.symm, HB0.out.trans (HB2.out.mono (by omega))⟩
            · have hji : ((j : Int) == (i : Int)) = false := by simp; omega
              have hji2 : ¬ (j : Int) = (i : Int) := by omega
              have HD := hide (HNR.out rfl fun h => absurd h hij)
              clear hij
              go_wp2_with (first
                | (refine wpList_indexY arr5 intS rowIntY rfl (.tmp _) (.tmp _) rfl (toL 5 (L i)) (toL_len _ _) rfl j rfl hjt ?_; rw [HX.out])
                )
              go_round
              case rel => exact ⟨j + 1, by omega, by go_num, HD⟩
              case measure => (simp [intOf] <;> omega)
          · have HF := hide (HNO.out (HNF.out fun h => hxy h.1))
            have hne : (x != y) = true := by simp [hxy]
            clear hxy
            go_wp2_with (first
              | (refine wpList_indexY arr5 intS rowIntY rfl (.tmp _) (.tmp _) rfl (toL 5 (L i)) (toL_len _ _) rfl j rfl hjt ?_; rw [HX.out])
              )
            go_ret
            exact ⟨ret_b HF.out.symm, HB0.out.trans (HB2.out.mono (by omega))⟩
        · have hj5 : j = 5 := by omega
          subst hj5
          have HD := hide (HN1.out HLR.out)
          go_wp2
          go_roundw
          case rel => exact ⟨i + 1, by omega, by go_num, HD, HB2⟩
          case measure => (simp [intOf] <;> omega)
    · have hi5 : i = 5 := by omega
      subst hi5
      have HF := hide (HYE.out fun i j hi hj => HLS.out i j hi hj)
      go_wp2
      go_ret
      exact ⟨ret_b HF.out.symm, HB0.out.trans (HB.out.mono (by omega))⟩
end Go.Proofs.YtjmhmmenampgbaaDoor
