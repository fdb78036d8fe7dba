/- Contracts: the family of all sets for which what they leave is accepted; the family of a tree. -/
import Derived.Test.YtonimjpfaalniaaDoorNh
import Derived.Test.YtonimjpfaalniaaDoorRb
namespace Go.Proofs.YtonimjpfaalniaaDoor
open Go.RowKit
set_option maxRecDepth 100000
set_option linter.unusedSimpArgs false
attribute [local irreducible] p2 low memB risB
theorem ent_tree1 : enters Tryd.prog 158 := enters_of Tryd.func158 (by kernel_rfl) (by kernel_rfl)
/-- The closure of treeFamily: whether what is left is joined. -/
theorem treeFamily1_c (v : Value) (l : List Int) (s g : Nat) (w : World) (hl : ints w.heap.size w v l) (hA : neA l = true) (hs : s < 2 ^ l.length) (hT : tab w) (hc : w.cell? ⟨g, 0, none⟩ = some v) :
    Calls Tryd.prog 158 #[.int .i64 (s : Int), .pointer (some ⟨g, 0, none⟩)] w fun e w' => e = .returned (.bool (jnB l s)) ∧ Below w.heap.size w w' := by
  obtain ⟨sa, sc, hv⟩ := hl.shape
  subst hv
  have HL := hide hl
  have HT := hide hT
  clear hl hT
  go_enter Tryd.func158, Tryd.ntmps158
  go_wp2_with (go_at_call 159; refine (isJoined_c _ l s _ HL.out hA hs HT.out).mono ?_; rintro e w2 ⟨rfl, hb2⟩)
  go_ret
  exact ⟨rfl, hb2⟩
def tfN (l : List Int) : Int := if treB l then l.length else 0
def tfF (l : List Int) : Nat → Bool := if treB l then cutAt (treK l) (low l.length + 1) else noSet
theorem tf_yes {l : List Int} (h : treB l = true) : tfN l = l.length ∧ tfF l = cutAt (treK l) (low l.length + 1) ∧ treB l = true := by unfold tfN tfF; rw [h]; exact ⟨rfl, rfl, rfl⟩
theorem tf_no {l : List Int} (h : treB l = false) : tfN l = 0 ∧ tfF l = noSet ∧ treB l = false := by unfold tfN tfF; rw [h]; exact ⟨rfl, rfl, rfl⟩
set_option maxHeartbeats 2000000 in
theorem treeFamily_c (v : Value) (l : List Int) (w : World) (hl : ints w.heap.size w v l) (hlen : l.length < 1000000000) (hT : tab w) :
    Calls Tryd.prog 110 #[.agg #[v]] w fun e w' => e = .returned (.tuple #[.agg (fam (tfN l) (tfF l)), .bool (treB l)]) ∧ Below w.heap.size w w' := by
  have HL := hide hl
  have HT := hide hT
  have HB1 := hide (show Below (w.heap.size + 1) (w.alloc (.cells #[v] 62)) ((w.alloc (.cells #[v] 62)).alloc (.cells (fam 0 noSet) 83)) from (Below.refl _ _).alloc (by simp) _)
  have HF1 := hide (show famAt 83 ((w.alloc (.cells #[v] 62)).alloc (.cells (fam 0 noSet) 83)) (w.heap.size + 1) 0 noSet by have h := famAt.new 83 (w.alloc (.cells #[v] 62)) 0 noSet; simpa using h)
  have hc1 := bx_cell HB1.out
  have HZ1 := hide (show ((w.alloc (.cells #[v] 62)).alloc (.cells (fam 0 noSet) 83)).heap.size = w.heap.size + 2 by simp)
  clear hl hT
  cases hn : neB l
  · have HN := hide hn
    obtain ⟨e1, e2, e3⟩ := tf_no (treB_no hn)
    rw [e1, e2, e3]
    clear hn e1 e2 e3
    go_enter Tryd.func110, Tryd.ntmps110
    go_wp2_with (first
      | (refine wpList_alloc_fam zeroT rfl rfl _ (by first | (simp only [World.size_alloc]; rfl) | rfl) ?_)
      | (refine wpList_build_fam0 built0 rfl rfl ?_)
      | (go_at_call 156; refine (isNet_c v l _ (bx_full HB1.out HL.out) hlen (bx_tab HB1.out HT.out)).mono ?_; rw [HN.out]; rintro e w2 ⟨rfl, hb2⟩; have hz2 := hb2.size; rw [HZ1.out] at hz2; have HB2 := hide (bx_to HB1.out hb2); have HF2 := hide (HF1.out.below hb2 HF1.out.lt); clear hb2)
      | (refine wpList_store_fam sizeT rfl (.tmp _) (.tmp _) rfl _ 0 noSet rfl rfl _ _ HF2.out ?_))
    refine bodyPost_ret (v := .tuple #[.agg (fam 0 noSet), .bool false]) (results_fam2 (p := 2) (q := 3) rowT sizeT rfl _ _ (w.heap.size + 1) rfl _ _ (HF2.out.row _ _)) rfl ⟨rfl, bl_row (bx_below HB2.out) (by omega) _⟩
  · have HN := hide hn
    have hA := neB_A hn
    have h7 := (neA_in hA).1.2
    have HIT := hide (fun w1 h1 h2 => isTree_c v l w1 h1 hn h2)
    have HTE := hide (treB_yes hn)
    clear hn
    cases ht : trB l
    · have HTR := hide ht
      obtain ⟨e1, e2, e3⟩ := tf_no (HTE.out.trans ht)
      rw [e1, e2, e3]
      clear ht e1 e2 e3
      go_enter Tryd.func110, Tryd.ntmps110
      go_wp2_with (first
        | (refine wpList_alloc_fam zeroT rfl rfl _ (by first | (simp only [World.size_alloc]; rfl) | rfl) ?_)
        | (refine wpList_build_fam0 built0 rfl rfl ?_)
        | (go_at_call 156; refine (isNet_c v l _ (bx_full HB1.out HL.out) hlen (bx_tab HB1.out HT.out)).mono ?_; rw [HN.out]; rintro e w2 ⟨rfl, hb2⟩; have hz2 := hb2.size; rw [HZ1.out] at hz2; have HB2 := hide (bx_to HB1.out hb2); have HF2 := hide (HF1.out.below hb2 HF1.out.lt); have hc2 := bx_cell HB2.out; clear hb2)
        | (go_at_call 157; refine (HIT.out _ (bx_full HB2.out HL.out) (bx_tab HB2.out HT.out)).mono ?_; rw [HTR.out]; rintro e w3 ⟨rfl, hb3⟩; have HB3 := hide (bx_to HB2.out hb3); have HF3 := hide (HF2.out.below hb3 HF2.out.lt); clear hb3)
        | (refine wpList_store_fam sizeT rfl (.tmp _) (.tmp _) rfl _ 0 noSet rfl rfl _ _ HF3.out ?_))
      refine bodyPost_ret (v := .tuple #[.agg (fam 0 noSet), .bool false]) (results_fam2 (p := 2) (q := 3) rowT sizeT rfl _ _ (w.heap.size + 1) rfl _ _ (HF3.out.row _ _)) rfl ⟨rfl, bl_row (bx_below HB3.out) (by omega) _⟩
    · have HTR := hide ht
      obtain ⟨e1, e2, e3⟩ := tf_yes (HTE.out.trans ht)
      rw [e1, e2, e3]
      have HLV := hide (show lvK (jnB l) l.length = treK l from rfl)
      clear ht e1 e2 e3
      go_enter Tryd.func110, Tryd.ntmps110
      go_wp2_with (first
        | (refine wpList_alloc_fam zeroT rfl rfl _ (by first | (simp only [World.size_alloc]; rfl) | rfl) ?_)
        | (go_at_call 156; refine (isNet_c v l _ (bx_full HB1.out HL.out) hlen (bx_tab HB1.out HT.out)).mono ?_; rw [HN.out]; rintro e w2 ⟨rfl, hb2⟩; have hz2 := hb2.size; rw [HZ1.out] at hz2; have HB2 := hide (bx_to HB1.out hb2); have HF2 := hide (HF1.out.below hb2 HF1.out.lt); have hc2 := bx_cell HB2.out; clear hb2)
        | (go_at_call 157; refine (HIT.out _ (bx_full HB2.out HL.out) (bx_tab HB2.out HT.out)).mono ?_; rw [HTR.out]; rintro e w3 ⟨rfl, hb3⟩; have hz3 := hb3.size; have HB3 := hide (bx_to HB2.out hb3); have HF3 := hide (HF2.out.below hb3 HF2.out.lt); have hc3 := bx_cell HB3.out; have HL3 := hide (bx_ints HB3.out HL.out); clear hb3)
        | (refine wpList_len sliceT rfl (.tmp _) rfl v rfl w.heap.size l HL3.out ?_)
        | (go_at_call 124; refine (familyLeaving_c l.length 158 #[] #[.pointer (some ⟨w.heap.size, 0, none⟩)] (jnB l) _ h7 ent_tree1 (fun s w5 hs5 hb5 => treeFamily1_c v l s w.heap.size w5 (bx_full (bx_to HB3.out hb5) HL.out) hA hs5 (bx_tab (bx_to HB3.out hb5) HT.out) (bx_cell (bx_to HB3.out hb5)))).mono ?_; rw [HLV.out]; rintro e w4 ⟨rfl, hb4⟩; have HB4 := hide (bx_to HB3.out hb4); have HF4 := hide (HF3.out.below hb4 HF3.out.lt); clear hb4)
        | (refine wpList_store_fam sizeT rfl (.tmp _) (.tmp _) rfl _ (l.length : Int) _ rfl rfl _ _ HF4.out ?_))
      refine bodyPost_ret (v := .tuple #[.agg (fam (l.length : Int) (cutAt (treK l) (low l.length + 1))), .bool true]) (results_fam2 (p := 2) (q := 3) rowT sizeT rfl _ _ (w.heap.size + 1) rfl _ _ (HF4.out.row _ _)) rfl ⟨rfl, bl_row (bx_below HB4.out) (by omega) _⟩
end Go.Proofs.YtonimjpfaalniaaDoor
