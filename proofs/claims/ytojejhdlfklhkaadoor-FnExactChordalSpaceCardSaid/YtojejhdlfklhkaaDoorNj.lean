/- Contracts: the family of all sets for which what they leave is accepted; the family of a tree. -/
import Derived.Test.YtojejhdlfklhkaaDoorNh
import Derived.Test.YtojejhdlfklhkaaDoorFre
namespace Go.Proofs.YtojejhdlfklhkaaDoor
open Go.RowKit
set_option maxRecDepth 100000
set_option linter.unusedSimpArgs false
def lvK (K : Nat → Bool) (n s : Nat) : Bool := K (andNot (low n) s)
attribute [local irreducible] p2 low memB risB
set_option maxHeartbeats 2000000 in
theorem familyLeaving_c (m : Nat) (kf : Nat) (caps : Array Value) (K : Nat → Bool) (w : World) (hm7 : m ≤ 7) (hk : enters Tryd.prog kf)
    (hcl : ∀ (s : Nat) (w1 : World), s < 2 ^ m → Below w.heap.size w w1 → Calls Tryd.prog kf (#[.int .i64 (s : Int)] ++ caps) w1 fun e w2 => e = .returned (.bool (K s)) ∧ Below w1.heap.size w1 w2) :
    Calls Tryd.prog 90 #[.int .i64 (m : Int), .func (.func kf) #[] caps] w fun e w' => e = .returned (.agg (fam (m : Int) (cutAt (lvK K m) (low m + 1)))) ∧ Below w.heap.size w w' := by
  have hk1 : ∀ (args : Array Value) (w : World), Sem.run Tryd.prog (callFunc kf args) w = .ok (.enter kf args) w := hk
  have hlo := low_lt m hm7
  have HLS := hide (low_succ m)
  have HCL := hide hcl
  have HB1 := hide ((Below.refl w.heap.size w).alloc (Nat.le_refl _) (.cells (fam 0 noSet) 65))
  have HF0 := hide (famAt.new 65 w 0 noSet)
  have hf1 : famAt 65 ((w.alloc (.cells (fam 0 noSet) 65)).alloc (.cells (fam 0 noSet) 65)) (w.heap.size + 1) 0 noSet := by have h := famAt.new 65 (w.alloc (.cells (fam 0 noSet) 65)) 0 noSet; simpa using h
  have HF1 := hide hf1
  have HF2 := hide (hf1.row (m : Int) noSet)
  have HB2 := hide (bl_row (HB1.out.alloc (by simp) (.cells (fam 0 noSet) 65)) (show w.heap.size ≤ w.heap.size + 1 by omega) (fam (m : Int) noSet))
  have HR2 := hide (((HF0.out.alloc (.cells (fam 0 noSet) 65)).rowO (w.heap.size + 1) (by omega) (fam (m : Int) noSet)))
  have HFU : Hid (∀ (G : Nat → Bool) (w1 : World), Calls Tryd.prog 80 #[.agg (fam (m : Int) G)] w1 fun e w' => e = .returned (.int .i64 (low m : Int)) ∧ Below w1.heap.size w1 w') := hide fun G w1 => by
    have := full_c (m : Int) G w1 (by omega) (by omega)
    rw [Int.toNat_natCast] at this
    exact this
  have HZ2 := hide (show (((w.alloc (.cells (fam 0 noSet) 65)).alloc (.cells (fam 0 noSet) 65)).setRow (w.heap.size + 1) (fam (m : Int) noSet)).heap.size = w.heap.size + 2 by simp [World.setRow])
  clear hcl hf1
  go_enter Tryd.func90, Tryd.ntmps90
  go_wp2_with (first
    | (refine wpList_alloc_fam zeroT rfl rfl _ (by first | (simp only [World.size_alloc]; rfl) | rfl) ?_)
    | (refine wpList_build_fam builtT rfl _ rfl _ rfl ?_)
    | (refine wpList_store_fam sizeT rfl (.tmp _) (.tmp _) rfl _ (m : Int) noSet rfl rfl _ _ HF1.out ?_)
    | (refine wpList_load_fam rowT sizeT rfl (.tmp _) rfl _ rfl (m : Int) _ HF2.out ?_)
    | (go_at_call 80; refine (HFU.out _ _).mono ?_; rintro e w2 ⟨rfl, hb2⟩; have hz2 := hb2.size; rw [HZ2.out] at hz2; have HF3 := hide (HF2.out.below hb2 HF2.out.lt); have HR3 := hide (HR2.out.below hb2 (by rw [HZ2.out]; omega)); have HB3 := hide (HB2.out.trans (hb2.mono (by rw [HZ2.out]; omega))); clear hb2))
  go_loopw [12] (fun i wr => ∃ k : Nat, k ≤ low m + 1 ∧ i = .int .i64 (k : Int) ∧ Hid (famAt 65 wr (w.heap.size + 1) (m : Int) (cutAt (lvK K m) k)) ∧ Hid (famAt 65 wr w.heap.size 0 noSet) ∧ Hid (Below w.heap.size w wr)) (fun i _ => low m + 1 - (intOf i).toNat)
  case atStart => exact ⟨0, by omega, rfl, by rw [cutAt_zero]; exact HF3, HR3, HB3⟩
  case round =>
    clear HF3 HR3 HB3 HF0 HF1 HF2 HB1 HB2 HR2 HZ2
    obtain ⟨k, hk, rfl, HF, HR, HB⟩ := hrel
    have hlf := HF.out.lt
    by_cases hlt : k < low m + 1
    · have hk128 : k < 128 := by omega
      have hlt' : ((k : Int) < (low m : Int) + 1) := by omega
      have hlt2 : k ≤ low m := by omega
      have han := i64_andNot (low m) k (by omega)
      have HKD := hide (show lvK K m k = K (andNot (low m) k) from rfl)
      have hs2 := andNot_lt (low m) k m (by have := HLS.out; omega)
      have HC := hide (fun w1 h => HCL.out (andNot (low m) k) w1 hs2 h)
      generalize andNot (low m) k = s at *
      generalize hb : K s = b at *
      have HKK := hide hb
      clear hb hs2
      go_wp2_with (first
        | (refine wpList_load_fam rowT sizeT rfl (.tmp _) rfl _ rfl (m : Int) _ HF.out ?_)
        | (go_at_call 80; refine (HFU.out _ _).mono ?_; rintro e w2 ⟨rfl, hb2⟩; have hz2 := hb2.size; have HF3 := hide (HF.out.below hb2 HF.out.lt); have HR3 := hide (HR.out.below hb2 (by omega)); have HB3 := hide (HB.out.trans (hb2.mono (by omega))); clear hb2))
      refine (HC.out _ HB3.out).mono ?_
      rintro e w3 ⟨rfl, hb3⟩
      have hz3 := hb3.size
      have hf3 := HF3.out.below hb3 HF3.out.lt
      have c3 := hf3.get k hk128
      have f3 := hf3.free (1 + k)
      have HF4 := hide hf3
      have HR4 := hide (HR3.out.below hb3 (by omega))
      have HB4 := hide (HB3.out.trans (hb3.mono (by omega)))
      clear hb3 hf3
      go_wp2
      go_roundw
      case rel => exact ⟨k + 1, by omega, by go_num, by rw [← cutAt_step (lvK K m) k b HKD.out]; exact HF4.out.set k hk128 b, HR4.out.setO _ (by show w.heap.size ≠ w.heap.size + 1; omega) _, HB4.out.setCell (by show w.heap.size ≤ w.heap.size + 1; omega) _⟩
      case measure => simp [intOf]; omega
    · have hke : k = low m + 1 := by omega
      subst hke
      have hlt' : ¬ (((low m + 1 : Nat) : Int) < (low m : Int) + 1) := by omega
      clear hlt hk
      go_wp2_with (first
        | (refine wpList_load_fam rowT sizeT rfl (.tmp _) rfl _ rfl (m : Int) _ HF.out ?_)
        | (refine wpList_store_fam sizeT rfl (.tmp _) (.tmp _) rfl _ (m : Int) _ rfl rfl _ _ HR.out ?_))
      exact bodyPost_ret (v := .agg (fam (m : Int) (cutAt (lvK K m) (low m + 1)))) (results_fam rowT sizeT rfl _ _ w.heap.size rfl _ _ (HR.out.row _ _)) rfl ⟨rfl, bl_row HB.out (Nat.le_refl _) _⟩

theorem ent_tree1 : enters Tryd.prog 103 := enters_of Tryd.func103 (by kernel_rfl) (by kernel_rfl)
/-- The closure of treeFamily: whether what is left is joined. -/
theorem treeFamily1_c (v : Value) (l : List Int) (s g : Nat) (w : World) (hl : ints w.heap.size w v l) (hA : neA l = true) (hs : s < 2 ^ l.length) (hT : tab w) (hc : w.cell? ⟨g, 0, none⟩ = some v) :
    Calls Tryd.prog 103 #[.int .i64 (s : Int), .pointer (some ⟨g, 0, none⟩)] w fun e w' => e = .returned (.bool (jnB l s)) ∧ Below w.heap.size w w' := by
  obtain ⟨sa, sc, hv⟩ := hl.shape
  subst hv
  have HL := hide hl
  have HT := hide hT
  clear hl hT
  go_enter Tryd.func103, Tryd.ntmps103
  go_wp2_with (go_at_call 101; refine (isJoined_c _ l s _ HL.out hA hs HT.out).mono ?_; rintro e w2 ⟨rfl, hb2⟩)
  go_ret
  exact ⟨rfl, hb2⟩
def tfN (l : List Int) : Int := if treB l then l.length else 0
def tfF (l : List Int) : Nat → Bool := if treB l then cutAt (treK l) (low l.length + 1) else noSet
theorem tf_yes {l : List Int} (h : treB l = true) : tfN l = l.length ∧ tfF l = cutAt (treK l) (low l.length + 1) ∧ treB l = true := by unfold tfN tfF; rw [h]; exact ⟨rfl, rfl, rfl⟩
theorem tf_no {l : List Int} (h : treB l = false) : tfN l = 0 ∧ tfF l = noSet ∧ treB l = false := by unfold tfN tfF; rw [h]; exact ⟨rfl, rfl, rfl⟩
set_option maxHeartbeats 2000000 in
theorem treeFamily_c (v : Value) (l : List Int) (w : World) (hl : ints w.heap.size w v l) (hlen : l.length < 1000000000) (hT : tab w) :
    Calls Tryd.prog 60 #[.agg #[v]] w fun e w' => e = .returned (.tuple #[.agg (fam (tfN l) (tfF l)), .bool (treB l)]) ∧ Below w.heap.size w w' := by
  have HL := hide hl
  have HT := hide hT
  have HB1 := hide (show Below (w.heap.size + 1) (w.alloc (.cells #[v] 27)) ((w.alloc (.cells #[v] 27)).alloc (.cells (fam 0 noSet) 65)) from (Below.refl _ _).alloc (by simp) _)
  have HF1 := hide (show famAt 65 ((w.alloc (.cells #[v] 27)).alloc (.cells (fam 0 noSet) 65)) (w.heap.size + 1) 0 noSet by have h := famAt.new 65 (w.alloc (.cells #[v] 27)) 0 noSet; simpa using h)
  have hc1 := bx_cell HB1.out
  have HZ1 := hide (show ((w.alloc (.cells #[v] 27)).alloc (.cells (fam 0 noSet) 65)).heap.size = w.heap.size + 2 by simp)
  clear hl hT
  cases hn : neB l
  · have HN := hide hn
    obtain ⟨e1, e2, e3⟩ := tf_no (treB_no hn)
    rw [e1, e2, e3]
    clear hn e1 e2 e3
    go_enter Tryd.func60, Tryd.ntmps60
    go_wp2_with (first
      | (refine wpList_alloc_fam zeroT rfl rfl _ (by first | (simp only [World.size_alloc]; rfl) | rfl) ?_)
      | (refine wpList_build_fam0 built0 rfl rfl ?_)
      | (go_at_call 56; refine (isNet_c v l _ (bx_full HB1.out HL.out) hlen (bx_tab HB1.out HT.out)).mono ?_; rw [HN.out]; rintro e w2 ⟨rfl, hb2⟩; have hz2 := hb2.size; rw [HZ1.out] at hz2; have HB2 := hide (bx_to HB1.out hb2); have HF2 := hide (HF1.out.below hb2 HF1.out.lt); clear hb2)
      | (refine wpList_store_fam sizeT rfl (.tmp _) (.tmp _) rfl _ 0 noSet rfl rfl _ _ HF2.out ?_))
    refine bodyPost_ret (v := .tuple #[.agg (fam 0 noSet), .bool false]) (results_fam2 (p := 2) (q := 3) rowT sizeT rfl _ _ (w.heap.size + 1) rfl _ _ (HF2.out.row _ _)) rfl ⟨rfl, bl_row (bx_below HB2.out) (by omega) _⟩
  · have HN := hide hn
    have hA := neB_A hn
    have h7 := (neA_in hA).1.2
    have HIT := hide (fun w1 h1 h2 => isTree_c v l w1 h1 hn h2)
    have HTE := hide (treB_yes hn)
    clear hn
    cases ht : trB l
    · have HTR := hide ht
      obtain ⟨e1, e2, e3⟩ := tf_no (HTE.out.trans ht)
      rw [e1, e2, e3]
      clear ht e1 e2 e3
      go_enter Tryd.func60, Tryd.ntmps60
      go_wp2_with (first
        | (refine wpList_alloc_fam zeroT rfl rfl _ (by first | (simp only [World.size_alloc]; rfl) | rfl) ?_)
        | (refine wpList_build_fam0 built0 rfl rfl ?_)
        | (go_at_call 56; refine (isNet_c v l _ (bx_full HB1.out HL.out) hlen (bx_tab HB1.out HT.out)).mono ?_; rw [HN.out]; rintro e w2 ⟨rfl, hb2⟩; have hz2 := hb2.size; rw [HZ1.out] at hz2; have HB2 := hide (bx_to HB1.out hb2); have HF2 := hide (HF1.out.below hb2 HF1.out.lt); have hc2 := bx_cell HB2.out; clear hb2)
        | (go_at_call 58; refine (HIT.out _ (bx_full HB2.out HL.out) (bx_tab HB2.out HT.out)).mono ?_; rw [HTR.out]; rintro e w3 ⟨rfl, hb3⟩; have HB3 := hide (bx_to HB2.out hb3); have HF3 := hide (HF2.out.below hb3 HF2.out.lt); clear hb3)
        | (refine wpList_store_fam sizeT rfl (.tmp _) (.tmp _) rfl _ 0 noSet rfl rfl _ _ HF3.out ?_))
      refine bodyPost_ret (v := .tuple #[.agg (fam 0 noSet), .bool false]) (results_fam2 (p := 2) (q := 3) rowT sizeT rfl _ _ (w.heap.size + 1) rfl _ _ (HF3.out.row _ _)) rfl ⟨rfl, bl_row (bx_below HB3.out) (by omega) _⟩
    · have HTR := hide ht
      obtain ⟨e1, e2, e3⟩ := tf_yes (HTE.out.trans ht)
      rw [e1, e2, e3]
      have HLV := hide (show lvK (jnB l) l.length = treK l from rfl)
      clear ht e1 e2 e3
      go_enter Tryd.func60, Tryd.ntmps60
      go_wp2_with (first
        | (refine wpList_alloc_fam zeroT rfl rfl _ (by first | (simp only [World.size_alloc]; rfl) | rfl) ?_)
        | (go_at_call 56; refine (isNet_c v l _ (bx_full HB1.out HL.out) hlen (bx_tab HB1.out HT.out)).mono ?_; rw [HN.out]; rintro e w2 ⟨rfl, hb2⟩; have hz2 := hb2.size; rw [HZ1.out] at hz2; have HB2 := hide (bx_to HB1.out hb2); have HF2 := hide (HF1.out.below hb2 HF1.out.lt); have hc2 := bx_cell HB2.out; clear hb2)
        | (go_at_call 58; refine (HIT.out _ (bx_full HB2.out HL.out) (bx_tab HB2.out HT.out)).mono ?_; rw [HTR.out]; rintro e w3 ⟨rfl, hb3⟩; have hz3 := hb3.size; have HB3 := hide (bx_to HB2.out hb3); have HF3 := hide (HF2.out.below hb3 HF2.out.lt); have hc3 := bx_cell HB3.out; have HL3 := hide (bx_ints HB3.out HL.out); clear hb3)
        | (refine wpList_len sliceT rfl (.tmp _) rfl v rfl w.heap.size l HL3.out ?_)
        | (go_at_call 90; refine (familyLeaving_c l.length 103 #[.pointer (some ⟨w.heap.size, 0, none⟩)] (jnB l) _ h7 ent_tree1 (fun s w5 hs5 hb5 => treeFamily1_c v l s w.heap.size w5 (bx_full (bx_to HB3.out hb5) HL.out) hA hs5 (bx_tab (bx_to HB3.out hb5) HT.out) (bx_cell (bx_to HB3.out hb5)))).mono ?_; rw [HLV.out]; rintro e w4 ⟨rfl, hb4⟩; have HB4 := hide (bx_to HB3.out hb4); have HF4 := hide (HF3.out.below hb4 HF3.out.lt); clear hb4)
        | (refine wpList_store_fam sizeT rfl (.tmp _) (.tmp _) rfl _ (l.length : Int) _ rfl rfl _ _ HF4.out ?_))
      refine bodyPost_ret (v := .tuple #[.agg (fam (l.length : Int) (cutAt (treK l) (low l.length + 1))), .bool true]) (results_fam2 (p := 2) (q := 3) rowT sizeT rfl _ _ (w.heap.size + 1) rfl _ _ (HF4.out.row _ _)) rfl ⟨rfl, bl_row (bx_below HB4.out) (by omega) _⟩
end Go.Proofs.YtojejhdlfklhkaaDoor
