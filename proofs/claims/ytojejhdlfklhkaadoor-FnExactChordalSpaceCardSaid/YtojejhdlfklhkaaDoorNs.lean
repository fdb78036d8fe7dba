/- Contracts: the family of the sets that can be taken away one by one. -/
import Derived.Test.YtojejhdlfklhkaaDoorNb
import Derived.Test.YtojejhdlfklhkaaDoorNo
import Derived.Test.YtojejhdlfklhkaaDoorNk
import Derived.Test.YtojejhdlfklhkaaDoorTw
import Derived.Test.YtojejhdlfklhkaaDoorFi
namespace Go.Proofs.YtojejhdlfklhkaaDoor
open Go.RowKit
set_option maxRecDepth 100000
set_option linter.unusedSimpArgs false
theorem ent_fullC : enters Tryd.prog 80 := enters_of Tryd.func80 (by kernel_rfl) (by kernel_rfl)
def cfB (l : List Int) : Bool := neB l && elF l (low l.length)
def cfN (l : List Int) : Int := if cfB l then l.length else 0
def cfF (l : List Int) : Nat → Bool := if cfB l then elF l else noSet
theorem cf_yes {l : List Int} (h : cfB l = true) : cfN l = l.length ∧ cfF l = elF l ∧ cfB l = true := by unfold cfN cfF; rw [h]; exact ⟨rfl, rfl, rfl⟩
theorem cf_no {l : List Int} (h : cfB l = false) : cfN l = 0 ∧ cfF l = noSet ∧ cfB l = false := by unfold cfN cfF; rw [h]; exact ⟨rfl, rfl, rfl⟩
theorem cfB_no {l : List Int} (h : neB l = false) : cfB l = false := by unfold cfB; rw [h]; rfl
theorem cfB_is {l : List Int} (h : neB l = true) : cfB l = elF l (low l.length) := by unfold cfB; rw [h]; rfl
attribute [local irreducible] p2 low memB risB
set_option maxHeartbeats 4000000 in
theorem chordalFamily_c (v : Value) (l : List Int) (w : World) (hl : ints w.heap.size w v l) (hlen : l.length < 1000000000) (hT : tab w) :
    Calls Tryd.prog 78 #[.agg #[v]] w fun e w' => e = .returned (.tuple #[.agg (fam (cfN l) (cfF l)), .bool (cfB l)]) ∧ Below w.heap.size w w' := by
  obtain ⟨sa, sc, hv⟩ := hl.shape
  subst hv
  have HL := hide hl
  have HT := hide hT
  have HB1 := hide (show Below (w.heap.size + 1) (w.alloc (.cells #[.slice sa l.length sc] 27)) ((w.alloc (.cells #[.slice sa l.length sc] 27)).alloc (.cells (fam 0 noSet) 65)) from (Below.refl _ _).alloc (by simp) _)
  have HF1 := hide (show famAt 65 ((w.alloc (.cells #[.slice sa l.length sc] 27)).alloc (.cells (fam 0 noSet) 65)) (w.heap.size + 1) 0 noSet by have h := famAt.new 65 (w.alloc (.cells #[.slice sa l.length sc] 27)) 0 noSet; simpa using h)
  have hc1 := bx_cell HB1.out
  have HZ1 := hide (show ((w.alloc (.cells #[.slice sa l.length sc] 27)).alloc (.cells (fam 0 noSet) 65)).heap.size = w.heap.size + 2 by simp)
  clear hl hT
  cases hn : neB l
  · have HN := hide hn
    obtain ⟨e1, e2, e3⟩ := cf_no (cfB_no hn)
    rw [e1, e2, e3]
    clear hn e1 e2 e3
    go_enter Tryd.func78, Tryd.ntmps78
    go_wp2_with (first
      | (refine wpList_alloc_fam zeroT rfl rfl _ (by first | (simp only [World.size_alloc]; rfl) | rfl) ?_)
      | (refine wpList_build_fam0 built0 rfl rfl ?_)
      | (go_at_call 56; refine (isNet_c _ l _ (bx_full HB1.out HL.out) hlen (bx_tab HB1.out HT.out)).mono ?_; rw [HN.out]; rintro e w2 ⟨rfl, hb2⟩; have hz2 := hb2.size; rw [HZ1.out] at hz2; have HB2 := hide (bx_to HB1.out hb2); have HF2 := hide (HF1.out.below hb2 HF1.out.lt); clear hb2)
      | (refine wpList_store_fam sizeT rfl (.tmp _) (.tmp _) rfl _ 0 noSet rfl rfl _ _ HF2.out ?_))
    refine bodyPost_ret (v := .tuple #[.agg (fam 0 noSet), .bool false]) (results_fam2 (p := 2) (q := 3) rowT sizeT rfl _ _ (w.heap.size + 1) rfl _ _ (HF2.out.row _ _)) rfl ⟨rfl, bl_row (bx_below HB2.out) (by omega) _⟩
  · have HN := hide hn
    have HA := hide (neB_A hn)
    have h7 := (neA_in (neB_A hn)).1.2
    have HCB := hide (cfB_is hn)
    have hlo := low_lt l.length h7
    have HLS := hide (low_succP l.length)
    have HFU : Hid (∀ (G : Nat → Bool) (w1 : World), Calls Tryd.prog 80 #[.agg (fam (l.length : Int) G)] w1 fun e w' => e = .returned (.int .i64 (low l.length : Int)) ∧ Below w1.heap.size w1 w') := hide fun G w1 => by
      have := full_c (l.length : Int) G w1 (by omega) (by omega)
      rw [Int.toNat_natCast] at this
      exact this
    clear hn
    go_enter Tryd.func78, Tryd.ntmps78
    go_wp2_with (first
      | (go_at_call 56; refine (isNet_c _ l _ (bx_full HB1.out HL.out) hlen (bx_tab HB1.out HT.out)).mono ?_; rw [HN.out]; rintro e w2 ⟨rfl, hb2⟩; have hz2 := hb2.size; rw [HZ1.out] at hz2; have HB2 := hide (bx_to HB1.out hb2); have HF2 := hide (HF1.out.below hb2 HF1.out.lt); have hc2 := bx_cell HB2.out; have HL2 := hide (bx_ints HB2.out HL.out); have hf3 := famAt.new 65 w2 0 noSet; have HF3 := hide hf3; have HF4 := hide (hf3.row (l.length : Int) noSet); have k4 := HF4.out.get 0 (by omega); have f4 := HF4.out.free (1 + 0); have HF5 := hide (HF4.out.set 0 (by omega) true); have HR5 := hide (((HF2.out.alloc (.cells (fam 0 noSet) 65)).rowO w2.heap.size (by omega) (fam (l.length : Int) noSet)).setO ⟨w2.heap.size, 1 + 0, none⟩ (by show w.heap.size + 1 ≠ w2.heap.size; omega) (.bool true)); have HB5 := hide ((bl_row (HB2.out.alloc (bx_size HB2.out) (.cells (fam 0 noSet) 65)) (bx_size HB2.out) (fam (l.length : Int) noSet)).setCell (show w.heap.size + 1 ≤ (⟨w2.heap.size, 1 + 0, none⟩ : Addr).block from bx_size HB2.out) (.bool true)); clear hb2 hf3)
      | (refine wpList_alloc_fam zeroT rfl rfl _ (by first | (simp only [World.size_alloc]; rfl) | rfl) ?_)
      | (refine wpList_len sliceT rfl (.tmp _) rfl _ rfl w.heap.size l HL2.out ?_)
      | (refine wpList_build_fam builtT rfl _ rfl _ rfl ?_)
      | (refine wpList_store_fam sizeT rfl (.tmp _) (.tmp _) rfl _ (l.length : Int) noSet rfl rfl _ _ HF3.out ?_)
      | (refine wpList_load_fam rowT sizeT rfl (.tmp _) rfl _ rfl (l.length : Int) _ HF5.out ?_)
      | (go_at_call 80; refine (HFU.out _ _).mono ?_; rintro e w6 ⟨rfl, hb6⟩; have HB6 := hide (bx_to HB5.out hb6); have HF6 := hide (HF5.out.below hb6 HF5.out.lt); have HR6 := hide (HR5.out.below hb6 HR5.out.lt); clear hb6))
    have HZG := hide (bx_size HB2.out)
    clear HF1 HF2 HF3 HF4 HR5 HB1 HB5 HL2 hc1 hc2 k4 f4 HZ1
    generalize w2.heap.size = g at *
    go_loopw [22] (fun i wr => ∃ k : Nat, k ≤ low l.length + 1 ∧ i = .int .i64 (k : Int) ∧ Hid (∃ G, ElTo l k G ∧ famAt 65 wr g (l.length : Int) G) ∧ Hid (famAt 65 wr (w.heap.size + 1) 0 noSet) ∧ Hid (Below (w.heap.size + 1) (w.alloc (.cells #[.slice sa l.length sc] 27)) wr)) (fun i _ => low l.length + 1 - (intOf i).toNat)
    case atStart => exact ⟨0, by omega, rfl, ⟨_, ElTo.first l, HF6.out⟩, HR6, HB6⟩
    case round =>
      clear HF5 HF6 HR6 HB6
      obtain ⟨k, hk, rfl, HG, HR, HB⟩ := hrel
      obtain ⟨G, hel, hfg⟩ := HG.out
      have HEL := hide hel
      have HFG := hide hfg
      have hcell := bx_cell HB.out
      have hgz := hfg.lt
      clear hel HG
      by_cases hlt : k < low l.length + 1
      · have hk128 : k < 128 := by omega
        have hlt' : ((k : Int) < (low l.length : Int) + 1) := by omega
        have hlt2 : k ≤ low l.length := by omega
        have hmk := hfg.get k hk128
        rw [HEL.out.at h7 hk128] at hmk
        clear hfg
        cases he : elF l k
        · have HE := hide (HEL.out.skip he)
          rw [he] at hmk
          clear he
          go_wp2_with fail
          go_roundw
          case rel => exact ⟨k + 1, by omega, by go_num, ⟨G, HE.out, HFG.out⟩, HR, HB⟩
          case measure => simp [intOf]; omega
        · have HE := hide he
          rw [he] at hmk
          clear he
          have hr8 := andNot_lt128 (low l.length) k hlo
          have HANR := hide (i64_andNot (low l.length) k (Nat.lt_trans hlo (by decide)))
          have HSI := hide (fun w1 h1 hT1 => simplicial_c (.slice sa l.length sc) l (andNot (low l.length) k) w1 h1 HA.out hr8 hT1)
          have hS8 := simS_lt (l := l) h7 (andNot (low l.length) k)
          have HEND := hide (fun G' h => ElIn.end (l := l) (k := k) (G := G') h7 HE.out h)
          have HIN0 := hide (ElIn.start (l := l) (k := k) (I := itemsL (simS l (andNot (low l.length) k))) HEL.out)
          generalize andNot (low l.length) k = r at *
          generalize simS l r = sm at *
          have HIT := hide (fun m hm => item_at (S := sm) (m := m) hS8 hm)
          have h7l := items_short sm
          go_wp2_with fail
          obtain ⟨W, hWe⟩ : ∃ W, W = wr := ⟨_, rfl⟩
          rw [← hWe] at HB HFG HR hcell hgz ⊢
          clear hWe
          apply region_join (F := fun _ _ B _ W' => Below W.heap.size W W' ∧ W'.heap[B]? = some (.cells #[.slice sa l.length sc, .int .i64 (r : Int)] 78) ∧ W.heap.size ≤ B ∧ B < W'.heap.size)
          · intro hK
            obtain ⟨d1, hd1⟩ : ∃ d : Nat, d = 0 := ⟨_, rfl⟩
            obtain ⟨d2, hd2⟩ : ∃ d : Nat, d = 0 := ⟨_, rfl⟩
            obtain ⟨dv, hdv⟩ : ∃ d : Value, d = .bool true := ⟨_, rfl⟩
            refine wp_region_held (S := Below W.heap.size W) (by kernel_rfl) ?_
            have hS0 : Below W.heap.size W { W with drawn := W.drawn + 1 } := (Below.refl _ _).drew
            generalize ({ W with drawn := W.drawn + 1 } : World) = C0 at hS0 ⊢
            have hz0 : W.heap.size ≤ C0.heap.size := hS0.size
            refine wpAnyH_take (i := 0) rfl (by kernel_rfl) (by kernel_rfl) (by kernel_rfl) (fun _ _ _ h => h) (yields_load_one rowNq sizeNq rfl (.tmp _) rfl _ rfl _ (fun w' h => (h.cell (p := ⟨w.heap.size, 0, none⟩) (by have := bx_size HB.out; show w.heap.size < _; omega)).trans hcell)) hS0 ?_
            try simp only [Act.put, List.getElem_toArray, List.getElem_cons_zero, List.getElem_cons_succ, List.setIfInBounds_toArray, List.set_cons_zero, List.set_cons_succ]
            refine wpAnyH_take (i := 1) rfl (by kernel_rfl) (by kernel_rfl) (by kernel_rfl) (fun _ _ _ h => h) (yields_load_fam rowT sizeT rfl (.tmp _) rfl _ rfl (l.length : Int) G (fun w' h => HFG.out.below h hgz)) hS0 ?_
            try simp only [Act.put, List.getElem_toArray, List.getElem_cons_zero, List.getElem_cons_succ, List.setIfInBounds_toArray, List.set_cons_zero, List.set_cons_succ]
            refine wpAnyH_take (i := 3) (v := .int .i64 (k : Int)) rfl (by kernel_rfl) (by kernel_rfl) (by kernel_rfl) (fun _ _ _ h => h) (.inl ⟨rfl, fun w' _ => by go_simp⟩) hS0 ?_
            try simp only [Act.put, List.getElem_toArray, List.getElem_cons_zero, List.getElem_cons_succ, List.setIfInBounds_toArray, List.set_cons_zero, List.set_cons_succ]
            refine wpAnyH_all (rs := [2, 6]) (by kernel_rfl) (by simp) fun i hi => ?_
            rcases (show i = 2 ∨ i = 6 by simpa using hi) with rfl | rfl
            · show wpOp _ _ _ _ _ _ _
              refine wpOp_call rfl rfl 80 ent_fullC _ _ rfl #[.agg (fam (l.length : Int) G)] rfl (HFU.out G C0) ?_
              rintro e C1 ⟨rfl, hb1⟩
              have hz1 := hb1.size
              have hS1 : Below W.heap.size W C1 := hS0.trans (hb1.mono hz0)
              refine ⟨_, rfl, hS1, ?_⟩
              try simp only [Act.put, List.getElem_toArray, List.getElem_cons_zero, List.getElem_cons_succ, List.setIfInBounds_toArray, List.set_cons_zero, List.set_cons_succ]
              refine wpAnyH_take (i := 4) (v := .int .i64 (r : Int)) rfl (by kernel_rfl) (by kernel_rfl) (by kernel_rfl) (fun _ _ _ h => h) (.inl ⟨rfl, fun w' _ => by have hanr := HANR.out; go_simp⟩) hS1 ?_
              try simp only [Act.put, List.getElem_toArray, List.getElem_cons_zero, List.getElem_cons_succ, List.setIfInBounds_toArray, List.set_cons_zero, List.set_cons_succ]
              refine wpAnyH_take (i := 5) (v := .agg #[.slice sa l.length sc, .int .i64 (r : Int)]) rfl (by kernel_rfl) (by kernel_rfl) (by kernel_rfl) (fun _ _ _ h => h) (.inl ⟨rfl, fun w' _ => by go_simp⟩) hS1 ?_
              try simp only [Act.put, List.getElem_toArray, List.getElem_cons_zero, List.getElem_cons_succ, List.setIfInBounds_toArray, List.set_cons_zero, List.set_cons_succ]
              obtain ⟨B, hBe⟩ : ∃ B, B = C1.heap.size := ⟨_, rfl⟩
              have hB2 := hp_last C1 (.cells #[.slice none 0 0, .int .i64 0] 78)
              rw [← hBe] at hB2
              have hz2 : (C1.alloc (.cells #[.slice none 0 0, .int .i64 0] 78)).heap.size = C1.heap.size + 1 := by simp
              have hS2 : Below W.heap.size W (C1.alloc (.cells #[.slice none 0 0, .int .i64 0] 78)) := hS1.alloc (by omega) _
              refine anyH_op (i := 6) (by kernel_rfl) rfl rfl (.pointer (some ⟨B, 0, none⟩)) (C1.alloc (.cells #[.slice none 0 0, .int .i64 0] 78)) (by simp [go_sem, hBe]) hS2 ?_
              generalize C1.alloc (.cells #[.slice none 0 0, .int .i64 0] 78) = C2 at hB2 hz2 hS2 ⊢
              try simp only [Act.put, List.getElem_toArray, List.getElem_cons_zero, List.getElem_cons_succ, List.setIfInBounds_toArray, List.set_cons_zero, List.set_cons_succ]
              have hT3 : Below W.heap.size W (C2.setRow B #[.slice sa l.length sc, .int .i64 (r : Int)]) := bl_row hS2 (by omega) _
              have hone : (#[.slice sa l.length sc, .int .i64 (r : Int)] : Array Value).all (·.oneCell') = true := by simp [Value.oneCell']
              refine anyH_store_row (i := 7) #[.slice none 0 0, .int .i64 0] #[.slice sa l.length sc, .int .i64 (r : Int)] sizeSh (by kernel_rfl) rfl rfl (.tmp _) (.tmp _) rfl B (by rfl) (by rfl) hB2 rfl hone hT3 ?_
              try simp only [Act.put, List.getElem_toArray, List.getElem_cons_zero, List.getElem_cons_succ, List.setIfInBounds_toArray, List.set_cons_zero, List.set_cons_succ]
              refine wpAnyH_done (by kernel_rfl) ?_ _
              try simp only [Act.put, List.getElem_toArray, List.getElem_cons_zero, List.getElem_cons_succ, List.setIfInBounds_toArray, List.set_cons_zero, List.set_cons_succ]
              exact hK d1 d2 B dv _ ⟨hT3, hp_row _ _ _ _ _ hB2, by omega, by (have e : (C2.setRow B #[.slice sa l.length sc, .int .i64 (r : Int)]).heap.size = C2.heap.size := by simp [World.setRow]); omega⟩
            · show wpOp _ _ _ _ _ _ _
              obtain ⟨B, hBe⟩ : ∃ B, B = C0.heap.size := ⟨_, rfl⟩
              have hB1 := hp_last C0 (.cells #[.slice none 0 0, .int .i64 0] 78)
              rw [← hBe] at hB1
              have hz1 : (C0.alloc (.cells #[.slice none 0 0, .int .i64 0] 78)).heap.size = C0.heap.size + 1 := by simp
              have hSa : Below W.heap.size W (C0.alloc (.cells #[.slice none 0 0, .int .i64 0] 78)) := hS0.alloc hz0 _
              refine wpOp_val rfl rfl (.pointer (some ⟨B, 0, none⟩)) (C0.alloc (.cells #[.slice none 0 0, .int .i64 0] 78)) (by simp [go_sem, hBe]) ⟨hSa, ?_⟩
              generalize C0.alloc (.cells #[.slice none 0 0, .int .i64 0] 78) = C1 at hB1 hz1 hSa ⊢
              try simp only [Act.put, List.getElem_toArray, List.getElem_cons_zero, List.getElem_cons_succ, List.setIfInBounds_toArray, List.set_cons_zero, List.set_cons_succ]
              refine anyH_call (i := 2) (by kernel_rfl) rfl rfl 80 ent_fullC _ _ rfl #[.agg (fam (l.length : Int) G)] rfl (HFU.out G C1) ?_
              rintro e C2 ⟨rfl, hb2⟩
              have hz2 := hb2.size
              have hS1 : Below W.heap.size W C2 := hSa.trans (hb2.mono (by omega))
              have hS2 := hS1
              have hB2 := (hb2.block B (by omega)).trans hB1
              refine ⟨_, rfl, hS1, ?_⟩
              try simp only [Act.put, List.getElem_toArray, List.getElem_cons_zero, List.getElem_cons_succ, List.setIfInBounds_toArray, List.set_cons_zero, List.set_cons_succ]
              refine wpAnyH_take (i := 4) (v := .int .i64 (r : Int)) rfl (by kernel_rfl) (by kernel_rfl) (by kernel_rfl) (fun _ _ _ h => h) (.inl ⟨rfl, fun w' _ => by have hanr := HANR.out; go_simp⟩) hS1 ?_
              try simp only [Act.put, List.getElem_toArray, List.getElem_cons_zero, List.getElem_cons_succ, List.setIfInBounds_toArray, List.set_cons_zero, List.set_cons_succ]
              refine wpAnyH_take (i := 5) (v := .agg #[.slice sa l.length sc, .int .i64 (r : Int)]) rfl (by kernel_rfl) (by kernel_rfl) (by kernel_rfl) (fun _ _ _ h => h) (.inl ⟨rfl, fun w' _ => by go_simp⟩) hS1 ?_
              try simp only [Act.put, List.getElem_toArray, List.getElem_cons_zero, List.getElem_cons_succ, List.setIfInBounds_toArray, List.set_cons_zero, List.set_cons_succ]
              have hT3 : Below W.heap.size W (C2.setRow B #[.slice sa l.length sc, .int .i64 (r : Int)]) := bl_row hS2 (by omega) _
              have hone : (#[.slice sa l.length sc, .int .i64 (r : Int)] : Array Value).all (·.oneCell') = true := by simp [Value.oneCell']
              refine anyH_store_row (i := 7) #[.slice none 0 0, .int .i64 0] #[.slice sa l.length sc, .int .i64 (r : Int)] sizeSh (by kernel_rfl) rfl rfl (.tmp _) (.tmp _) rfl B (by rfl) (by rfl) hB2 rfl hone hT3 ?_
              try simp only [Act.put, List.getElem_toArray, List.getElem_cons_zero, List.getElem_cons_succ, List.setIfInBounds_toArray, List.set_cons_zero, List.set_cons_succ]
              refine wpAnyH_done (by kernel_rfl) ?_ _
              try simp only [Act.put, List.getElem_toArray, List.getElem_cons_zero, List.getElem_cons_succ, List.setIfInBounds_toArray, List.set_cons_zero, List.set_cons_succ]
              exact hK d1 d2 B dv _ ⟨hT3, hp_row _ _ _ _ _ hB2, by omega, by (have e : (C2.setRow B #[.slice sa l.length sc, .int .i64 (r : Int)]).heap.size = C2.heap.size := by simp [World.setRow]); omega⟩
          · rintro _ _ B _ W5 ⟨hb5, hB5, hBlo, hBhi⟩
            have HB5 := hide (bx_to HB.out hb5)
            have HG5 := hide (HFG.out.below hb5 hgz)
            have HR5 := hide (HR.out.below hb5 HR.out.lt)
            have s0 := cells_at0 hB5
            have s1 := cells_at1 hB5
            have hgz5 := HG5.out.lt
            clear hb5 hB5 hcell hmk
            go_wp2_with (first
              | (go_at_call 72; refine (HSI.out _ (bx_full HB5.out HL.out) (bx_tab HB5.out HT.out)).mono ?_; rintro e w6 ⟨rfl, hb6⟩; have hz6 := hb6.size; have HB6 := hide (bx_to HB5.out hb6); have HG6 := hide (HG5.out.below hb6 hgz5); have HR6 := hide (HR5.out.below hb6 HR5.out.lt); clear hb6)
              | (go_at_call 100; refine (items_c sm _ hS8 (bx_tab HB6.out HT.out)).mono ?_; rintro e w7 ⟨v7, rfl, ho7, hb7⟩; have HB7 := hide (bx_to HB6.out hb7); have HG7 := hide (HG6.out.below hb7 HG6.out.lt); have HR7 := hide (HR6.out.below hb7 HR6.out.lt); have HO7 := hide ho7; clear hb7 ho7)
              | (refine wpList_len sliceT rfl (.tmp _) rfl v7 rfl w7.heap.size (itemsL sm) HO7.out.ints ?_))
            have hg6 : g < w6.heap.size := HG6.out.lt
            have hr6 : w.heap.size + 1 < w6.heap.size := HR6.out.lt
            clear s0 s1 HB5 HB6 HG5 HG6 HR5 HR6
            go_loopw [40] (fun i ws => ∃ j : Nat, j ≤ (itemsL sm).length ∧ i = .int .i64 (j : Int) ∧ Hid (∃ G', ElIn l k (itemsL sm) j G' ∧ famAt 65 ws g (l.length : Int) G') ∧ Hid (famAt 65 ws (w.heap.size + 1) 0 noSet) ∧ Hid (own 3 ws w6.heap.size v7 (itemsL sm)) ∧ Hid (Below (w.heap.size + 1) (w.alloc (.cells #[.slice sa l.length sc] 27)) ws)) (fun i _ => (itemsL sm).length - (intOf i).toNat)
            case atStart => exact ⟨0, Nat.zero_le _, rfl, ⟨G, HIN0.out, HG7.out⟩, HR7, HO7, HB7⟩
            case round =>
              clear HB7 HG7 HR7 HO7
              obtain ⟨j, hj, rfl, HGI, HRI, HOI, HBI⟩ := hrel
              obtain ⟨G', hel', hfg'⟩ := HGI.out
              have HEI := hide hel'
              have HFI := hide hfg'
              clear hel' hfg' HGI
              by_cases hlj : j < (itemsL sm).length
              · obtain ⟨i1, i2, _⟩ := HIT.out j hlj
                have HX := hide i1
                have HNX := hide HEI.out.next
                generalize nth (itemsL sm) j = o at *
                have hko := or_lt128 k (p2 o) hk128 (p2_lt128 o i2)
                have c3 := HFI.out.get (k ||| p2 o) hko
                have f3 := HFI.out.free (1 + (k ||| p2 o))
                clear i1
                go_wp2_with (first
                  | (refine wpList_at sliceT intS rfl (.tmp _) (.tmp _) rfl v7 rfl j rfl _ (itemsL sm) HOI.out.ints hlj ?_; intro ad hcell2 hblk; rw [HX.out] at hcell2)
                  | (go_at_call 68; refine (with_c _ _ _ (by omega) (by omega) (by omega) (by omega)).mono ?_; rw [Int.toNat_natCast, Int.toNat_natCast]; rintro e w8 ⟨rfl, rfl⟩))
                go_roundw
                case rel => exact ⟨j + 1, by omega, by go_num, ⟨_, HNX.out, HFI.out.set _ hko _⟩, HRI.out.setO _ (by show w.heap.size + 1 ≠ g; have := HZG.out; omega) _, HOI.out.setLow _ (by show g < w6.heap.size; exact hg6) _, HBI.out.setCell (by show w.heap.size + 1 ≤ g; exact HZG.out) _⟩
                case measure => simp [intOf]; omega
              · have HE2 := hide (HEND.out G' (by rw [← show j = (itemsL sm).length by omega]; exact HEI.out))
                have hlj' : ¬ ((j : Int) < ((itemsL sm).length : Int)) := by omega
                go_wp2
                go_roundw
                case rel => exact ⟨k + 1, by omega, by go_num, ⟨G', HE2.out, HFI.out⟩, HRI, HBI⟩
                case measure => simp [intOf]; omega
      · have hke : k = low l.length + 1 := by omega
        have HD := hide (show ∀ x, x < 128 → G x = elF l x by have h := HEL.out; rw [hke] at h; exact h.done h7)
        have hlt' : ¬ ((k : Int) < (low l.length : Int) + 1) := by omega
        have HKE := hide hke
        have HGL := hide (HD.out (low l.length) hlo)
        clear hke hk
        cases hc : elF l (low l.length)
        · have HC := hide hc
          obtain ⟨e1, e2, e3⟩ := cf_no (HCB.out.trans hc)
          have HE3 := hide (And.intro e1 (And.intro e2 e3))
          clear hc e1 e2 e3
          go_wp2_with (first
            | (refine wpList_load_fam rowT sizeT rfl (.tmp _) rfl _ rfl (l.length : Int) _ HFG.out ?_)
            | (refine wpList_build_fam0 built0 rfl rfl ?_)
            | (go_at_call 80; refine (HFU.out _ _).mono ?_; rintro e w8 ⟨rfl, hb8⟩; have HB8 := hide (bx_to HB.out hb8); have hf8 := HFG.out.below hb8 hgz; have k8 := hf8.get (low l.length) hlo; rw [HGL.out, HC.out] at k8; have HR8 := hide (HR.out.below hb8 HR.out.lt); clear hb8 hf8)
            | (refine wpList_store_fam sizeT rfl (.tmp _) (.tmp _) rfl _ 0 noSet rfl rfl _ _ HR8.out ?_))
          refine bodyPost_ret (v := .tuple #[.agg (fam 0 noSet), .bool false]) (results_fam2 (p := 2) (q := 3) rowT sizeT rfl _ _ (w.heap.size + 1) rfl _ _ (HR8.out.row _ _)) rfl ⟨by rw [HE3.out.1, HE3.out.2.1, HE3.out.2.2], bl_row (bx_below HB8.out) (by omega) _⟩
        · have HC := hide hc
          obtain ⟨e1, e2, e3⟩ := cf_yes (HCB.out.trans hc)
          have hfc := fam_congr (l.length : Int) (F := G) (G := elF l) HD.out
          have HE3 := hide (And.intro e1 (And.intro e2 e3))
          have HFC := hide hfc
          clear hc e1 e2 e3 hfc
          go_wp2_with (first
            | (refine wpList_load_fam rowT sizeT rfl (.tmp _) rfl _ rfl (l.length : Int) _ HFG.out ?_)
            | (refine wpList_load_fam rowT sizeT rfl (.tmp _) rfl _ rfl (l.length : Int) _ HF8.out ?_)
            | (go_at_call 80; refine (HFU.out _ _).mono ?_; rintro e w8 ⟨rfl, hb8⟩; have HB8 := hide (bx_to HB.out hb8); have hf8 := HFG.out.below hb8 hgz; have HF8 := hide hf8; have k8 := hf8.get (low l.length) hlo; rw [HGL.out, HC.out] at k8; have HR8 := hide (HR.out.below hb8 HR.out.lt); clear hb8 hf8)
            | (refine wpList_store_fam sizeT rfl (.tmp _) (.tmp _) rfl _ (l.length : Int) G rfl rfl _ _ HR8.out ?_))
          refine bodyPost_ret (v := .tuple #[.agg (fam (l.length : Int) G), .bool true]) (results_fam2 (p := 2) (q := 3) rowT sizeT rfl _ _ (w.heap.size + 1) rfl _ _ (HR8.out.row _ _)) rfl ⟨by rw [HE3.out.1, HE3.out.2.1, HE3.out.2.2, ← HFC.out], bl_row (bx_below HB8.out) (by omega) _⟩
end Go.Proofs.YtojejhdlfklhkaaDoor
/- Contracts: the first elimination, the specification's; EliminationOf, both. -/
namespace Go.Proofs.YtojejhdlfklhkaaDoor
open Go.RowKit
set_option maxRecDepth 100000
set_option linter.unusedSimpArgs false
theorem ent_leadOnE : enters Tryd.prog 79 := enters_of Tryd.func79 (by kernel_rfl) (by kernel_rfl)
def geL (l : List Int) : List Int := if elF l (low l.length) then finL (elF l) l.length (low l.length) 0 else []
theorem geL_yes {l : List Int} (h : elF l (low l.length) = true) : geL l = finL (elF l) l.length (low l.length) 0 := by unfold geL; rw [h]; rfl
theorem geL_no {l : List Int} (h : elF l (low l.length) = false) : geL l = [] := by unfold geL; rw [h]; rfl
def eoL (l : List Int) : List Int := if cfB l then geL l else []
theorem eo_no {l : List Int} (h : cfB l = false) : eoL l = [] := by unfold eoL; rw [h]; rfl
theorem eo_is {l : List Int} (h : neB l = true) : eoL l = geL l := by
  unfold eoL
  rw [cfB_is h]
  cases e : elF l (low l.length)
  · rw [geL_no e]; rfl
  · rfl
theorem geL_len (l : List Int) : (geL l).length ≤ 7 := by
  unfold geL
  split
  · exact finL_len _ _ _ _
  · simp
theorem eoL_len (l : List Int) : (eoL l).length < 1000000000 := by
  unfold eoL
  split
  · have := geL_len l; omega
  · simp
/-- The orders on the way: s is what was taken away, acc the points in their order. -/
def GeIn (l : List Int) (s r : Nat) (acc : List Int) : Prop := elF l s = true ∧ r = andNot (low l.length) s ∧ (elF l (low l.length) = true → acc ++ finL (elF l) l.length (low l.length) s = finL (elF l) l.length (low l.length) 0) ∧ acc.length + pc r ≤ 7
theorem an_low0 (n : Nat) : andNot (low n) 0 = low n := by
  apply Nat.eq_of_testBit_eq
  intro i
  rw [andNot_bit, Nat.zero_testBit]; simp
theorem GeIn.start {l : List Int} (h7 : l.length ≤ 7) : GeIn l 0 (low l.length) [] := ⟨elF_zero h7, (an_low0 _).symm, fun _ => rfl, by have := pc_le (low l.length); simp; omega⟩
theorem GeIn.full {l : List Int} {s : Nat} {acc : List Int} (h : GeIn l s 0 acc) : s = low l.length := by
  have h1 := h.2.1.symm
  rw [sub_or] at h1
  exact sub.anti (fun i hi => by rw [low_bit]; exact decide_eq_true (elF_bit h.1 hi)) h1
theorem GeIn.done {l : List Int} {s : Nat} {acc : List Int} (h : GeIn l s 0 acc) : elF l (low l.length) = true ∧ geL l = acc := by
  have e := h.full
  have hF : elF l (low l.length) = true := by rw [← e]; exact h.1
  refine ⟨hF, ?_⟩
  rw [geL_yes hF, ← h.2.2.1 hF, e, finL_done, List.append_nil]
theorem GeIn.stuck {l : List Int} {s r : Nat} {acc : List Int} (h7 : l.length ≤ 7) (h : GeIn l s r acc) (hr : r ≠ 0) (h0 : simS l r = 0) : elF l (low l.length) = false := by
  refine elF_stuck h7 h.1 (fun e => hr ?_) (by rw [← h.2.1]; exact h0)
  rw [h.2.1, e, sub_or]
  exact fun _ h => h
theorem GeIn.next {l : List Int} {s r i : Nat} {acc : List Int} (h7 : l.length ≤ 7) (h : GeIn l s r acc) (hb : (simS l r).testBit i = true) (hl : ∀ j, j < i → (simS l r).testBit j = false) : GeIn l (s ||| p2 i) (andNot r (p2 i)) (acc ++ [(i : Int)]) := by
  obtain ⟨h1, h2, h3, h4⟩ := h
  have hr8 : r < 128 := by rw [h2]; exact andNot_lt128 _ _ (low_lt _ h7)
  have hS8 := simS_lt (l := l) h7 r
  have hb2 := hb
  rw [simS_bit, Bool.and_eq_true, Bool.and_eq_true, decide_eq_true_eq] at hb2
  obtain ⟨hi, hri, hsi⟩ := hb2
  have hsb : s.testBit i = false := by
    rw [h2, andNot_bit, Bool.and_eq_true, Bool.not_eq_true'] at hri
    exact hri.2
  have hS0 : simS l r ≠ 0 := fun e => by rw [e] at hb; simp at hb
  have htz : tzN (simS l r) = i := by
    have e1 := tzN_least _ hS8 i (by omega) hb
    have e2 := tzN_bit _ hS8 hS0
    rcases Nat.lt_or_ge (tzN (simS l r)) i with h' | h'
    · rw [hl _ h'] at e2; cases e2
    · omega
  refine ⟨elF_step h7 h1 hi hsb (by rw [← h2]; exact hsi), ?_, fun hF => ?_, ?_⟩
  · rw [h2, andNot_andNot, Nat.or_comm]
  · have hnx := elF_nxt h7 h1
    rw [← h2] at hnx
    have hne : s ≠ low l.length := fun e => by rw [e, low_bit, decide_eq_true hi] at hsb; cases hsb
    have hin : andNot s (low l.length) = 0 := by
      rw [sub_or]
      intro j hj
      rw [low_bit]; exact decide_eq_true (elF_bit h1 hj)
    obtain ⟨_, _, _, _, _, _, hfin, _⟩ := fin_next (elF_spc h7 hF) h7 hF h1 hin hne
    rw [hnx, htz] at hfin
    rw [← h3 hF, hfin, List.append_assoc]; rfl
  · have := pc_drop r hr8 i (by omega) hri
    rw [List.length_append, List.length_singleton]; omega
theorem bit_none {x n : Nat} (hx : x < 2 ^ n) (h : ∀ j, j < n → x.testBit j = false) : x = 0 := by
  apply Nat.eq_of_testBit_eq
  intro i
  rw [Nat.zero_testBit]
  rcases Nat.lt_or_ge i n with h' | h'
  · exact h i h'
  · exact Nat.testBit_lt_two_pow (Nat.lt_of_lt_of_le hx (p2_le n i h'))
theorem simS_pow (l : List Int) (r : Nat) : simS l r < 2 ^ l.length := itemsOf_lt _ _
theorem an_drop {r i : Nat} (h : r.testBit i = true) : andNot r (p2 i) < r := andNot_less h
attribute [local irreducible] p2 low memB risB
set_option maxHeartbeats 4000000 in
theorem shEliminate_c (v : Value) (l : List Int) (w : World) (hl : ints w.heap.size w v l) (hN : neB l = true) :
    Calls Tryd.prog 77 #[.agg #[v]] w fun e w' => ∃ v', e = .returned (.tuple #[v', .bool (elF l (low l.length))]) ∧ own 3 w' w.heap.size v' (geL l) ∧ Below w.heap.size w w' := by
  have hA := neB_A hN
  have h7 := (neA_in hA).1.2
  have HL := hide hl
  have HA := hide hA
  have HB0 := hide (bx_start 27 v w)
  have HL0 := hide (bx_ints HB0.out hl)
  have HG0 := hide (GeIn.start (l := l) h7)
  have hp1 := wrap_p2 l.length h7
  have hp2 : IntKind.i64.wrap (2 ^ l.length) = (p2 l.length : Int) := by rw [IntWalk.i64_left]; exact hp1
  have hp3 := wrap_low l.length h7
  have hp4 := low_p2 l.length
  have hlo := low_lt l.length h7
  clear hl hN hA
  go_enter Tryd.func77, Tryd.ntmps77
  go_wp2_with (refine wpList_len sliceT rfl (.tmp _) rfl v rfl w.heap.size l HL0.out ?_)
  clear hp1 hp2 hp3 hp4
  go_loopw [4, 5] (fun ov rv wr => ∃ r : Nat, rv = .int .i64 (r : Int) ∧ r < 128 ∧ Hid (∃ acc s, own 3 wr (w.heap.size + 1) ov acc ∧ GeIn l s r acc) ∧ Hid (Below (w.heap.size + 1) (w.alloc (.cells #[v] 27)) wr)) (fun _ rv _ => (intOf rv).toNat)
  case atStart => exact ⟨low l.length, rfl, hlo, ⟨[], 0, own_nil _ _ _, HG0.out⟩, HB0⟩
  case round =>
    obtain ⟨r, rfl, hr8, HO, HB⟩ := hrel
    obtain ⟨acc, s, ho, hge⟩ := HO.out
    have HOO := hide ho
    have HGE := hide hge
    have hacc := hge.2.2.2
    have hcell := bx_cell HB.out
    clear ho hge HO
    by_cases hr0 : r = 0
    · subst hr0
      have HD := hide (HGE.out.done)
      go_wp2
      go_ret2
      exact ⟨_, by rw [HD.out.1]; rfl, by rw [HD.out.2]; exact HOO.out.mono (by omega), bx_below HB.out⟩
    · have hgt : ((r : Int) > 0) := by omega
      have hgt2 : (0 < r) := by omega
      have HR0 := hide hr0
      have hS8 := simS_lt (l := l) h7 r
      clear hr0
      go_wp2_with fail
      clear hcell
      go_loopw [6] (fun iv ws => ∃ i : Nat, iv = .int .i64 (i : Int) ∧ i ≤ l.length ∧ Hid (∀ j, j < i → (simS l r).testBit j = false) ∧ Hid (own 3 ws (w.heap.size + 1) u4 acc) ∧ Hid (Below (w.heap.size + 1) (w.alloc (.cells #[v] 27)) ws)) (fun iv _ => l.length - (intOf iv).toNat)
      case atStart => exact ⟨0, rfl, Nat.zero_le _, fun j hj => by omega, HOO, HB⟩
      case round =>
        obtain ⟨i, rfl, hi, HJ, HOI, HBI⟩ := hrel
        have hcell := bx_cell HBI.out
        have HLI := hide (bx_ints HBI.out HL.out)
        by_cases hlt : i < l.length
        · have hi7 : i < 7 := by omega
          have HSB := hide (simS_bit l r i)
          have HSI := hide (fun w1 h1 => shSimplicial_c v l i r w1 h1 HA.out hlt hr8)
          have hd := decide_eq_true hlt
          have hni : ((i : Int) == (l.length : Int)) = false := by rw [beq_eq_false_iff_ne]; omega
          have HNO := hide (fun (h : (simS l r).testBit i = false) j (hj : j < i + 1) => show (simS l r).testBit j = false by
            rcases Nat.lt_or_ge j i with h' | h'
            · exact HJ.out j h'
            · rw [show j = i by omega]; exact h)
          have HYES := hide (fun (h : (simS l r).testBit i = true) => GeIn.next h7 HGE.out h HJ.out)
          have hp1 := wrap_p2 i (by omega)
          have hp2 : IntKind.i64.wrap (2 ^ i) = (p2 i : Int) := by rw [IntWalk.i64_left]; exact hp1
          have han := i64_andNot r (p2 i) (Nat.lt_trans hr8 (by decide))
          cases hb : r.testBit i
          · have HBT := hide hb
            have HN := hide (HNO.out (by rw [HSB.out, hb]; simp))
            clear hb
            go_wp2_with (first
              | (refine wpList_len sliceT rfl (.tmp _) rfl v rfl w.heap.size l HLI.out ?_)
              | (go_at_call 63; refine (spIn_c _ _ _ (by omega) (by omega) (by omega) (by omega)).mono ?_; rw [Int.toNat_natCast, Int.toNat_natCast, HBT.out]; rintro e w8 ⟨rfl, rfl⟩))
            go_roundw
            case rel => exact ⟨i + 1, by go_num, by omega, HN, HOI, HBI⟩
            case measure => simp [intOf]; omega
          · have HBT := hide hb
            have hdr := an_drop hb
            have hr28 : andNot r (p2 i) < 128 := by omega
            have HS2 := hide (show (simS l r).testBit i = simB l r i by rw [HSB.out, hb, decide_eq_true hlt]; rfl)
            clear hb
            generalize simB l r i = q at *
            cases q
            · have HN := hide (HNO.out HS2.out)
              go_wp2_with (first
                | (refine wpList_len sliceT rfl (.tmp _) rfl v rfl w.heap.size l HLI.out ?_)
                | (go_at_call 63; refine (spIn_c _ _ _ (by omega) (by omega) (by omega) (by omega)).mono ?_; rw [Int.toNat_natCast, Int.toNat_natCast, HBT.out]; rintro e w8 ⟨rfl, rfl⟩)
                | (go_at_call 70; refine (HSI.out _ (bx_full HBI.out HL.out)).mono ?_; rintro e w9 ⟨rfl, hb9⟩; have HO9 : Hid (own 3 w9 (w.heap.size + 1) u4 acc) := hide (HOI.out.kept hb9); have HB9 := hide (bx_to HBI.out hb9); clear hb9))
              go_roundw
              case rel => exact ⟨i + 1, by go_num, by omega, HN, HO9, HB9⟩
              case measure => simp [intOf]; omega
            · have HN := hide (HYES.out HS2.out)
              have hbz := bx_size HBI.out
              go_wp2_with (first
                | (refine wpList_len sliceT rfl (.tmp 16) rfl v rfl w.heap.size l HLI.out ?_)
                | (refine wpList_len sliceT rfl (.tmp 36) rfl v rfl w.heap.size l HL9.out ?_)
                | (go_at_call 63; refine (spIn_c _ _ _ (by omega) (by omega) (by omega) (by omega)).mono ?_; rw [Int.toNat_natCast, Int.toNat_natCast, HBT.out]; rintro e w8 ⟨rfl, rfl⟩)
                | (go_at_call 70; refine (HSI.out _ (bx_full HBI.out HL.out)).mono ?_; rintro e w9 ⟨rfl, hb9⟩; have hz9 := hb9.size; have HO9 : Hid (own 3 w9 (w.heap.size + 1) u4 acc) := hide (HOI.out.kept hb9); have HB9 := hide (bx_to HBI.out hb9); have hc9 := bx_cell HB9.out; have HL9 := hide (bx_ints HB9.out HL.out); clear hb9)
                | (at_builtin; refine wpList_append1 sliceT intI rfl _ _ rfl (w.heap.size + 1) _ _ rfl (HO9.out.alloc _) _ (i : Int) rfl (by simp [go_sem]) (by simp; omega) (by omega) ?_; intro v5 w5 ho5 hb5; have HO5 := hide ho5; have HB5 := hide ((HB9.out.alloc (bx_size HB9.out) _).trans hb5); clear ho5 hb5))
              go_roundw
              case rel => exact ⟨andNot r (p2 i), rfl, hr28, ⟨_, _, HO5.out, HN.out⟩, HB5⟩
              case measure => simp [intOf]; omega
        · have HST := hide (HGE.out.stuck h7 HR0.out (bit_none (simS_pow l r) (by rw [← show i = l.length by omega]; exact HJ.out)))
          have HGN := hide (geL_no HST.out)
          have hlt' : ¬ ((i : Int) < (l.length : Int)) := by omega
          have hni : ((i : Int) == (l.length : Int)) = true := by rw [beq_iff_eq]; omega
          go_wp2_with (refine wpList_len sliceT rfl (.tmp _) rfl v rfl w.heap.size l HLI.out ?_)
          go_ret2
          exact ⟨_, by rw [HST.out]; rfl, by rw [HGN.out]; exact own_nil _ _ _, bx_below HBI.out⟩
end Go.Proofs.YtojejhdlfklhkaaDoor
