/- Contracts: what is open, both parts of a family; answers that leave more than one set: the program's. -/
import Derived.Test.YtppojaekngeelaaDoorHb
import Derived.Test.YtppojaekngeelaaDoorHh
import Derived.Test.YtppojaekngeelaaDoorFo
namespace Go.Proofs.YtppojaekngeelaaDoor
open Go.RowKit
set_option maxRecDepth 100000
set_option linter.unusedSimpArgs false
section
variable {P : Program}
theorem results_fam2c {T : TypeId} (hT : (P.underlying T).map TypeDesc.isRow = some true) (hS : (P.info? T).map (·.size) = some 129) {fn : Func} {p q : Tmp} (h : fn.results = #[.cell p T, .cell q T]) (tmps : Array Value) (w : World) (g g2 : Nat)
    (hp : tmps.getD p undef = .pointer (some ⟨g, 0, none⟩)) (hq : tmps.getD q undef = .pointer (some ⟨g2, 0, none⟩)) (n : Int) (F : Nat → Bool) (m : Int) (G : Nat → Bool) (hg : famAt T w g n F) (hg2 : famAt T w g2 m G) : (results fn tmps).run P w = .ok (.tuple #[.agg (fam n F), .agg (fam m G)]) w := by
  obtain ⟨d, hu, hd⟩ := rowTy_of hT
  have hp' : tmps[p]?.getD undef = .pointer (some ⟨g, 0, none⟩) := by simpa using hp
  have hq' : tmps[q]?.getD undef = .pointer (some ⟨g2, 0, none⟩) := by simpa using hq
  have hl := run_loadVar_row (P := P) w g T T (fam n F) (0, 0) d hg hu (by cases d <;> first | rfl | (cases hd)) (by rw [hS, fam_size])
  have hl2 := run_loadVar_row (P := P) w g2 T T (fam m G) (0, 0) d hg2 hu (by cases d <;> first | rfl | (cases hd)) (by rw [hS, fam_size])
  simp [results, h, hp', hq', asAddr, hl, hl2]
end
attribute [local irreducible] p2 low memB risB
set_option maxHeartbeats 2000000 in
theorem open_c (m : Nat) (F : Nat → Bool) (w : World) (hm7 : m ≤ 7) :
    Calls Tryd.prog 51 #[.agg (fam (m : Int) F)] w fun e w' => e = .returned (.int .i64 (opN m F : Int)) ∧ Below w.heap.size w w' := by
  have HF := hide (famAt.new 45 w (m : Int) F)
  have H0 := hide ((Below.refl w.heap.size w).alloc (Nat.le_refl _) (.cells (fam (m : Int) F) 45))
  have HKN := hide (fun w1 => known_c m F w1 hm7)
  have HFU := hide (fun w1 => by have := full_c (m : Int) F w1 (by omega) (by omega); rw [Int.toNat_natCast] at this; exact this)
  have hlo := low_lt m hm7
  have hka : kaL (setsTo F 128) (low m) < 128 := kaTo_lt _ _ hlo _
  have hkn : knL (setsTo F 128) (low m) < 128 := knTo_lt _ _ hlo _
  have HO := hide (show opN m F = andNot (low m) (kaL (setsTo F 128) (low m) ||| knL (setsTo F 128) (low m)) from rfl)
  rw [HO.out]
  generalize kaL (setsTo F 128) (low m) = A at *
  generalize knL (setsTo F 128) (low m) = B at *
  have hor := i64_or A B (by omega) (by omega)
  have hann := i64_andNot (low m) (A ||| B) (by omega)
  clear HO
  generalize (A ||| B) = C at *
  generalize andNot (low m) C = D at *
  go_enter Tryd.func51, Tryd.ntmps51
  go_wp2_with (first
    | (refine wpList_load_fam rowT sizeT rfl (.tmp _) rfl _ rfl (m : Int) F (by first | exact HF1.out | exact HF.out) ?_)
    | (go_at_call 70; refine (HKN.out _).mono ?_; rintro e w1 ⟨rfl, hb1⟩; have HF1 := hide (HF.out.below hb1 HF.out.lt); have HB1 := hide (H0.out.trans (hb1.mono (by simp))); clear hb1 H0)
    | (go_at_call 55; refine (HFU.out _).mono ?_; rintro e w2 ⟨rfl, hb2⟩; have HB2 := hide (HB1.out.trans (hb2.mono HB1.out.size)); clear hb2))
  go_ret
  exact ⟨rfl, HB2.out⟩
theorem ent_single : enters Tryd.prog 72 := enters_of Tryd.func72 (by kernel_rfl) (by kernel_rfl)
theorem ent_leftBy : enters Tryd.prog 71 := enters_of Tryd.func71 (by kernel_rfl) (by kernel_rfl)
set_option maxHeartbeats 4000000 in
theorem parted_c (m : Nat) (F : Nat → Bool) (i : Nat) (w : World) (hm7 : m ≤ 7) (hF : ∀ x, F x = true → x ≤ low m) (hi : i < 7) :
    Calls Tryd.prog 52 #[.agg (fam (m : Int) F), .int .i64 (i : Int)] w fun e w' => e = .returned (.tuple #[.agg (fam (m : Int) (ptF F i true)), .agg (fam (m : Int) (ptF F i false))]) ∧ Below w.heap.size w w' := by
  have HF0 := hide (((famAt.new 45 w (m : Int) F).alloc (.cells (fam 0 noSet) 45)).alloc (.cells (fam 0 noSet) 45))
  have ha0 : famAt 45 (((w.alloc (.cells (fam (m : Int) F) 45)).alloc (.cells (fam 0 noSet) 45)).alloc (.cells (fam 0 noSet) 45)) (w.heap.size + 1) 0 noSet := (show famAt 45 ((w.alloc (.cells (fam (m : Int) F) 45)).alloc (.cells (fam 0 noSet) 45)) (w.heap.size + 1) 0 noSet by have h := famAt.new 45 (w.alloc (.cells (fam (m : Int) F) 45)) 0 noSet; simpa using h).alloc _
  have hb0 : famAt 45 (((w.alloc (.cells (fam (m : Int) F) 45)).alloc (.cells (fam 0 noSet) 45)).alloc (.cells (fam 0 noSet) 45)) (w.heap.size + 2) 0 noSet := by have h := famAt.new 45 ((w.alloc (.cells (fam (m : Int) F) 45)).alloc (.cells (fam 0 noSet) 45)) 0 noSet; simpa using h
  have HA0 := hide ha0
  have HBB0 := hide hb0
  have HW0 := hide ((((Below.refl w.heap.size w).alloc (Nat.le_refl _) (.cells (fam (m : Int) F) 45)).alloc (by simp) (.cells (fam 0 noSet) 45)).alloc (by simp <;> omega) (.cells (fam 0 noSet) 45))
  have HZ0 := hide (show (((w.alloc (.cells (fam (m : Int) F) 45)).alloc (.cells (fam 0 noSet) 45)).alloc (.cells (fam 0 noSet) 45)).heap.size = w.heap.size + 3 by simp)
  have hp8 := p2_lt128 i hi
  have HL1 := hide (fun w1 => leftBy_c m F (p2 i) 0 w1 hm7 hF hp8 (by omega))
  have HL2 := hide (fun w1 => leftBy_c m F 0 (p2 i) w1 hm7 hF (by omega) hp8)
  have HP1 := hide (show ptF F i true = leF F (p2 i) 0 from rfl)
  have HP2 := hide (show ptF F i false = leF F 0 (p2 i) from rfl)
  rw [HP1.out, HP2.out]
  clear ha0 hb0 hF
  generalize leF F (p2 i) 0 = G1 at *
  generalize leF F 0 (p2 i) = G2 at *
  have HSI := hide (fun w1 => single_c (i : Int) w1 (by omega) (by omega))
  go_enter Tryd.func52, Tryd.ntmps52
  go_wp2_with (refine wpList_alloc_fam zeroT rfl rfl _ (by first | (simp only [World.size_alloc]; rfl) | rfl) ?_)
  generalize ((w.alloc (.cells (fam (m : Int) F) 45)).alloc (.cells (fam 0 noSet) 45)).alloc (.cells (fam 0 noSet) 45) = W at *
  refine wp_region_held (S := fun w' => Below w.heap.size w w' ∧ famAt 45 w' w.heap.size (m : Int) F) (by kernel_rfl) ?_
  have hS : Below w.heap.size w { W with drawn := W.drawn + 1 } ∧ famAt 45 { W with drawn := W.drawn + 1 } w.heap.size (m : Int) F := ⟨HW0.out.drew, HF0.out⟩
  have hA : famAt 45 { W with drawn := W.drawn + 1 } (w.heap.size + 1) 0 noSet := HA0.out
  have hB : famAt 45 { W with drawn := W.drawn + 1 } (w.heap.size + 2) 0 noSet := HBB0.out
  have hz : ({ W with drawn := W.drawn + 1 } : World).heap.size = w.heap.size + 3 := HZ0.out
  generalize ({ W with drawn := W.drawn + 1 } : World) = W1 at hS hA hB hz ⊢
  refine wpAnyH_take (i := 0) rfl (by kernel_rfl) (by kernel_rfl) (by kernel_rfl) (fun _ _ _ h => h) (yields_load_fam rowT sizeT rfl (.tmp _) rfl _ rfl (m : Int) F (fun w' h => h.2)) hS ?_
  refine wpAnyH_take (i := 4) rfl (by kernel_rfl) (by kernel_rfl) (by kernel_rfl) (fun _ _ _ h => h) (yields_load_fam rowT sizeT rfl (.tmp _) rfl _ rfl (m : Int) F (fun w' h => h.2)) hS ?_
  refine wpAnyH_take (i := 1) (v := .int .i64 (i : Int)) rfl (by kernel_rfl) (by kernel_rfl) (by kernel_rfl) (fun _ _ _ h => h) (.inl ⟨rfl, fun w' _ => by go_simp⟩) hS ?_
  refine wpAnyH_take (i := 5) (v := .int .i64 (i : Int)) rfl (by kernel_rfl) (by kernel_rfl) (by kernel_rfl) (fun _ _ _ h => h) (.inl ⟨rfl, fun w' _ => by go_simp⟩) hS ?_
  simp only [Act.put, List.getElem_toArray, List.getElem_cons_zero, List.getElem_cons_succ, List.setIfInBounds_toArray, List.set_cons_zero, List.set_cons_succ]
  refine anyH_call (i := 2) (by kernel_rfl) rfl rfl 72 ent_single _ _ rfl #[.int .i64 (i : Int)] rfl (HSI.out W1) ?_
  rintro e w2 ⟨rfl, rfl⟩
  refine ⟨_, rfl, hS, ?_⟩
  simp only [Act.put, List.getElem_toArray, List.getElem_cons_zero, List.getElem_cons_succ, List.setIfInBounds_toArray, List.set_cons_zero, List.set_cons_succ]
  refine anyH_call (i := 3) (by kernel_rfl) rfl rfl 71 ent_leftBy _ _ rfl #[.agg (fam (m : Int) F), .int .i64 (p2 i : Int), .int .i64 0] rfl (HL1.out W1) ?_
  rintro e w2 ⟨rfl, hb2⟩
  rw [hz] at hb2
  have hz2 := hb2.size
  rw [hz] at hz2
  have hS2 : Below w.heap.size w w2 ∧ famAt 45 w2 w.heap.size (m : Int) F := ⟨hS.1.trans (hb2.mono (by omega)), hS.2.below hb2 (by omega)⟩
  have hA2 := hA.below hb2 (by omega)
  have hB2 := hB.below hb2 (by omega)
  refine ⟨_, rfl, hS2, ?_⟩
  simp only [Act.put, List.getElem_toArray, List.getElem_cons_zero, List.getElem_cons_succ, List.setIfInBounds_toArray, List.set_cons_zero, List.set_cons_succ]
  refine anyH_call (i := 6) (by kernel_rfl) rfl rfl 72 ent_single _ _ rfl #[.int .i64 (i : Int)] rfl (HSI.out w2) ?_
  rintro e w3 ⟨rfl, rfl⟩
  refine ⟨_, rfl, hS2, ?_⟩
  simp only [Act.put, List.getElem_toArray, List.getElem_cons_zero, List.getElem_cons_succ, List.setIfInBounds_toArray, List.set_cons_zero, List.set_cons_succ]
  refine anyH_call (i := 7) (by kernel_rfl) rfl rfl 71 ent_leftBy _ _ rfl #[.agg (fam (m : Int) F), .int .i64 0, .int .i64 (p2 i : Int)] rfl (HL2.out w2) ?_
  rintro e w3 ⟨rfl, hb3⟩
  have hz3 := hb3.size
  have hS3 : Below w.heap.size w w3 ∧ famAt 45 w3 w.heap.size (m : Int) F := ⟨hS2.1.trans (hb3.mono (by omega)), hS2.2.below hb3 (by omega)⟩
  have hA3 := hA2.below hb3 (by omega)
  have hB3 := hB2.below hb3 (by omega)
  refine ⟨_, rfl, hS3, ?_⟩
  simp only [Act.put, List.getElem_toArray, List.getElem_cons_zero, List.getElem_cons_succ, List.setIfInBounds_toArray, List.set_cons_zero, List.set_cons_succ]
  have hB4 := hB3.rowO (w.heap.size + 1) (by omega) (fam (m : Int) G1)
  have hS4 : Below w.heap.size w (w3.setRow (w.heap.size + 1) (fam (m : Int) G1)) ∧ famAt 45 (w3.setRow (w.heap.size + 1) (fam (m : Int) G1)) w.heap.size (m : Int) F := ⟨bl_row hS3.1 (by omega) _, hS3.2.rowO _ (by omega) _⟩
  have hA4 : famAt 45 (w3.setRow (w.heap.size + 1) (fam (m : Int) G1)) (w.heap.size + 1) (m : Int) G1 := hA3.row (m : Int) G1
  refine anyH_store_fam sizeT (i := 8) (by kernel_rfl) rfl rfl (.tmp 4) (.tmp 9) rfl (w.heap.size + 1) (m : Int) G1 rfl rfl _ _ hA3 hS4 ?_
  simp only [Act.put, List.getElem_toArray, List.getElem_cons_zero, List.getElem_cons_succ, List.setIfInBounds_toArray, List.set_cons_zero, List.set_cons_succ]
  have hA5 := hA4.rowO (w.heap.size + 2) (by omega) (fam (m : Int) G2)
  have hS5 : Below w.heap.size w ((w3.setRow (w.heap.size + 1) (fam (m : Int) G1)).setRow (w.heap.size + 2) (fam (m : Int) G2)) ∧ famAt 45 ((w3.setRow (w.heap.size + 1) (fam (m : Int) G1)).setRow (w.heap.size + 2) (fam (m : Int) G2)) w.heap.size (m : Int) F := ⟨bl_row hS4.1 (by omega) _, hS4.2.rowO _ (by omega) _⟩
  have hB5 := hB4.row (m : Int) G2
  refine anyH_store_fam sizeT (i := 9) (by kernel_rfl) rfl rfl (.tmp 5) (.tmp 13) rfl (w.heap.size + 2) (m : Int) G2 rfl rfl _ _ hB4 hS5 ?_
  refine wpAnyH_done (by kernel_rfl) ?_ _
  simp only [Act.put, List.getElem_toArray, List.getElem_cons_zero, List.getElem_cons_succ, List.setIfInBounds_toArray, List.set_cons_zero, List.set_cons_succ]
  have HA5 := hide hA5
  have HB5 := hide hB5
  have HS5 := hide hS5.1
  clear hA hB hS hA2 hB2 hS2 hA3 hB3 hS3 hA4 hB4 hS4 hA5 hB5 hS5 hb2 hb3 hz hz2 hz3
  go_wp2
  exact bodyPost_ret (v := .tuple #[.agg (fam (m : Int) G1), .agg (fam (m : Int) G2)]) (results_fam2c rowT sizeT rfl _ _ (w.heap.size + 1) (w.heap.size + 2) rfl rfl _ _ _ _ HA5.out HB5.out) rfl ⟨rfl, HS5.out⟩
end Go.Proofs.YtppojaekngeelaaDoor
