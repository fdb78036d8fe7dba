/- Contracts: convex sets and hulls, the program's and the specification's. -/
import Derived.Test.YtfmaakkehleefaaWi
namespace Go.Proofs.Ytfmaakkehleefaa
open Go.RowKit
set_option maxRecDepth 100000
attribute [local irreducible] p2 low memB risB

def convR (n : Int) (l : List Int) (x : Int) : Bool := okSet n l x && memB l ((andNot (low n.toNat) x.toNat : Nat) : Int)
theorem convR_no {n : Int} {l : List Int} {x : Int} (h : okSet n l x = false) : convR n l x = false := by simp [convR, h]
theorem convR_yes {n : Int} {l : List Int} {x : Int} (h : okSet n l x = true) : convR n l x = memB l ((andNot (low n.toNat) x.toNat : Nat) : Int) := by simp [convR, h]

set_option maxHeartbeats 800000 in
theorem specIsConvex_c (n : Int) (v : Value) (l : List Int) (x : Int) (w : World) (hl : ints w.heap.size w v l) (hlen : l.length < 1000000000) :
    Calls Try.prog 5 #[.agg #[.int .i64 n, v], .int .i64 x] w fun e w' => e = .returned (.tuple #[.bool (convR n l x), .bool (okSet n l x)]) ∧ Below w.heap.size w w' := by
  have HL := hide ((hl.alloc (.cells #[.int .i64 n, v] 28)).mono (show w.heap.size ≤ (w.alloc (.cells #[.int .i64 n, v] 28)).heap.size by simp))
  clear hl
  cases hok : okSet n l x
  · have HR := hide (convR_no hok)
    have HK := hide hok
    clear hok
    go_enter Try.func5, Try.ntmps5
    go_wp2_with (go_at_call 10; refine (spSet_c n v l x _ HL.out hlen).mono ?_; rw [HK.out]; rintro e w' ⟨rfl, hb⟩)
    go_ret2
    exact ⟨by rw [HR.out]; rfl, ((Below.refl _ _).alloc (Nat.le_refl _) _).trans (hb.mono (by simp))⟩
  · obtain ⟨hi0, hi1⟩ := okSet_in hok
    obtain ⟨hn1, hn2⟩ := okSp_n (okSet_sp hok)
    obtain ⟨m, rfl⟩ := Int.eq_ofNat_of_zero_le (show 0 ≤ n by omega)
    obtain ⟨s, rfl⟩ := Int.eq_ofNat_of_zero_le hi0
    have hm7 : m ≤ 7 := by omega
    have hlo := low_lt m hm7
    have hp1 := wrap_p2 m hm7
    have hp2 : IntKind.i64.wrap (2 ^ m) = (p2 m : Int) := by rw [IntWalk.i64_left]; exact hp1
    have hp3 := wrap_low m hm7
    have hp4 : (p2 m : Int) - 1 = (low m : Int) := by have := p2_pos m; unfold p2 low; omega
    have hp5 : IntKind.i64.wrap (low m : Int) = (low m : Int) := IntWalk.i64_in _ (by omega)
    have han := i64_andNot (low m) s (by omega)
    have HI := hide (okSp_inc (okSet_sp hok))
    have HR := hide (convR_yes hok)
    have HK := hide hok
    clear hok
    go_enter Try.func5, Try.ntmps5
    go_wp2_with (go_at_call 10; refine (spSet_c m v l s _ HL.out hlen).mono ?_; rw [HK.out]; rintro e w1 ⟨rfl, hb⟩)
    have hz := hb.size
    simp at hz
    have c0 : ∀ w', Below w1.heap.size w1 w' → w'.cell? ⟨w.heap.size, 0, none⟩ = some (.int .i64 (m : Int)) := fun w' h => by rw [h.cell (p := ⟨w.heap.size, 0, none⟩) (by show w.heap.size < _; omega), hb.cell (p := ⟨w.heap.size, 0, none⟩) (by simp)]; simp
    have c1 : ∀ w', Below w1.heap.size w1 w' → w'.cell? ⟨w.heap.size, 1, none⟩ = some v := fun w' h => by rw [h.cell (p := ⟨w.heap.size, 1, none⟩) (by show w.heap.size < _; omega), hb.cell (p := ⟨w.heap.size, 1, none⟩) (by simp)]; simp
    have HC0 := hide c0
    have HC1 := hide c1
    have HL1 := hide ((HL.out.below hb (Nat.le_refl _)).mono hb.size)
    have HB := hide (((Below.refl w.heap.size w).alloc (Nat.le_refl _) (.cells #[.int .i64 (m : Int), v] 28)).trans (hb.mono (by simp)))
    clear hb c0 c1
    refine wp_region_old (by kernel_rfl) (by kernel_rfl) ?_
    go_big_quiet_step ((first | exact fun _ => rfl | exact fun _ => ⟨rfl, rfl⟩))
    refine q_load_cell rowS rfl (.tmp _) rfl _ rfl v HC1.out ?_
    simp only [Act.put, List.setIfInBounds_toArray, List.set_cons_zero, List.set_cons_succ]
    go_big_quiet_step ((first | exact fun _ => rfl | exact fun _ => ⟨rfl, rfl⟩))
    refine q_load_cell rowI rfl (.tmp _) rfl _ rfl (.int .i64 (m : Int)) HC0.out ?_
    simp only [Act.put, List.setIfInBounds_toArray, List.set_cons_zero, List.set_cons_succ]
    go_big_quiet_step ((first | exact fun _ => rfl | exact fun _ => ⟨rfl, rfl⟩))
    go_big_quiet_step ((first | exact fun _ => rfl | exact fun _ => ⟨rfl, rfl⟩))
    go_big_quiet_step ((first | exact fun _ => rfl | exact fun _ => ⟨rfl, rfl⟩))
    go_big_quiet_step ((first | exact fun _ => rfl | exact fun _ => ⟨rfl, rfl⟩))
    refine q_pure rfl 11 ent_spHas _ _ rfl #[v, .int .i64 ((andNot (low m) s : Nat) : Int)] rfl (.bool (memB l ((andNot (low m) s : Nat) : Int))) (fun w' hb => spHas_c v l ((andNot (low m) s : Nat) : Int) w' ((HL1.out.below hb (Nat.le_refl _)).mono hb.size) HI.out hlen) ?_
    simp only [Act.put, List.setIfInBounds_toArray, List.set_cons_zero, List.set_cons_succ]
    go_big_quiet_step ((first | exact fun _ => rfl | exact fun _ => ⟨rfl, rfl⟩))
    go_big_quiet_step ((first | exact fun _ => rfl | exact fun _ => ⟨rfl, rfl⟩))
    refine wpQuiet_nil ?_
    intro w2 hb2
    go_wp2
    go_ret2
    exact ⟨by rw [HR.out]; rfl, HB.out.trans (hb2.mono (by omega))⟩

set_option maxHeartbeats 1000000 in
theorem implIsConvex_c (n : Int) (v : Value) (l : List Int) (x : Int) (w : World) (hl : ints w.heap.size w v l) (hlen : l.length < 1000000000) :
    Calls Try.prog 7 #[.agg #[.int .i64 n, v], .int .i64 x] w fun e w' => e = .returned (.tuple #[.bool (convR n l x), .bool (okSet n l x)]) ∧ Below w.heap.size w w' := by
  have HL := hide ((hl.alloc (.cells #[.int .i64 n, v] 28)).mono (show w.heap.size ≤ (w.alloc (.cells #[.int .i64 n, v] 28)).heap.size by simp))
  clear hl
  have H0 := hide ((Below.refl w.heap.size w).alloc (Nat.le_refl _) (.cells #[.int .i64 n, v] 28))
  cases hok : okSet n l x
  · have HO := hide (convR_no hok)
    have HK := hide hok
    clear hok
    go_enter Try.func7, Try.ntmps7
    go_wp2_with (first
      | (go_at_call 13; refine (familyAndSet_c n v l x _ HL.out hlen).mono ?_; rw [famVal2_no n l x HK.out]; rintro e w1 ⟨rfl, hb⟩)
      | (refine wpList_alloc_fam zeroT rfl rfl _ (by first | (simp only [World.size_alloc]; rfl) | rfl) ?_)
      | (refine wpList_store_fam sizeT rfl (.tmp _) (.tmp _) rfl _ _ _ rfl rfl _ _ (famAt.new _ _ _ _) ?_))
    go_ret2
    have hz := hb.size
    simp at hz
    exact ⟨by rw [HO.out]; rfl, bl_row ((H0.out.trans (hb.mono (by simp))).alloc (by omega) _) (by omega) _⟩
  · obtain ⟨hi0, hi1⟩ := okSet_in hok
    obtain ⟨hn1, hn2⟩ := okSp_n (okSet_sp hok)
    obtain ⟨m, rfl⟩ := Int.eq_ofNat_of_zero_le (show 0 ≤ n by omega)
    obtain ⟨s, rfl⟩ := Int.eq_ofNat_of_zero_le hi0
    have hm7 : m ≤ 7 := by omega
    have hlo := low_lt m hm7
    have han := i64_andNot (low m) s (by omega)
    have ha128 := andNot_lt128 (low m) s hlo
    have HV := hide (show convR (m : Int) l (s : Int) = marksTo l l.length (andNot (low m) s) by rw [okSp_marks (okSet_sp hok), convR_yes hok]; rfl)
    have HK := hide hok
    clear hok
    go_enter Try.func7, Try.ntmps7
    go_wp2_with (first
      | (go_at_call 13; refine (familyAndSet_c m v l s _ HL.out hlen).mono ?_; rw [famVal2_yes m l s HK.out]; rintro e w1 ⟨rfl, hb⟩; have hz := hb.size; simp at hz; have hh := (famAt.new 38 w1 0 noSet).row m (marksTo l l.length); have HB := hide (bl_row ((H0.out.trans (hb.mono (by simp))).alloc (by omega) (.cells (fam 0 noSet) 38)) (show w.heap.size ≤ w1.heap.size by omega) (fam m (marksTo l l.length))); clear hb)
      | (refine wpList_alloc_fam zeroT rfl rfl _ (by first | (simp only [World.size_alloc]; rfl) | rfl) ?_)
      | (refine wpList_store_fam sizeT rfl (.tmp _) (.tmp _) rfl _ _ _ rfl rfl _ _ (famAt.new _ _ _ _) ?_)
      | (refine wpList_load_fam rowT sizeT rfl (.tmp _) rfl _ rfl m (marksTo l l.length) hh ?_)
      | (go_at_call 14; refine (full_c _ _ _ (by omega) (by omega)).mono ?_; rw [Int.toNat_natCast]; rintro e w3 ⟨rfl, hb3⟩; have hh3 := hh.below hb3 hh.lt; have hc := hh3.get (andNot (low m) s) ha128; have HB3 := hide (HB.out.trans (hb3.mono (by simp [World.setRow]; omega))); clear hb3))
    go_ret2
    exact ⟨by rw [HV.out]; rfl, HB3.out⟩

/-! ### Hulls -/
def hullR (n : Int) (l : List Int) (x : Int) : Int := if okSet n l x then ((andNot (low n.toNat) (wiTo l (andNot (low n.toNat) x.toNat) l.length) : Nat) : Int) else 0
theorem hullR_no {n : Int} {l : List Int} {x : Int} (h : okSet n l x = false) : hullR n l x = 0 := by simp [hullR, h]
theorem hullR_yes {n : Int} {l : List Int} {x : Int} (h : okSet n l x = true) : hullR n l x = ((andNot (low n.toNat) (wiTo l (andNot (low n.toNat) x.toNat) l.length) : Nat) : Int) := by simp [hullR, h]

end Go.Proofs.Ytfmaakkehleefaa
