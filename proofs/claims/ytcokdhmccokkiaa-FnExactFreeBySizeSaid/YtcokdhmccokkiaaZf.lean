/- Contracts: SizesOf and FreeBySize, both. -/
import Derived.Test.YtcokdhmccokkiaaZc
import Derived.Test.YtcokdhmccokkiaaMk
namespace Go.Proofs.Ytcokdhmccokkiaa
open Go.RowKit
set_option maxRecDepth 100000
set_option linter.unusedSimpArgs false
theorem szF_set (l : List Int) (k m x : Nat) (hx : (l[k]?.getD 0).toNat = x) : (tlZ m (szF l k)).set (pc x) (szF l k (pc x) + 1) = tlZ m (szF l (k + 1)) := by
  refine tlZ_set _ _ _ _ _ ?_ fun j hj => ?_
  · unfold szF
    rw [cnZ_next, hx]
    simp
  · unfold szF
    rw [cnZ_next, hx]
    have : (pc x == j) = false := by rw [beq_eq_false_iff_ne]; exact fun e => hj e.symm
    simp [this]
theorem szF_le (l : List Int) (k j : Nat) : 0 ≤ szF l k j ∧ szF l k j ≤ k := by
  unfold szF
  have := cnZ_le (fun x => pc x.toNat == j) l k
  omega
theorem pc_most : ∀ m, m ≤ 7 → ∀ x, x < 128 → x < 2 ^ m → pc x ≤ m := by decide +kernel
attribute [local irreducible] p2 low memB risB
theorem ent_sizeZ : enters Try.prog 65 := enters_of Try.func65 (by kernel_rfl) (by kernel_rfl)
theorem ent_sizes1 : enters Try.prog 84 := enters_of Try.func84 (by kernel_rfl) (by kernel_rfl)
theorem sizes1_c (x k g : Nat) (w : World) (hx : x < 128) (hc : w.cell? ⟨g, 0, none⟩ = some (.int .i64 (k : Int))) (hg : g < w.heap.size) :
    Calls Try.prog 84 #[.int .i64 (x : Int), .pointer (some ⟨g, 0, none⟩)] w fun e w' => e = .returned (.bool (pc x == k)) ∧ Below w.heap.size w w' := by
  have HC := hide (fun w' (h : Below w.heap.size w w') => (h.cell (p := ⟨g, 0, none⟩) hg).trans hc)
  have HS := hide (fun w1 => by have := size_c (x : Int) w1 (by omega) (by omega); rw [Int.toNat_natCast] at this; exact this)
  generalize pc x = c at *
  clear hc
  go_enter Try.func84, Try.ntmps84
  go_wp2_with fail
  refine wp_region_old (by kernel_rfl) (by kernel_rfl) ?_
  go_big_quiet_step ((first | exact fun _ => rfl | exact fun _ => ⟨rfl, rfl⟩))
  refine q_pure rfl 65 ent_sizeZ _ _ rfl #[.int .i64 (x : Int)] rfl (.int .i64 (c : Int)) (fun w' _ => HS.out w') ?_
  simp only [Act.put, List.setIfInBounds_toArray, List.set_cons_zero, List.set_cons_succ]
  refine q_load_cell rowI rfl (.tmp _) rfl _ rfl (.int .i64 (k : Int)) HC.out ?_
  simp only [Act.put, List.setIfInBounds_toArray, List.set_cons_zero, List.set_cons_succ]
  repeat (go_big_quiet_step ((first | exact fun _ => rfl | exact fun _ => ⟨rfl, rfl⟩)))
  refine wpQuiet_nil ?_
  intro w2 hb2
  go_wp2
  go_ret
  exact ⟨ret_b (by rw [Bool.eq_iff_iff]; simp; try omega), hb2⟩
theorem sizesCount_c (F : Nat → Bool) (k G : Nat) (v : Value) (w : World) (hv : ints w.heap.size w v (setsTo F 128)) (hc : w.cell? ⟨G, 0, none⟩ = some (.int .i64 (k : Int))) (hG : G < w.heap.size) :
    Calls Try.prog 63 #[v, .func (.func 84) #[] #[.pointer (some ⟨G, 0, none⟩)]] w fun e w' => e = .returned (.int .i64 (szF (setsTo F 128) (setsTo F 128).length k)) ∧ Below w.heap.size w w' := by
  have hln := setsTo_len F 128
  refine countWhere_c v (setsTo F 128) 84 #[] #[.pointer (some ⟨G, 0, none⟩)] (fun x => pc x.toNat == k) w hv (by omega) ent_sizes1 fun j w1 hj hb => ?_
  obtain ⟨h0, h1⟩ := setsTo_range F 128 j hj
  obtain ⟨x, hx⟩ := Int.eq_ofNat_of_zero_le h0
  rw [hx] at h1 ⊢
  exact sizes1_c x k G w1 (by omega) ((hb.cell (p := ⟨G, 0, none⟩) hG).trans hc) (Nat.lt_of_lt_of_le hG hb.size)
set_option maxHeartbeats 2000000 in
theorem sizes_c (m : Nat) (F : Nat → Bool) (w : World) (hm7 : m ≤ 7) :
    Calls Try.prog 59 #[.agg (fam (m : Int) F)] w fun e w' => ∃ v, e = .returned v ∧ own 3 w' w.heap.size v (tlZ (m + 1) (szF (setsTo F 128) (setsTo F 128).length)) ∧ Below w.heap.size w w' := by
  have H0 := hide ((Below.refl w.heap.size w).alloc (Nat.le_refl _) (.cells (fam (m : Int) F) 58))
  have HF := hide (famAt.new 58 w (m : Int) F)
  have HZ := hide (show (w.alloc (.cells (fam (m : Int) F) 58)).heap.size = w.heap.size + 1 by simp)
  have h00 := HF.out.get0
  have HSE := hide (fun w1 => sets_c (m : Int) F w1)
  have HSC := hide (fun k G v w1 h1 h2 h3 => sizesCount_c F k G v w1 h1 h2 h3)
  generalize setsTo F 128 = L at *
  go_enter Try.func59, Try.ntmps59
  go_wp2_with fail
  clear h00
  go_loopw [3, 8] (fun o i wr => ∃ k : Nat, k ≤ m + 1 ∧ i = .int .i64 (k : Int) ∧ Hid (own 3 wr (w.heap.size + 1) o (tlZ k (szF L L.length))) ∧ Hid (Below (w.heap.size + 1) (w.alloc (.cells (fam (m : Int) F) 58)) wr)) (fun _ i _ => m + 1 - (intOf i).toNat)
  case atStart => exact ⟨0, by omega, rfl, own_nil _ _ _, (Below.refl _ _)⟩
  case round =>
    obtain ⟨k, hk, rfl, HO, HB⟩ := hrel
    have hsz := HB.out.size
    rw [HZ.out] at hsz
    by_cases hlt : k < m + 1
    · have hlt' : (k : Int) < (m : Int) + 1 := by omega
      have hbA := (Below.refl wr.heap.size wr).alloc (Nat.le_refl _) (.cells #[.int .i64 (k : Int)] 3)
      have HFW := hide ((HF.out.below HB.out (by omega)).below hbA (by omega))
      have HCK := hide (show (wr.alloc (.cells #[.int .i64 (k : Int)] 3)).cell? ⟨wr.heap.size, 0, none⟩ = some (.int .i64 (k : Int)) by simp [go_sem])
      have HZW := hide (show (wr.alloc (.cells #[.int .i64 (k : Int)] 3)).heap.size = wr.heap.size + 1 by simp)
      have HOW := hide (HO.out.kept hbA)
      have HBW := hide (HB.out.trans (hbA.mono hsz))
      have HNX := hide (tlZ_next k (szF L L.length))
      have hln := tlZ_len k (szF L L.length)
      generalize tlZ k (szF L L.length) = A at *
      generalize hsx : szF L L.length k = x at HNX
      have HSX := hide hsx
      clear hbA hsx
      go_wp2_with (first
        | (refine wpList_load_fam rowT sizeT rfl (.tmp _) rfl w.heap.size rfl (m : Int) F HFW.out ?_)
        | (go_at_call 62; refine (HSE.out _).mono ?_; rintro e w4 ⟨v4, rfl, ho4, hb4⟩; have hz4 := hb4.size; rw [HZW.out] at hz4; have HI4 := hide ho4.ints; have HC4 := hide ((hb4.cell (p := ⟨wr.heap.size, 0, none⟩) (by show wr.heap.size < _; rw [HZW.out]; omega)).trans HCK.out); have HO4 := hide (HOW.out.kept hb4); have HB4 := hide (HBW.out.trans (hb4.mono (by rw [HZW.out]; omega))); clear ho4 hb4)
        | (go_at_call 63; refine (HSC.out k wr.heap.size v4 w4 HI4.out HC4.out (by omega)).mono ?_; rw [HSX.out]; rintro e w5 ⟨rfl, hb5⟩; have hz5 := hb5.size; have HO5 := hide (HO4.out.kept hb5); have HB5 := hide (HB4.out.trans (hb5.mono (by omega))); clear hb5)
        | (at_builtin; refine wpList_append1 sliceT intI rfl _ _ rfl (w.heap.size + 1) _ _ rfl (HO5.out.alloc _) _ x rfl (by simp [go_sem]) (by simp; omega) (by omega) ?_; intro v6 w6 ho6 hb6; have HO6 := hide ho6; have HB6 := hide ((HB5.out.alloc (by omega) _).trans hb6); clear ho6 hb6))
      go_roundw
      case rel => exact ⟨k + 1, by omega, by go_num, by rw [HNX.out]; exact HO6.out, HB6.out⟩
      case measure => (simp [intOf] <;> omega)
    · have HK := hide (show k = m + 1 by omega)
      have hlt' : ¬ ((k : Int) < (m : Int) + 1) := by omega
      go_wp2
      go_ret
      exact ⟨_, rfl, by rw [← HK.out]; exact HO.out.mono (by omega), H0.out.trans (HB.out.mono (by omega))⟩
end Go.Proofs.Ytcokdhmccokkiaa
