/- Contracts: PrefixSets, the program's and the specification's. -/
import Derived.Test.YtonimjpfaalniaaCh
import Derived.Test.YtonimjpfaalniaaPm
import Derived.Test.YtonimjpfaalniaaEb
namespace Go.Proofs.Ytonimjpfaalniaa
open Go.RowKit
set_option maxRecDepth 100000
set_option linter.unusedSimpArgs false
/-- A set with a greater number than all others comes behind them. -/
theorem sets_top (G : Nat → Bool) (s : Nat) (hs : s < 128) (hG : ∀ x, G x = true → x < s) : setsTo (upd G s true) 128 = setsTo G 128 ++ [(s : Int)] := by
  have h1 : setsTo G 128 = setsTo G s := sets_more G s hG 128 (by omega)
  have h2 : setsTo (upd G s true) 128 = setsTo (upd G s true) (s + 1) := sets_more (upd G s true) (s + 1) (fun x hx => by
    unfold upd at hx
    split at hx
    · omega
    · have := hG x hx; omega) 128 (by omega)
  rw [h1, h2, setsTo, if_pos (by simp [upd])]
  congr 1
  exact setsTo_congr s fun i hi => by
    unfold upd
    rw [if_neg (by omega)]
theorem chF_le {l : List Int} (h : wordTo anySet l.length l l.length = true) : ∀ k, k ≤ l.length → ∀ x, chF l k x = true → x ≤ setTo l k
  | 0, _, x, hx => by
    simp only [chF, upd, noSet] at hx
    split at hx
    · omega
    · cases hx
  | k + 1, hk, x, hx => by
    have h1 : setTo l k ≤ setTo l (k + 1) := Nat.left_le_or
    simp only [chF, upd] at hx
    split at hx
    · omega
    · have := chF_le h k (by omega) x hx; omega
theorem setTo_up {l : List Int} (h : wordTo anySet l.length l l.length = true) (k : Nat) (hk : k < l.length) : setTo l k < setTo l (k + 1) := by
  have hst := (wordTo_iff anySet l.length l (k + 1)).1 (wordTo_at h (k + 1) (by omega)) k (by omega)
  simp only [stepB, Bool.and_eq_true, decide_eq_true_eq, Bool.not_eq_true'] at hst
  have h1 : setTo l k ≤ setTo l (k + 1) := Nat.left_le_or
  have h2 : setTo l (k + 1) ≠ setTo l k := fun e => by
    have h3 : (setTo l (k + 1)).testBit (l[k]?.getD 0).toNat = true := by
      rw [setTo, Nat.testBit_or, p2_bit]; simp
    rw [e, hst.2.1] at h3; cases h3
  omega
theorem px_next {l : List Int} (h : wordTo anySet l.length l l.length = true) (h7 : l.length ≤ 7) (k : Nat) (hk : k < l.length) : setsTo (chF l (k + 1)) 128 = setsTo (chF l k) 128 ++ [(setTo l (k + 1) : Int)] := by
  have h1 := setTo_lt (k + 1) (wordTo_at h (k + 1) (by omega))
  have h2 := p2_le l.length 7 h7
  refine sets_top (chF l k) (setTo l (k + 1)) (by omega) fun x hx => ?_
  have h3 := chF_le h k (by omega) x hx
  have h4 := setTo_up h k hk
  omega
theorem px_len {l : List Int} (h : wordTo anySet l.length l l.length = true) (h7 : l.length ≤ 7) : ∀ k, k ≤ l.length → (setsTo (chF l k) 128).length = k + 1 ∧ (setsTo (chF l k) 128)[k]?.getD 0 = (setTo l k : Int)
  | 0, _ => by
    rw [show chF l 0 = upd noSet 0 true from rfl, ← sets_zero]
    exact ⟨rfl, rfl⟩
  | k + 1, hk => by
    have h1 := (px_len h h7 k (by omega)).1
    rw [px_next h h7 k (by omega)]
    refine ⟨by rw [List.length_append, h1]; rfl, ?_⟩
    rw [List.getElem?_append_right (by omega), h1]
    simp
theorem own_cell {I : TypeId} {w : World} {base : Nat} {v : Value} {l : List Int} (h : own I w base v l) (k : Nat) (hk : k < l.length) : ∃ b of c, v = .slice (some ⟨b, of, none⟩) l.length c ∧ w.cell? ⟨b, of + k, none⟩ = some (.int .i64 (l[k]?.getD 0)) := by
  rcases h.ints with ⟨h0, _⟩ | ⟨b, o, c, h3, h4, h5, h6⟩
  · rw [h0] at hk; simp at hk
  · exact ⟨b, o, c, h3, h6 k hk⟩
attribute [local irreducible] p2 low memB risB chF
theorem implPrefixSets_c (v : Value) (l : List Int) (w : World) (base : Nat) (hl : own 3 w base v l) (hlen : l.length < 1000000000) :
    Calls Try.prog 37 #[v] w fun e w' => ∃ v', e = .returned (.tuple #[v', .bool (okOrd l)]) ∧ own 3 w' w.heap.size v' (chL l) ∧ Below w.heap.size w w' := by
  have HCH := hide (implChainSpace_c v l w base hl hlen)
  obtain ⟨sa, sc, hv⟩ := hl.ints.shape
  subst hv
  clear hl
  go_enter Try.func37, Try.ntmps37
  go_wp2_with (first
    | (go_at_call 69; refine HCH.out.mono ?_; rintro e w2 ⟨v2, rfl, ho2, hb2⟩; obtain ⟨ta, tc, hv2⟩ := ho2.shape; subst hv2; have hx := hp_last w2 (.cells #[.int .i64 (chN l), .slice ta (chL l).length tc] 28); have cx0 := cells_at0 hx; have cx1 := cells_at1 hx; have HO := hide (ho2.alloc (.cells #[.int .i64 (chN l), .slice ta (chL l).length tc] 28)); have HB := hide (hb2.alloc (hb2.size) (.cells #[.int .i64 (chN l), .slice ta (chL l).length tc] 28)); clear ho2 hb2))
  go_ret2
  exact ⟨_, rfl, HO.out, HB.out⟩
set_option maxHeartbeats 2000000 in
theorem specPrefixSets_c (v : Value) (l : List Int) (w : World) (base : Nat) (hl : own 3 w base v l) (hlen : l.length < 1000000000) :
    Calls Try.prog 36 #[v] w fun e w' => ∃ v', e = .returned (.tuple #[v', .bool (okOrd l)]) ∧ own 3 w' w.heap.size v' (chL l) ∧ Below w.heap.size w w' := by
  have HSO := hide (spOrder_c v l w base hl hlen)
  have HL0 := hide hl.ints
  obtain ⟨sa, sc, hv⟩ := hl.ints.shape
  subst hv
  clear hl
  cases hok : okOrd l
  · rw [chL_no hok]
    have HK := hide hok
    clear hok
    go_enter Try.func36, Try.ntmps36
    go_wp2_with (go_at_call 68; refine HSO.out.mono ?_; rw [HK.out]; rintro e w1 ⟨rfl, rfl⟩)
    go_ret2
    exact ⟨_, rfl, own_nil _ _ _, Below.refl _ _⟩
  · have h7 := (okOrd_len hok).2
    have HW := hide (okOrd_word hok)
    rw [chL_yes hok]
    have HK := hide hok
    have HO0 := hide (show own 3 (w.alloc (.cells #[.int .i64 0] 3)) w.heap.size (.slice (some ⟨w.heap.size, 0, none⟩) 1 1) (setsTo (chF l 0) 128) by
      rw [show chF l 0 = upd noSet 0 true by unfold chF; rfl, ← sets_zero]
      exact ⟨by simp, .inr ⟨w.heap.size, 1, #[.int .i64 0], rfl, Nat.le_refl _, hp_last _ _, Nat.le_refl _, by unfold maxLen; omega, by simp, by simp⟩⟩)
    have H0 := hide ((Below.refl w.heap.size w).alloc (Nat.le_refl _) (.cells #[.int .i64 0] 3))
    have HL := hide (HL0.out.alloc (.cells #[.int .i64 0] 3))
    clear hok
    go_enter Try.func36, Try.ntmps36
    go_wp2_with (first
      | (go_at_call 68; refine HSO.out.mono ?_; rw [HK.out]; rintro e w1 ⟨rfl, rfl⟩)
      | (refine wpList_len sliceT rfl (.tmp _) rfl _ rfl w.heap.size l HL.out ?_))
    go_loopw [4, 13] (fun o i wr => ∃ k : Nat, k ≤ l.length ∧ i = .int .i64 k ∧ Hid (own 3 wr w.heap.size o (setsTo (chF l k) 128)) ∧ Hid (Below w.heap.size w wr)) (fun _ i _ => l.length - (intOf i).toNat)
    case atStart => exact ⟨0, Nat.zero_le _, rfl, HO0, H0⟩
    case round =>
      obtain ⟨k, hk, rfl, HO, HB⟩ := hrel
      have HLW := hide (HL0.out.below HB.out (Nat.le_refl _))
      clear HO0 H0 HL
      by_cases hlt : k < l.length
      · have hw1 := wordTo_at HW.out (k + 1) (by omega)
        have hl1 := setTo_lt (k + 1) hw1
        have hl0 := setTo_lt k (wordTo_at HW.out k hk)
        have h8 := p2_le l.length 7 (by omega)
        have hs1 : setTo l (k + 1) < 128 := by omega
        have hs0 : setTo l k < 128 := by omega
        have hst := (wordTo_iff anySet l.length l (k + 1)).1 hw1 k (by omega)
        simp only [stepB, Bool.and_eq_true, decide_eq_true_eq] at hst
        have hin := hst.1
        have HS := hide (show setTo l (k + 1) = setTo l k ||| p2 (l[k]?.getD 0).toNat from rfl)
        have HNX := hide (px_next HW.out h7 k hlt)
        obtain ⟨hpl, hpe⟩ := px_len HW.out h7 k hk
        have HPL := hide hpl
        have HPE := hide hpe
        generalize hx : l[k]?.getD 0 = x at HS hin
        have HX := hide hx
        clear hx hst hl1 h8 hw1 hl0 hpl hpe
        obtain ⟨i, rfl⟩ := Int.eq_ofNat_of_zero_le hin.1
        rw [Int.toNat_natCast] at HS
        have hi7 : i < 7 := by omega
        clear hin
        generalize setTo l (k + 1) = s1 at HS hs1 HNX
        generalize setTo l k = s at hs0 HS HPE
        have hp := wrap_p2 i (by omega)
        have hp2 : IntKind.i64.wrap (2 ^ i) = (p2 i : Int) := by rw [IntWalk.i64_left]; exact hp
        have hpl := p2_lt128 i hi7
        have ho := i64_or s (p2 i) (by omega) (by omega)
        rw [← HS.out] at ho
        have hwk : IntKind.i64.wrap (k : Int) = (k : Int) := IntWalk.i64_in _ (by omega)
        generalize setsTo (chF l k) 128 = S1 at HO HPL HPE HNX
        have HZW := hide HB.out.size
        go_wp2_with (first
          | (refine wpList_at sliceT intS rfl (.tmp _) (.tmp _) rfl _ rfl k rfl w.heap.size l HLW.out hlt ?_; intro ad hcell hblk; rw [HX.out] at hcell))
        obtain ⟨bb, of, cc, hv, hcs⟩ := own_cell HO.out k (by have := HPL.out; omega)
        rw [HPL.out] at hv
        rw [HPE.out] at hcs
        subst hv
        refine wp_region_held (S := fun _ => True) (by kernel_rfl) ?_
        have hT0 : Below wr.heap.size wr { wr with drawn := wr.drawn + 1 } := (Below.refl _ _).drew
        have hO0 : own 3 { wr with drawn := wr.drawn + 1 } w.heap.size (.slice (some ⟨bb, of, none⟩) (k + 1) cc) S1 := HO.out.kept hT0
        have hc0 : ({ wr with drawn := wr.drawn + 1 } : World).cell? ⟨bb, of + k, none⟩ = some (.int .i64 (s : Int)) := hcs
        have hz0 : w.heap.size ≤ ({ wr with drawn := wr.drawn + 1 } : World).heap.size := HZW.out
        generalize ({ wr with drawn := wr.drawn + 1 } : World) = C0 at hT0 hO0 hc0 hz0 ⊢
        refine wpAnyH_take (i := 0) (v := .slice (some ⟨bb, of, none⟩) (k + 1) cc) rfl (by kernel_rfl) (by kernel_rfl) (by kernel_rfl) (fun _ _ _ h => h) (.inl ⟨rfl, fun w' _ => by go_simp⟩) trivial ?_
        try simp only [Act.put, List.getElem_toArray, List.getElem_cons_zero, List.getElem_cons_succ, List.setIfInBounds_toArray, List.set_cons_zero, List.set_cons_succ]
        refine wpAnyH_take (i := 1) (v := .slice (some ⟨bb, of, none⟩) (k + 1) cc) rfl (by kernel_rfl) (by kernel_rfl) (by kernel_rfl) (fun _ _ _ h => h) (.inl ⟨rfl, fun w' _ => by go_simp⟩) trivial ?_
        try simp only [Act.put, List.getElem_toArray, List.getElem_cons_zero, List.getElem_cons_succ, List.setIfInBounds_toArray, List.set_cons_zero, List.set_cons_succ]
        refine wpAnyH_take (i := 2) (v := .slice (some ⟨bb, of, none⟩) (k + 1) cc) rfl (by kernel_rfl) (by kernel_rfl) (by kernel_rfl) (fun _ _ _ h => h) (.inl ⟨rfl, fun w' _ => by go_simp⟩) trivial ?_
        try simp only [Act.put, List.getElem_toArray, List.getElem_cons_zero, List.getElem_cons_succ, List.setIfInBounds_toArray, List.set_cons_zero, List.set_cons_succ]
        refine wpAnyH_take (i := 7) (v := .int .i64 (i : Int)) rfl (by kernel_rfl) (by kernel_rfl) (by kernel_rfl) (fun _ _ _ h => h) (.inl ⟨rfl, fun w' _ => by go_simp⟩) trivial ?_
        try simp only [Act.put, List.getElem_toArray, List.getElem_cons_zero, List.getElem_cons_succ, List.setIfInBounds_toArray, List.set_cons_zero, List.set_cons_succ]
        refine wpAnyH_take (i := 8) (v := .int .i64 (p2 i : Int)) rfl (by kernel_rfl) (by kernel_rfl) (by kernel_rfl) (fun _ _ _ h => h) (.inl ⟨rfl, fun w' _ => by go_simp; try simp [hp, hp2]⟩) trivial ?_
        try simp only [Act.put, List.getElem_toArray, List.getElem_cons_zero, List.getElem_cons_succ, List.setIfInBounds_toArray, List.set_cons_zero, List.set_cons_succ]
        refine wpAnyH_take (i := 3) (v := .int .i64 ((k : Int) + 1)) rfl (by kernel_rfl) (by kernel_rfl) (by kernel_rfl) (fun _ _ _ h => h) (.inl ⟨rfl, fun w' _ => by go_simp⟩) trivial ?_
        try simp only [Act.put, List.getElem_toArray, List.getElem_cons_zero, List.getElem_cons_succ, List.setIfInBounds_toArray, List.set_cons_zero, List.set_cons_succ]
        refine wpAnyH_take (i := 4) (v := .int .i64 (k : Int)) rfl (by kernel_rfl) (by kernel_rfl) (by kernel_rfl) (fun _ _ _ h => h) (.inl ⟨rfl, fun w1 _ => by go_simp⟩) trivial ?_
        try simp only [Act.put, List.getElem_toArray, List.getElem_cons_zero, List.getElem_cons_succ, List.setIfInBounds_toArray, List.set_cons_zero, List.set_cons_succ]
        refine wpAnyH_take (i := 5) rfl (by kernel_rfl) (by kernel_rfl) (by kernel_rfl) (fun _ _ _ h => h) (yields_atE sliceT intS rfl (.tmp _) _ rfl bb of (k + 1) cc k rfl rfl (by omega)) trivial ?_
        try simp only [Act.put, List.getElem_toArray, List.getElem_cons_zero, List.getElem_cons_succ, List.setIfInBounds_toArray, List.set_cons_zero, List.set_cons_succ]
        refine anyH_op (i := 6) (by kernel_rfl) rfl rfl (.int .i64 (s : Int)) C0 (by simp [go_sem, hc0]) trivial ?_
        try simp only [Act.put, List.getElem_toArray, List.getElem_cons_zero, List.getElem_cons_succ, List.setIfInBounds_toArray, List.set_cons_zero, List.set_cons_succ]
        refine anyH_op (i := 9) (by kernel_rfl) rfl rfl (.int .i64 (s1 : Int)) C0 (by simp [go_sem, ho]) trivial ?_
        try simp only [Act.put, List.getElem_toArray, List.getElem_cons_zero, List.getElem_cons_succ, List.setIfInBounds_toArray, List.set_cons_zero, List.set_cons_succ]
        obtain ⟨B, hBe⟩ : ∃ B, B = C0.heap.size := ⟨_, rfl⟩
        have hcB : (C0.alloc (.cells #[.int .i64 (s1 : Int)] 3)).cell? ⟨B, 0, none⟩ = some (.int .i64 (s1 : Int)) := by
          have h := hp_last C0 (.cells #[.int .i64 (s1 : Int)] 3)
          rw [← hBe] at h
          rw [hp_cell h]; rfl
        have hO1 := hO0.alloc (.cells #[.int .i64 (s1 : Int)] 3)
        have hT1 : Below w.heap.size wr (C0.alloc (.cells #[.int .i64 (s1 : Int)] 3)) := (hT0.mono HZW.out).alloc hz0 _
        refine anyH_op (i := 10) (by kernel_rfl) rfl rfl (.slice (some ⟨B, 0, none⟩) 1 1) (C0.alloc (.cells #[.int .i64 (s1 : Int)] 3)) (by simp [go_sem, hBe]) trivial ?_
        have hz1 : w.heap.size ≤ (C0.alloc (.cells #[.int .i64 (s1 : Int)] 3)).heap.size := by simp; omega
        generalize C0.alloc (.cells #[.int .i64 (s1 : Int)] 3) = C1 at hcB hO1 hT1 hz1 ⊢
        try simp only [Act.put, List.getElem_toArray, List.getElem_cons_zero, List.getElem_cons_succ, List.setIfInBounds_toArray, List.set_cons_zero, List.set_cons_succ]
        refine anyH_oneX (i := 11) (by kernel_rfl) rfl rfl ?_
        intro Q1 hQ1
        refine wpList_append1 sliceT intI rfl (.tmp _) (.tmp _) rfl w.heap.size _ S1 rfl hO1 B (s1 : Int) rfl hcB hz1 (by have := HPL.out; omega) ?_
        intro v3 C3 ho3 hb3
        refine wpList_nil ?_
        refine hQ1 _ _ trivial ?_
        try simp only [Act.put, List.getElem_toArray, List.getElem_cons_zero, List.getElem_cons_succ, List.setIfInBounds_toArray, List.set_cons_zero, List.set_cons_succ]
        refine anyH_op (i := 12) (by kernel_rfl) rfl rfl v3 C3 (by simp [go_sem]) trivial ?_
        refine wpAnyH_done (by kernel_rfl) ?_ _
        try simp only [Act.put, List.getElem_toArray, List.getElem_cons_zero, List.getElem_cons_succ, List.setIfInBounds_toArray, List.set_cons_zero, List.set_cons_succ]
        have HO3 := hide ho3
        have HB3 := hide (HB.out.trans (hT1.trans hb3))
        clear hT0 hT1 hO0 hO1 hb3 ho3 hQ1 hcB hc0 hcs
        go_wp2
        go_roundw
        case rel => exact ⟨k + 1, by omega, by go_num, by rw [HNX.out]; exact HO3, HB3⟩
        case measure => (simp [intOf] <;> omega)
      · have HKE := hide (show k = l.length by omega)
        have hlt' : ¬ ((k : Int) < (l.length : Int)) := by omega
        clear hk
        go_wp2
        go_ret2
        exact ⟨_, rfl, by rw [← HKE.out]; exact HO.out, HB.out⟩
end Go.Proofs.Ytonimjpfaalniaa
