/- SpaceOfWords: mathematics, woLists, ChainSpace of a list that is told by its numbers. -/
import Derived.Test.YtbcohlnimmoifaaOt
import Derived.Test.YtbcohlnimmoifaaSq
namespace Go.Proofs.Ytbcohlnimmoifaa
open Go.RowKit
set_option maxRecDepth 100000
/-- A family with the first k numbers of a list put in. -/
def addTo (G : Nat → Bool) (S : List Int) : Nat → (Nat → Bool)
  | 0 => G
  | k + 1 => upd (addTo G S k) (nth S k) true
theorem addTo_iff (G : Nat → Bool) (S : List Int) (x : Nat) : ∀ k, addTo G S k x = true ↔ G x = true ∨ ∃ j, j < k ∧ nth S j = x
  | 0 => by simp [addTo]
  | k + 1 => by
    rw [addTo]
    unfold upd
    by_cases h : x = nth S k
    · rw [if_pos h]
      exact ⟨fun _ => .inr ⟨k, by omega, h.symm⟩, fun _ => rfl⟩
    · rw [if_neg h, addTo_iff G S x k]
      constructor
      · rintro (h1 | ⟨j, h1, h2⟩)
        · exact .inl h1
        · exact .inr ⟨j, by omega, h2⟩
      · rintro (h1 | ⟨j, h1, h2⟩)
        · exact .inl h1
        · rcases Nat.lt_or_ge j k with h3 | h3
          · exact .inr ⟨j, h3, h2⟩
          · have : j = k := by omega
            subst this; exact absurd h2.symm h
/-- The sets of the word's chain. -/
def chS (r : List Int) : List Int := setsTo (chF r r.length) 128
def swM (L : List (List Int)) : Nat → (Nat → Bool)
  | 0 => noSet
  | k + 1 => addTo (swM L k) (chS (L[k]?.getD [])) (chS (L[k]?.getD [])).length
def swC (L : List (List Int)) : Nat → List Int
  | 0 => []
  | k + 1 => swC L k ++ chS (L[k]?.getD [])
theorem swC_len (L : List (List Int)) : ∀ k, (swC L k).length ≤ 128 * k
  | 0 => by simp [swC]
  | k + 1 => by
    have h1 := swC_len L k
    have h2 : (chS (L[k]?.getD [])).length ≤ 128 := setsTo_len _ 128
    rw [swC, List.length_append]; omega
theorem swM_iff (L : List (List Int)) (x : Nat) : ∀ k, swM L k x = true ↔ ∃ j, j < (swC L k).length ∧ nth (swC L k) j = x
  | 0 => by simp [swM, swC, noSet]
  | k + 1 => by
    rw [swM, addTo_iff, swM_iff L x k, swC]
    generalize swC L k = A
    generalize chS (L[k]?.getD []) = S
    constructor
    · rintro (⟨j, h1, h2⟩ | ⟨j, h1, h2⟩)
      · exact ⟨j, by rw [List.length_append]; omega, by rw [nth_left A S j h1]; exact h2⟩
      · exact ⟨A.length + j, by rw [List.length_append]; omega, by rw [nth_right]; exact h2⟩
    · rintro ⟨j, h1, h2⟩
      rcases Nat.lt_or_ge j A.length with h | h
      · exact .inl ⟨j, h, by rw [nth_left A S j h] at h2; exact h2⟩
      · obtain ⟨i, rfl⟩ := Nat.exists_eq_add_of_le h
        rw [nth_right] at h2
        exact .inr ⟨i, by rw [List.length_append] at h1; omega, h2⟩
theorem chS_in (r : List Int) (j : Nat) (h : j < (chS r).length) : nth (chS r) j < 128 ∧ (chS r)[j]?.getD 0 = (nth (chS r) j : Int) := by
  have := setsTo_range (chF r r.length) 128 j h
  unfold nth chS at *; omega
theorem swC_in (L : List (List Int)) : ∀ k j, j < (swC L k).length → nth (swC L k) j < 128 ∧ (swC L k)[j]?.getD 0 = (nth (swC L k) j : Int)
  | 0, j, h => by simp [swC] at h
  | k + 1, j, h => by
    rw [swC] at h ⊢
    rcases Nat.lt_or_ge j (swC L k).length with h1 | h1
    · have h2 := swC_in L k j h1
      rw [nth_left _ _ j h1, List.getElem?_append_left h1]
      exact h2
    · obtain ⟨i, rfl⟩ := Nat.exists_eq_add_of_le h1
      rw [nth_right, List.getElem?_append_right (by omega), Nat.add_sub_cancel_left]
      exact chS_in _ i (by rw [List.length_append] at h; omega)
theorem swM_lt (L : List (List Int)) (k x : Nat) (h : swM L k x = true) : x < 128 := by
  obtain ⟨j, h1, h2⟩ := (swM_iff L x k).1 h
  have := (swC_in L k j h1).1
  omega
theorem unions_sub {A B : List Int} (hB : ∀ j, j < B.length → nth B j < 128) (h : ∀ j, j < A.length → ∃ i, i < B.length ∧ nth B i = nth A j) : ∀ k, k ≤ A.length → ∀ x, unionsTo A k x = true → unionsF B x = true := by
  intro k
  induction k with
  | zero =>
    intro _ x hx
    have h0 : ∀ n, unionsTo B n 0 = true := by
      intro n
      induction n with
      | zero => rfl
      | succ n ih => exact (step_iff _ _ 0 128).2 (.inl ih)
    simp only [unionsTo, upd, noSet] at hx
    split at hx
    · rename_i e; subst e; exact h0 B.length
    · cases hx
  | succ k ih =>
    intro hk x hx
    rcases (step_iff _ _ x 128).1 hx with h1 | ⟨i, _, h1, h2⟩
    · exact ih (by omega) x h1
    · obtain ⟨i2, h3, h4⟩ := h k (by omega)
      have h5 := unionsF_or hB i (ih (by omega) i h1) i2 h3
      rw [h4] at h5
      rw [← h2]
      exact h5
theorem sets_mem (F : Nat → Bool) (N x : Nat) (hx : x < N) (h : F x = true) : ∃ j, j < (setsTo F N).length ∧ nth (setsTo F N) j = x := by
  induction N with
  | zero => omega
  | succ N ih =>
    rw [setsTo]
    rcases Nat.lt_or_ge x N with h1 | h1
    · obtain ⟨j, h2, h3⟩ := ih h1
      split
      · exact ⟨j, by rw [List.length_append]; omega, by rw [nth_left _ _ j h2]; exact h3⟩
      · exact ⟨j, h2, h3⟩
    · have : x = N := by omega
      subst this
      rw [if_pos h]
      exact ⟨(setsTo F x).length, by simp, by have := nth_right (setsTo F x) [(x : Int)] 0; rw [Nat.add_zero] at this; rw [this]; simp [nth]⟩
theorem sets_of (F : Nat → Bool) (N : Nat) : ∀ j, j < (setsTo F N).length → F (nth (setsTo F N) j) = true := by
  induction N with
  | zero => intro j h; simp [setsTo] at h
  | succ N ih =>
    intro j h
    rw [setsTo] at h ⊢
    split at h <;> rename_i e
    · rw [if_pos e]
      rcases Nat.lt_or_ge j (setsTo F N).length with h1 | h1
      · rw [nth_left _ _ j h1]; exact ih j h1
      · obtain ⟨i, rfl⟩ := Nat.exists_eq_add_of_le h1
        have : i = 0 := by simp at h; omega
        subst this
        rw [nth_right]
        simpa [nth] using e
    · rw [if_neg e]; exact ih j h
theorem sw_same (L : List (List Int)) (k : Nat) : setsTo (unionsF (setsTo (swM L k) 128)) 128 = setsTo (unionsF (swC L k)) 128 := by
  refine setsTo_congr _ fun x _ => ?_
  have hA : ∀ j, j < (setsTo (swM L k) 128).length → nth (setsTo (swM L k) 128) j < 128 := fun j h => swM_lt L k _ (sets_of _ 128 j h)
  have h1 : unionsF (setsTo (swM L k) 128) x = true → unionsF (swC L k) x = true :=
    unions_sub (fun j h => (swC_in L k j h).1) (fun j h => (swM_iff L _ k).1 (sets_of _ 128 j h)) _ (Nat.le_refl _) x
  have h2 : unionsF (swC L k) x = true → unionsF (setsTo (swM L k) 128) x = true :=
    unions_sub hA (fun j h => sets_mem _ 128 _ (swC_in L k j h).1 ((swM_iff L _ k).2 ⟨j, h, rfl⟩)) _ (Nat.le_refl _) x
  cases ha : unionsF (setsTo (swM L k) 128) x <;> cases hb : unionsF (swC L k) x <;> simp_all
/-- Whether the first k lists are orders of as many items as the first one. -/
def wlTo (L : List (List Int)) : Nat → Bool
  | 0 => true
  | k + 1 => wlTo L k && (decide ((L[k]?.getD []).length = (L[0]?.getD []).length) && okOrd (L[k]?.getD []))
theorem wlTo_iff (L : List (List Int)) : ∀ k, wlTo L k = true ↔ ∀ j, j < k → (L[j]?.getD []).length = (L[0]?.getD []).length ∧ okOrd (L[j]?.getD []) = true
  | 0 => by simp [wlTo]
  | k + 1 => by
    rw [wlTo, Bool.and_eq_true, wlTo_iff L k, Bool.and_eq_true, decide_eq_true_eq]
    constructor
    · rintro ⟨h1, h2⟩ j hj
      rcases Nat.lt_or_ge j k with h | h
      · exact h1 j h
      · have : j = k := by omega
        subst this; exact h2
    · intro h
      exact ⟨fun j hj => h j (by omega), h k (by omega)⟩
theorem wlTo_false {L : List (List Int)} {k : Nat} (h : wlTo L (k + 1) = false) (m : Nat) (hm : k < m) : wlTo L m = false := by
  cases h2 : wlTo L m
  · rfl
  · have := (wlTo_iff L m).1 h2
    rw [(wlTo_iff L (k + 1)).2 fun j hj => this j (by omega)] at h; cases h
def wlB (L : List (List Int)) : Bool := decide (1 ≤ L.length ∧ L.length ≤ 200) && wlTo L L.length
def swN (L : List (List Int)) : Int := if wlB L then ((L[0]?.getD []).length : Int) else 0
def swL (L : List (List Int)) : List Int := if wlB L then setsTo (unionsF (swC L L.length)) 128 else []
theorem swL_len (L : List (List Int)) : (swL L).length < 1000000000 := by
  unfold swL
  split
  · have := setsTo_len (unionsF (swC L L.length)) 128; omega
  · simp
theorem sw_no {L : List (List Int)} (h : wlB L = false) : swN L = 0 ∧ swL L = [] := by simp [swN, swL, h]
theorem sw_yes {L : List (List Int)} (h : wlB L = true) : swN L = ((L[0]?.getD []).length : Int) ∧ swL L = setsTo (unionsF (swC L L.length)) 128 := by simp [swN, swL, h]
attribute [local irreducible] p2 low memB risB
set_option maxHeartbeats 2000000 in
theorem implChainSpaceI_c (v : Value) (l : List Int) (w : World) (hl : ints w.heap.size w v l) (hlen : l.length < 1000000000) :
    Calls Try.prog 38 #[v] w fun e w' => ∃ v', e = .returned (.tuple #[.agg #[.int .i64 (chN l), v'], .bool (okOrd l)]) ∧ own 3 w' w.heap.size v' (chL l) ∧ Below w.heap.size w w' := by
  have H0 := hide ((Below.refl w.heap.size w).alloc (Nat.le_refl _) (.cells #[.int .i64 0, .slice none 0 0] 30))
  have hs0 : (w.alloc (.cells #[.int .i64 0, .slice none 0 0] 30)).heap[w.heap.size]? = some (.cells #[.int .i64 0, .slice none 0 0] 30) := hp_last _ _
  have HS0 := hide hs0
  have HL := hide (hl.alloc (.cells #[.int .i64 0, .slice none 0 0] 30))
  clear hs0 hl
  cases hok : okOrd l
  · have HK := hide hok
    rw [chN_no hok, chL_no hok]
    by_cases hn : 1 ≤ (l.length : Int) ∧ (l.length : Int) ≤ 7
    · have HN := hide hn
      have HW := hide (show wordTo anySet l.length l l.length = false by
        rw [okOrd, decide_eq_true hn, Bool.true_and] at hok
        exact hok)
      clear hok hn
      go_enter Try.func38, Try.ntmps38
      go_wp2_with (first
        | (refine wpList_len sliceT rfl (.tmp _) rfl _ rfl _ l HL.out ?_)
        | (go_at_call 32; refine (isItemCount_c _ _).mono ?_; rw [decide_eq_true HN.out]; rintro e w1 ⟨rfl, rfl⟩)
        | (go_at_call 52; refine (isOrderL_c v l _ (HL.out.mono (by simp)) hlen (by have := HN.out; omega)).mono ?_; rw [HW.out]; rintro e w1 ⟨rfl, rfl⟩))
      refine bodyPost_ret (v := .tuple #[.agg #[.int .i64 0, .slice none 0 0], .bool false]) (by simp [results, Try.results38, go_sem]) rfl ⟨_, rfl, own_nil _ _ _, ?_⟩
      first | exact H0.out | exact (H0.out.setCell (Nat.le_refl _) _).setCell (Nat.le_refl _) _
    · have HN := hide hn
      clear hok hn
      go_enter Try.func38, Try.ntmps38
      go_wp2_with (first
        | (refine wpList_len sliceT rfl (.tmp _) rfl _ rfl _ l HL.out ?_)
        | (go_at_call 32; refine (isItemCount_c _ _).mono ?_; rw [decide_eq_false HN.out]; rintro e w1 ⟨rfl, rfl⟩))
      refine bodyPost_ret (v := .tuple #[.agg #[.int .i64 0, .slice none 0 0], .bool false]) (by simp [results, Try.results38, go_sem]) rfl ⟨_, rfl, own_nil _ _ _, ?_⟩
      first | exact H0.out | exact (H0.out.setCell (Nat.le_refl _) _).setCell (Nat.le_refl _) _
  · have HK := hide hok
    have hl2 := okOrd_len hok
    have hl1 := hl2.1
    have hl7 := hl2.2
    have HN := hide (show 1 ≤ (l.length : Int) ∧ (l.length : Int) ≤ 7 by omega)
    have HW := hide (okOrd_word hok)
    rw [chN_yes hok, chL_yes hok]
    clear hok hl2
    have hh0 := (famAt.new 44 (w.alloc (.cells #[.int .i64 0, .slice none 0 0] 30)) 0 noSet).row (l.length : Int) noSet
    have hz0 : (w.alloc (.cells #[.int .i64 0, .slice none 0 0] 30)).heap.size = w.heap.size + 1 := by simp
    rw [hz0] at hh0
    have hg0 := hh0.get 0 (by omega)
    have hf0 := hh0.free (1 + 0)
    have HF0 := hide (hh0.set 0 (by omega) true)
    have HS1 := hide (show (((((w.alloc (.cells #[.int .i64 0, .slice none 0 0] 30)).alloc (.cells (fam 0 noSet) 44)).setRow (w.heap.size + 1) (fam (l.length : Int) noSet))).setCell ⟨w.heap.size + 1, 1 + 0, none⟩ (.bool true)).heap[w.heap.size]? = some (.cells #[.int .i64 0, .slice none 0 0] 30) from
      (hp_setO _ _ _ _ (by show w.heap.size ≠ w.heap.size + 1; omega)).trans ((hp_rowO _ _ _ _ (by omega)).trans ((hp_old _ _ _ (by simp)).trans HS0.out)))
    have HB1 := hide ((bl_row ((H0.out.alloc (by simp) (.cells (fam 0 noSet) 44))) (show w.heap.size ≤ w.heap.size + 1 by omega) (fam (l.length : Int) noSet)).setCell (p := ⟨w.heap.size + 1, 1 + 0, none⟩) (by show w.heap.size ≤ w.heap.size + 1; omega) (.bool true))
    have HL1 := hide (((HL.out.alloc (.cells (fam 0 noSet) 44)).below (bl_row (Below.refl w.heap.size _) (show w.heap.size ≤ w.heap.size + 1 by omega) (fam (l.length : Int) noSet)) (Nat.le_refl _)).setCell ⟨w.heap.size + 1, 1 + 0, none⟩ (by show w.heap.size ≤ w.heap.size + 1; omega) (.bool true))
    clear hz0 hh0
    go_enter Try.func38, Try.ntmps38
    go_wp2_with (first
      | (refine wpList_len sliceT rfl (.tmp _) rfl _ rfl w.heap.size l HL1.out ?_)
      | (refine wpList_len sliceT rfl (.tmp _) rfl _ rfl w.heap.size l HL.out ?_)
      | (refine wpList_alloc_fam zeroT rfl rfl _ (by first | (simp only [World.size_alloc]; rfl) | rfl) ?_)
      | (refine wpList_build_fam builtT rfl _ rfl _ rfl ?_)
      | (refine wpList_store_fam sizeT rfl (.tmp _) (.tmp _) rfl (w.heap.size + 1) (l.length : Int) noSet rfl rfl _ _ (by have := famAt.new 44 (w.alloc (.cells #[.int .i64 0, .slice none 0 0] 30)) 0 noSet; simpa using this) ?_)
      | (go_at_call 32; refine (isItemCount_c _ _).mono ?_; rw [decide_eq_true HN.out]; rintro e w1 ⟨rfl, rfl⟩)
      | (go_at_call 52; refine (isOrderL_c v l _ (HL.out.mono (by simp)) hlen (by omega)).mono ?_; rw [HW.out]; rintro e w1 ⟨rfl, rfl⟩))
    go_loopw [5, 28] (fun a i wr => ∃ k : Nat, k ≤ l.length ∧ i = .int .i64 k ∧ a = .int .i64 (setTo l k : Int) ∧ Hid (famAt 44 wr (w.heap.size + 1) (l.length : Int) (chF l k)) ∧ Hid (wr.heap[w.heap.size]? = some (.cells #[.int .i64 0, .slice none 0 0] 30)) ∧ Hid (Below w.heap.size w wr) ∧ Hid (ints w.heap.size wr v l)) (fun _ i _ => l.length - (intOf i).toNat)
    case atStart => exact ⟨0, Nat.zero_le _, rfl, rfl, HF0, HS1, HB1, HL1⟩
    case round =>
      obtain ⟨k, hk, rfl, rfl, HF, HS, HB, HLW⟩ := hrel
      have hw := wordTo_at HW.out k hk
      have hlt := setTo_lt k hw
      have h8 := p2_le l.length 7 (by omega)
      have hs128 : setTo l k < 128 := by omega
      clear hw hlt h8 HF0 HS1 HB1 HL1 hg0 hf0
      by_cases hlt : k < l.length
      · have hw1 := wordTo_at HW.out (k + 1) (by omega)
        have hl2 := setTo_lt (k + 1) hw1
        have hst := (wordTo_iff anySet l.length l (k + 1)).1 hw1 k (by omega)
        simp only [stepB, Bool.and_eq_true, decide_eq_true_eq] at hst
        have hin := hst.1
        have h8 := p2_le l.length 7 (by omega)
        have hs1 : setTo l (k + 1) < 128 := by omega
        have HSS := hide (show setTo l (k + 1) = setTo l k ||| p2 (l[k]?.getD 0).toNat from rfl)
        have HC := hide (show chF l (k + 1) = upd (chF l k) (setTo l (k + 1)) true from rfl)
        generalize hx : l[k]?.getD 0 = x at HSS hin
        have HX := hide hx
        clear hx hst hl2 h8 hw1
        obtain ⟨i, rfl⟩ := Int.eq_ofNat_of_zero_le hin.1
        rw [Int.toNat_natCast] at HSS
        have hi7 : i < 7 := by omega
        clear hin
        generalize hs1e : setTo l (k + 1) = s1 at HSS hs1 HC
        have HS1 := hide hs1e
        clear hs1e
        generalize setTo l k = s at hs128 HSS
        have hg := HF.out.get s1 hs1
        have hfz := HF.out.free (1 + s1)
        go_wp2_with (first
          | (refine wpList_at sliceT intS rfl (.tmp _) (.tmp _) rfl _ rfl k rfl w.heap.size l HLW.out hlt ?_; intro ad hcell hblk; rw [HX.out] at hcell)
          | (go_at_call 53; refine (with_c _ _ _ (by omega) (by omega) (by omega) (by omega)).mono ?_; rw [Int.toNat_natCast, Int.toNat_natCast, ← HSS.out]; rintro e w' ⟨rfl, rfl⟩))
        go_roundw
        case rel => exact ⟨k + 1, by omega, by go_num, by rw [HS1.out], by rw [HC.out]; exact HF.out.set s1 hs1 true, (hp_setO _ _ _ _ (by show w.heap.size ≠ w.heap.size + 1; omega)).trans HS.out, HB.out.setCell (by show w.heap.size ≤ w.heap.size + 1; omega) _, HLW.out.setCell _ (by show w.heap.size ≤ w.heap.size + 1; omega) _⟩
        case measure => simp [intOf]; omega
      · have hke : k = l.length := by omega
        have hlt' : ¬ ((k : Int) < (l.length : Int)) := by omega
        have HKE := hide hke
        have hf := HF.out
        have hfl := hf.lt
        clear hk hke
        go_wp2_with (first
          | (refine wpList_load_fam rowT sizeT rfl (.tmp _) rfl _ rfl (l.length : Int) _ (by assumption) ?_)
          | (go_at_call 40; refine (space_c _ _ _).mono ?_; rintro e w5 ⟨v1, rfl, ho5, hb5⟩; obtain ⟨aa, cc, hv⟩ := ho5.shape; have hs5 := (hb5.block w.heap.size (by omega)).trans HS.out; have c0 : w5.cell? ⟨w.heap.size, 0, none⟩ = some (.int .i64 0) := (by rw [hp_cell hs5]; rfl); have c1 : w5.cell? ⟨w.heap.size, 1, none⟩ = some (.slice none 0 0) := (by rw [hp_cell hs5]; rfl); have f0 := hp_free hs5 0; have f1 := hp_free hs5 1; have HB5 := hide (HB.out.trans (hb5.mono (by omega))); have HO5 := hide ho5; clear hb5 hs5 ho5; subst hv))
        refine bodyPost_ret (v := .tuple #[.agg #[.int .i64 (l.length : Int), .slice aa (setsTo (chF l k) 128).length cc], .bool true]) (by simp [results, Try.results38, go_sem, c0, c1]) rfl ⟨_, rfl, ?_, ?_⟩
        · rw [← HKE.out]
          exact ((HO5.out.setLow _ (by show w.heap.size < wr.heap.size; omega) _).setLow _ (by show w.heap.size < wr.heap.size; omega) _).mono (by omega)
        · exact (HB5.out.setCell (Nat.le_refl _) _).setCell (Nat.le_refl _) _
end Go.Proofs.Ytbcohlnimmoifaa
