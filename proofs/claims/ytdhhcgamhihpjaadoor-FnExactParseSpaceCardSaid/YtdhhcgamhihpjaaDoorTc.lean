/- Contracts: the specification's reading of numbers and splitting of texts. -/
import Derived.Test.YtdhhcgamhihpjaaDoorTa
import Derived.Test.YtdhhcgamhihpjaaDoorTo
namespace Go.Proofs.YtdhhcgamhihpjaaDoor
open Go.RowKit
set_option maxRecDepth 100000
set_option linter.unusedSimpArgs false
/-! ### The loop of splitting -/
theorem spl_snoc (c b : UInt8) : ∀ (p : List UInt8) (D : List (List UInt8)) (x : List UInt8), spl c p = D ++ [x] → spl c (p ++ [b]) = if b = c then D ++ [x] ++ [[]] else D ++ [x ++ [b]]
  | [], D, x, h => by
    have hD : D = [] ∧ x = [] := by
      cases D with
      | nil => simpa [spl] using h
      | cons y D => exfalso; have := congrArg List.length h; simp [spl] at this
    obtain ⟨rfl, rfl⟩ := hD
    by_cases hb : b = c
    · subst hb; simp [spl]
    · simp [spl, hb]
  | a :: p, D, x, h => by
    obtain ⟨y, ys, hy⟩ := List.exists_cons_of_ne_nil (spl_ne c p)
    obtain ⟨E, z, hE⟩ : ∃ E z, spl c p = E ++ [z] := ⟨(spl c p).dropLast, (spl c p).getLast (spl_ne c p), (List.dropLast_concat_getLast _).symm⟩
    have ih := spl_snoc c b p E z hE
    by_cases ha : a = c
    · subst ha
      have e1 : spl a (a :: p) = [] :: spl a p := by rw [spl, if_pos rfl]
      have e2 : spl a (a :: p ++ [b]) = [] :: spl a (p ++ [b]) := by rw [List.cons_append, spl, if_pos rfl]
      rw [e1, hE, ← List.cons_append] at h
      have h1 := List.append_inj' h rfl
      obtain ⟨h2, h3⟩ := h1
      injection h3 with h3 _
      rw [e2, ih, ← h2, ← h3]
      split <;> rfl
    · have e1 : spl c (a :: p) = (a :: y) :: ys := spl_cons_ne ha hy
      obtain ⟨y2, ys2, hy2⟩ := List.exists_cons_of_ne_nil (spl_ne c (p ++ [b]))
      have e2 : spl c (a :: p ++ [b]) = (a :: y2) :: ys2 := by rw [List.cons_append]; exact spl_cons_ne ha hy2
      rw [e2]
      rw [e1] at h
      rw [hE] at hy
      rw [ih] at hy2
      cases E with
      | nil =>
        injection hy with h5 h6
        subst h5 h6
        cases D with
        | cons _ _ => exfalso; have := congrArg List.length h; simp at this
        | nil =>
          injection h with h7 _
          subst h7
          by_cases hb : b = c
          · rw [if_pos hb] at hy2 ⊢
            injection hy2 with h8 h9
            rw [← h8, ← h9]; rfl
          · rw [if_neg hb] at hy2 ⊢
            injection hy2 with h8 h9
            rw [← h8, ← h9]; rfl
      | cons e E =>
        injection hy with h5 h6
        subst h5 h6
        cases D with
        | nil => exfalso; have := congrArg List.length h; simp at this
        | cons d D =>
          injection h with h7 h8
          have h9 := List.append_inj' h8 rfl
          obtain ⟨h10, h11⟩ := h9
          injection h11 with h11 _
          subst h7 h10 h11
          by_cases hb : b = c
          · rw [if_pos hb] at hy2 ⊢
            injection hy2 with h12 h13
            rw [← h12, ← h13]; rfl
          · rw [if_neg hb] at hy2 ⊢
            injection hy2 with h12 h13
            rw [← h12, ← h13]; rfl
/-- Behind i bytes: D are the pieces that are whole, the last one begins at f. -/
def SpAt (c : UInt8) (S : List UInt8) (i : Nat) (D : List (List UInt8)) (f : Nat) : Prop := ∃ x, spl c (S.take i) = D ++ [x] ∧ f + x.length = i ∧ (S.take i).drop f = x
theorem SpAt_zero (c : UInt8) (S : List UInt8) : SpAt c S 0 [] 0 := ⟨[], rfl, rfl, by simp⟩
theorem take_snoc {S : List UInt8} {i : Nat} (h : i < S.length) : S.take (i + 1) = S.take i ++ [S[i]] := by
  rw [List.take_add_one, List.getElem?_eq_getElem h]; rfl
theorem SpAt.hit {c : UInt8} {S : List UInt8} {i f : Nat} {D : List (List UInt8)} (h : SpAt c S i D f) (hi : i < S.length) (hc : S[i] = c) : SpAt c S (i + 1) (D ++ [(S.take i).drop f]) (i + 1) := by
  obtain ⟨x, h1, h2, h3⟩ := h
  refine ⟨[], ?_, by simp, by simp⟩
  rw [take_snoc hi, spl_snoc c S[i] _ D x h1, if_pos hc, h3]
theorem SpAt.miss {c : UInt8} {S : List UInt8} {i f : Nat} {D : List (List UInt8)} (h : SpAt c S i D f) (hi : i < S.length) (hc : S[i] ≠ c) : SpAt c S (i + 1) D f := by
  obtain ⟨x, h1, h2, h3⟩ := h
  refine ⟨x ++ [S[i]], ?_, by simp; omega, ?_⟩
  · rw [take_snoc hi, spl_snoc c S[i] _ D x h1, if_neg hc]
  · rw [take_snoc hi, List.drop_append_of_le_length (by rw [List.length_take]; omega), h3]
theorem SpAt.le {c : UInt8} {S : List UInt8} {i f : Nat} {D : List (List UInt8)} (h : SpAt c S i D f) : f ≤ i := by
  obtain ⟨x, h1, h2, h3⟩ := h
  omega
theorem SpAt.done {c : UInt8} {S : List UInt8} {f : Nat} {D : List (List UInt8)} (h : SpAt c S S.length D f) : spl c S = D ++ [S.drop f] := by
  obtain ⟨x, h1, h2, h3⟩ := h
  rw [List.take_length] at h1 h3
  rw [h1, h3]
theorem SpAt.len {c : UInt8} {S : List UInt8} {i f : Nat} {D : List (List UInt8)} (h : SpAt c S i D f) : D.length ≤ S.length := by
  obtain ⟨x, h1, h2, h3⟩ := h
  have h4 := spl_length_le c (S.take i)
  rw [h1, List.length_append, List.length_take, List.length_singleton] at h4
  omega
theorem bytes_get (S : List UInt8) (k : Nat) (h : k < S.length) : (⟨S.toArray⟩ : ByteArray)[k]'(by rw [size_mk]; exact h) = S[k] := by
  show (S.toArray)[k] = S[k]
  simp
theorem bytes_extract (S : List UInt8) (f k : Nat) : (⟨S.toArray⟩ : ByteArray).extract f k = ⟨((S.take k).drop f).toArray⟩ := by
  apply ByteArray.ext
  rw [ByteArray.data_extract]
  simp [List.extract_eq_take_drop, List.drop_take]
theorem bytes_tail (S : List UInt8) (f : Nat) : (⟨S.toArray⟩ : ByteArray).extract f S.length = ⟨(S.drop f).toArray⟩ := by
  rw [bytes_extract, List.take_length]
set_option maxHeartbeats 1000000 in
theorem l1Split_c (S : List UInt8) (c : UInt8) (w : World) (hS : S.length ≤ 2000000) :
    Calls Tryd.prog 35 #[.string ⟨S.toArray⟩, .int .u8 (c.toNat : Int)] w fun e w' => ∃ v', e = .returned v' ∧ ownT w' w.heap.size v' (spl c S) ∧ Below w.heap.size w w' := by
  have hsz := size_mk S
  go_enter Tryd.func35, Tryd.ntmps35
  go_wp2_with fail
  go_loopw [5, 6, 7] (fun ov fv iv wr => ∃ (k f : Nat) (D : List (List UInt8)), k ≤ S.length ∧ iv = .int .i64 (k : Int) ∧ fv = .int .i64 (f : Int) ∧ Hid (SpAt c S k D f) ∧ Hid (ownT wr w.heap.size ov D) ∧ Hid (w.heap.size ≤ wr.heap.size ∧ Below w.heap.size w wr)) (fun _ _ iv _ => S.length - (intOf iv).toNat)
  case atStart => exact ⟨0, 0, [], Nat.zero_le _, rfl, rfl, SpAt_zero c S, ownT_nil _ _, Nat.le_refl _, Below.refl _ _⟩
  case round =>
    obtain ⟨k, f, D, hk, rfl, rfl, HP, HO, HB⟩ := hrel
    obtain ⟨oa, oc, rfl⟩ := HO.out.shape
    have hfk := HP.out.le
    have hdl := HP.out.len
    have hsz2 := HB.out.1
    by_cases hlt : k < S.length
    · have hlt2 : (k : Int) < ((⟨S.toArray⟩ : ByteArray).size : Int) := by omega
      have hlt3 : k < (⟨S.toArray⟩ : ByteArray).size := by omega
      have hks : k ≤ (⟨S.toArray⟩ : ByteArray).size := by omega
      have HEX := hide (bytes_extract S f k)
      have hge := bytes_get S k hlt
      by_cases hc : S[k] = c
      · have HP2 := hide (HP.out.hit hlt hc)
        have hcb : ((((⟨S.toArray⟩ : ByteArray)[k]'hlt3).toNat : Int) == (c.toNat : Int)) = true := by rw [hge, hc]; simp
        have HO2 := hide (HO.out.kept ((Below.refl _ _).alloc (Nat.le_refl _) (.cells #[strV ((S.take k).drop f)] 9)))
        have hcl : (wr.alloc (.cells #[strV ((S.take k).drop f)] 9)).cell? ⟨wr.heap.size, 0, none⟩ = some (strV ((S.take k).drop f)) := by rw [hp_cell (hp_last _ _)]; rfl
        clear hc hge
        go_wp2_with (at_builtin; rw [HEX.out]; refine wpList_appendT rfl (.tmp 19) (.tmp 24) rfl w.heap.size _ D rfl HO2.out _ ((S.take k).drop f) rfl hcl (by simp; omega) (by omega) ?_; intro v6 w6 ho6 hb6; have HO6 := hide ho6; have HB6 := hide ((HB.out.2.alloc hsz2 _).trans hb6); clear ho6 hb6)
        go_roundw
        case rel => exact ⟨k + 1, k + 1, _, by omega, by go_num, by go_num, HP2, HO6, HB6.out.size, HB6.out⟩
        case measure => simp [intOf]; omega
      · have HP2 := hide (HP.out.miss hlt hc)
        have hcb : ((((⟨S.toArray⟩ : ByteArray)[k]'hlt3).toNat : Int) == (c.toNat : Int)) = false := by
          rw [hge]
          simp
          intro h
          exact hc (UInt8.toNat_inj.1 (by omega))
        clear hc hge
        go_wp2
        go_roundw
        case rel => exact ⟨k + 1, f, D, by omega, by go_num, rfl, HP2, HO, HB⟩
        case measure => simp [intOf]; omega
    · have hkl : k = S.length := by omega
      have hlt2 : ¬ ((k : Int) < ((⟨S.toArray⟩ : ByteArray).size : Int)) := by omega
      have hks : f ≤ (⟨S.toArray⟩ : ByteArray).size := by omega
      have HEX := hide (bytes_tail S f)
      have HE := hide (show spl c S = D ++ [S.drop f] from SpAt.done (by have h := HP.out; rw [hkl] at h; exact h))
      have HO2 := hide (HO.out.kept ((Below.refl _ _).alloc (Nat.le_refl _) (.cells #[strV (S.drop f)] 9)))
      have hcl : (wr.alloc (.cells #[strV (S.drop f)] 9)).cell? ⟨wr.heap.size, 0, none⟩ = some (strV (S.drop f)) := by rw [hp_cell (hp_last _ _)]; rfl
      go_wp2_with (at_builtin; rw [HEX.out]; refine wpList_appendT rfl (.tmp 28) (.tmp 32) rfl w.heap.size _ D rfl HO2.out _ (S.drop f) rfl hcl (by simp; omega) (by omega) ?_; intro v6 w6 ho6 hb6; have HO6 := hide ho6; have HB6 := hide ((HB.out.2.alloc hsz2 _).trans hb6); clear ho6 hb6)
      go_ret
      exact ⟨v6, rfl, by rw [HE.out]; exact HO6.out, HB6.out⟩
/-! ### Numbers -/
theorem dig_ge (b : UInt8) : ¬ (b.toNat < 48) → ¬ (57 < b.toNat) → Lib.digitVal b = some (b.toNat - 48) := fun h1 h2 => by
  unfold Lib.digitVal; rw [if_pos (by omega)]
theorem dig_no (b : UInt8) : b.toNat < 48 ∨ 57 < b.toNat → Lib.digitVal b = none := fun h => by
  unfold Lib.digitVal; rw [if_neg (by omega)]
theorem decFrom_bad {S : List UInt8} {k : Nat} (hk : k < S.length) (h : Lib.digitVal S[k] = none) : Lib.decFrom 0 S = none := by
  cases he : Lib.decFrom 0 S with
  | none => rfl
  | some n =>
    obtain ⟨d, hd⟩ := Lib.digit_of_decFrom S 0 n he k S[k] (List.getElem?_eq_getElem hk)
    rw [h] at hd
    cases hd
theorem dec_bound (S : List UInt8) : ∀ (acc n k : Nat), acc < 10 ^ k → Lib.decFrom acc S = some n → n < 10 ^ (k + S.length) := by
  induction S with
  | nil => intro acc n k h he; simp only [Lib.decFrom, Option.some.injEq] at he; subst he; simpa using h
  | cons b r ih =>
    intro acc n k h he
    simp only [Lib.decFrom] at he
    cases hb : Lib.digitVal b with
    | none => rw [hb] at he; cases he
    | some d =>
      rw [hb] at he
      have hd : d < 10 := by
        unfold Lib.digitVal at hb
        split at hb
        · have := Option.some.inj hb; omega
        · cases hb
      have := ih (acc * 10 + d) n (k + 1) (by rw [Nat.pow_succ]; omega) he
      rw [List.length_cons, show k + (r.length + 1) = k + 1 + r.length by omega]
      exact this
set_option maxHeartbeats 1000000 in
theorem l1Read_c (S : List UInt8) (w : World) (hS : S.length ≤ 2000000) :
    Calls Tryd.prog 36 #[.string ⟨S.toArray⟩] w fun e w' => e = .returned (.int .i64 (rdI S)) ∧ w = w' := by
  have hsz := size_mk S
  by_cases hin : (1 : Int) ≤ (S.length : Int) ∧ (S.length : Int) ≤ 6
  · have hin2 := hin
    have HIN := hide hin
    have h0 : 0 < S.length := by omega
    have h0s : 0 < (⟨S.toArray⟩ : ByteArray).size := by omega
    have hg0 := bytes_get S 0 h0
    have hhead : S.head? = some S[0] := by cases S with
      | nil => simp at h0
      | cons _ _ => rfl
    by_cases hz : S[0] = 48 ∧ 1 < S.length
    · have hr : rdI S = -1 := by unfold rdI; rw [if_pos (.inr ⟨by rw [hhead, hz.1], hz.2⟩)]
      have hz1 : ((((⟨S.toArray⟩ : ByteArray)[0]'h0s).toNat : Int) == 48) = true := by rw [hg0, hz.1]; rfl
      have hz2 : (1 : Int) < ((⟨S.toArray⟩ : ByteArray).size : Int) := by omega
      have hz3 : (1 : Int) < (S.length : Int) := by omega
      rw [hr]
      clear hg0 hz hhead hin
      go_enter Tryd.func36, Tryd.ntmps36
      go_wp2_with (go_at_call 56; refine (l1In_c _ _ _ _).mono ?_; rw [decide_eq_true HIN.out]; rintro e w' ⟨rfl, rfl⟩)
      go_ret
      exact ⟨rfl, rfl⟩
    · have hrd : (∀ n, Lib.decFrom 0 S = some n → rdI S = (n : Int)) ∧ (Lib.decFrom 0 S = none → rdI S = -1) := by
        unfold rdI
        rw [if_neg (by
          rintro (h | ⟨h, h2⟩)
          · omega
          · exact hz ⟨by rw [hhead] at h; exact Option.some.inj h, h2⟩)]
        exact ⟨fun n h => by rw [h], fun h => by rw [h]⟩
      have HR := hide hrd
      have hlen6 : S.length ≤ 6 := by omega
      have HG := hide (fun k h => bytes_get S k h)
      have key : ((¬ ((S[0].toNat : Int) = 48)) ∧ ((S[0].toNat : Int) == 48) = false) ∨ (((S[0].toNat : Int) = 48 ∧ ((S[0].toNat : Int) == 48) = true) ∧ ¬ (1 : Int) < (S.length : Int)) := by
        by_cases h48 : S[0] = 48
        · right
          exact ⟨by rw [h48]; exact ⟨rfl, rfl⟩, fun h => hz ⟨h48, by omega⟩⟩
        · left
          have : ¬ ((S[0].toNat : Int) = 48) := fun h => h48 (UInt8.toNat_inj.1 (by have : (48 : UInt8).toNat = 48 := rfl; omega))
          exact ⟨this, by simpa using this⟩
      clear hz hhead hin hrd
      rcases key with ⟨hz1, hz2⟩ | ⟨⟨hz1, hz2⟩, hz3⟩
      all_goals
        go_enter Tryd.func36, Tryd.ntmps36
        go_wp2_with (go_at_call 56; refine (l1In_c _ _ _ _).mono ?_; rw [decide_eq_true HIN.out]; rintro e w' ⟨rfl, rfl⟩)
        clear hz1 hz2 hg0
        go_loop [3, 4] (fun nv iv => ∃ (k m : Nat), k ≤ S.length ∧ iv = .int .i64 (k : Int) ∧ nv = .int .i64 (m : Int) ∧ Hid (Lib.decFrom 0 (S.take k) = some m)) (fun _ iv => S.length - (intOf iv).toNat)
        case atStart => exact ⟨0, 0, Nat.zero_le _, rfl, rfl, by rw [List.take_zero]; exact hide rfl⟩
        case round =>
          obtain ⟨k, m, hk, rfl, rfl, HD⟩ := hrel
          have hmb := dec_bound (S.take k) 0 m 0 (by omega) HD.out
          have hmb2 : m < 1000000 := by
            have : 10 ^ (0 + (S.take k).length) ≤ 10 ^ 6 := Nat.pow_le_pow_right (by omega) (by rw [List.length_take]; omega)
            omega
          clear hmb
          by_cases hlt : k < S.length
          · have hlt2 : (k : Int) < (S.length : Int) := by omega
            have hlt3 : k < (⟨S.toArray⟩ : ByteArray).size := by omega
            have hge := HG.out k hlt
            by_cases hd1 : S[k].toNat < 48
            · have hb1 : (S[k].toNat : Int) < 48 := by omega
              have HE := hide (show rdI S = -1 from HR.out.2 (decFrom_bad hlt (dig_no _ (.inl hd1))))
              clear hd1
              go_wp2
              go_ret
              exact ⟨by rw [HE.out]; rfl, rfl⟩
            · by_cases hd2 : 57 < S[k].toNat
              · have hb1 : ¬ ((S[k].toNat : Int) < 48) := by omega
                have hb2 : 57 < (S[k].toNat : Int) := by omega
                have HE := hide (show rdI S = -1 from HR.out.2 (decFrom_bad hlt (dig_no _ (.inr hd2))))
                clear hd1 hd2
                go_wp2
                go_ret
                exact ⟨by rw [HE.out]; rfl, rfl⟩
              · have HDN := hide (Lib.decFrom_take S k 0 m S[k] (S[k].toNat - 48) HD.out (List.getElem?_eq_getElem hlt) (dig_ge _ hd1 hd2))
                have hb1 : ¬ ((S[k].toNat : Int) < 48) := by omega
                have hb2 : ¬ (57 < (S[k].toNat : Int)) := by omega
                go_wp2
                go_roundw
                case rel => exact ⟨k + 1, m * 10 + (S[k].toNat - 48), by omega, by go_num, by congr 1; omega, HDN⟩
                case measure => simp [intOf]; omega
          · have hkl : k = S.length := by omega
            have HE := hide (show rdI S = (m : Int) from HR.out.1 m (by have h := HD.out; rw [hkl, List.take_length] at h; exact h))
            go_wp2
            go_ret
            exact ⟨by rw [HE.out]; rfl, rfl⟩
  · have hr : rdI S = -1 := by unfold rdI; rw [if_pos (.inl (by omega))]
    have HIN := hide hin
    rw [hr]
    clear hin
    go_enter Tryd.func36, Tryd.ntmps36
    go_wp2_with (go_at_call 56; refine (l1In_c _ _ _ _).mono ?_; rw [decide_eq_false HIN.out]; rintro e w' ⟨rfl, rfl⟩)
    go_ret
    exact ⟨rfl, rfl⟩
end Go.Proofs.YtdhhcgamhihpjaaDoor
