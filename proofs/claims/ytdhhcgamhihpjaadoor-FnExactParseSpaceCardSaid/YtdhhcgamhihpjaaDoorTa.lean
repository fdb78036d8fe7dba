/- Mathematics: decimal numerals read back; bytes split at a byte and joined again; of which space a text is the text. -/
import Derived.Test.YtdhhcgamhihpjaaDoorSt
import Derived.Test.YtdhhcgamhihpjaaDoorCt
import Derived.Test.YtdhhcgamhihpjaaDoorRn
import Derived.Lib.SplitLaws
import Derived.Lib.AtoiAllCases
import Derived.Lib.Atoi
namespace Go.Proofs.YtdhhcgamhihpjaaDoor
open Go.RowKit
set_option maxRecDepth 100000
/-! ### Numerals -/
theorem u8_toNat {k : Nat} (h : k < 256) : (UInt8.ofNat k).toNat = k := by simp; omega
theorem dec_dig (n : Nat) : ∀ b ∈ Lib.decDigits n, 48 ≤ b.toNat ∧ b.toNat ≤ 57 := by
  induction n using Nat.strongRecOn with
  | _ n ih =>
    intro b hb
    by_cases h : n < 10
    · rw [dec_small h, List.mem_singleton] at hb
      subst hb
      rw [u8_toNat (by omega)]; omega
    · rw [dec_more h, List.mem_append] at hb
      rcases hb with hb | hb
      · exact ih (n / 10) (by omega) b hb
      · rw [List.mem_singleton] at hb
        subst hb
        rw [u8_toNat (by omega)]; omega
theorem dec_ne (n : Nat) : Lib.decDigits n ≠ [] := by
  by_cases h : n < 10
  · rw [dec_small h]; simp
  · rw [dec_more h]; simp
theorem dec_head0 (n : Nat) : (Lib.decDigits n).head? = some 48 → n = 0 := by
  induction n using Nat.strongRecOn with
  | _ n ih =>
    intro hb
    by_cases h : n < 10
    · rw [dec_small h] at hb
      have h1 := congrArg UInt8.toNat (Option.some.inj hb)
      rw [u8_toNat (by omega)] at h1
      have h2 : (48 : UInt8).toNat = 48 := rfl
      omega
    · rw [dec_more h] at hb
      obtain ⟨c, r, hc⟩ := List.exists_cons_of_ne_nil (dec_ne (n / 10))
      rw [hc, List.cons_append, List.head?_cons] at hb
      have := ih (n / 10) (by omega) (by rw [hc]; exact hb)
      omega
theorem digit_val {k : Nat} (h : k < 10) : Lib.digitVal (UInt8.ofNat (48 + k)) = some k := by
  unfold Lib.digitVal
  rw [u8_toNat (by omega), if_pos (by omega)]
  congr 1; omega
theorem decFrom_snoc (l : List UInt8) (b : UInt8) (d : Nat) (hd : Lib.digitVal b = some d) : ∀ acc n, Lib.decFrom acc l = some n → Lib.decFrom acc (l ++ [b]) = some (n * 10 + d) := by
  induction l with
  | nil =>
    intro acc n h
    simp only [Lib.decFrom, Option.some.injEq] at h
    subst h
    simp [Lib.decFrom, hd]
  | cons c r ih =>
    intro acc n h
    simp only [Lib.decFrom, List.cons_append] at h ⊢
    cases hc : Lib.digitVal c with
    | none => rw [hc] at h; cases h
    | some e => rw [hc] at h; exact ih _ _ h
theorem decFrom_dec (n : Nat) : Lib.decFrom 0 (Lib.decDigits n) = some n := by
  induction n using Nat.strongRecOn with
  | _ n ih =>
    by_cases h : n < 10
    · rw [dec_small h]
      simp only [Lib.decFrom]
      rw [digit_val h]
      simp
    · rw [dec_more h, decFrom_snoc _ _ (n % 10) (digit_val (by omega)) 0 (n / 10) (ih (n / 10) (by omega))]
      congr 1; omega
theorem dec_inj {n m : Nat} (h : Lib.decDigits n = Lib.decDigits m) : n = m := by
  have h1 := decFrom_dec n
  rw [h, decFrom_dec m] at h1
  exact (Option.some.inj h1).symm
theorem parseU_snoc (l : List UInt8) (c : UInt8) (hc : 48 ≤ c.toNat ∧ c.toNat ≤ 57) (u : Nat) (hu : u < 922337203685477581) : ∀ acc, Lib.parseUint10 acc l = .ok u → Lib.parseUint10 acc (l ++ [c]) = .ok (u * 10 + (c.toNat - 48)) := by
  induction l with
  | nil =>
    intro acc h
    simp only [Lib.parseUint10] at h
    injection h with h
    subst h
    simp only [List.nil_append, Lib.parseUint10]
    rw [if_pos hc, if_neg (by omega), if_neg (by omega)]
  | cons b r ih =>
    intro acc h
    simp only [Lib.parseUint10, List.cons_append] at h ⊢
    split at h
    · rename_i hb
      rw [if_pos hb]
      split at h
      · cases h
      · rename_i h1
        rw [if_neg h1]
        split at h
        · cases h
        · rename_i h2
          rw [if_neg h2]
          exact ih _ h
    · cases h
theorem parseU_dec (n : Nat) (hn : n < 9223372036854775808) : Lib.parseUint10 0 (Lib.decDigits n) = .ok n := by
  induction n using Nat.strongRecOn with
  | _ n ih =>
    by_cases h : n < 10
    · rw [dec_small h]
      simp only [Lib.parseUint10]
      rw [u8_toNat (by omega), if_pos (by omega), if_neg (by omega), if_neg (by omega)]
      congr 1; omega
    · have h1 := parseU_snoc (Lib.decDigits (n / 10)) (UInt8.ofNat (48 + n % 10)) (by rw [u8_toNat (by omega)]; omega) (n / 10) (by omega) 0 (ih (n / 10) (by omega) (by omega))
      rw [dec_more h, h1, u8_toNat (by omega)]
      congr 1; omega
theorem atoi_dec (n : Nat) (hn : n < 9223372036854775808) : Lib.atoiAll (Lib.decDigits n) = .ok (n : Int) := by
  obtain ⟨c, r, hc⟩ := List.exists_cons_of_ne_nil (dec_ne n)
  have hd := dec_dig n c (by rw [hc]; simp)
  have hp := parseU_dec n hn
  rw [hc] at hp ⊢
  rw [Lib.atoiAll_plain c r (by omega) (by omega)]
  unfold Lib.parseMag
  rw [if_neg (by simp), hp]
  simp only [Lib.signless]
  rw [if_neg (by omega)]
/-! ### The program's numerals -/
/-- The number that a text is the plain numeral of. -/
def pln (t : List UInt8) : Option Nat := match Lib.atoiAll t with
  | .ok v => if 0 ≤ v ∧ Lib.itoa v = t then some v.toNat else none
  | _ => none
theorem pln_dec (n : Nat) (hn : n < 9223372036854775808) : pln (Lib.decDigits n) = some n := by
  unfold pln
  rw [atoi_dec n hn]
  simp only
  rw [if_pos ⟨by omega, by rw [Lib.itoa, if_neg (by omega), Int.toNat_natCast]⟩, Int.toNat_natCast]
theorem pln_some {t : List UInt8} {n : Nat} (h : pln t = some n) : t = Lib.decDigits n ∧ n < 9223372036854775808 := by
  unfold pln at h
  split at h
  · rename_i v hv
    split at h
    · rename_i h1
      have hb := Lib.atoiAll_bounds hv
      have e := Option.some.inj h
      refine ⟨?_, by omega⟩
      rw [← e, ← h1.2, Lib.itoa, if_neg (by omega)]
      
    · cases h
  · cases h
theorem pln_nil : pln [] = none := rfl
/-! ### The specification's numerals -/
/-- The number of a text of 1 to 6 digits without superfluous zeros, else -1. -/
def rdI (t : List UInt8) : Int := if ¬ (1 ≤ t.length ∧ t.length ≤ 6) ∨ (t.head? = some 48 ∧ 1 < t.length) then -1 else match Lib.decFrom 0 t with
  | some n => (n : Int)
  | none => -1
theorem rdI_dec (n : Nat) (hn : n < 1000) : rdI (Lib.decDigits n) = (n : Int) := by
  have h1 := dec_len hn
  have h2 : 1 ≤ (Lib.decDigits n).length := by
    cases h : Lib.decDigits n with
    | nil => exact absurd h (dec_ne n)
    | cons _ _ => simp
  unfold rdI
  rw [if_neg, decFrom_dec]
  rintro (h | ⟨h, h3⟩)
  · omega
  · have := dec_head0 n h
    subst this
    rw [dec_small (by omega)] at h3
    simp at h3
/-! ### Splitting -/
def spl (c : UInt8) : List UInt8 → List (List UInt8)
  | [] => [[]]
  | b :: l => if b = c then [] :: spl c l else match spl c l with
    | [] => [[b]]
    | x :: xs => (b :: x) :: xs
theorem spl_ne (c : UInt8) : ∀ l, spl c l ≠ []
  | [] => by simp [spl]
  | b :: l => by
    unfold spl
    split
    · simp
    · split <;> simp
theorem spl_cons_ne {c b : UInt8} {l : List UInt8} {x : List UInt8} {xs : List (List UInt8)} (h : b ≠ c) (hs : spl c l = x :: xs) : spl c (b :: l) = (b :: x) :: xs := by
  rw [spl, if_neg h, hs]
theorem spl_app {c : UInt8} : ∀ (x : List UInt8) (l : List UInt8) (y : List UInt8) (ys : List (List UInt8)), c ∉ x → spl c l = y :: ys → spl c (x ++ l) = (x ++ y) :: ys
  | [], _, _, _, _, h => h
  | b :: x, l, y, ys, hx, h => by
    rw [List.cons_append, spl_cons_ne (fun e => hx (by rw [e]; simp)) (spl_app x l y ys (fun h => hx (by simp [h])) h)]
    rfl
theorem spl_none {c : UInt8} {x : List UInt8} (hx : c ∉ x) : spl c x = [x] := by
  have := spl_app x [] [] [] hx rfl
  simpa using this
theorem spl_at {c : UInt8} {x y : List UInt8} (hx : c ∉ x) : spl c (x ++ c :: y) = x :: spl c y := by
  have h : spl c (c :: y) = [] :: spl c y := by rw [spl, if_pos rfl]
  have := spl_app x (c :: y) [] _ hx h
  simpa using this
theorem cut_cases (c : UInt8) : ∀ s : List UInt8, c ∉ s ∨ ∃ x y, s = x ++ c :: y ∧ c ∉ x
  | [] => .inl (by simp)
  | b :: l => by
    by_cases h : b = c
    · subst h; exact .inr ⟨[], l, rfl, by simp⟩
    · rcases cut_cases c l with h1 | ⟨x, y, h1, h2⟩
      · exact .inl (by simp [h1, Ne.symm h])
      · exact .inr ⟨b :: x, y, by rw [h1]; rfl, by simp [h2, Ne.symm h]⟩
theorem spl_join (c : UInt8) (s : List UInt8) : Lib.join (spl c s) [c] = s := by
  induction hn : s.length using Nat.strongRecOn generalizing s with
  | _ n ih =>
    rcases cut_cases c s with h | ⟨x, y, rfl, h⟩
    · rw [spl_none h, Lib.join_one]
    · rw [spl_at h]
      have h1 := ih y.length (by rw [← hn]; simp; omega) y rfl
      obtain ⟨z, zs, hz⟩ := List.exists_cons_of_ne_nil (spl_ne c y)
      rw [hz] at h1 ⊢
      rw [Lib.join_cons] at h1 ⊢
      simp only [Lib.joinTail, List.map_cons, List.flatten_cons] at h1 ⊢
      rw [← h1]
      simp
theorem join_spl (c : UInt8) : ∀ xs : List (List UInt8), xs ≠ [] → (∀ x ∈ xs, c ∉ x) → spl c (Lib.join xs [c]) = xs
  | [], h, _ => absurd rfl h
  | [x], _, h => by rw [Lib.join_one, spl_none (h x (by simp))]
  | x :: y :: r, _, h => by
    have h1 := join_spl c (y :: r) (by simp) (fun z hz => h z (by simp at hz ⊢; right; exact hz))
    have e : Lib.join (x :: y :: r) [c] = x ++ c :: Lib.join (y :: r) [c] := by
      rw [Lib.join_cons, Lib.join_cons]
      simp [Lib.joinTail]
    rw [e, spl_at (h x (by simp)), h1]
theorem idx_none {c : UInt8} : ∀ {s : List UInt8}, c ∉ s → Lib.index s [c] = -1
  | [], _ => rfl
  | b :: l, h => by
    have h1 := idx_none (c := c) (s := l) (fun e => h (by simp [e]))
    have h2 : c ≠ b := fun e => h (by simp [e])
    rw [Lib.index, h1]
    simp [List.isPrefixOf, h2]
theorem idx_at {c : UInt8} : ∀ {x y : List UInt8}, c ∉ x → Lib.index (x ++ c :: y) [c] = (x.length : Int)
  | [], y, _ => by simp [Lib.index, List.isPrefixOf]
  | b :: x, y, h => by
    have h1 := idx_at (c := c) (x := x) (y := y) (fun e => h (by simp [e]))
    have h2 : c ≠ b := fun e => h (by simp [e])
    rw [List.cons_append, Lib.index, h1]
    have h3 : ((x.length : Int) == -1) = false := by rw [beq_eq_false_iff_ne]; omega
    simp [List.isPrefixOf, h2, h3]
theorem cut_none {c : UInt8} {s : List UInt8} (h : c ∉ s) : Lib.cut s [c] = (s, [], false) := by
  unfold Lib.cut
  rw [idx_none h, if_neg (by omega)]
theorem cut_at {c : UInt8} {x y : List UInt8} (h : c ∉ x) : Lib.cut (x ++ c :: y) [c] = (x, y, true) := by
  unfold Lib.cut
  rw [idx_at h, if_pos (by omega)]
  simp
theorem splitK_spl (c : UInt8) (s : List UInt8) : Lib.splitK [c] 0 (Lib.count s [c]) s = spl c s := by
  induction hn : s.length using Nat.strongRecOn generalizing s with
  | _ n ih =>
    rcases cut_cases c s with h | ⟨x, y, rfl, h⟩
    · rw [Lib.count_miss (idx_none h), spl_none h]; rfl
    · have hd : (x ++ c :: y).drop (x.length + [c].length) = y := by simp
      have h1 := ih y.length (by rw [← hn]; simp; omega) y rfl
      rw [Lib.count_hit (by simp) (idx_at h), hd, Nat.add_comm, Lib.splitK, idx_at h, if_neg (by simp)]
      have ht : (x ++ c :: y).take ((x.length : Int).toNat + 0) = x := by simp
      have hd2 : (x ++ c :: y).drop ((x.length : Int).toNat + [c].length) = y := by simp
      rw [ht, hd2, h1, spl_at h]
theorem bytes_list (x : ByteArray) : (⟨x.data.toList.toArray⟩ : ByteArray) = x := by
  cases x; simp
theorem splitB_spl (c : UInt8) (s : List UInt8) : Lib.splitB ⟨#[c]⟩ 0 (Lib.countB ⟨s.toArray⟩ ⟨#[c]⟩) ⟨s.toArray⟩ = (spl c s).map fun t => (⟨t.toArray⟩ : ByteArray) := by
  have h1 := Lib.splitB_data ⟨#[c]⟩ 0 (Lib.countB ⟨s.toArray⟩ ⟨#[c]⟩) ⟨s.toArray⟩
  have h2 := splitK_spl c s
  have h3 : (Lib.splitB ⟨#[c]⟩ 0 (Lib.countB ⟨s.toArray⟩ ⟨#[c]⟩) ⟨s.toArray⟩).map (·.data.toList) = spl c s := h1.trans h2
  rw [← h3, List.map_map]
  conv => lhs; rw [← List.map_id (Lib.splitB ⟨#[c]⟩ 0 (Lib.countB ⟨s.toArray⟩ ⟨#[c]⟩) ⟨s.toArray⟩)]
  exact List.map_congr_left fun x _ => (bytes_list x).symm
theorem countB_spl (c : UInt8) (s : List UInt8) : Lib.countB ⟨s.toArray⟩ ⟨#[c]⟩ + 1 = (spl c s).length := by
  have h1 := Lib.splitB_all ⟨#[c]⟩ (Nat.le_refl 1) 0 _ ⟨s.toArray⟩ rfl
  rw [splitB_spl, List.length_map] at h1
  exact h1.symm
theorem spl_length_le (c : UInt8) (s : List UInt8) : (spl c s).length ≤ s.length + 1 := by
  induction s with
  | nil => simp [spl]
  | cons b l ih =>
    rw [spl]
    split
    · simp; omega
    · split
      · simp
      · rename_i h; rw [h] at ih; simp at ih ⊢; omega
theorem spl_piece_le (c : UInt8) (s : List UInt8) : ∀ t ∈ spl c s, t.length ≤ s.length := by
  induction s with
  | nil => intro t ht; simp [spl] at ht; subst ht; simp
  | cons b l ih =>
    intro t ht
    rw [spl] at ht
    split at ht
    · rw [List.mem_cons] at ht
      rcases ht with rfl | ht
      · simp
      · have := ih t ht; simp; omega
    · split at ht
      · simp at ht; subst ht; simp
      · rename_i y ys hy
        rw [List.mem_cons] at ht
        rcases ht with rfl | ht
        · have := ih y (by rw [hy]; simp); simp; omega
        · have := ih t (by rw [hy]; simp [ht]); simp; omega
/-! ### Texts of spaces -/
def psGood (s : List UInt8) (n : Int) (l : List Int) : Prop := okSp n l = true ∧ stA n.toNat l l.length = s
theorem dec_no (n : Nat) (c : UInt8) (h : c.toNat < 48 ∨ 57 < c.toNat) : c ∉ Lib.decDigits n := fun hm => by
  have := dec_dig n c hm
  omega
theorem stJ_spl {l : List Int} (h0 : 0 < l.length) : spl 44 (stJ l l.length) = l.map fun a => Lib.decDigits a.toNat := by
  unfold stJ
  rw [List.take_length]
  refine join_spl 44 _ ?_ ?_
  · intro e
    have := congrArg List.length e
    rw [List.length_map, List.length_nil] at this
    omega
  · intro x hx
    obtain ⟨a, _, rfl⟩ := List.mem_map.1 hx
    exact dec_no _ _ (.inl (by decide))
theorem join_mem {c : UInt8} : ∀ (xs : List (List UInt8)) (sep : List UInt8), c ∉ sep → (∀ x ∈ xs, c ∉ x) → c ∉ Lib.join xs sep
  | [], _, _, _ => by simp [Lib.join_nil]
  | x :: r, sep, hs, h => by
    rw [Lib.join_cons, List.mem_append, Lib.joinTail]
    rintro (h1 | h1)
    · exact h x (by simp) h1
    · obtain ⟨z, hz, hc⟩ := List.mem_flatten.1 h1
      obtain ⟨y, hy, rfl⟩ := List.mem_map.1 hz
      rw [List.mem_append] at hc
      rcases hc with hc | hc
      · exact hs hc
      · exact h y (by simp [hy]) hc
theorem stJ_no58 (l : List Int) : (58 : UInt8) ∉ stJ l l.length := by
  unfold stJ
  refine join_mem _ _ (by decide) fun x hx => ?_
  obtain ⟨a, _, rfl⟩ := List.mem_map.1 hx
  exact dec_no _ _ (.inr (by decide))
theorem stA_eq (N : Nat) (l : List Int) : stA N l l.length = Lib.decDigits N ++ 58 :: stJ l l.length := by simp [stA]
theorem good_cut {s : List UInt8} {n : Int} {l : List Int} (h : psGood s n l) : Lib.cut s [58] = (Lib.decDigits n.toNat, stJ l l.length, true) := by
  rw [← h.2, stA_eq]
  exact cut_at (dec_no _ _ (.inr (by decide)))
theorem good_spl58 {s : List UInt8} {n : Int} {l : List Int} (h : psGood s n l) : spl 58 s = [Lib.decDigits n.toNat, stJ l l.length] := by
  rw [← h.2, stA_eq, spl_at (dec_no _ _ (.inr (by decide))), spl_none (stJ_no58 l)]
theorem okSp_neT {n : Int} {l : List Int} (h : okSp n l = true) : 0 < l.length := by
  obtain ⟨j, hj, _⟩ := (okSp_has h 0).1 (okSp_spc h).zero
  omega
theorem good_spl44 {s : List UInt8} {n : Int} {l : List Int} (h : psGood s n l) : spl 44 (stJ l l.length) = l.map fun a => Lib.decDigits a.toNat := stJ_spl (okSp_neT h.1)
theorem good_range {n : Int} {l : List Int} (h : okSp n l = true) : (1 ≤ n ∧ n ≤ 7) ∧ l.length ≤ 128 ∧ ∀ a ∈ l, 0 ≤ a ∧ a < 128 := by
  have hn := okSp_n h
  refine ⟨hn, by rw [okSp_list h]; exact setsTo_len _ 128, fun a ha => ?_⟩
  obtain ⟨j, hj, e⟩ := List.mem_iff_getElem.1 ha
  have h1 := okSp_pos h j hj
  have := low_lt n.toNat (by omega)
  rw [List.getElem?_eq_getElem hj, Option.getD_some, e] at h1
  omega
theorem good_uniq {s : List UInt8} {n m : Int} {l k : List Int} (h1 : psGood s n l) (h2 : psGood s m k) : n = m ∧ l = k := by
  have e := good_cut h1
  rw [good_cut h2] at e
  injection e with e1 e2
  injection e2 with e2 _
  have a1 := good_range h1.1
  have a2 := good_range h2.1
  refine ⟨by have := dec_inj e1; omega, ?_⟩
  have e3 := good_spl44 h1
  rw [← e2, good_spl44 h2] at e3
  have key : ∀ (x y : List Int), (∀ a ∈ x, 0 ≤ a ∧ a < 128) → (∀ a ∈ y, 0 ≤ a ∧ a < 128) → (x.map fun a => Lib.decDigits a.toNat) = (y.map fun a => Lib.decDigits a.toNat) → x = y := by
    intro x
    induction x with
    | nil => intro y _ _ h; cases y with
      | nil => rfl
      | cons _ _ => cases h
    | cons a x ih =>
      intro y hx hy h
      cases y with
      | nil => cases h
      | cons b y =>
        rw [List.map_cons, List.map_cons] at h
        injection h with h3 h4
        have := dec_inj h3
        have := hx a (by simp)
        have := hy b (by simp)
        rw [ih y (fun z hz => hx z (by simp [hz])) (fun z hz => hy z (by simp [hz])) h4, show a = b by omega]
  exact key l k a1.2.2 a2.2.2 e3.symm
open Classical in
noncomputable def psR (s : List UInt8) : Option (Int × List Int) := if h : ∃ p : Int × List Int, psGood s p.1 p.2 then some h.choose else none
noncomputable def psN (s : List UInt8) : Int := ((psR s).map (·.1)).getD 0
noncomputable def psL (s : List UInt8) : List Int := ((psR s).map (·.2)).getD []
noncomputable def psOk (s : List UInt8) : Bool := (psR s).isSome
theorem ps_yes {s : List UInt8} {n : Int} {l : List Int} (h : psGood s n l) : psN s = n ∧ psL s = l ∧ psOk s = true := by
  have hex : ∃ p : Int × List Int, psGood s p.1 p.2 := ⟨(n, l), h⟩
  have hc := hex.choose_spec
  have hu := good_uniq hc h
  have e : psR s = some hex.choose := by unfold psR; rw [dif_pos hex]
  unfold psN psL psOk
  rw [e]
  exact ⟨hu.1, hu.2, rfl⟩
theorem ps_no {s : List UInt8} (h : ∀ n l, ¬ psGood s n l) : psN s = 0 ∧ psL s = [] ∧ psOk s = false := by
  have e : psR s = none := by unfold psR; rw [dif_neg (fun ⟨p, hp⟩ => h _ _ hp)]
  unfold psN psL psOk
  rw [e]
  exact ⟨rfl, rfl, rfl⟩
theorem psL_len (s : List UInt8) : (psL s).length ≤ 128 := by
  by_cases h : ∃ n l, psGood s n l
  · obtain ⟨n, l, h⟩ := h
    rw [(ps_yes h).2.1]
    exact (good_range h.1).2.1
  · rw [(ps_no fun n l hg => h ⟨n, l, hg⟩).2.1]; simp
/-! ### What the program's way tells -/
def vals (P : List (List UInt8)) : List Int := P.map fun t => (((pln t).getD 0 : Nat) : Int)
theorem vals_dec {l : List Int} (h : ∀ a ∈ l, 0 ≤ a ∧ a < 128) : vals (l.map fun a => Lib.decDigits a.toNat) = l := by
  unfold vals
  rw [List.map_map]
  conv => rhs; rw [← List.map_id l]
  refine List.map_congr_left fun a ha => ?_
  have := h a ha
  show (((pln (Lib.decDigits a.toNat)).getD 0 : Nat) : Int) = a
  rw [pln_dec _ (by omega)]
  show ((a.toNat : Nat) : Int) = a
  omega
theorem good_pln {s : List UInt8} {n : Int} {l : List Int} (h : psGood s n l) : ∃ f, Lib.cut s [58] = (Lib.decDigits n.toNat, stJ l l.length, f) ∧ pln (Lib.decDigits n.toNat) = some n.toNat ∧ (∀ t ∈ spl 44 (stJ l l.length), (pln t).isSome = true) ∧ vals (spl 44 (stJ l l.length)) = l := by
  have hr := good_range h.1
  refine ⟨true, good_cut h, pln_dec _ (by omega), fun t ht => ?_, ?_⟩
  · rw [good_spl44 h] at ht
    obtain ⟨a, ha, rfl⟩ := List.mem_map.1 ht
    have := hr.2.2 a ha
    rw [pln_dec _ (by omega)]; rfl
  · rw [good_spl44 h, vals_dec hr.2.2]
theorem prog_yes {s x y : List UInt8} {f : Bool} {n : Nat} (hc : Lib.cut s [58] = (x, y, f)) (hx : pln x = some n) (hall : ∀ t ∈ spl 44 y, (pln t).isSome = true) (hok : okSp (n : Int) (vals (spl 44 y)) = true) : psGood s (n : Int) (vals (spl 44 y)) := by
  refine ⟨hok, ?_⟩
  rcases cut_cases 58 s with h | ⟨x', y', rfl, h⟩
  · rw [cut_none h] at hc
    injection hc with h1 h2
    injection h2 with h2 _
    rw [← h2] at hall
    have := hall [] (by simp [spl])
    rw [pln_nil] at this
    cases this
  · rw [cut_at h] at hc
    injection hc with h1 h2
    injection h2 with h2 _
    subst h1 h2
    rw [stA_eq, Int.toNat_natCast, (pln_some hx).1]
    congr 2
    conv => rhs; rw [← spl_join 44 y']
    unfold stJ
    rw [List.take_length]
    congr 1
    unfold vals
    rw [List.map_map]
    conv => rhs; rw [← List.map_id (spl 44 y')]
    refine List.map_congr_left fun t ht => ?_
    have h3 := hall t ht
    cases h4 : pln t with
    | none => rw [h4] at h3; cases h3
    | some m =>
      show Lib.decDigits ((((pln t).getD 0 : Nat) : Int).toNat) = t
      rw [h4]
      show Lib.decDigits ((m : Int).toNat) = t
      rw [Int.toNat_natCast, ← (pln_some h4).1]
theorem prog_no1 {s x y : List UInt8} {f : Bool} (hc : Lib.cut s [58] = (x, y, f)) (hx : pln x = none) : ∀ n l, ¬ psGood s n l := fun n l h => by
  obtain ⟨f', h1, h2, _⟩ := good_pln h
  rw [hc] at h1
  injection h1 with h1 _
  rw [← h1, hx] at h2
  cases h2
theorem prog_no2 {s x y : List UInt8} {f : Bool} (hc : Lib.cut s [58] = (x, y, f)) {t : List UInt8} (ht : t ∈ spl 44 y) (hx : pln t = none) : ∀ n l, ¬ psGood s n l := fun n l h => by
  obtain ⟨f', h1, _, h2, _⟩ := good_pln h
  rw [hc] at h1
  injection h1 with _ h1
  injection h1 with h1 _
  rw [← h1] at h2
  have := h2 t ht
  rw [hx] at this
  cases this
theorem prog_no3 {s x y : List UInt8} {f : Bool} {n : Nat} (hc : Lib.cut s [58] = (x, y, f)) (hx : pln x = some n) (hok : okSp (n : Int) (vals (spl 44 y)) = false) : ∀ n l, ¬ psGood s n l := fun m l h => by
  obtain ⟨f', h1, h2, _, h3⟩ := good_pln h
  rw [hc] at h1
  injection h1 with h1 h4
  injection h4 with h4 _
  have hr := good_range h.1
  rw [← h1, hx] at h2
  rw [← h4] at h3
  have e : (n : Int) = m := by have := Option.some.inj h2; omega
  rw [e, h3, h.1] at hok
  cases hok
/-! ### What the specification's way tells -/
theorem rd_dec {l : List Int} (h : ∀ a ∈ l, 0 ≤ a ∧ a < 128) : (l.map fun a => Lib.decDigits a.toNat).map rdI = l := by
  rw [List.map_map]
  conv => rhs; rw [← List.map_id l]
  refine List.map_congr_left fun a ha => ?_
  have := h a ha
  show rdI (Lib.decDigits a.toNat) = a
  rw [rdI_dec _ (by omega)]
  omega
theorem spec_no1 {s : List UInt8} (h : (spl 58 s).length ≠ 2) : ∀ n l, ¬ psGood s n l := fun n l hg => by
  rw [good_spl58 hg] at h
  exact h rfl
theorem spec_good {s x y : List UInt8} {n : Int} {l : List Int} (hg : psGood s n l) (h : spl 58 s = [x, y]) : rdI x = n ∧ (spl 44 y).map rdI = l := by
  rw [good_spl58 hg] at h
  injection h with h1 h2
  injection h2 with h2 _
  have hr := good_range hg.1
  subst h1 h2
  refine ⟨by rw [rdI_dec _ (by omega)]; omega, ?_⟩
  rw [good_spl44 hg, rd_dec hr.2.2]
theorem spec_no2 {s x y : List UInt8} (h : spl 58 s = [x, y]) (hl : 128 < (spl 44 y).length) : ∀ n l, ¬ psGood s n l := fun n l hg => by
  have h1 := (spec_good hg h).2
  have h2 := (good_range hg.1).2.1
  rw [← h1, List.length_map] at h2
  omega
theorem spec_no3 {s x y : List UInt8} (h : spl 58 s = [x, y]) (hok : ¬ (okSp (rdI x) ((spl 44 y).map rdI) = true ∧ stA (rdI x).toNat ((spl 44 y).map rdI) ((spl 44 y).map rdI).length = s)) : ∀ n l, ¬ psGood s n l := fun n l hg => by
  obtain ⟨h1, h2⟩ := spec_good hg h
  rw [h1, h2] at hok
  exact hok hg
end Go.Proofs.YtdhhcgamhihpjaaDoor
