/- Contracts: the text of a word, the specification's and the program's. -/
import Derived.Test.YtcingpgehmdhdaaBs
import Derived.Test.YtcingpgehmdhdaaPs
import Derived.Test.YtcingpgehmdhdaaLawA
import Derived.Test.YtcingpgehmdhdaaHar
namespace Go.Proofs.Ytcingpgehmdhdaa
open Go.RowKit
set_option maxRecDepth 100000
theorem sliceU : Try.prog.underlying 62 = some (.slice 5) := Try.underlying62
theorem byteU : Try.prog.underlying 5 = some (.int .u8) := Try.underlying5
theorem stringU : Try.prog.underlying 9 = some .string := Try.underlying9
theorem byteI : (Try.prog.info? 5).map (fun i => (i.zero, i.size, i.bytes)) = some (some (.int .u8 0), 1, 1) := by kernel_rfl
def wtB (l : List Int) : Bool := decide (l.length ≤ 20) && allTo 0 9 l l.length
def dg (l : List Int) : List Int := l.map fun x => 48 + x
def wtS (l : List Int) : ByteArray := if wtB l then (if l = [] then ⟨#[45]⟩ else textOf (dg l)) else ⟨#[]⟩
theorem wtS_no {l : List Int} (h : wtB l = false) : wtS l = ⟨#[]⟩ ∧ wtB l = false := by simp [wtS, h]
theorem wtS_nil : wtS [] = ⟨#[45]⟩ ∧ wtB [] = true := by
  have : wtB [] = true := rfl
  simp [wtS, this]
theorem wtS_yes {l : List Int} (h : wtB l = true) (h0 : l ≠ []) : wtS l = textOf (dg l) ∧ wtB l = true := by simp [wtS, h, h0]
theorem dg_take {l : List Int} {k : Nat} (h : k < l.length) : dg (l.take (k + 1)) = dg (l.take k) ++ [48 + (l[k]?.getD 0)] := by
  unfold dg
  rw [List.take_add_one, List.map_append, List.getElem?_eq_getElem h]
  rfl
theorem dg_len (l : List Int) : (dg l).length = l.length := by simp [dg]
theorem text_ne {l : List Int} (h : 1 ≤ l.length) : textOf l ≠ ⟨#[]⟩ := fun e => by
  have := textOf_size l
  rw [e] at this
  have h2 : (⟨#[]⟩ : ByteArray).size = 0 := rfl
  omega
attribute [local irreducible] p2 low memB risB textOf
theorem l1Num_c (n : Int) (w : World) (h0 : 0 ≤ n) (h9 : n ≤ 9) :
    Calls Try.prog 42 #[.int .i64 n] w fun e w' => e = .returned (.string (textOf [48 + n])) ∧ Below w.heap.size w w' := by
  have hlt : n < 10 := by omega
  have H0 := hide ((Below.refl w.heap.size w).alloc (Nat.le_refl _) (.cells #[.int .u8 (48 + n)] 5))
  go_enter Try.func42, Try.ntmps42
  go_wp2_with (refine wpList_text sliceU byteU stringU rfl (.tmp _) rfl _ rfl _ (bytesAt_one _ _ _) ?_)
  go_ret
  exact ⟨rfl, H0.out⟩
set_option maxHeartbeats 1000000 in
theorem specWordText_c (v : Value) (l : List Int) (w : World) (hl : ints w.heap.size w v l) (hlen : l.length < 1000000000) :
    Calls Try.prog 17 #[v] w fun e w' => e = .returned (.tuple #[.string (wtS l), .bool (wtB l)]) ∧ Below w.heap.size w w' := by
  have HL := hide hl
  clear hl
  by_cases h20 : 20 < l.length
  · have hgt : (20 : Int) < (l.length : Int) := by omega
    have HX := hide (wtS_no (l := l) (by unfold wtB; rw [decide_eq_false (by omega), Bool.false_and]))
    go_enter Try.func17, Try.ntmps17
    go_wp2_with (refine wpList_len sliceT rfl (.tmp _) rfl _ rfl _ l HL.out ?_)
    refine bodyPost_ret (v := .tuple #[.string (⟨#[]⟩), .bool false]) (by simp [results, Try.results17, go_sem]) rfl ⟨by rw [HX.out.1, HX.out.2], Below.refl _ _⟩
  have hgt : ¬ (20 : Int) < (l.length : Int) := by omega
  have HD := hide (show wtB l = allTo 0 9 l l.length by unfold wtB; rw [decide_eq_true (by omega), Bool.true_and])
  cases ha : allTo 0 9 l l.length
  · have HA := hide ha
    have HX := hide (wtS_no (l := l) (HD.out.trans ha))
    clear ha
    go_enter Try.func17, Try.ntmps17
    go_wp2_with (first
      | (refine wpList_len sliceT rfl (.tmp _) rfl _ rfl _ l HL.out ?_)
      | (go_at_call 41; refine (l1All_c _ l 0 9 _ HL.out hlen).mono ?_; rw [HA.out]; rintro e w' ⟨rfl, rfl⟩))
    refine bodyPost_ret (v := .tuple #[.string (⟨#[]⟩), .bool false]) (by simp [results, Try.results17, go_sem]) rfl ⟨by rw [HX.out.1, HX.out.2], Below.refl _ _⟩
  · have HA := hide ha
    have HT := hide (HD.out.trans ha)
    have HR := hide ((allTo_iff 0 9 l l.length).1 ha)
    clear ha
    go_enter Try.func17, Try.ntmps17
    go_wp2_with (first
      | (refine wpList_len sliceT rfl (.tmp _) rfl _ rfl _ l HL.out ?_)
      | (go_at_call 41; refine (l1All_c _ l 0 9 _ HL.out hlen).mono ?_; rw [HA.out]; rintro e w' ⟨rfl, rfl⟩))
    go_loopw [4, 17] (fun s i wr => ∃ k : Nat, k ≤ l.length ∧ i = .int .i64 (k : Int) ∧ s = .string (textOf (dg (l.take k))) ∧ Hid (Below w.heap.size w wr)) (fun _ i _ => l.length - (intOf i).toNat)
    case atStart => exact ⟨0, Nat.zero_le _, rfl, by rw [List.take_zero, show dg [] = [] from rfl, textOf_nil], Below.refl _ _⟩
    case round =>
      obtain ⟨k, hk, rfl, rfl, HB⟩ := hrel
      have hsz := HB.out.size
      have HLW := hide (HL.out.below HB.out (Nat.le_refl _))
      have hts := textOf_size (dg (l.take k))
      rw [dg_len, List.length_take] at hts
      by_cases hlt : k < l.length
      · have hr := HR.out k hlt
        have HN := hide (show textOf (dg (l.take (k + 1))) = textOf (dg (l.take k)) ++ textOf [48 + (l[k]?.getD 0)] by rw [dg_take hlt, textOf_snoc])
        generalize hx : l[k]?.getD 0 = x at hr HN
        have HX := hide hx
        clear hx
        have hsx := textOf_size [48 + x]
        generalize textOf (dg (l.take k)) = A at HN hts ⊢
        have hsum : ¬ (9223372036854775807 < A.size + (textOf [48 + x]).size) := by rw [hsx]; simp; omega
        go_wp2_with (first
          | (refine wpList_at sliceT intS rfl (.tmp _) (.tmp _) rfl _ rfl k rfl w.heap.size l HLW.out hlt ?_; intro ad hcell hblk; rw [HX.out] at hcell)
          | (go_at_call 42; refine (l1Num_c x wr hr.1 hr.2).mono ?_; rintro e w1 ⟨rfl, hb1⟩; have HB1 := hide (HB.out.trans (hb1.mono (by omega))); clear hb1))
        go_roundw
        case rel => exact ⟨k + 1, by omega, by go_num, by rw [HN.out], HB1⟩
        case measure => simp [intOf]; omega
      · have hlt' : ¬ ((k : Int) < (l.length : Int)) := by omega
        have hkl : k = l.length := by omega
        subst hkl
        rw [List.take_length] at *
        by_cases h0 : l = []
        · subst h0
          have HX := hide wtS_nil
          rw [show dg [] = [] from rfl, textOf_nil]
          go_wp2
          refine bodyPost_ret (v := .tuple #[.string (⟨#[45]⟩), .bool true]) (by simp [results, Try.results17, go_sem]) rfl ⟨by rw [HX.out.1, HX.out.2], HB.out⟩
        · have HX := hide (wtS_yes HT.out h0)
          have hpos : 1 ≤ l.length := by rcases l with _ | ⟨x, l⟩ <;> simp at h0 ⊢
          have hne := text_ne (l := dg l) (by rw [dg_len]; exact hpos)
          have hnl : (textOf (dg l)).toList ≠ [] := fun e => by rw [ByteArray.toList_eq] at e; exact hne (ByteArray.ext (Array.toList_inj.1 e))
          have hnb : ((textOf (dg l)).toList == []) = false := by cases hq : (textOf (dg l)).toList <;> simp_all
          have hnc : (textOf (dg l)).toList.isEmpty = false := by cases hq : (textOf (dg l)).toList <;> simp_all
          generalize textOf (dg l) = A at HX hne hnl hnb hnc ⊢
          go_wp2
          refine bodyPost_ret (v := .tuple #[.string (A), .bool true]) (by simp [results, Try.results17, go_sem]) rfl ⟨by rw [HX.out.1, HX.out.2], HB.out⟩
theorem wtB_no {l : List Int} {k : Nat} (hk : k < l.length) (h : ¬ (0 ≤ l[k]?.getD 0 ∧ l[k]?.getD 0 ≤ 9)) : wtB l = false := by
  cases hb : wtB l
  · rfl
  · unfold wtB at hb
    rw [Bool.and_eq_true] at hb
    exact absurd ((allTo_iff 0 9 l l.length).1 hb.2 k hk) h
theorem wtB_all {l : List Int} (h20 : l.length ≤ 20) (h : ∀ j, j < l.length → 0 ≤ l[j]?.getD 0 ∧ l[j]?.getD 0 ≤ 9) : wtB l = true := by
  unfold wtB
  rw [decide_eq_true h20, Bool.true_and]
  exact (allTo_iff 0 9 l l.length).2 h
set_option maxHeartbeats 1000000 in
theorem implWordText_c (v : Value) (l : List Int) (w : World) (hl : ints w.heap.size w v l) (hlen : l.length < 1000000000) :
    Calls Try.prog 19 #[v] w fun e w' => e = .returned (.tuple #[.string (wtS l), .bool (wtB l)]) ∧ Below w.heap.size w w' := by
  have HL := hide hl
  clear hl
  by_cases h20 : 20 < l.length
  · have hgt : (20 : Int) < (l.length : Int) := by omega
    have HX := hide (wtS_no (l := l) (by unfold wtB; rw [decide_eq_false (by omega), Bool.false_and]))
    go_enter Try.func19, Try.ntmps19
    go_wp2_with (refine wpList_len sliceT rfl (.tmp _) rfl _ rfl _ l HL.out ?_)
    refine bodyPost_ret (v := .tuple #[.string (⟨#[]⟩), .bool false]) (by simp [results, Try.results19, go_sem]) rfl ⟨by rw [HX.out.1, HX.out.2], Below.refl _ _⟩
  have hgt : ¬ (20 : Int) < (l.length : Int) := by omega
  by_cases h0 : l.length = 0
  · have hb0 : ((l.length : Int) == 0) = true := by rw [h0]; rfl
    have hl0 : l = [] := List.eq_nil_of_length_eq_zero h0
    have HX := hide wtS_nil
    subst hl0
    clear h0
    go_enter Try.func19, Try.ntmps19
    go_wp2_with (refine wpList_len sliceT rfl (.tmp _) rfl _ rfl _ [] HL.out ?_)
    refine bodyPost_ret (v := .tuple #[.string (⟨#[45]⟩), .bool true]) (by simp [results, Try.results19, go_sem]) rfl ⟨by rw [HX.out.1, HX.out.2], Below.refl _ _⟩
  have hb0 : ((l.length : Int) == 0) = false := beq_eq_false_iff_ne.2 (by omega)
  go_enter Try.func19, Try.ntmps19
  go_wp2_with (refine wpList_len sliceT rfl (.tmp _) rfl _ rfl _ l HL.out ?_)
  go_loopw [4, 15] (fun s i wr => ∃ k : Nat, k ≤ l.length ∧ i = .int .i64 (k : Int) ∧ Hid (ownU 5 wr w.heap.size s (dg (l.take k))) ∧ Hid (∀ j, j < k → 0 ≤ l[j]?.getD 0 ∧ l[j]?.getD 0 ≤ 9) ∧ Hid (Below w.heap.size w wr)) (fun _ i _ => l.length - (intOf i).toNat)
  case atStart => exact ⟨0, Nat.zero_le _, rfl, ownU_nil _ _ _, fun j hj => by omega, Below.refl _ _⟩
  case round =>
    obtain ⟨k, hk, rfl, HO, HJ, HB⟩ := hrel
    have hsz := HB.out.size
    have HLW := hide (HL.out.below HB.out (Nat.le_refl _))
    obtain ⟨sa, sc, hsv⟩ := HO.out.shape
    have hdl : (dg (l.take k)).length = k := by rw [dg_len, List.length_take]; omega
    rw [hdl] at hsv
    subst hsv
    by_cases hlt : k < l.length
    · have HN := hide (dg_take hlt)
      have HNO := hide (fun h => wtB_no (l := l) hlt h)
      have HJN := hide (fun (h : 0 ≤ l[k]?.getD 0 ∧ l[k]?.getD 0 ≤ 9) => show ∀ j, j < k + 1 → 0 ≤ l[j]?.getD 0 ∧ l[j]?.getD 0 ≤ 9 from fun j hj => by
        rcases Nat.lt_or_ge j k with h1 | h1
        · exact HJ.out j h1
        · rw [show j = k by omega]; exact h)
      generalize dg (l.take k) = D at HO hdl HN
      generalize hx : l[k]?.getD 0 = x at HN HNO HJN
      have HX := hide hx
      clear hx
      by_cases hr : 0 ≤ x ∧ x ≤ 9
      · have hx0 : ¬ x < 0 := by omega
        have hx9 : ¬ (9 : Int) < x := by omega
        have HJ2 := hide (HJN.out hr)
        have H0 := hide (HO.out.alloc (.cells #[.int .u8 (48 + x)] 5))
        have HB0 := hide (HB.out.alloc hsz (.cells #[.int .u8 (48 + x)] 5))
        have hT : (wr.alloc (.cells #[.int .u8 (48 + x)] 5)).cell? ⟨wr.heap.size, 0, none⟩ = some (.int .u8 (48 + x)) := by rw [hp_cell (hp_last _ _)]; rfl
        have hz0 : (wr.alloc (.cells #[.int .u8 (48 + x)] 5)).heap.size = wr.heap.size + 1 := by simp
        go_wp2_with (first
          | (refine wpList_at sliceT intS rfl (.tmp _) (.tmp _) rfl _ rfl k rfl w.heap.size l HLW.out hlt ?_; intro ad hcell hblk; rw [HX.out] at hcell)
          | (at_builtin; refine wpList_appendU sliceU byteI rfl (.tmp 25) (.tmp 29) rfl w.heap.size _ D rfl H0.out _ (48 + x) rfl hT (by omega) (by omega) ?_; intro v3 w3 ho3 hb3; have HO3 := hide ho3; have HB3 := hide (HB0.out.trans hb3); clear ho3 hb3))
        go_roundw
        case rel => exact ⟨k + 1, by omega, by go_num, by rw [HN.out]; exact HO3, HJ2, HB3⟩
        case measure => (simp [intOf] <;> omega)
      · have HX2 := hide (wtS_no (HNO.out hr))
        have HX0 := HX
        clear HX
        have HX := HX2
        by_cases hx0 : x < 0
        · go_wp2_with (refine wpList_at sliceT intS rfl (.tmp _) (.tmp _) rfl _ rfl k rfl w.heap.size l HLW.out hlt ?_; intro ad hcell hblk; rw [HX0.out] at hcell)
          refine bodyPost_ret (v := .tuple #[.string (⟨#[]⟩), .bool false]) (by simp [results, Try.results19, go_sem]) rfl ⟨by rw [HX.out.1, HX.out.2], HB.out⟩
        · have hx9 : (9 : Int) < x := by omega
          go_wp2_with (refine wpList_at sliceT intS rfl (.tmp _) (.tmp _) rfl _ rfl k rfl w.heap.size l HLW.out hlt ?_; intro ad hcell hblk; rw [HX0.out] at hcell)
          refine bodyPost_ret (v := .tuple #[.string (⟨#[]⟩), .bool false]) (by simp [results, Try.results19, go_sem]) rfl ⟨by rw [HX.out.1, HX.out.2], HB.out⟩
    · have hlt' : ¬ ((k : Int) < (l.length : Int)) := by omega
      have hkl : k = l.length := by omega
      subst hkl
      have HX := hide (wtS_yes (wtB_all (by omega) HJ.out) (fun e => h0 (by rw [e]; rfl)))
      rw [List.take_length] at HO hdl
      generalize dg l = D at HO hdl HX
      have HBY := hide (HO.out.bytes (by omega))
      go_wp2_with (refine wpList_text sliceU byteU stringU rfl (.tmp _) rfl _ rfl D (by rw [hdl] at *; exact HBY.out) ?_)
      refine bodyPost_ret (v := .tuple #[.string (textOf D), .bool true]) (by simp [results, Try.results19, go_sem]) rfl ⟨by rw [HX.out.1, HX.out.2], HB.out⟩
end Go.Proofs.Ytcingpgehmdhdaa
