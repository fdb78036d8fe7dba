/- Contracts: ParseSpace, the program's. -/
import Derived.Test.YtdhhcgamhihpjaaDoorTd
import Derived.Test.YtdhhcgamhihpjaaDoorIs
namespace Go.Proofs.YtdhhcgamhihpjaaDoor
open Go.RowKit
set_option maxRecDepth 100000
set_option linter.unusedSimpArgs false
/-- strings.Cut at a colon. -/
theorem cut_c (S x y : List UInt8) (f : Bool) (w : World) (hS : S.length ≤ 2000000) (hc : Lib.cut S [58] = (x, y, f)) (hT : tab w) :
    Calls Tryd.prog 18 #[.string ⟨S.toArray⟩, .string ⟨#[58]⟩] w fun e w' => e = .returned (.tuple #[.string ⟨x.toArray⟩, .string ⟨y.toArray⟩, .bool f]) ∧ Below w.heap.size w w' := by
  obtain ⟨m, hm⟩ := hT.2.2.1
  have h := strings_Cut ⟨S.toArray⟩ ⟨#[58]⟩ m w (by rw [size_mk]; omega) hm
  have e : Lib.cut (⟨S.toArray⟩ : ByteArray).data.toList (⟨#[58]⟩ : ByteArray).data.toList = (x, y, f) := hc
  rw [e] at h
  refine h.mono ?_
  rintro e w' ⟨rfl, n, rfl⟩
  exact ⟨rfl, ⟨rfl, rfl, rfl, Nat.le_refl _, fun _ _ => rfl⟩⟩
/-- strings.Split at commas. -/
theorem split_c (y : List UInt8) (w : World) (hS : y.length ≤ 2000000) (hT : tab w) :
    Calls Tryd.prog 20 #[.string ⟨y.toArray⟩, .string ⟨#[44]⟩] w fun e w' => ∃ v', e = .returned v' ∧ texts w.heap.size w'.heap.size w' v' (spl 44 y) ∧ Below w.heap.size w w' := by
  obtain ⟨m, hm⟩ := hT.2.2.1
  refine (strings_Split ⟨y.toArray⟩ ⟨#[44]⟩ m w (by rw [size_mk]; omega) hm (Nat.le_refl 1)).mono ?_
  rintro e w' ⟨rfl, rfl⟩
  have h1 := countB_spl 44 y
  rw [splitB_spl, h1]
  have hz : (w.alloc (.cells (((spl 44 y).map fun t => (⟨t.toArray⟩ : ByteArray)).map Value.string).toArray 9)).heap.size = w.heap.size + 1 := by simp
  refine ⟨_, rfl, ⟨w.heap.size, 0, _, rfl, ⟨Nat.le_refl _, by omega⟩, by omega, fun j hj => ?_⟩, (Below.refl _ _).alloc (Nat.le_refl _) _⟩
  rw [Nat.zero_add, hp_cell (hp_last _ _)]
  simp [List.getElem?_eq_getElem hj, strV]
attribute [local irreducible] p2 low memB risB
theorem vals_snoc (Y : List (List UInt8)) (k : Nat) (hk : k < Y.length) : vals (Y.take (k + 1)) = vals (Y.take k) ++ [opN (pln (Y[k]?.getD []))] := by
  unfold vals
  rw [List.take_add_one, List.map_append, List.getElem?_eq_getElem hk]
  rfl
set_option maxHeartbeats 4000000 in
theorem implParseSpace_c (S : List UInt8) (w : World) (hS : S.length ≤ 2000000) (hT : tab w) :
    Calls Tryd.prog 6 #[.string ⟨S.toArray⟩] w fun e w' => ∃ v', e = .returned (.tuple #[.agg #[.int .i64 (psN S), v'], .bool (psOk S)]) ∧ own 3 w' w.heap.size v' (psL S) ∧ Below w.heap.size w w' := by
  have HR0 := hide (hp_last w (.cells #[.int .i64 0, .slice none 0 0] 24))
  have H0 := hide ((Below.refl w.heap.size w).alloc (Nat.le_refl _) (.cells #[.int .i64 0, .slice none 0 0] 24))
  have HZ0 := hide (show (w.alloc (.cells #[.int .i64 0, .slice none 0 0] 24)).heap.size = w.heap.size + 1 by simp)
  have HT := hide hT
  have HT0 := hide (hT.alloc (.cells #[.int .i64 0, .slice none 0 0] 24))
  clear hT
  obtain ⟨x, y, f, hcut⟩ : ∃ x y f, Lib.cut S [58] = (x, y, f) := ⟨_, _, _, rfl⟩
  have hxy : x.length ≤ S.length ∧ y.length ≤ S.length := by
    rcases cut_cases 58 S with h | ⟨a, b, rfl, h⟩
    · rw [cut_none h] at hcut
      injection hcut with h1 h2
      injection h2 with h2 _
      subst h1 h2
      simp
    · rw [cut_at h] at hcut
      injection hcut with h1 h2
      injection h2 with h2 _
      subst h1 h2
      simp; omega
  have HCU := hide (fun (w' : World) => cut_c S x y f w' hS hcut)
  have HPX := hide (fun (w' : World) => plainNumber_c x w' (by omega))
  have HCT := hide hcut
  cases hpx : pln x with
  | none =>
    have HN := hide (ps_no (prog_no1 hcut hpx))
    rw [hpx] at HPX
    clear hcut hpx
    generalize (⟨S.toArray⟩ : ByteArray) = T at HCU ⊢
    go_enter Tryd.func6, Tryd.ntmps6
    go_wp2_with (first
      | (go_at_call 18; refine (HCU.out _ HT0.out).mono ?_; rintro e w1 ⟨rfl, hb1⟩; have hz1 := hb1.size; rw [HZ0.out] at hz1; have HR1 := hide ((hb1.block w.heap.size (by rw [HZ0.out]; omega)).trans HR0.out); have HB1 := hide (H0.out.trans (hb1.mono (by rw [HZ0.out]; omega))); have HT1 := hide (HT0.out.below hb1); clear hb1 HCU)
      | (go_at_call 19; refine (HPX.out _ HT1.out).mono ?_; rintro e w2 ⟨rfl, hb2⟩; obtain ⟨q0, q1, q2, q3⟩ := zero_slotsQ ((hb2.block w.heap.size (by omega)).trans HR1.out); have HB2 := hide (HB1.out.trans (hb2.mono (by omega))); clear hb2))
    refine bodyPost_ret (v := .tuple #[.agg #[.int .i64 0, .slice none 0 0], .bool false]) (by simp [results, Tryd.results6, go_sem, q0, q1]) rfl ⟨_, by rw [HN.out.1, HN.out.2.2], by rw [HN.out.2.1]; exact own_nil _ _ _, ?_⟩
    first | exact HB2.out | exact (HB2.out.setCell (by show w.heap.size ≤ w.heap.size; omega) _).setCell (by show w.heap.size ≤ w.heap.size; omega) _
  | some n =>
    rw [hpx] at HPX
    have HPN := hide hpx
    have hyp : 0 < (spl 44 y).length := by
      cases h : spl 44 y with
      | nil => exact absurd h (spl_ne 44 y)
      | cons _ _ => simp
    have HYP := hide (spl_piece_le 44 y)
    have hylen := spl_length_le 44 y
    have HSP := hide (fun (w' : World) (h : tab w') => split_c y w' (by omega) h)
    have HN2 := hide (fun (t : List UInt8) (h : t ∈ spl 44 y) (h2 : pln t = none) => ps_no (prog_no2 hcut h h2))
    have HN3 := hide (fun h => ps_no (prog_no3 hcut hpx h))
    have HYS := hide (fun h h2 => ps_yes (prog_yes hcut hpx h h2))
    have hon : opN (some n) = (n : Int) := rfl
    rw [hon] at HPX
    clear hcut hpx hon
    go_enter Tryd.func6, Tryd.ntmps6
    go_wp2_with (first
      | (go_at_call 18; refine (HCU.out _ HT0.out).mono ?_; rintro e w1 ⟨rfl, hb1⟩; have hz1 := hb1.size; rw [HZ0.out] at hz1; have HR1 := hide ((hb1.block w.heap.size (by rw [HZ0.out]; omega)).trans HR0.out); have HB1 := hide (H0.out.trans (hb1.mono (by rw [HZ0.out]; omega))); have HT1 := hide (HT0.out.below hb1); clear hb1 HCU)
      | (go_at_call 19; refine (HPX.out _ HT1.out).mono ?_; rintro e w2 ⟨rfl, hb2⟩; have hz2 := hb2.size; have HR2 := hide ((hb2.block w.heap.size (by omega)).trans HR1.out); have HB2 := hide (HB1.out.trans (hb2.mono (by omega))); have HT2 := hide (HT1.out.below hb2); clear hb2 HPX)
      | (go_at_call 20; refine (HSP.out _ (HT2.out.alloc (.cells #[.int .i64 (n : Int), .slice none 0 0] 24))).mono ?_; rintro e w3 ⟨v3, rfl, ht3, hb3⟩; have HZ2 := hide (show (w2.alloc (.cells #[.int .i64 (n : Int), .slice none 0 0] 24)).heap.size = w2.heap.size + 1 by simp); have HC3 := hide ((hb3.block w2.heap.size (by rw [HZ2.out]; omega)).trans (hp_last w2 (.cells #[.int .i64 (n : Int), .slice none 0 0] 24))); have HT3 := hide ((HT2.out.alloc (.cells #[.int .i64 (n : Int), .slice none 0 0] 24)).below hb3); have hz3 := hb3.size; rw [HZ2.out] at hz3 ht3; have HTX3 := hide ht3; have HB3 := hide (((Below.refl w2.heap.size w2).alloc (Nat.le_refl _) (.cells #[.int .i64 (n : Int), .slice none 0 0] 24)).trans (hb3.mono (by rw [HZ2.out]; omega))); clear ht3 hb3 HSP)
      | (refine wpList_lenT sliceStr rfl (.tmp 31) rfl _ rfl _ _ (spl 44 y) HTX3.out ?_))
    generalize hY : spl 44 y = Y at HTX3 hyp HYP hylen HN2 HN3 HYS ⊢
    clear hY
    go_loopw [33] (fun iv wr => ∃ (k : Nat) (v' : Value), k ≤ Y.length ∧ iv = .int .i64 (k : Int) ∧ Hid (wr.heap[w2.heap.size]? = some (.cells #[.int .i64 (n : Int), v'] 24)) ∧ Hid (own 3 wr w3.heap.size v' (vals (Y.take k))) ∧ Hid (texts (w2.heap.size + 1) w3.heap.size wr v3 Y) ∧ w3.heap.size ≤ wr.heap.size ∧ Hid (Below w2.heap.size w2 wr) ∧ Hid (∀ t ∈ Y.take k, (pln t).isSome = true)) (fun iv _ => Y.length - (intOf iv).toNat)
    case atStart => exact ⟨0, _, Nat.zero_le _, rfl, HC3, own_nil _ _ _, HTX3, Nat.le_refl _, HB3, hide (fun t ht => by simp at ht)⟩
    case round =>
      obtain ⟨k, v', hk, rfl, HC, HO, HTX, hsz, HB, HALL⟩ := hrel
      clear HC3 HTX3 HB3
      have c0 := cells_at0 HC.out
      have c1 := cells_at1 HC.out
      have f1 := hp_free HC.out 1
      have HR := hide ((HB.out.block w.heap.size (by omega)).trans HR2.out)
      have HTW := hide (HT2.out.belowB HT2.out HB.out (Nat.le_refl _))
      have HBW := hide (HB2.out.trans (HB.out.mono (by omega)))
      have hml : (vals (Y.take k)).length = k := by unfold vals; rw [List.length_map, List.length_take]; omega
      obtain ⟨va, vc, hv⟩ := HO.out.shape
      rw [hml] at hv
      subst hv
      by_cases hlt : k < Y.length
      · have hlt2 : (k : Int) < (Y.length : Int) := by omega
        have HTK := hide (vals_snoc Y k hlt)
        have hmem : Y[k]?.getD [] ∈ Y := by rw [List.getElem?_eq_getElem hlt]; exact List.getElem_mem hlt
        have hzy := HYP.out _ hmem
        have HMZ := hide hmem
        have HTA := hide (show Y.take (k + 1) = Y.take k ++ [Y[k]?.getD []] by rw [List.take_add_one, List.getElem?_eq_getElem hlt]; rfl)
        generalize hzz : Y[k]?.getD [] = z at HTK hzy HMZ HTA
        have HZZ := hide hzz
        have HPZ := hide (fun (w' : World) => plainNumber_c z w' (by omega))
        clear hzz hmem
        generalize vals (Y.take k) = M at HO HTK hml
        cases hpz : pln z with
        | none =>
          have HN := hide (HN2.out z HMZ.out hpz)
          rw [hpz] at HPZ
          clear hpz
          go_wp2_with (first
            | (refine wpList_atT sliceStr sizeStr rfl (.tmp 31) (.tmp 33) rfl _ rfl _ rfl k rfl _ _ Y HTX.out hlt ?_; intro ad hc; rw [HZZ.out] at hc)
            | (go_at_call 19; refine (HPZ.out _ HTW.out).mono ?_; rintro e w4 ⟨rfl, hb4⟩; obtain ⟨q0, q1, q2, q3⟩ := zero_slotsQ ((hb4.block w.heap.size (by omega)).trans HR.out); have HB4 := hide (HBW.out.trans (hb4.mono (by omega))); clear hb4))
          refine bodyPost_ret (v := .tuple #[.agg #[.int .i64 0, .slice none 0 0], .bool false]) (by simp [results, Tryd.results6, go_sem, q0, q1]) rfl ⟨_, by rw [HN.out.1, HN.out.2.2], by rw [HN.out.2.1]; exact own_nil _ _ _, ?_⟩
          first | exact HB4.out | exact (HB4.out.setCell (by show w.heap.size ≤ w.heap.size; omega) _).setCell (by show w.heap.size ≤ w.heap.size; omega) _
        | some m =>
          have HAL2 := hide (show ∀ t ∈ Y.take (k + 1), (pln t).isSome = true from fun t ht => by
            rw [HTA.out, List.mem_append] at ht
            rcases ht with ht | ht
            · exact HALL.out t ht
            · rw [List.mem_singleton] at ht; subst ht; rw [hpz]; rfl)
          rw [hpz] at HPZ HTK
          have hon : opN (some m) = (m : Int) := rfl
          rw [hon] at HPZ HTK
          clear hpz hon
          go_wp2_with (first
            | (refine wpList_atT sliceStr sizeStr rfl (.tmp 31) (.tmp 33) rfl _ rfl _ rfl k rfl _ _ Y HTX.out hlt ?_; intro ad hc; rw [HZZ.out] at hc)
            | (go_at_call 19; refine (HPZ.out _ HTW.out).mono ?_; rintro e w4 ⟨rfl, hb4⟩; have hz4 := hb4.size; have hc4 := (hb4.block w2.heap.size (by omega)).trans HC.out; have e1 := cells_at1 hc4; have HC4 := hide hc4; have HO4 := hide (HO.out.kept hb4); have HTX4 := hide (HTX.out.below hb4 hsz); have HB4 := hide (HB.out.trans (hb4.mono (by omega))); clear hb4 hc4 c0 c1 hc f1)
            | (at_builtin; refine wpList_append1 sliceT intI rfl (.tmp 46) (.tmp 48) rfl w3.heap.size _ M rfl (HO4.out.alloc _) _ (m : Int) rfl (by simp [go_sem]) (by simp; omega) (by omega) ?_; intro v5 w5 ho5 hb5; obtain ⟨sa, sc, hv5⟩ := ho5.shape; rw [List.length_append, List.length_singleton, hml] at hv5; subst hv5; have hz5 := hb5.size; simp only [World.size_alloc] at hz5; have hbw : Below w3.heap.size w4 w5 := (((Below.refl w4.heap.size w4).alloc (Nat.le_refl _) (.cells #[.int .i64 (m : Int)] 3)).mono (by omega)).trans hb5; have hc5 := (hbw.block w2.heap.size (by omega)).trans HC4.out; have f15 := hp_free hc5 1; have c15 := cells_at1 hc5; have HC5 := hide (bareN hc5 (.slice sa (k + 1) sc)); have HO5 := hide (show own 3 (w5.setCell ⟨w2.heap.size, 1, none⟩ (.slice sa (k + 1) sc)) w3.heap.size (.slice sa (k + 1) sc) (vals (Y.take (k + 1))) by rw [HTK.out]; exact ho5.setLow ⟨w2.heap.size, 1, none⟩ (by show w2.heap.size < w3.heap.size; omega) _); have HTX5 := hide ((HTX4.out.below hbw (Nat.le_refl _)).setLow w2.heap.size 1 (by omega) (.slice sa (k + 1) sc)); have HB5 := hide ((HB4.out.trans (hbw.mono (by omega))).setCell (p := ⟨w2.heap.size, 1, none⟩) (Nat.le_refl _) (.slice sa (k + 1) sc)); have hz6 : w3.heap.size ≤ (w5.setCell ⟨w2.heap.size, 1, none⟩ (.slice sa (k + 1) sc)).heap.size := (by simp [World.setCell]; omega); clear ho5 hb5 hbw hc5 e1))
          go_roundw
          case rel => exact ⟨k + 1, _, by omega, by go_num, HC5, HO5, HTX5, hz6, HB5, HAL2⟩
          case measure => simp [intOf]; omega
      · have hkl : k = Y.length := by omega
        have hlt2 : ¬ ((k : Int) < (Y.length : Int)) := by omega
        have hmt : Y.take k = Y := by rw [hkl, List.take_length]
        rw [hmt] at HO hml HALL
        have hYS := HYS.out HALL.out
        clear hmt hkl HYS
        have HIX := hide (show ints wr.heap.size wr (.slice va k vc) (vals Y) from HO.out.ints)
        generalize vals Y = M at HO hml HN3 hYS HIX
        have HYS := hide hYS
        have hMl : M.length < 1000000000 := by omega
        clear hYS
        cases hok : okSp (n : Int) M
        · have HN := hide (HN3.out hok)
          have HK := hide hok
          clear hok f1
          go_wp2_with (go_at_call 21; refine (implIsSpace_c (n : Int) _ M _ HIX.out hMl).mono ?_; rw [HK.out]; rintro e w4 ⟨rfl, hb4⟩; obtain ⟨q0, q1, q2, q3⟩ := zero_slotsQ ((hb4.block w.heap.size (by omega)).trans HR.out); have HB4 := hide (HBW.out.trans (hb4.mono (by omega))); clear hb4)
          refine bodyPost_ret (v := .tuple #[.agg #[.int .i64 0, .slice none 0 0], .bool false]) (by simp [results, Tryd.results6, go_sem, q0, q1]) rfl ⟨_, by rw [HN.out.1, HN.out.2.2], by rw [HN.out.2.1]; exact own_nil _ _ _, ?_⟩
          first | exact HB4.out | exact (HB4.out.setCell (by show w.heap.size ≤ w.heap.size; omega) _).setCell (by show w.heap.size ≤ w.heap.size; omega) _
        · have HG2 := hide (HYS.out hok)
          have HK := hide hok
          clear hok f1
          go_wp2_with (go_at_call 21; refine (implIsSpace_c (n : Int) _ M _ HIX.out hMl).mono ?_; rw [HK.out]; rintro e w4 ⟨rfl, hb4⟩; have hz4 := hb4.size; obtain ⟨q0, q1, q2, q3⟩ := zero_slotsQ ((hb4.block w.heap.size (by omega)).trans HR.out); have hc4 := (hb4.block w2.heap.size (by omega)).trans HC.out; have e0 := cells_at0 hc4; have e1 := cells_at1 hc4; have HO4 := hide (HO.out.kept hb4); have HB4 := hide (HBW.out.trans (hb4.mono (by omega))); clear hb4 hc4 c0 c1)
          refine bodyPost_ret (v := .tuple #[.agg #[.int .i64 (n : Int), .slice va k vc], .bool true]) (by simp [results, Tryd.results6, go_sem, q0, q1]) rfl ⟨_, by rw [HG2.out.1, HG2.out.2.2], ?_, ?_⟩
          · rw [HG2.out.2.1]
            exact ((HO4.out.setLow ⟨w.heap.size, 0, none⟩ (by show w.heap.size < w3.heap.size; omega) _).setLow ⟨w.heap.size, 1, none⟩ (by show w.heap.size < w3.heap.size; omega) _).mono (by omega)
          · exact (HB4.out.setCell (by show w.heap.size ≤ w.heap.size; omega) _).setCell (by show w.heap.size ≤ w.heap.size; omega) _
end Go.Proofs.YtdhhcgamhihpjaaDoor
