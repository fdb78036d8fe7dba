/- Contracts: SwapWay: the specification's and the program's. -/
import Derived.Test.YtagahoaogfogkaaSy
namespace Go.Proofs.Ytagahoaogfogkaa
open Go.RowKit
set_option maxRecDepth 100000
theorem swW_next (a b : List Int) (k p : Nat) (hp : plc (swW a b k) (b[k]?.getD 0) = p) : swW a b (k + 1) = bub (swW a b k) p (p - k) ∧ swQ a b (k + 1) = swQ a b k ++ bubP p (p - k) := by
  subst hp; exact ⟨rfl, rfl⟩
theorem bub_next (l : List Int) (p d q : Nat) (h : p - 1 - d = q) : bub l p (d + 1) = swL (bub l p d) q ∧ bubP p (d + 1) = bubP p d ++ [(q : Int)] := by
  subst h; exact ⟨rfl, rfl⟩
attribute [local irreducible] p2 low memB risB
set_option maxHeartbeats 4000000 in
theorem implSwapWay_c (n : Int) (v : Value) (l : List Int) (ua : Value) (a : List Int) (ub : Value) (b : List Int) (w : World) (hl : ints w.heap.size w v l) (hlen : l.length < 1000000000) (ha : ints w.heap.size w ua a) (hal : a.length < 1000000000) (hb : ints w.heap.size w ub b) (hbl : b.length < 1000000000) :
    Calls Try.prog 26 #[.agg #[.int .i64 n, v], ua, ub] w fun e w' => ∃ v', e = .returned (.tuple #[v', .bool (wyB n l a b)]) ∧ own 3 w' w.heap.size v' (wyL n l a b) ∧ Below w.heap.size w w' := by
  have HL := hide ((hl.alloc (.cells #[.int .i64 n, v] 26)).mono (show w.heap.size ≤ (w.alloc (.cells #[.int .i64 n, v] 26)).heap.size by simp))
  have HA := hide ((ha.alloc (.cells #[.int .i64 n, v] 26)).mono (show w.heap.size ≤ (w.alloc (.cells #[.int .i64 n, v] 26)).heap.size by simp))
  have HBB := hide ((hb.alloc (.cells #[.int .i64 n, v] 26)).mono (show w.heap.size ≤ (w.alloc (.cells #[.int .i64 n, v] 26)).heap.size by simp))
  have H0 := hide ((Below.refl w.heap.size w).alloc (Nat.le_refl _) (.cells #[.int .i64 n, v] 26))
  have HS0 := hide (hp_last w (.cells #[.int .i64 n, v] 26))
  have HZ := hide (show (w.alloc (.cells #[.int .i64 n, v] 26)).heap.size = w.heap.size + 1 by simp)
  have HA0 := hide ha
  have HB0 := hide hb
  clear hl ha hb
  cases hok : okSp n l
  · have HK := hide hok
    have hno := wyB_no1 (b := b) (okFu_no1 (m := a) hok)
    rw [wyL_no hno, hno]
    clear hok hno
    go_enter Try.func26, Try.ntmps26
    go_wp2_with (first
      | (go_at_call 60; refine (familyOf_c n v l _ HL.out hlen).mono ?_; rw [famVal_no n l HK.out]; rintro e w1 ⟨rfl, hb1⟩; have hz1 := hb1.size; rw [HZ.out] at hz1; have HB1 := hide (bl_row ((H0.out.trans (hb1.mono (by rw [HZ.out]; omega))).alloc (by omega) (.cells (fam 0 noSet) 64)) (show w.heap.size ≤ w1.heap.size by omega) (fam 0 noSet)); clear hb1)
      | (refine wpList_alloc_fam zeroT rfl rfl _ (by first | (simp only [World.size_alloc]; rfl) | rfl) ?_)
      | (refine wpList_store_fam sizeT rfl (.tmp _) (.tmp _) rfl _ _ _ rfl rfl _ _ (famAt.new _ _ _ _) ?_))
    go_ret2
    exact ⟨_, rfl, own_nil _ _ _, HB1.out⟩
  · have HK := hide hok
    have hn := okSp_n hok
    obtain ⟨N, rfl⟩ := Int.eq_ofNat_of_zero_le (show 0 ≤ n by omega)
    have hfa : ∀ (m : List Int), (decide (m.length = N) && wordB (marksTo l l.length) N m) = okFu (N : Int) l m := by
      intro m
      unfold okFu
      rw [okWd_yes hok, Int.toNat_natCast, Bool.and_comm]
      congr 1
      rw [decide_eq_decide]
      omega
    have HFA : Hid (∀ (w1 : World), ints w1.heap.size w1 ua a → Calls Try.prog 61 #[.agg (fam (N : Int) (marksTo l l.length)), ua] w1 fun e w' => e = .returned (.bool (okFu (N : Int) l a)) ∧ Below w1.heap.size w1 w') := hide fun w1 h1 => by
      have := isFullWord_c N (marksTo l l.length) ua a w1 h1 hal (by omega)
      rw [hfa] at this
      exact this
    have HFB : Hid (∀ (w1 : World), ints w1.heap.size w1 ub b → Calls Try.prog 61 #[.agg (fam (N : Int) (marksTo l l.length)), ub] w1 fun e w' => e = .returned (.bool (okFu (N : Int) l b)) ∧ Below w1.heap.size w1 w') := hide fun w1 h1 => by
      have := isFullWord_c N (marksTo l l.length) ub b w1 h1 hbl (by omega)
      rw [hfa] at this
      exact this
    clear hok hfa
    cases hfa : okFu (N : Int) l a
    · have HFA2 := hide hfa
      have hno := wyB_no1 (b := b) hfa
      rw [wyL_no hno, hno]
      clear hfa hno
      go_enter Try.func26, Try.ntmps26
      go_wp2_with (first
        | (go_at_call 60; refine (familyOf_c (N : Int) v l _ HL.out hlen).mono ?_; rw [famVal_yes (N : Int) l HK.out]; rintro e w1 ⟨rfl, hb1⟩; have hz1 := hb1.size; rw [HZ.out] at hz1; have HH := hide ((famAt.new 64 w1 0 noSet).row (N : Int) (marksTo l l.length)); have HB1 := hide (bl_row ((H0.out.trans (hb1.mono (by rw [HZ.out]; omega))).alloc (by omega) (.cells (fam 0 noSet) 64)) (show w.heap.size ≤ w1.heap.size by omega) (fam (N : Int) (marksTo l l.length))); have HA1 := hide ((HA0.out.below HB1.out (Nat.le_refl _)).mono HB1.out.size); clear hb1)
        | (refine wpList_alloc_fam zeroT rfl rfl _ (by first | (simp only [World.size_alloc]; rfl) | rfl) ?_)
        | (refine wpList_store_fam sizeT rfl (.tmp _) (.tmp _) rfl _ _ _ rfl rfl _ _ (famAt.new _ _ _ _) ?_)
        | (refine wpList_load_fam rowT sizeT rfl (.tmp 8) rfl _ rfl (N : Int) _ HH.out ?_)
        | (go_at_call 61; refine (HFA.out _ HA1.out).mono ?_; rw [HFA2.out]; rintro e w2 ⟨rfl, hb2⟩; have HB2 := hide (HB1.out.trans (hb2.mono (by simp [World.setRow]; omega))); clear hb2))
      go_ret2
      exact ⟨_, rfl, own_nil _ _ _, HB2.out⟩
    · have HFA2 := hide hfa
      cases hfb : okFu (N : Int) l b
      · have HFB2 := hide hfb
        have hno := wyB_no2 (a := a) hfb
        rw [wyL_no hno, hno]
        clear hfa hfb hno
        go_enter Try.func26, Try.ntmps26
        go_wp2_with (first
          | (go_at_call 60; refine (familyOf_c (N : Int) v l _ HL.out hlen).mono ?_; rw [famVal_yes (N : Int) l HK.out]; rintro e w1 ⟨rfl, hb1⟩; have hz1 := hb1.size; rw [HZ.out] at hz1; have HH := hide ((famAt.new 64 w1 0 noSet).row (N : Int) (marksTo l l.length)); have HB1 := hide (bl_row ((H0.out.trans (hb1.mono (by rw [HZ.out]; omega))).alloc (by omega) (.cells (fam 0 noSet) 64)) (show w.heap.size ≤ w1.heap.size by omega) (fam (N : Int) (marksTo l l.length))); have HA1 := hide ((HA0.out.below HB1.out (Nat.le_refl _)).mono HB1.out.size); clear hb1)
          | (refine wpList_alloc_fam zeroT rfl rfl _ (by first | (simp only [World.size_alloc]; rfl) | rfl) ?_)
          | (refine wpList_store_fam sizeT rfl (.tmp _) (.tmp _) rfl _ _ _ rfl rfl _ _ (famAt.new _ _ _ _) ?_)
          | (refine wpList_load_fam rowT sizeT rfl (.tmp 8) rfl _ rfl (N : Int) _ HH.out ?_)
          | (go_at_call 61; refine (HFA.out _ HA1.out).mono ?_; rw [HFA2.out]; rintro e w2 ⟨rfl, hb2⟩; have hz2 : w1.heap.size + 1 ≤ w2.heap.size := (by have := hb2.size; simpa [World.setRow] using this); have HB2 := hide (HB1.out.trans (hb2.mono (by simp [World.setRow]; omega))); have HH2 := hide (HH.out.below hb2 HH.out.lt); clear hb2 HFA)
          | (refine wpList_load_fam rowT sizeT rfl (.tmp 8) rfl _ rfl (N : Int) _ HH2.out ?_)
          | (go_at_call 61; refine (HFB.out _ ((HB0.out.below HB2.out (Nat.le_refl _)).mono HB2.out.size)).mono ?_; rw [HFB2.out]; rintro e w3 ⟨rfl, hb3⟩; have HB3 := hide (HB2.out.trans (hb3.mono (by omega))); clear hb3))
        go_ret2
        exact ⟨_, rfl, own_nil _ _ _, HB3.out⟩
      · have HFB2 := hide hfb
        have hyes := wyB_yes hfa hfb
        rw [wyL_yes hyes, hyes, Int.toNat_natCast]
        have hpa := okFu_perm hfa
        have hpb := okFu_perm hfb
        rw [Int.toNat_natCast] at hpa hpb
        have hblen := hpb.len
        have HPB := hide hpb
        have HSA := hide (fun k hk => sw_at hpa hpb k hk)
        have HQL := hide (fun k hk => swQ_len hpa hpb k hk)
        have hN7 : N ≤ 7 := by omega
        clear hfa hfb hyes hpa hpb
        go_enter Try.func26, Try.ntmps26
        go_wp2_with (first
          | (go_at_call 60; refine (familyOf_c (N : Int) v l _ HL.out hlen).mono ?_; rw [famVal_yes (N : Int) l HK.out]; rintro e w1 ⟨rfl, hb1⟩; have hz1 := hb1.size; rw [HZ.out] at hz1; have HH := hide ((famAt.new 64 w1 0 noSet).row (N : Int) (marksTo l l.length)); have HB1 := hide (bl_row ((H0.out.trans (hb1.mono (by rw [HZ.out]; omega))).alloc (by omega) (.cells (fam 0 noSet) 64)) (show w.heap.size ≤ w1.heap.size by omega) (fam (N : Int) (marksTo l l.length))); have HA1 := hide ((HA0.out.below HB1.out (Nat.le_refl _)).mono HB1.out.size); clear hb1)
          | (refine wpList_alloc_fam zeroT rfl rfl _ (by first | (simp only [World.size_alloc]; rfl) | rfl) ?_)
          | (refine wpList_store_fam sizeT rfl (.tmp _) (.tmp _) rfl _ _ _ rfl rfl _ _ (famAt.new _ _ _ _) ?_)
          | (refine wpList_load_fam rowT sizeT rfl (.tmp 8) rfl _ rfl (N : Int) _ HH.out ?_)
          | (go_at_call 61; refine (HFA.out _ HA1.out).mono ?_; rw [HFA2.out]; rintro e w2 ⟨rfl, hb2⟩; have hz2 : w1.heap.size + 1 ≤ w2.heap.size := (by have := hb2.size; simpa [World.setRow] using this); have HB2 := hide (HB1.out.trans (hb2.mono (by simp [World.setRow]; omega))); have HH2 := hide (HH.out.below hb2 HH.out.lt); clear hb2 HFA)
          | (refine wpList_load_fam rowT sizeT rfl (.tmp 8) rfl _ rfl (N : Int) _ HH2.out ?_)
          | (go_at_call 61; refine (HFB.out _ ((HB0.out.below HB2.out (Nat.le_refl _)).mono HB2.out.size)).mono ?_; rw [HFB2.out]; rintro e w3 ⟨rfl, hb3⟩; have hz3 := hb3.size; have HB3 := hide (HB2.out.trans (hb3.mono (by omega))); have HA3 := hide (HA0.out.below HB3.out (Nat.le_refl _)); have HBB3 := hide (HB0.out.below HB3.out (Nat.le_refl _)); clear hb3)
          | (refine wpList_len sliceT rfl (.tmp _) rfl ub rfl w.heap.size b HBB3.out ?_))
        go_loopw [10, 11, 37] (fun o x i wr => ∃ k : Nat, k ≤ N ∧ i = .int .i64 (k : Int) ∧ Hid (own 3 wr w3.heap.size o (swQ a b k)) ∧ Hid (ints wr.heap.size wr x (swW a b k) ∧ ∀ g, o.ownBlock = some g → x.ownBlock ≠ some g) ∧ Hid (Below w3.heap.size w3 wr)) (fun _ _ i _ => N - (intOf i).toNat)
        case atStart => exact ⟨0, by omega, rfl, own_nil _ _ _, hide ⟨(HA3.out.mono (by omega) : ints w3.heap.size w3 ua a), fun g hg => by simp [Value.ownBlock] at hg⟩, Below.refl _ _⟩
        case round =>
          obtain ⟨k, hk, rfl, HO, HX, HB⟩ := hrel
          have hsz := HB.out.size
          have HBW := hide (HBB3.out.below HB.out (by omega))
          by_cases hlt : k < N
          · have hltb : k < b.length := by omega
            have hkb : (k : Int) < (b.length : Int) := by omega
            obtain ⟨h1, h2, h3, h4⟩ := sw_plc HPB.out hlt (HSA.out k (by omega))
            have HPM := hide (HSA.out k (by omega)).perm
            have hwl : (swW a b k).length = N := (HSA.out k (by omega)).perm.len
            have hql := HQL.out k (by omega)
            have hql2 : k * N ≤ 7 * 7 := Nat.mul_le_mul (by omega) (by omega)
            have HNX := hide (swW_next a b k _ rfl)
            have HSL := hide (fun x => show b[k]?.getD 0 = x → plc (swW a b k) x = plc (swW a b k) (b[k]?.getD 0) from fun e => by rw [e])
            generalize hp : plc (swW a b k) (b[k]?.getD 0) = p at h1 h2 h3 h4 HNX HSL
            generalize hx : b[k]?.getD 0 = x at h3 h4
            have HXX := hide hx
            have H3 := hide h3
            have H4 := hide h4
            have HBP := hide (fun d hd => bub_perm HPM.out p h1 d hd)
            have HBZ := hide (show bub (swW a b k) p 0 = swW a b k from rfl)
            have HBN := hide (fun d q h => bub_next (swW a b k) p d q h)
            generalize hW : swW a b k = W at HX hwl HNX H3 H4 HBP HBZ HBN HPM
            generalize hQ : swQ a b k = Q at HO HNX hql
            have hQl : Q.length ≤ 49 := by omega
            clear hp hx hW hQ HSL h3 h4 hql hql2 HPM
            have hsub : IntKind.i64.wrap ((p : Int) - 1) = (p : Int) - 1 := IntWalk.i64_in _ (by omega)
            go_wp2_with (first
              | (refine wpList_at sliceT intS rfl (.tmp _) (.tmp _) rfl ub rfl k rfl w.heap.size b HBW.out hltb ?_; intro ad hcell hblk; rw [HXX.out] at hcell)
              | (go_at_call 62; refine (index_c _ W x p _ HX.out.1 (by omega) (by omega) H3.out H4.out).mono ?_; rintro e w5 ⟨rfl, rfl⟩))
            have hwr := hsz
            go_loopw [10, 11, 14] (fun o xv t wq => ∃ d : Nat, d ≤ p - k ∧ t = .int .i64 ((p : Int) - 1 - (d : Int)) ∧ Hid (own 3 wq w3.heap.size o (Q ++ bubP p d)) ∧ Hid (ints wq.heap.size wq xv (bub W p d) ∧ ∀ g, o.ownBlock = some g → xv.ownBlock ≠ some g) ∧ Hid (Below w3.heap.size w3 wq)) (fun _ _ t _ => ((intOf t) + 1).toNat)
            case atStart => exact ⟨0, by omega, by simp, hide (by simpa [bubP] using HO.out), hide (by rw [HBZ.out]; exact HX.out), HB⟩
            case round =>
              obtain ⟨d, hd, rfl, HOQ, HXQ, HBQ⟩ := hrel
              have hszq := HBQ.out.size
              by_cases hdl : d < p - k
              · obtain ⟨q, hq⟩ : ∃ q : Nat, (p : Int) - 1 - (d : Int) = (q : Int) := ⟨p - 1 - d, by omega⟩
                have hqk : (k : Int) ≤ (q : Int) := by omega
                have hq1 : p - 1 - d = q := by omega
                have hqn : q + 1 < N := by omega
                have HN2 := hide (HBN.out d q hq1)
                have hbpl := bubP_len p d
                have hbl2 := (HBP.out d (by omega)).len
                rw [hq]
                have hsub2 : IntKind.i64.wrap ((q : Int) - 1) = (q : Int) - 1 := IntWalk.i64_in _ (by omega)
                have HQ := hide hq
                generalize bub W p d = V at HXQ HN2 hbl2
                generalize bubP p d = R at HOQ HN2 hbpl
                clear hq hq1
                go_wp2_with (first
                  | (at_builtin; refine wpList_append1_at sliceT intI rfl (.tmp 51) (.tmp 53) rfl w3.heap.size _ (Q ++ R) rfl (HOQ.out.alloc _) _ (q : Int) rfl (by simp [go_sem]) (by simp; omega) (by simp; omega) ?_; intro v6 w6 ho6 hoth6 hlie6; have HO6 := hide ho6; have HX6 := hide ((HXQ.out.1.alloc _).other hoth6 fun g hg e => HXQ.out.2 g e hg); have hz6 := hoth6.size; have HB6 := hide ((HBQ.out.alloc (by omega) _).trans (hoth6.below w3.heap.size (fun g hg => HOQ.out.base g hg) (by simp; omega))); clear ho6 hoth6 hlie6)
                  | (go_at_call 63; refine (swapped_c _ V q w6 (HX6.out.mono (by first | omega | (simp at hz6; omega))) (by omega) (by omega)).mono ?_; rintro e w7 ⟨v7, rfl, ho7, hb7⟩; have HO7 := hide (HO6.out.kept hb7); have HB7 := hide (HB6.out.trans (hb7.mono (by first | omega | (simp at hz6; omega)))); have HX7 := hide ho7.ints; have HSP := hide (fun g (hg : v6.ownBlock = some g) (e : v7.ownBlock = some g) => (Nat.not_le_of_lt (HO6.out.blockLt g hg)) (ho7.base g e)); clear ho7 hb7))
                go_roundw
                case rel => exact ⟨d + 1, by omega, by have := HQ.out; go_num, hide (by rw [HN2.out.2, ← List.append_assoc]; exact HO7.out), hide ⟨by rw [HN2.out.1]; exact HX7.out, HSP.out⟩, HB7⟩
                case measure => (simp [intOf] <;> omega)
              · have hdd : d = p - k := by omega
                have hqk : ¬ ((k : Int) ≤ (p : Int) - 1 - (d : Int)) := by omega
                go_wp2
                go_roundw
                case rel => exact ⟨k + 1, by omega, by go_num, hide (by rw [HNX.out.2, ← hdd]; exact HOQ.out), hide (by rw [HNX.out.1, ← hdd]; exact HXQ.out), HBQ⟩
                case measure => simp [intOf]; omega
          · have HJ := hide (show k = N by omega)
            have hlt' : ¬ ((k : Int) < (b.length : Int)) := by omega
            go_wp2
            go_ret2
            exact ⟨_, rfl, by have h := HO.out; rw [HJ.out] at h; exact h.mono (by have := HB3.out.size; omega), HB3.out.trans (HB.out.mono HB3.out.size)⟩
set_option maxHeartbeats 4000000 in
theorem specSwapWay_c (n : Int) (v : Value) (l : List Int) (ua : Value) (a : List Int) (ub : Value) (b : List Int) (w : World) (hl : ints w.heap.size w v l) (hlen : l.length < 1000000000) (ha : ints w.heap.size w ua a) (hal : a.length < 1000000000) (hb : ints w.heap.size w ub b) (hbl : b.length < 1000000000) :
    Calls Try.prog 23 #[.agg #[.int .i64 n, v], ua, ub] w fun e w' => ∃ v', e = .returned (.tuple #[v', .bool (wyB n l a b)]) ∧ own 3 w' w.heap.size v' (wyL n l a b) ∧ Below w.heap.size w w' := by
  have HL := hide ((hl.alloc (.cells #[.int .i64 n, v] 26)).mono (show w.heap.size ≤ (w.alloc (.cells #[.int .i64 n, v] 26)).heap.size by simp))
  have HA := hide ((ha.alloc (.cells #[.int .i64 n, v] 26)).mono (show w.heap.size ≤ (w.alloc (.cells #[.int .i64 n, v] 26)).heap.size by simp))
  have HBB := hide ((hb.alloc (.cells #[.int .i64 n, v] 26)).mono (show w.heap.size ≤ (w.alloc (.cells #[.int .i64 n, v] 26)).heap.size by simp))
  have H0 := hide ((Below.refl w.heap.size w).alloc (Nat.le_refl _) (.cells #[.int .i64 n, v] 26))
  have HS0 := hide (hp_last w (.cells #[.int .i64 n, v] 26))
  have HZ := hide (show (w.alloc (.cells #[.int .i64 n, v] 26)).heap.size = w.heap.size + 1 by simp)
  have HA0 := hide ha
  have HB0 := hide hb
  clear hl ha hb
  have hc0 := cells_at0 HS0.out
  have hc1 := cells_at1 HS0.out
  have HFA := hide (fun (w1 : World) (h0 : ints w1.heap.size w1 v l) (h1 : ints w1.heap.size w1 ua a) => woFull_c n v l ua a w1 h0 hlen h1 hal)
  have HFB := hide (fun (w1 : World) (h0 : ints w1.heap.size w1 v l) (h1 : ints w1.heap.size w1 ub b) => woFull_c n v l ub b w1 h0 hlen h1 hbl)
  cases hfa : okFu n l a
  · have HFA2 := hide hfa
    have hno := wyB_no1 (b := b) hfa
    rw [wyL_no hno, hno]
    clear hfa hno
    go_enter Try.func23, Try.ntmps23
    go_wp2_with (go_at_call 57; refine (HFA.out _ HL.out HA.out).mono ?_; rw [HFA2.out]; rintro e w1 ⟨rfl, hb1⟩; have HB1 := hide (H0.out.trans (hb1.mono (by rw [HZ.out]; omega))); clear hb1 HFA)
    go_ret2
    exact ⟨_, rfl, own_nil _ _ _, HB1.out⟩
  · have HFA2 := hide hfa
    cases hfb : okFu n l b
    · have HFB2 := hide hfb
      have hno := wyB_no2 (a := a) hfb
      rw [wyL_no hno, hno]
      clear hfa hfb hno
      go_enter Try.func23, Try.ntmps23
      go_wp2_with (first
        | (go_at_call 57; refine (HFA.out _ HL.out HA.out).mono ?_; rw [HFA2.out]; rintro e w1 ⟨rfl, hb1⟩; have HS1 := hide ((hb1.block w.heap.size (by rw [HZ.out]; omega)).trans HS0.out); have c0 := cells_at0 HS1.out; have c1 := cells_at1 HS1.out; have HL1 := hide ((HL.out.below hb1 (Nat.le_refl _)).mono hb1.size); have HBB1 := hide ((HBB.out.below hb1 (Nat.le_refl _)).mono hb1.size); have hz1 := hb1.size; rw [HZ.out] at hz1; have HB1 := hide (H0.out.trans (hb1.mono (by rw [HZ.out]; omega))); clear hb1 HFA)
        | (go_at_call 57; refine (HFB.out _ HL1.out HBB1.out).mono ?_; rw [HFB2.out]; rintro e w2 ⟨rfl, hb2⟩; have HB2 := hide (HB1.out.trans (hb2.mono (by omega))); clear hb2))
      go_ret2
      exact ⟨_, rfl, own_nil _ _ _, HB2.out⟩
    · have HFB2 := hide hfb
      have hyes := wyB_yes hfa hfb
      rw [wyL_yes hyes, hyes]
      have hok := okWd_sp (okFu_wd hfa).1
      have hn := okSp_n hok
      have HI := hide (okSp_inc hok)
      obtain ⟨N, rfl⟩ := Int.eq_ofNat_of_zero_le (show 0 ≤ n by omega)
      have hpa := okFu_perm hfa
      have hpb := okFu_perm hfb
      rw [Int.toNat_natCast] at hpa hpb ⊢
      have hblen := hpb.len
      have HPB := hide hpb
      have HSA := hide (fun k hk => sw_at hpa hpb k hk)
      have HQL := hide (fun k hk => swQ_len hpa hpb k hk)
      have hN7 : N ≤ 7 := by omega
      have hSW0 : swW a b 0 = a := rfl
      have HW0 := hide hSW0
      clear hfa hfb hyes hpa hpb hok hSW0
      go_enter Try.func23, Try.ntmps23
      go_wp2_with (first
        | (go_at_call 57; refine (HFA.out _ HL.out HA.out).mono ?_; rw [HFA2.out]; rintro e w1 ⟨rfl, hb1⟩; have HS1 := hide ((hb1.block w.heap.size (by rw [HZ.out]; omega)).trans HS0.out); have c0 := cells_at0 HS1.out; have c1 := cells_at1 HS1.out; have HL1 := hide ((HL.out.below hb1 (Nat.le_refl _)).mono hb1.size); have HBB1 := hide ((HBB.out.below hb1 (Nat.le_refl _)).mono hb1.size); have hz1 := hb1.size; rw [HZ.out] at hz1; have HB1 := hide (H0.out.trans (hb1.mono (by rw [HZ.out]; omega))); clear hb1 HFA)
        | (go_at_call 57; refine (HFB.out _ HL1.out HBB1.out).mono ?_; rw [HFB2.out]; rintro e w2 ⟨rfl, hb2⟩; have hz2 := hb2.size; have HB2 := hide (HB1.out.trans (hb2.mono (by omega))); have HS2 := hide ((hb2.block w.heap.size (by omega)).trans HS1.out); have HL2 := hide ((HL1.out.below hb2 (Nat.le_refl _)).mono hb2.size); have HA2 := hide ((HA0.out.below HB2.out (Nat.le_refl _)).mono HB2.out.size); clear hb2)
        | (go_at_call 58; refine (l1Own_c ua a w2 HA2.out hal).mono ?_; rintro e w3 ⟨v3, rfl, ho3, hb3⟩; have HO3 := hide ho3; have HB3 := hide hb3; have HBB3 := hide (HB0.out.below (HB2.out.trans (hb3.mono (by omega))) (Nat.le_refl _)); have hz3 := hb3.size; clear ho3 hb3)
        | (refine wpList_len sliceT rfl (.tmp _) rfl ub rfl w.heap.size b HBB3.out ?_))
      clear hc0 hc1 c0 c1
      go_loopw [8, 9, 29] (fun x o i wr => ∃ k : Nat, k ≤ N ∧ i = .int .i64 (k : Int) ∧ Hid (own 3 wr w2.heap.size o (swQ a b k)) ∧ Hid (ints wr.heap.size wr x (swW a b k) ∧ ∀ g, o.ownBlock = some g → x.ownBlock ≠ some g) ∧ Hid (Below w2.heap.size w2 wr)) (fun _ _ i _ => N - (intOf i).toNat)
      case atStart => exact ⟨0, by omega, rfl, own_nil _ _ _, hide ⟨by rw [HW0.out]; exact HO3.out.ints, fun g hg => by simp [Value.ownBlock] at hg⟩, HB3⟩
      case round =>
        obtain ⟨k, hk, rfl, HO, HX, HB⟩ := hrel
        have hsz := HB.out.size
        have HBW := hide ((HB0.out.below HB2.out (Nat.le_refl _)).below HB.out (by omega))
        by_cases hlt : k < N
        · have hltb : k < b.length := by omega
          have hkb : (k : Int) < (b.length : Int) := by omega
          obtain ⟨h1, h2, h3, h4⟩ := sw_plc HPB.out hlt (HSA.out k (by omega))
          have HPM := hide (HSA.out k (by omega)).perm
          have hwl : (swW a b k).length = N := (HSA.out k (by omega)).perm.len
          have hql := HQL.out k (by omega)
          have hql2 : k * N ≤ 7 * 7 := Nat.mul_le_mul (by omega) (by omega)
          have HNX := hide (swW_next a b k _ rfl)
          generalize hp : plc (swW a b k) (b[k]?.getD 0) = p at h1 h2 h3 h4 HNX
          generalize hx : b[k]?.getD 0 = x at h3 h4
          have HXX := hide hx
          have H3 := hide h3
          have H4 := hide h4
          have HBP := hide (fun d hd => bub_perm HPM.out p h1 d hd)
          have HBZ := hide (show bub (swW a b k) p 0 = swW a b k from rfl)
          have HBN := hide (fun d q h => bub_next (swW a b k) p d q h)
          generalize hW : swW a b k = W at HX hwl HNX H3 H4 HBP HBZ HBN HPM
          generalize hQ : swQ a b k = Q at HO HNX hql
          have hQl : Q.length ≤ 49 := by omega
          clear hp hx hW hQ h3 h4 hql hql2 HPM
          go_wp2_with (first
            | (refine wpList_at sliceT intS rfl (.tmp _) (.tmp _) rfl ub rfl k rfl w.heap.size b HBW.out hltb ?_; intro ad hcell hblk; rw [HXX.out] at hcell))
          go_loop [12] (fun t => ∃ j : Nat, k ≤ j ∧ j ≤ p ∧ t = .int .i64 (j : Int)) (fun t => p - (intOf t).toNat)
          case atStart => exact ⟨k, Nat.le_refl _, h2, rfl⟩
          case round =>
            obtain ⟨j, hj1, hj2, rfl⟩ := hrel
            have hjw : j < W.length := by omega
            by_cases hjp : j < p
            · have hne := H4.out j hjp
              generalize hy : W[j]?.getD 0 = y at hne
              have HY := hide hy
              have hb1 : (y != x) = true := by simpa using hne
              clear hy hne
              go_wp2_with (first
                | (refine wpList_at sliceT intS rfl (.tmp 35) (.tmp _) rfl _ rfl j rfl wr.heap.size W HX.out.1 hjw ?_; intro ad2 hcell2 hblk2; rw [HY.out] at hcell2))
              go_round
              case rel => exact ⟨j + 1, by omega, by omega, by go_num⟩
              case measure => (simp [intOf] <;> omega)
            · have hje : j = p := by omega
              subst hje
              have hb1 : (x != x) = false := by simp
              go_wp2_with (first
                | (refine wpList_at sliceT intS rfl (.tmp 35) (.tmp _) rfl _ rfl j rfl wr.heap.size W HX.out.1 hjw ?_; intro ad2 hcell2 hblk2; rw [H3.out] at hcell2))
              have hwr := hsz
              go_loopw [12, 8, 9] (fun t xv o wq => ∃ d : Nat, d ≤ j - k ∧ t = .int .i64 ((j : Int) - (d : Int)) ∧ Hid (own 3 wq w2.heap.size o (Q ++ bubP j d)) ∧ Hid (ints wq.heap.size wq xv (bub W j d) ∧ ∀ g, o.ownBlock = some g → xv.ownBlock ≠ some g) ∧ Hid (Below w2.heap.size w2 wq)) (fun t _ _ _ => (intOf t).toNat)
              case atStart => exact ⟨0, by omega, by simp, hide (by simpa [bubP] using HO.out), hide (by rw [HBZ.out]; exact HX.out), HB⟩
              case round =>
                obtain ⟨d, hd, rfl, HOQ, HXQ, HBQ⟩ := hrel
                have hszq := HBQ.out.size
                have HLQ := hide ((HL2.out.below HBQ.out (Nat.le_refl _)).mono HBQ.out.size)
                have HSQ := hide ((HBQ.out.block w.heap.size (by omega)).trans HS2.out)
                have e0 := cells_at0 HSQ.out
                have e1 := cells_at1 HSQ.out
                by_cases hdl : d < j - k
                · obtain ⟨q, hq⟩ : ∃ q : Nat, (j : Int) - (d : Int) = (q : Int) + 1 := ⟨j - 1 - d, by omega⟩
                  have hqk : (k : Int) < (q : Int) + 1 := by omega
                  have hqk2 : (k : Int) ≤ (q : Int) := by omega
                  have hq1 : j - 1 - d = q := by omega
                  have hqn : q + 1 < N := by omega
                  have HN2 := hide (HBN.out d q hq1)
                  have hbpl := bubP_len j d
                  have hbl2 := (HBP.out d (by omega)).len
                  rw [hq]
                  have hsub2 : IntKind.i64.wrap ((q : Int) + 1 - 1) = (q : Int) := by rw [IntWalk.i64_in _ (by omega)]; omega
                  have hsub3 : (q : Int) + 1 - 1 = (q : Int) := by omega
                  have HQ := hide hq
                  generalize bub W j d = V at HXQ HN2 hbl2
                  generalize bubP j d = R at HOQ HN2 hbpl
                  clear hq hq1
                  go_wp2_with (first
                    | (go_at_call 59; refine (woSwap_c (N : Int) v l _ V q _ HLQ.out hlen HI.out HXQ.out.1 (by omega) (by omega) (by omega) (by omega)).mono ?_; rintro e w6 ⟨v6, rfl, ho6, hb6⟩; have HO6 := hide (HOQ.out.kept hb6); have HX6 := hide ho6; have hz6 := hb6.size; have HB6 := hide (HBQ.out.trans (hb6.mono (by omega))); clear hb6 ho6)
                    | (at_builtin; refine wpList_append1_at sliceT intI rfl (.tmp 57) (.tmp 60) rfl w2.heap.size _ (Q ++ R) rfl (HO6.out.alloc _) _ (q : Int) rfl (by simp [go_sem]) (by simp; omega) (by simp; omega) ?_; intro v7 w7 ho7 hoth7 hlie7; have HO7 := hide ho7; have HX7 := hide ((HX6.out.alloc _).other hoth7 fun g hg e => (Nat.not_le_of_lt (HOQ.out.blockLt g e)) (HX6.out.base g hg)); have hz7 := hoth7.size; have HB7 := hide ((HB6.out.alloc (by omega) _).trans (hoth7.below w2.heap.size (fun g hg => HO6.out.base g hg) (by simp; omega))); have HL7 := hide hlie7; clear ho7 hoth7 hlie7))
                  go_roundw
                  case rel =>
                    refine ⟨d + 1, by omega, by have := HQ.out; go_num, hide (by rw [HN2.out.2, ← List.append_assoc]; exact HO7.out), hide ⟨by rw [HN2.out.1]; exact HX7.out.ints, fun g hg e => ?_⟩, HB7⟩
                    have h5 := HX6.out.blockLt g e
                    have h6 := HX6.out.base g e
                    rcases HL7.out with h7 | h7
                    · have := HOQ.out.blockLt g (h7.symm.trans hg)
                      omega
                    · rw [h7] at hg
                      simp at hg
                      omega
                  case measure => (simp [intOf] <;> omega)
                · have hdd : d = j - k := by omega
                  have hqk : ¬ ((k : Int) < (j : Int) - (d : Int)) := by omega
                  go_wp2
                  go_roundw
                  case rel => exact ⟨k + 1, by omega, by go_num, hide (by rw [HNX.out.2, ← hdd]; exact HOQ.out), hide (by rw [HNX.out.1, ← hdd]; exact HXQ.out), HBQ⟩
                  case measure => (simp [intOf] <;> omega)
        · have HJ := hide (show k = N by omega)
          have hlt' : ¬ ((k : Int) < (b.length : Int)) := by omega
          go_wp2
          go_ret2
          exact ⟨_, rfl, by have h := HO.out; rw [HJ.out] at h; exact h.mono (by have := HB2.out.size; omega), HB2.out.trans (HB.out.mono HB2.out.size)⟩
end Go.Proofs.Ytagahoaogfogkaa
