/- Contracts: whether a list has a number that a function value accepts. -/
import Derived.Test.YtonimjpfaalniaaFo
namespace Go.Proofs.Ytonimjpfaalniaa
open Go.RowKit
set_option maxRecDepth 100000
set_option linter.unusedSimpArgs false
def anTo (g : Int → Bool) (l : List Int) : Nat → Bool
  | 0 => false
  | k + 1 => anTo g l k || g (l[k]?.getD 0)
theorem anTo_next (g : Int → Bool) (l : List Int) (k : Nat) : anTo g l (k + 1) = (anTo g l k || g (l[k]?.getD 0)) := rfl
theorem anTo_iff (g : Int → Bool) (l : List Int) : ∀ K, anTo g l K = true ↔ ∃ k, k < K ∧ g (l[k]?.getD 0) = true
  | 0 => by simp [anTo]
  | K + 1 => by
    rw [anTo, Bool.or_eq_true, anTo_iff g l K]
    constructor
    · rintro (⟨k, h1, h2⟩ | h)
      · exact ⟨k, by omega, h2⟩
      · exact ⟨K, by omega, h⟩
    · rintro ⟨k, h1, h2⟩
      rcases Nat.lt_or_ge k K with h | h
      · exact .inl ⟨k, h, h2⟩
      · have : k = K := by omega
        subst this; exact .inr h2
theorem anTo_stay {g : Int → Bool} {l : List Int} {k : Nat} (h : anTo g l k = true) (m : Nat) (hm : k ≤ m) : anTo g l m = true := by
  obtain ⟨j, h1, h2⟩ := (anTo_iff g l k).1 h
  exact (anTo_iff g l m).2 ⟨j, by omega, h2⟩
attribute [local irreducible] p2 low memB risB
set_option maxHeartbeats 2000000 in
theorem indexFuncI_c (u : Value) (l : List Int) (kf : Nat) (pre caps : Array Value) (g : Int → Bool) (w : World) (hch : ints w.heap.size w u l) (hcl : l.length < 1000000000) (hk : enters Try.prog kf)
    (hg : ∀ (k : Nat) (w1 : World), k < l.length → Below w.heap.size w w1 → Calls Try.prog kf (pre ++ #[.int .i64 (l[k]?.getD 0)] ++ caps) w1 fun e w2 => e = .returned (.bool (g (l[k]?.getD 0))) ∧ Below w1.heap.size w1 w2) :
    Calls Try.prog 130 #[u, .func (.func kf) pre caps] w fun e w' => ∃ r : Int, e = .returned (.int .i64 r) ∧ ((r = -1 ∧ anTo g l l.length = false) ∨ (∃ j : Nat, r = (j : Int) ∧ anTo g l l.length = true)) ∧ Below w.heap.size w w' := by
  have hk1 : ∀ (args : Array Value) (w : World), Sem.run Try.prog (callFunc kf args) w = .ok (.enter kf args) w := hk
  obtain ⟨ua, uc, hu⟩ := hch.shape
  subst hu
  have HCH := hide hch
  have HG := hide hg
  clear hch hg
  go_enter Try.func130, Try.ntmps130
  go_wp2_with fail
  go_loopw [8] (fun iv wr => ∃ k : Nat, k ≤ l.length ∧ iv = .int .i64 (k : Int) ∧ Hid (anTo g l k = false) ∧ Hid (Below w.heap.size w wr)) (fun iv _ => l.length - (intOf iv).toNat)
  case atStart => exact ⟨0, by omega, rfl, rfl, Below.refl _ _⟩
  case round =>
    obtain ⟨k, hk, rfl, HN, HB⟩ := hrel
    have HCW := hide (HCH.out.below HB.out (Nat.le_refl _))
    have hsz := HB.out.size
    by_cases hlt : k < l.length
    · have hlt' : (k : Int) < (l.length : Int) := by omega
      have HNX := hide (show anTo g l (k + 1) = g (l[k]?.getD 0) by rw [anTo_next, HN.out, Bool.false_or])
      have HA := hide (fun w1 h => HG.out k w1 hlt h)
      generalize hx : l[k]?.getD 0 = x at HNX HA
      have HX := hide hx
      clear hx
      generalize hd : g x = d at HNX HA
      clear hd
      cases d
      all_goals
        go_wp2_with (first
          | (refine wpList_at sliceT intS rfl (.tmp _) (.tmp _) rfl _ rfl k rfl w.heap.size l HCW.out hlt ?_; intro ad hcell hblk; rw [HX.out] at hcell))
        refine (HA.out _ HB.out).mono ?_
        rintro e w4 ⟨rfl, hb4⟩
        have HB4 := hide (HB.out.trans (hb4.mono hsz))
        clear hb4
        go_wp2
      · go_roundw
        case rel => exact ⟨k + 1, by omega, by go_num, HNX, HB4⟩
        case measure => (simp [intOf] <;> omega)
      · go_ret
        exact ⟨_, rfl, .inr ⟨k, rfl, anTo_stay HNX.out _ (by omega)⟩, HB4.out⟩
    · have hlt' : ¬ ((k : Int) < (l.length : Int)) := by omega
      have HE := hide (show anTo g l l.length = false by rw [show l.length = k by omega]; exact HN.out)
      go_wp2
      go_ret
      exact ⟨_, rfl, .inl ⟨rfl, HE.out⟩, HB.out⟩
theorem containsFuncI_c (u : Value) (l : List Int) (kf : Nat) (pre caps : Array Value) (g : Int → Bool) (w : World) (hch : ints w.heap.size w u l) (hcl : l.length < 1000000000) (hk : enters Try.prog kf)
    (hg : ∀ (k : Nat) (w1 : World), k < l.length → Below w.heap.size w w1 → Calls Try.prog kf (pre ++ #[.int .i64 (l[k]?.getD 0)] ++ caps) w1 fun e w2 => e = .returned (.bool (g (l[k]?.getD 0))) ∧ Below w1.heap.size w1 w2) :
    Calls Try.prog 110 #[u, .func (.func kf) pre caps] w fun e w' => e = .returned (.bool (anTo g l l.length)) ∧ Below w.heap.size w w' := by
  have HI := hide (indexFuncI_c u l kf pre caps g w hch hcl hk hg)
  clear hch hg
  cases hn : anTo g l l.length
  · rw [hn] at HI
    clear hn
    go_enter Try.func110, Try.ntmps110
    go_wp2_with (go_at_call 130; refine HI.out.mono ?_; rintro e w3 ⟨r, rfl, hr, hb3⟩; have hr1 : r = -1 := (hr.elim (fun h => h.1) (fun ⟨_, _, h⟩ => by cases h)); subst hr1; have HB3 := hide hb3; clear hb3 hr)
    go_ret
    exact ⟨rfl, HB3.out⟩
  · rw [hn] at HI
    clear hn
    go_enter Try.func110, Try.ntmps110
    go_wp2_with (go_at_call 130; refine HI.out.mono ?_; rintro e w3 ⟨r, rfl, hr, hb3⟩; have hr1 : 0 ≤ r := (hr.elim (fun h => by cases h.2) (fun ⟨_, h, _⟩ => by omega)); have HB3 := hide hb3; clear hb3 hr)
    go_ret
    exact ⟨ret_b (by simp [hr1]), HB3.out⟩
/-! ### Whether one family is part of another one -/
def ipTo (G : Nat → Bool) (l : List Int) : Nat → Bool
  | 0 => true
  | k + 1 => ipTo G l k && G (nth l k)
theorem ipTo_iff (G : Nat → Bool) (l : List Int) : ∀ K, ipTo G l K = true ↔ ∀ k, k < K → G (nth l k) = true
  | 0 => by simp [ipTo]
  | K + 1 => by
    rw [ipTo, Bool.and_eq_true, ipTo_iff G l K]
    constructor
    · rintro ⟨h1, h2⟩ k hk
      rcases Nat.lt_or_ge k K with h | h
      · exact h1 k h
      · have : k = K := by omega
        subst this; exact h2
    · intro h
      exact ⟨fun k hk => h k (by omega), h K (by omega)⟩
def ipB (n : Int) (la : List Int) (m : Int) (lb : List Int) : Bool := fbB n la m lb && (decide (n = m) && ipTo (marksTo lb lb.length) la la.length)
theorem ipB_no {n m : Int} {la lb : List Int} (h : fbB n la m lb = false) : ipB n la m lb = false := by unfold ipB; rw [h]; rfl
theorem ipB_yes {n m : Int} {la lb : List Int} (h : fbB n la m lb = true) : ipB n la m lb = (decide (n = m) && ipTo (marksTo lb lb.length) la la.length) := by unfold ipB; rw [h]; rfl
/-- The program's way. -/
theorem ip_same {n : Int} {la : List Int} (ha : okSp n la = true) (G : Nat → Bool) :
    (!anTo (fun x => !G x.toNat) (setsTo (marksTo la la.length) 128) (setsTo (marksTo la la.length) 128).length) = ipTo G la la.length := by
  rw [Bool.eq_iff_iff, Bool.not_eq_true', ← Bool.not_eq_true, anTo_iff, ipTo_iff]
  constructor
  · intro h k hk
    cases e : G (nth la k)
    · exfalso
      refine h ?_
      obtain ⟨j, hj, hj2⟩ := (sets_iff (marksTo la la.length) (nth la k) 128).2 ⟨okSp_lt128 ha _ ((okSp_has ha (nth la k)).2 ⟨k, hk, rfl⟩), (okSp_has ha (nth la k)).2 ⟨k, hk, rfl⟩⟩
      refine ⟨j, hj, ?_⟩
      rw [show ((setsTo (marksTo la la.length) 128)[j]?.getD 0).toNat = nth (setsTo (marksTo la la.length) 128) j from rfl, hj2, e]
      rfl
    · rfl
  · rintro h ⟨j, hj, hj2⟩
    rw [show ((setsTo (marksTo la la.length) 128)[j]?.getD 0).toNat = nth (setsTo (marksTo la la.length) 128) j from rfl] at hj2
    obtain ⟨k, hk, hk2⟩ := (okSp_has ha _).1 (sets_at (marksTo la la.length) j hj)
    have := h k hk
    rw [hk2] at this
    rw [this] at hj2
    cases hj2
theorem ent_isPart1 : enters Try.prog 111 := enters_of Try.func111 (by kernel_rfl) (by kernel_rfl)
theorem isPart1_c (x : Nat) (g : Nat) (m : Int) (G : Nat → Bool) (w : World) (hx : x < 128) (hg : famAt 63 w g m G) :
    Calls Try.prog 111 #[.int .i64 (x : Int), .pointer (some ⟨g, 0, none⟩)] w fun e w' => e = .returned (.bool (!G x)) ∧ Below w.heap.size w w' := by
  have c1 := hg.get x hx
  go_enter Try.func111, Try.ntmps111
  go_wp2
  go_ret
  exact ⟨rfl, Below.refl _ _⟩
set_option maxHeartbeats 1000000 in
theorem isPartOf_c (n : Int) (F : Nat → Bool) (m : Int) (G : Nat → Bool) (w : World) :
    Calls Try.prog 71 #[.agg (fam n F), .agg (fam m G)] w fun e w' => e = .returned (.bool (!anTo (fun x => !G x.toNat) (setsTo F 128) (setsTo F 128).length)) ∧ Below w.heap.size w w' := by
  have HF := hide ((famAt.new 63 w n F).alloc (.cells (fam m G) 63))
  have HG := hide (show famAt 63 ((w.alloc (.cells (fam n F) 63)).alloc (.cells (fam m G) 63)) (w.heap.size + 1) m G by have h := famAt.new 63 (w.alloc (.cells (fam n F) 63)) m G; simpa using h)
  have HB := hide (((Below.refl w.heap.size w).alloc (Nat.le_refl _) (.cells (fam n F) 63)).alloc (by simp) (.cells (fam m G) 63))
  have HZ := hide (show ((w.alloc (.cells (fam n F) 63)).alloc (.cells (fam m G) 63)).heap.size = w.heap.size + 2 by simp)
  have HLN := hide (setsTo_len F 128)
  have HRG := hide (setsTo_range F 128)
  go_enter Try.func71, Try.ntmps71
  go_wp2_with (first
    | (refine wpList_load_fam rowT sizeT rfl (.tmp _) rfl _ rfl n F HF.out ?_)
    | (go_at_call 78; refine (sets_c n F _).mono ?_; rintro e w3 ⟨v3, rfl, ho3, hb3⟩; rw [HZ.out] at hb3; have HO3 := hide ho3.ints; have hz3 := hb3.size; rw [HZ.out] at hz3; have HG3 := hide (HG.out.below hb3 (by omega)); have HB3 := hide (HB.out.trans (hb3.mono (by omega))); clear ho3 hb3)
    | (go_at_call 110; refine (containsFuncI_c _ (setsTo F 128) 111 #[] #[.pointer (some ⟨w.heap.size + 1, 0, none⟩)] (fun x => !G x.toNat) _ HO3.out (by have := HLN.out; omega) ent_isPart1 (fun k w5 hk hb5 => by
        obtain ⟨h1, h2⟩ := HRG.out k hk
        obtain ⟨x, hx⟩ := Int.eq_ofNat_of_zero_le h1
        have h3 : x < 128 := by rw [hx] at h2; omega
        have h4 := isPart1_c x (w.heap.size + 1) m G w5 h3 (HG3.out.below hb5 (by omega))
        rw [hx, Int.toNat_natCast]
        exact h4)).mono ?_; rintro e w6 ⟨rfl, hb6⟩; have HB6 := hide (HB3.out.trans (hb6.mono (by omega))); clear hb6))
  go_ret
  exact ⟨rfl, HB6.out⟩
set_option maxHeartbeats 3000000 in
theorem implIsPartOf_c (n : Int) (v : Value) (la : List Int) (m : Int) (u : Value) (lb : List Int) (w : World) (hl : ints w.heap.size w v la) (hlen : la.length < 1000000000) (hm : ints w.heap.size w u lb) (hml : lb.length < 1000000000) :
    Calls Try.prog 39 #[.agg #[.int .i64 n, v], .agg #[.int .i64 m, u]] w fun e w' => e = .returned (.tuple #[.bool (ipB n la m lb), .bool (fbB n la m lb)]) ∧ Below w.heap.size w w' := by
  have HC0 := hide (show ((w.alloc (.cells #[.int .i64 n, v] 28)).alloc (.cells #[.int .i64 m, u] 28)).heap[w.heap.size]? = some (.cells #[.int .i64 n, v] 28) from (hp_old _ _ _ (by simp)).trans (hp_last _ _))
  have HD0 := hide (show ((w.alloc (.cells #[.int .i64 n, v] 28)).alloc (.cells #[.int .i64 m, u] 28)).heap[w.heap.size + 1]? = some (.cells #[.int .i64 m, u] 28) from by have := hp_last (w.alloc (.cells #[.int .i64 n, v] 28)) (.cells #[.int .i64 m, u] 28); simpa using this)
  have H0 := hide (((Below.refl w.heap.size w).alloc (Nat.le_refl _) (.cells #[.int .i64 n, v] 28)).alloc (by simp) (.cells #[.int .i64 m, u] 28))
  have HL0 := hide ((hl.alloc (.cells #[.int .i64 n, v] 28)).alloc (.cells #[.int .i64 m, u] 28))
  have HM0 := hide ((hm.alloc (.cells #[.int .i64 n, v] 28)).alloc (.cells #[.int .i64 m, u] 28))
  have HZ0 := hide (show ((w.alloc (.cells #[.int .i64 n, v] 28)).alloc (.cells #[.int .i64 m, u] 28)).heap.size = w.heap.size + 2 by simp)
  have a0 := cells_at0 HC0.out
  have a1 := cells_at1 HC0.out
  have b0 := cells_at0 HD0.out
  have b1 := cells_at1 HD0.out
  clear hl hm
  have HFO := hide (familiesOf_c n v la m u lb _ (HL0.out.mono (by rw [HZ0.out]; omega)) hlen (HM0.out.mono (by rw [HZ0.out]; omega)) hml)
  cases hfb : fbB n la m lb
  · rw [ipB_no hfb]
    rw [hfb] at HFO
    clear hfb
    generalize fbN false n = N1 at HFO
    generalize fbM false la = M1 at HFO
    generalize fbN false m = N2 at HFO
    generalize fbM false lb = M2 at HFO
    go_enter Try.func39, Try.ntmps39
    have HIS := hide (show (!anTo (fun x => !M2 x.toNat) (setsTo M1 128) (setsTo M1 128).length) = (!anTo (fun x => !M2 x.toNat) (setsTo M1 128) (setsTo M1 128).length) from rfl)
    go_wp2_with (first
      | (go_at_call 70; refine HFO.out.mono ?_; rintro e w1 ⟨rfl, hb1⟩; rw [HZ0.out] at hb1; have hz1 := hb1.size; rw [HZ0.out] at hz1; have HA6 := hide ((famAt.new 63 w1 0 noSet).alloc (.cells (fam 0 noSet) 63)); have HA7 := hide (show famAt 63 (((w1.alloc (.cells (fam 0 noSet) 63)).alloc (.cells (fam 0 noSet) 63)).setRow w1.heap.size (fam N1 M1)) (w1.heap.size + 1) 0 noSet from (show famAt 63 ((w1.alloc (.cells (fam 0 noSet) 63)).alloc (.cells (fam 0 noSet) 63)) (w1.heap.size + 1) 0 noSet by (have h := famAt.new 63 (w1.alloc (.cells (fam 0 noSet) 63)) 0 noSet; simpa using h)).rowO w1.heap.size (by omega) _); have hfa4 := (HA6.out.row N1 M1).rowO (w1.heap.size + 1) (by omega) (fam N2 M2); have hfb4 := HA7.out.row N2 M2; have HFA4 := hide hfa4; have HFB4 := hide hfb4; have g1 := hfa4.get0; have g2 := hfb4.get0; have HB4 := hide (bl_row (bl_row (((H0.out.trans (hb1.mono (by omega))).alloc (by omega) (.cells (fam 0 noSet) 63)).alloc (by simp; omega) (.cells (fam 0 noSet) 63)) (show w.heap.size ≤ w1.heap.size by omega) (fam N1 M1)) (show w.heap.size ≤ w1.heap.size + 1 by omega) (fam N2 M2)); have HZX := hide (show ((((w1.alloc (.cells (fam 0 noSet) 63)).alloc (.cells (fam 0 noSet) 63)).setRow w1.heap.size (fam N1 M1)).setRow (w1.heap.size + 1) (fam N2 M2)).heap.size = w1.heap.size + 1 + 1 by simp [World.setRow]); clear hb1 hfa4 hfb4)
      | (refine wpList_alloc_fam zeroT rfl rfl _ (by first | (simp only [World.size_alloc]; rfl) | rfl) ?_)
      | (refine wpList_store_fam sizeT rfl (.tmp 6) (.tmp 13) rfl w1.heap.size N1 M1 rfl rfl _ _ HA6.out ?_)
      | (refine wpList_store_fam sizeT rfl (.tmp 7) (.tmp 14) rfl (w1.heap.size + 1) N2 M2 rfl rfl _ _ HA7.out ?_)
      | (refine wpList_load_fam rowT sizeT rfl (.tmp 6) rfl _ rfl N1 M1 HFA4.out ?_)
      | (refine wpList_load_fam rowT sizeT rfl (.tmp 7) rfl _ rfl N2 M2 HFB4.out ?_)
      | (go_at_call 71; refine (isPartOf_c N1 M1 N2 M2 _).mono ?_; rw [HIS.out]; rintro e w6 ⟨rfl, hb6⟩; rw [HZX.out] at hb6; have HB6 := hide (HB4.out.trans (hb6.mono (by omega))); clear hb6))
    go_ret2
    exact ⟨rfl, HB4.out⟩
  · obtain ⟨h1, h2⟩ := fbB_in hfb
    rw [ipB_yes hfb]
    rw [hfb] at HFO
    have HIS := hide (ip_same h1 (marksTo lb lb.length))
    have e1 : fbN true n = n := rfl
    have e2 : fbN true m = m := rfl
    rw [show fbM true la = marksTo la la.length from rfl, show fbM true lb = marksTo lb lb.length from rfl] at HFO
    generalize fbN true n = N1 at HFO e1
    generalize fbN true m = N2 at HFO e2
    generalize ipTo (marksTo lb lb.length) la la.length = R at HIS ⊢
    generalize marksTo la la.length = M1 at HFO HIS
    generalize marksTo lb lb.length = M2 at HFO HIS
    clear h1 h2 hfb
    by_cases h3 : n = m
    · have hnn : (N1 == N2) = true := by rw [e1, e2, h3]; simp
      rw [decide_eq_true h3]
      clear h3 e1 e2
      go_enter Try.func39, Try.ntmps39
      go_wp2_with (first
        | (go_at_call 70; refine HFO.out.mono ?_; rintro e w1 ⟨rfl, hb1⟩; rw [HZ0.out] at hb1; have hz1 := hb1.size; rw [HZ0.out] at hz1; have HA6 := hide ((famAt.new 63 w1 0 noSet).alloc (.cells (fam 0 noSet) 63)); have HA7 := hide (show famAt 63 (((w1.alloc (.cells (fam 0 noSet) 63)).alloc (.cells (fam 0 noSet) 63)).setRow w1.heap.size (fam N1 M1)) (w1.heap.size + 1) 0 noSet from (show famAt 63 ((w1.alloc (.cells (fam 0 noSet) 63)).alloc (.cells (fam 0 noSet) 63)) (w1.heap.size + 1) 0 noSet by (have h := famAt.new 63 (w1.alloc (.cells (fam 0 noSet) 63)) 0 noSet; simpa using h)).rowO w1.heap.size (by omega) _); have hfa4 := (HA6.out.row N1 M1).rowO (w1.heap.size + 1) (by omega) (fam N2 M2); have hfb4 := HA7.out.row N2 M2; have HFA4 := hide hfa4; have HFB4 := hide hfb4; have g1 := hfa4.get0; have g2 := hfb4.get0; have HB4 := hide (bl_row (bl_row (((H0.out.trans (hb1.mono (by omega))).alloc (by omega) (.cells (fam 0 noSet) 63)).alloc (by simp; omega) (.cells (fam 0 noSet) 63)) (show w.heap.size ≤ w1.heap.size by omega) (fam N1 M1)) (show w.heap.size ≤ w1.heap.size + 1 by omega) (fam N2 M2)); have HZX := hide (show ((((w1.alloc (.cells (fam 0 noSet) 63)).alloc (.cells (fam 0 noSet) 63)).setRow w1.heap.size (fam N1 M1)).setRow (w1.heap.size + 1) (fam N2 M2)).heap.size = w1.heap.size + 1 + 1 by simp [World.setRow]); clear hb1 hfa4 hfb4)
        | (refine wpList_alloc_fam zeroT rfl rfl _ (by first | (simp only [World.size_alloc]; rfl) | rfl) ?_)
        | (refine wpList_store_fam sizeT rfl (.tmp 6) (.tmp 13) rfl w1.heap.size N1 M1 rfl rfl _ _ HA6.out ?_)
        | (refine wpList_store_fam sizeT rfl (.tmp 7) (.tmp 14) rfl (w1.heap.size + 1) N2 M2 rfl rfl _ _ HA7.out ?_)
        | (refine wpList_load_fam rowT sizeT rfl (.tmp 6) rfl _ rfl N1 M1 HFA4.out ?_)
        | (refine wpList_load_fam rowT sizeT rfl (.tmp 7) rfl _ rfl N2 M2 HFB4.out ?_)
        | (go_at_call 71; refine (isPartOf_c N1 M1 N2 M2 _).mono ?_; rw [HIS.out]; rintro e w6 ⟨rfl, hb6⟩; rw [HZX.out] at hb6; have HB6 := hide (HB4.out.trans (hb6.mono (by omega))); clear hb6))
      go_ret2
      exact ⟨rfl, HB6.out⟩
    · have hnn : (N1 == N2) = false := by rw [e1, e2]; simpa using h3
      rw [decide_eq_false h3]
      clear h3 e1 e2
      go_enter Try.func39, Try.ntmps39
      go_wp2_with (first
        | (go_at_call 70; refine HFO.out.mono ?_; rintro e w1 ⟨rfl, hb1⟩; rw [HZ0.out] at hb1; have hz1 := hb1.size; rw [HZ0.out] at hz1; have HA6 := hide ((famAt.new 63 w1 0 noSet).alloc (.cells (fam 0 noSet) 63)); have HA7 := hide (show famAt 63 (((w1.alloc (.cells (fam 0 noSet) 63)).alloc (.cells (fam 0 noSet) 63)).setRow w1.heap.size (fam N1 M1)) (w1.heap.size + 1) 0 noSet from (show famAt 63 ((w1.alloc (.cells (fam 0 noSet) 63)).alloc (.cells (fam 0 noSet) 63)) (w1.heap.size + 1) 0 noSet by (have h := famAt.new 63 (w1.alloc (.cells (fam 0 noSet) 63)) 0 noSet; simpa using h)).rowO w1.heap.size (by omega) _); have hfa4 := (HA6.out.row N1 M1).rowO (w1.heap.size + 1) (by omega) (fam N2 M2); have hfb4 := HA7.out.row N2 M2; have HFA4 := hide hfa4; have HFB4 := hide hfb4; have g1 := hfa4.get0; have g2 := hfb4.get0; have HB4 := hide (bl_row (bl_row (((H0.out.trans (hb1.mono (by omega))).alloc (by omega) (.cells (fam 0 noSet) 63)).alloc (by simp; omega) (.cells (fam 0 noSet) 63)) (show w.heap.size ≤ w1.heap.size by omega) (fam N1 M1)) (show w.heap.size ≤ w1.heap.size + 1 by omega) (fam N2 M2)); have HZX := hide (show ((((w1.alloc (.cells (fam 0 noSet) 63)).alloc (.cells (fam 0 noSet) 63)).setRow w1.heap.size (fam N1 M1)).setRow (w1.heap.size + 1) (fam N2 M2)).heap.size = w1.heap.size + 1 + 1 by simp [World.setRow]); clear hb1 hfa4 hfb4)
        | (refine wpList_alloc_fam zeroT rfl rfl _ (by first | (simp only [World.size_alloc]; rfl) | rfl) ?_)
        | (refine wpList_store_fam sizeT rfl (.tmp 6) (.tmp 13) rfl w1.heap.size N1 M1 rfl rfl _ _ HA6.out ?_)
        | (refine wpList_store_fam sizeT rfl (.tmp 7) (.tmp 14) rfl (w1.heap.size + 1) N2 M2 rfl rfl _ _ HA7.out ?_)
        | (refine wpList_load_fam rowT sizeT rfl (.tmp 6) rfl _ rfl N1 M1 HFA4.out ?_)
        | (refine wpList_load_fam rowT sizeT rfl (.tmp 7) rfl _ rfl N2 M2 HFB4.out ?_)
        | (go_at_call 71; refine (isPartOf_c N1 M1 N2 M2 _).mono ?_; rw [HIS.out]; rintro e w6 ⟨rfl, hb6⟩; rw [HZX.out] at hb6; have HB6 := hide (HB4.out.trans (hb6.mono (by omega))); clear hb6))
      go_ret2
      exact ⟨rfl, HB4.out⟩
set_option maxHeartbeats 3000000 in
theorem specIsPartOf_c (n : Int) (v : Value) (la : List Int) (m : Int) (u : Value) (lb : List Int) (w : World) (hl : ints w.heap.size w v la) (hlen : la.length < 1000000000) (hm : ints w.heap.size w u lb) (hml : lb.length < 1000000000) :
    Calls Try.prog 38 #[.agg #[.int .i64 n, v], .agg #[.int .i64 m, u]] w fun e w' => e = .returned (.tuple #[.bool (ipB n la m lb), .bool (fbB n la m lb)]) ∧ Below w.heap.size w w' := by
  obtain ⟨va, vc, hv⟩ := hl.shape
  subst hv
  obtain ⟨ub, uc, hu⟩ := hm.shape
  subst hu
  generalize hvv : Value.slice va la.length vc = v at hl ⊢
  generalize huu : Value.slice ub lb.length uc = u at hm ⊢
  have HC0 := hide (show ((w.alloc (.cells #[.int .i64 n, v] 28)).alloc (.cells #[.int .i64 m, u] 28)).heap[w.heap.size]? = some (.cells #[.int .i64 n, v] 28) from (hp_old _ _ _ (by simp)).trans (hp_last _ _))
  have HD0 := hide (show ((w.alloc (.cells #[.int .i64 n, v] 28)).alloc (.cells #[.int .i64 m, u] 28)).heap[w.heap.size + 1]? = some (.cells #[.int .i64 m, u] 28) from by have := hp_last (w.alloc (.cells #[.int .i64 n, v] 28)) (.cells #[.int .i64 m, u] 28); simpa using this)
  have H0 := hide (((Below.refl w.heap.size w).alloc (Nat.le_refl _) (.cells #[.int .i64 n, v] 28)).alloc (by simp) (.cells #[.int .i64 m, u] 28))
  have HL0 := hide ((hl.alloc (.cells #[.int .i64 n, v] 28)).alloc (.cells #[.int .i64 m, u] 28))
  have HM0 := hide ((hm.alloc (.cells #[.int .i64 n, v] 28)).alloc (.cells #[.int .i64 m, u] 28))
  have HZ0 := hide (show ((w.alloc (.cells #[.int .i64 n, v] 28)).alloc (.cells #[.int .i64 m, u] 28)).heap.size = w.heap.size + 2 by simp)
  have a0 := cells_at0 HC0.out
  have a1 := cells_at1 HC0.out
  have b0 := cells_at0 HD0.out
  have b1 := cells_at1 HD0.out
  clear hl hm
  cases hA : okSp n la
  · have HGA := hide (show goodB n la = false by rw [← ok_good]; exact hA)
    rw [ipB_no (fbB_no1 hA), fbB_no1 hA]
    clear hA
    go_enter Try.func38, Try.ntmps38
    go_wp2_with (first
      | (go_at_call 54; refine (spGood_c n v la _ (HL0.out.mono (by rw [HZ0.out]; omega)) hlen).mono ?_; rw [HGA.out]; rintro e w1 ⟨rfl, hb1⟩; rw [HZ0.out] at hb1; have hz1 := hb1.size; rw [HZ0.out] at hz1; clear a0 a1 b0 b1; have hc1 := (hb1.block w.heap.size (by omega)).trans HC0.out; have hd1 := (hb1.block (w.heap.size + 1) (by omega)).trans HD0.out; have a0 := cells_at0 hc1; have a1 := cells_at1 hc1; have b0 := cells_at0 hd1; have b1 := cells_at1 hd1; have HC1 := hide hc1; have HD1 := hide hd1; have HL1 := hide (HL0.out.below hb1 (by omega)); have HM1 := hide (HM0.out.below hb1 (by omega)); have HB1 := hide (H0.out.trans (hb1.mono (by omega))); clear hb1 hc1 hd1))
    go_ret2
    exact ⟨rfl, HB1.out⟩
  · have HGA := hide (show goodB n la = true by rw [← ok_good]; exact hA)
    cases hB : okSp m lb
    · have HGB := hide (show goodB m lb = false by rw [← ok_good]; exact hB)
      rw [ipB_no (fbB_no2 hB), fbB_no2 hB]
      clear hA hB
      go_enter Try.func38, Try.ntmps38
      go_wp2_with (first
        | (go_at_call 54; refine (spGood_c m u lb _ (HM1.out.mono (by omega)) hml).mono ?_; rw [HGB.out]; rintro e w2 ⟨rfl, hb2⟩; have hz2 := hb2.size; clear a0 a1 b0 b1; have hc2 := (hb2.block w.heap.size (by omega)).trans HC1.out; have hd2 := (hb2.block (w.heap.size + 1) (by omega)).trans HD1.out; have a0 := cells_at0 hc2; have a1 := cells_at1 hc2; have b0 := cells_at0 hd2; have b1 := cells_at1 hd2; have HC2 := hide hc2; have HD2 := hide hd2; have HL2 := hide (HL1.out.below hb2 (by omega)); have HM2 := hide (HM1.out.below hb2 (by omega)); have HB2 := hide (HB1.out.trans (hb2.mono (by omega))); clear hb2 hc2 hd2)
        | (go_at_call 54; refine (spGood_c n v la _ (HL0.out.mono (by rw [HZ0.out]; omega)) hlen).mono ?_; rw [HGA.out]; rintro e w1 ⟨rfl, hb1⟩; rw [HZ0.out] at hb1; have hz1 := hb1.size; rw [HZ0.out] at hz1; clear a0 a1 b0 b1; have hc1 := (hb1.block w.heap.size (by omega)).trans HC0.out; have hd1 := (hb1.block (w.heap.size + 1) (by omega)).trans HD0.out; have a0 := cells_at0 hc1; have a1 := cells_at1 hc1; have b0 := cells_at0 hd1; have b1 := cells_at1 hd1; have HC1 := hide hc1; have HD1 := hide hd1; have HL1 := hide (HL0.out.below hb1 (by omega)); have HM1 := hide (HM0.out.below hb1 (by omega)); have HB1 := hide (H0.out.trans (hb1.mono (by omega))); clear hb1 hc1 hd1))
      go_ret2
      exact ⟨rfl, HB2.out⟩
    · have HGB := hide (show goodB m lb = true by rw [← ok_good]; exact hB)
      have hfb := fbB_yes hA hB
      rw [ipB_yes hfb, hfb]
      have HSA := hide hA
      have HSB := hide hB
      clear hfb
      by_cases h3 : n = m
      · have hnn : (n != m) = false := by simpa using h3
        rw [decide_eq_true h3, Bool.true_and]
        clear h3 hA hB
        go_enter Try.func38, Try.ntmps38
        go_wp2_with (first
          | (go_at_call 54; refine (spGood_c m u lb _ (HM1.out.mono (by omega)) hml).mono ?_; rw [HGB.out]; rintro e w2 ⟨rfl, hb2⟩; have hz2 := hb2.size; clear a0 a1 b0 b1; have hc2 := (hb2.block w.heap.size (by omega)).trans HC1.out; have hd2 := (hb2.block (w.heap.size + 1) (by omega)).trans HD1.out; have a0 := cells_at0 hc2; have a1 := cells_at1 hc2; have b0 := cells_at0 hd2; have b1 := cells_at1 hd2; have HC2 := hide hc2; have HD2 := hide hd2; have HL2 := hide (HL1.out.below hb2 (by omega)); have HM2 := hide (HM1.out.below hb2 (by omega)); have HB2 := hide (HB1.out.trans (hb2.mono (by omega))); clear hb2 hc2 hd2)
          | (go_at_call 54; refine (spGood_c n v la _ (HL0.out.mono (by rw [HZ0.out]; omega)) hlen).mono ?_; rw [HGA.out]; rintro e w1 ⟨rfl, hb1⟩; rw [HZ0.out] at hb1; have hz1 := hb1.size; rw [HZ0.out] at hz1; clear a0 a1 b0 b1; have hc1 := (hb1.block w.heap.size (by omega)).trans HC0.out; have hd1 := (hb1.block (w.heap.size + 1) (by omega)).trans HD0.out; have a0 := cells_at0 hc1; have a1 := cells_at1 hc1; have b0 := cells_at0 hd1; have b1 := cells_at1 hd1; have HC1 := hide hc1; have HD1 := hide hd1; have HL1 := hide (HL0.out.below hb1 (by omega)); have HM1 := hide (HM0.out.below hb1 (by omega)); have HB1 := hide (H0.out.trans (hb1.mono (by omega))); clear hb1 hc1 hd1)
          | (refine wpList_len sliceT rfl (.tmp _) rfl v rfl w.heap.size la HL2.out ?_))
        go_loopw [24] (fun i wr => ∃ k : Nat, k ≤ la.length ∧ i = .int .i64 k ∧ Hid (ipTo (marksTo lb lb.length) la k = true) ∧ Hid (Below w2.heap.size w2 wr)) (fun i _ => la.length - (intOf i).toNat)
        case atStart => exact ⟨0, Nat.zero_le _, rfl, rfl, Below.refl _ _⟩
        case round =>
          obtain ⟨k, hk, rfl, HJ, HB⟩ := hrel
          have hsz := HB.out.size
          have b1 := cells_at1 ((HB.out.block (w.heap.size + 1) (by omega)).trans HD2.out)
          have HLW := hide (HL2.out.below HB.out (by omega))
          have HMW := hide ((HM2.out.below HB.out (by omega)).mono (show w.heap.size ≤ wr.heap.size by omega))
          by_cases hlt : k < la.length
          · have HX := hide (nth_cast HSA.out k hlt)
            have hy := okSp_lt128 HSA.out _ ((okSp_has HSA.out (nth la k)).2 ⟨k, hlt, rfl⟩)
            have HNX := hide (show ipTo (marksTo lb lb.length) la (k + 1) = marksTo lb lb.length (nth la k) by rw [ipTo, HJ.out, Bool.true_and])
            have HFA := hide (fun (h : marksTo lb lb.length (nth la k) = false) => show ipTo (marksTo lb lb.length) la la.length = false by
              rw [← Bool.not_eq_true, ipTo_iff]
              intro h2
              rw [h2 k hlt] at h; cases h)
            have HMM := hide (okSp_marks HSB.out (nth la k)).symm
            generalize nth la k = y at HX hy HNX HFA HMM
            cases hq : marksTo lb lb.length y
            · rw [hq] at HMM
              have HFF := hide (HFA.out hq)
              clear hq
              go_wp2_with (first
                | (refine wpList_at sliceT intS rfl (.tmp _) (.tmp _) rfl v rfl k rfl w.heap.size la HLW.out hlt ?_; intro ad hcell hblk; rw [HX.out] at hcell)
                | (go_at_call 55; refine (spHas_c u lb (y : Int) _ HMW.out (okSp_inc HSB.out) hml).mono ?_; rw [HMM.out]; rintro e w3 ⟨rfl, rfl⟩))
              go_ret2
              exact ⟨by rw [HFF.out]; rfl, HB2.out.trans (HB.out.mono (by omega))⟩
            · rw [hq] at HMM HNX
              clear hq
              go_wp2_with (first
                | (refine wpList_at sliceT intS rfl (.tmp _) (.tmp _) rfl v rfl k rfl w.heap.size la HLW.out hlt ?_; intro ad hcell hblk; rw [HX.out] at hcell)
                | (go_at_call 55; refine (spHas_c u lb (y : Int) _ HMW.out (okSp_inc HSB.out) hml).mono ?_; rw [HMM.out]; rintro e w3 ⟨rfl, rfl⟩))
              go_roundw
              case rel => exact ⟨k + 1, by omega, by go_num, HNX, HB⟩
              case measure => (simp [intOf] <;> omega)
          · have HKE := hide (show k = la.length by omega)
            have hlt' : ¬ ((k : Int) < (la.length : Int)) := by omega
            go_wp2
            go_ret2
            exact ⟨by rw [show ipTo (marksTo lb lb.length) la la.length = true by rw [← HKE.out]; exact HJ.out]; rfl, HB2.out.trans (HB.out.mono (by omega))⟩
      · have hnn : (n != m) = true := by simpa using h3
        rw [decide_eq_false h3, Bool.false_and]
        clear h3 hA hB
        go_enter Try.func38, Try.ntmps38
        go_wp2_with (first
          | (go_at_call 54; refine (spGood_c m u lb _ (HM1.out.mono (by omega)) hml).mono ?_; rw [HGB.out]; rintro e w2 ⟨rfl, hb2⟩; have hz2 := hb2.size; clear a0 a1 b0 b1; have hc2 := (hb2.block w.heap.size (by omega)).trans HC1.out; have hd2 := (hb2.block (w.heap.size + 1) (by omega)).trans HD1.out; have a0 := cells_at0 hc2; have a1 := cells_at1 hc2; have b0 := cells_at0 hd2; have b1 := cells_at1 hd2; have HC2 := hide hc2; have HD2 := hide hd2; have HL2 := hide (HL1.out.below hb2 (by omega)); have HM2 := hide (HM1.out.below hb2 (by omega)); have HB2 := hide (HB1.out.trans (hb2.mono (by omega))); clear hb2 hc2 hd2)
          | (go_at_call 54; refine (spGood_c n v la _ (HL0.out.mono (by rw [HZ0.out]; omega)) hlen).mono ?_; rw [HGA.out]; rintro e w1 ⟨rfl, hb1⟩; rw [HZ0.out] at hb1; have hz1 := hb1.size; rw [HZ0.out] at hz1; clear a0 a1 b0 b1; have hc1 := (hb1.block w.heap.size (by omega)).trans HC0.out; have hd1 := (hb1.block (w.heap.size + 1) (by omega)).trans HD0.out; have a0 := cells_at0 hc1; have a1 := cells_at1 hc1; have b0 := cells_at0 hd1; have b1 := cells_at1 hd1; have HC1 := hide hc1; have HD1 := hide hd1; have HL1 := hide (HL0.out.below hb1 (by omega)); have HM1 := hide (HM0.out.below hb1 (by omega)); have HB1 := hide (H0.out.trans (hb1.mono (by omega))); clear hb1 hc1 hd1))
        go_ret2
        exact ⟨rfl, HB2.out⟩
end Go.Proofs.Ytonimjpfaalniaa
