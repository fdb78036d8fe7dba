/- Contracts: MeetOfSpaces, the program's and the specification's. -/
import Derived.Test.YtonimjpfaalniaaDoorMe
namespace Go.Proofs.YtonimjpfaalniaaDoor
open Go.RowKit
set_option maxRecDepth 100000
set_option linter.unusedSimpArgs false
attribute [local irreducible] p2 low memB risB fbB
section
variable {P : Program}
theorem q_callM {ops : Array Oper} {rest : List Oper} {o : Oper} {a : Act} {w : World} {Q : Act → Prop} (hw : Region.wanted o (yielded ops a.tmps) = true) (k : FuncId) (hk : enters P k) (xs : Array Operand) (ts : Array TypeId)
    (ho : o.op = .call { callee := .value (.func k), args := xs, argTypes := ts }) (args : Array Value) (hal : xs.toList.map a.eval = args.toList) (v : Value)
    (hc : ∀ w', Below w.heap.size w w' → Calls P k args w' fun e w'' => e = .returned v ∧ Below w'.heap.size w' w'')
    (h : wpQuiet P ops (fun w' => Below w.heap.size w w') Q rest (a.put o.dst v)) : wpQuiet P ops (fun w' => Below w.heap.size w w') Q (o :: rest) a :=
  q_call hw k hk xs ts ho args (Array.toList_inj.1 (by simpa using hal)) v hc h
end
theorem ent_outerM : enters Tryd.prog 96 := enters_of Tryd.func96 (by kernel_rfl) (by kernel_rfl)
theorem ent_meet1 : enters Tryd.prog 95 := enters_of Tryd.func95 (by kernel_rfl) (by kernel_rfl)
theorem meet1_c (N s g1 g2 : Nat) (F G : Nat → Bool) (w : World) (h7 : N ≤ 7) (hs : s < 128) (hg1 : famAt 83 w g1 (N : Int) F) (hg2 : famAt 83 w g2 (N : Int) G) :
    Calls Tryd.prog 95 #[.int .i64 (s : Int), .pointer (some ⟨g1, 0, none⟩), .pointer (some ⟨g2, 0, none⟩)] w fun e w' => e = .returned (.int .i64 (mnN F G N s : Int)) ∧ Below w.heap.size w w' := by
  have HG1 := hide hg1
  have HG2 := hide hg2
  have HO := hide (fun (H : Nat → Bool) w1 => by have := outerFringe_c (N : Int) H (s : Int) w1 (by omega) (by omega) (by omega) (by omega); rw [Int.toNat_natCast, Int.toNat_natCast] at this; exact this)
  have hx8 : outerOf F N s < 128 := Nat.lt_of_lt_of_le (itemsOf_lt _ _) (p2_le N 7 h7)
  have hy8 : outerOf G N s < 128 := Nat.lt_of_lt_of_le (itemsOf_lt _ _) (p2_le N 7 h7)
  have HM := hide (show mnN F G N s = outerOf F N s &&& outerOf G N s from rfl)
  have HOF := hide (HO.out F)
  have HOG := hide (HO.out G)
  have hand := i64_and (outerOf F N s) (outerOf G N s) (by omega) (by omega)
  rw [HM.out]
  clear hg1 hg2 HO HM
  generalize outerOf F N s = x at *
  generalize outerOf G N s = y at *
  generalize x &&& y = z at *
  go_enter Tryd.func95, Tryd.ntmps95
  go_wp2_with fail
  refine wp_region_old (by kernel_rfl) (by kernel_rfl) ?_
  refine q_load_fam rowT sizeT rfl (.tmp _) rfl g1 rfl (N : Int) F (fun w' h => HG1.out.below h HG1.out.lt) ?_
  simp only [Act.put, List.setIfInBounds_toArray, List.set_cons_zero, List.set_cons_succ]
  go_big_quiet_step ((first | exact fun _ => rfl | exact fun _ => ⟨rfl, rfl⟩))
  refine q_callM rfl 96 ent_outerM _ _ rfl #[.agg (fam (N : Int) F), .int .i64 (s : Int)] rfl (.int .i64 (x : Int)) (fun w' _ => HOF.out w') ?_
  simp only [Act.put, List.setIfInBounds_toArray, List.set_cons_zero, List.set_cons_succ]
  refine q_load_fam rowT sizeT rfl (.tmp _) rfl g2 rfl (N : Int) G (fun w' h => HG2.out.below h HG2.out.lt) ?_
  simp only [Act.put, List.setIfInBounds_toArray, List.set_cons_zero, List.set_cons_succ]
  go_big_quiet_step ((first | exact fun _ => rfl | exact fun _ => ⟨rfl, rfl⟩))
  refine q_callM rfl 96 ent_outerM _ _ rfl #[.agg (fam (N : Int) G), .int .i64 (s : Int)] rfl (.int .i64 (y : Int)) (fun w' _ => HOG.out w') ?_
  simp only [Act.put, List.setIfInBounds_toArray, List.set_cons_zero, List.set_cons_succ]
  repeat (first | go_big_quiet_skip | go_big_quiet_step ((first | exact fun _ => rfl | exact fun _ => ⟨rfl, rfl⟩)))
  refine wpQuiet_nil ?_
  intro w2 hb2
  go_wp2
  go_ret
  exact ⟨rfl, hb2⟩
set_option maxHeartbeats 4000000 in
theorem implMeetOfSpaces_c (n : Int) (v : Value) (la : List Int) (m : Int) (u : Value) (lb : List Int) (w : World) (hl : ints w.heap.size w v la) (hlen : la.length < 1000000000) (hm : ints w.heap.size w u lb) (hml : lb.length < 1000000000) (hT : tab w) :
    Calls Tryd.prog 42 #[.agg #[.int .i64 n, v], .agg #[.int .i64 m, u]] w fun e w' => ∃ v', e = .returned (.tuple #[.agg #[.int .i64 (meN n la m lb), v'], .bool (meB n la m lb)]) ∧ own 3 w' w.heap.size v' (meL n la m lb) ∧ Below w.heap.size w w' := by
  have HT := hide hT
  clear hT
  have ha0 : (((w.alloc (.cells #[.int .i64 n, v] 30)).alloc (.cells #[.int .i64 m, u] 30)).alloc (.cells #[.int .i64 0, .slice none 0 0] 30)).heap[w.heap.size]? = some (.cells #[.int .i64 n, v] 30) := (hp_old _ _ _ (by simp; omega)).trans ((hp_old _ _ _ (by simp)).trans (hp_last _ _))
  have hb0 : (((w.alloc (.cells #[.int .i64 n, v] 30)).alloc (.cells #[.int .i64 m, u] 30)).alloc (.cells #[.int .i64 0, .slice none 0 0] 30)).heap[w.heap.size + 1]? = some (.cells #[.int .i64 m, u] 30) := (hp_old _ _ _ (by simp)).trans (by have := hp_last (w.alloc (.cells #[.int .i64 n, v] 30)) (.cells #[.int .i64 m, u] 30); simpa using this)
  have hr0 : (((w.alloc (.cells #[.int .i64 n, v] 30)).alloc (.cells #[.int .i64 m, u] 30)).alloc (.cells #[.int .i64 0, .slice none 0 0] 30)).heap[w.heap.size + 2]? = some (.cells #[.int .i64 0, .slice none 0 0] 30) := by have := hp_last ((w.alloc (.cells #[.int .i64 n, v] 30)).alloc (.cells #[.int .i64 m, u] 30)) (.cells #[.int .i64 0, .slice none 0 0] 30); simpa using this
  have H0 := hide ((((Below.refl w.heap.size w).alloc (Nat.le_refl _) (.cells #[.int .i64 n, v] 30)).alloc (by simp) (.cells #[.int .i64 m, u] 30)).alloc (by simp; omega) (.cells #[.int .i64 0, .slice none 0 0] 30))
  have HL0 := hide (((hl.alloc (.cells #[.int .i64 n, v] 30)).alloc (.cells #[.int .i64 m, u] 30)).alloc (.cells #[.int .i64 0, .slice none 0 0] 30))
  have HM0 := hide (((hm.alloc (.cells #[.int .i64 n, v] 30)).alloc (.cells #[.int .i64 m, u] 30)).alloc (.cells #[.int .i64 0, .slice none 0 0] 30))
  have hz0 : (((w.alloc (.cells #[.int .i64 n, v] 30)).alloc (.cells #[.int .i64 m, u] 30)).alloc (.cells #[.int .i64 0, .slice none 0 0] 30)).heap.size = w.heap.size + 3 := by simp
  have HA0 := hide ha0
  have HBX0 := hide hb0
  have HR0 := hide hr0
  have HZ0 := hide hz0
  clear hl hm ha0 hb0 hr0 hz0
  have HFO := hide (familiesOf_c n v la m u lb _ (HL0.out.mono (by rw [HZ0.out]; omega)) hlen (HM0.out.mono (by rw [HZ0.out]; omega)) hml)
  cases hfb : fbB n la m lb
  · obtain ⟨e1, e2, e3⟩ := me_no (meB_no1 hfb)
    rw [e1, e2, e3]
    rw [hfb] at HFO
    clear hfb e1 e2 e3
    generalize fbN false n = N1 at HFO
    generalize fbM false la = M1 at HFO
    generalize fbN false m = N2 at HFO
    generalize fbM false lb = M2 at HFO
    go_enter Tryd.func42, Tryd.ntmps42
    go_wp2_with (first
      | (go_at_call 93; refine HFO.out.mono ?_; rintro e w1 ⟨rfl, hb1⟩; rw [HZ0.out] at hb1; have hz1 := hb1.size; rw [HZ0.out] at hz1; have HA6 := hide ((famAt.new 83 w1 0 noSet).alloc (.cells (fam 0 noSet) 83)); have HA7 := hide (show famAt 83 (((w1.alloc (.cells (fam 0 noSet) 83)).alloc (.cells (fam 0 noSet) 83)).setRow w1.heap.size (fam N1 M1)) (w1.heap.size + 1) 0 noSet from (show famAt 83 ((w1.alloc (.cells (fam 0 noSet) 83)).alloc (.cells (fam 0 noSet) 83)) (w1.heap.size + 1) 0 noSet by (have h := famAt.new 83 (w1.alloc (.cells (fam 0 noSet) 83)) 0 noSet; simpa using h)).rowO w1.heap.size (by omega) _); have hfa4 := (HA6.out.row N1 M1).rowO (w1.heap.size + 1) (by omega) (fam N2 M2); have hfb4 := HA7.out.row N2 M2; have hr4 : ((((w1.alloc (.cells (fam 0 noSet) 83)).alloc (.cells (fam 0 noSet) 83)).setRow w1.heap.size (fam N1 M1)).setRow (w1.heap.size + 1) (fam N2 M2)).heap[w.heap.size + 2]? = some (.cells #[.int .i64 0, .slice none 0 0] 30) := (hp_rowO _ _ _ _ (by omega)).trans ((hp_rowO _ _ _ _ (by omega)).trans ((hp_old _ _ _ (by simp; omega)).trans ((hp_old _ _ _ (by omega)).trans ((hb1.block (w.heap.size + 2) (by omega)).trans HR0.out)))); have HR4 := hide hr4; have HFA4 := hide hfa4; have HFB4 := hide hfb4; have g1 := hfa4.get0; have g2 := hfb4.get0; obtain ⟨q0, q1, q2, q3⟩ := zero_slots hr4; have HB4 := hide (bl_row (bl_row (((H0.out.trans (hb1.mono (by omega))).alloc (by omega) (.cells (fam 0 noSet) 83)).alloc (by simp; omega) (.cells (fam 0 noSet) 83)) (show w.heap.size ≤ w1.heap.size by omega) (fam N1 M1)) (show w.heap.size ≤ w1.heap.size + 1 by omega) (fam N2 M2)); have HZX := hide (show ((((w1.alloc (.cells (fam 0 noSet) 83)).alloc (.cells (fam 0 noSet) 83)).setRow w1.heap.size (fam N1 M1)).setRow (w1.heap.size + 1) (fam N2 M2)).heap.size = w1.heap.size + 1 + 1 by simp [World.setRow]); clear hb1 hfa4 hfb4 hr4)
      | (refine wpList_alloc_fam zeroT rfl rfl _ (by first | (simp only [World.size_alloc]; rfl) | rfl) ?_)
      | (refine wpList_store_fam sizeT rfl (.tmp 6) (.tmp 14) rfl w1.heap.size N1 M1 rfl rfl _ _ HA6.out ?_)
      | (refine wpList_store_fam sizeT rfl (.tmp 7) (.tmp 15) rfl (w1.heap.size + 1) N2 M2 rfl rfl _ _ HA7.out ?_)
      )
    refine bodyPost_ret (v := .tuple #[.agg #[.int .i64 0, .slice none 0 0], .bool false]) (by simp [results, Tryd.results42, go_sem, q0, q1]) rfl ⟨_, rfl, own_nil _ _ _, ?_⟩
    exact (HB4.out.setCell (by show w.heap.size ≤ w.heap.size + 2; omega) _).setCell (by show w.heap.size ≤ w.heap.size + 2; omega) _
  · obtain ⟨h1, h2⟩ := fbB_in hfb
    by_cases h3 : n = m
    · subst h3
      have HMB := hide (meB_is hfb rfl)
      have hn := okSp_n h1
      obtain ⟨k, rfl⟩ := Int.eq_ofNat_of_zero_le (show 0 ≤ n by omega)
      have h7 : k ≤ 7 := by omega
      have hlo := low_lt k h7
      rw [hfb, show fbN true (k : Int) = (k : Int) from rfl, show fbM true la = marksTo la la.length from rfl, show fbM true lb = marksTo lb lb.length from rfl] at HFO
      have hkk : ((k : Int) != (k : Int)) = false := by simp
      have HRR := hide (show rbOut (mnN (marksTo la la.length) (marksTo lb lb.length) k) (2 ^ k) = meF (k : Int) la lb by unfold meF meR; rw [Int.toNat_natCast])
      rw [Int.toNat_natCast] at HMB
      have HYES := hide (fun h => me_yes (n := (k : Int)) (la := la) (m := (k : Int)) (lb := lb) h)
      have HNOO := hide (fun h => me_no (n := (k : Int)) (la := la) (m := (k : Int)) (lb := lb) h)
      clear h1 h2 hfb hn
      generalize meF (k : Int) la lb = R at HMB HRR HYES
      generalize marksTo la la.length = M1 at HFO HRR
      generalize marksTo lb lb.length = M2 at HFO HRR
      cases hfu : R (low k)
      · have HFU := hide hfu
        obtain ⟨e1, e2, e3⟩ := HNOO.out (HMB.out.trans hfu)
        rw [e1, e2, e3]
        clear hfu e1 e2 e3
        go_enter Tryd.func42, Tryd.ntmps42
        go_wp2_with (first
          | (go_at_call 93; refine HFO.out.mono ?_; rintro e w1 ⟨rfl, hb1⟩; rw [HZ0.out] at hb1; have hz1 := hb1.size; rw [HZ0.out] at hz1; have HA6 := hide ((famAt.new 83 w1 0 noSet).alloc (.cells (fam 0 noSet) 83)); have HA7 := hide (show famAt 83 (((w1.alloc (.cells (fam 0 noSet) 83)).alloc (.cells (fam 0 noSet) 83)).setRow w1.heap.size (fam (k : Int) M1)) (w1.heap.size + 1) 0 noSet from (show famAt 83 ((w1.alloc (.cells (fam 0 noSet) 83)).alloc (.cells (fam 0 noSet) 83)) (w1.heap.size + 1) 0 noSet by (have h := famAt.new 83 (w1.alloc (.cells (fam 0 noSet) 83)) 0 noSet; simpa using h)).rowO w1.heap.size (by omega) _); have hfa4 := (HA6.out.row (k : Int) M1).rowO (w1.heap.size + 1) (by omega) (fam (k : Int) M2); have hfb4 := HA7.out.row (k : Int) M2; have hr4 : ((((w1.alloc (.cells (fam 0 noSet) 83)).alloc (.cells (fam 0 noSet) 83)).setRow w1.heap.size (fam (k : Int) M1)).setRow (w1.heap.size + 1) (fam (k : Int) M2)).heap[w.heap.size + 2]? = some (.cells #[.int .i64 0, .slice none 0 0] 30) := (hp_rowO _ _ _ _ (by omega)).trans ((hp_rowO _ _ _ _ (by omega)).trans ((hp_old _ _ _ (by simp; omega)).trans ((hp_old _ _ _ (by omega)).trans ((hb1.block (w.heap.size + 2) (by omega)).trans HR0.out)))); have HR4 := hide hr4; have HFA4 := hide hfa4; have HFB4 := hide hfb4; have g1 := hfa4.get0; have g2 := hfb4.get0; obtain ⟨q0, q1, q2, q3⟩ := zero_slots hr4; have HB4 := hide (bl_row (bl_row (((H0.out.trans (hb1.mono (by omega))).alloc (by omega) (.cells (fam 0 noSet) 83)).alloc (by simp; omega) (.cells (fam 0 noSet) 83)) (show w.heap.size ≤ w1.heap.size by omega) (fam (k : Int) M1)) (show w.heap.size ≤ w1.heap.size + 1 by omega) (fam (k : Int) M2)); have HZX := hide (show ((((w1.alloc (.cells (fam 0 noSet) 83)).alloc (.cells (fam 0 noSet) 83)).setRow w1.heap.size (fam (k : Int) M1)).setRow (w1.heap.size + 1) (fam (k : Int) M2)).heap.size = w1.heap.size + 1 + 1 by simp [World.setRow]); clear hb1 hfa4 hfb4 hr4)
          | (refine wpList_alloc_fam zeroT rfl rfl _ (by first | (simp only [World.size_alloc]; rfl) | rfl) ?_)
          | (refine wpList_store_fam sizeT rfl (.tmp 6) (.tmp 14) rfl w1.heap.size (k : Int) M1 rfl rfl _ _ HA6.out ?_)
          | (refine wpList_store_fam sizeT rfl (.tmp 7) (.tmp 15) rfl (w1.heap.size + 1) (k : Int) M2 rfl rfl _ _ HA7.out ?_)
          | (go_at_call 94; refine (reachedBy_c k 95 #[] #[.pointer (some ⟨w1.heap.size, 0, none⟩), .pointer (some ⟨w1.heap.size + 1, 0, none⟩)] (mnN M1 M2 k) _ h7 ent_meet1 (HT.out.below HB4.out) (fun a _ => mn_lt M1 M2 k a) (fun s w5 hs5 _ hb5 => meet1_c k s w1.heap.size (w1.heap.size + 1) M1 M2 w5 h7 (by have := p2_le k 7 h7; omega) (HFA4.out.below hb5 HFA4.out.lt) (HFB4.out.below hb5 HFB4.out.lt))).mono ?_; rw [HRR.out]; rintro e w4 ⟨rfl, hb4⟩; rw [HZX.out] at hb4; have hz4 := hb4.size; rw [HZX.out] at hz4; have HB5 := hide (bl_row ((HB4.out.trans (hb4.mono (by omega))).alloc (by omega) (.cells (fam 0 noSet) 83)) (show w.heap.size ≤ w4.heap.size by omega) (fam (k : Int) R)); have HF5 := hide ((famAt.new 83 w4 0 noSet).row (k : Int) R); have HR5 := hide ((hp_rowO (w4.alloc (.cells (fam 0 noSet) 83)) w4.heap.size (w.heap.size + 2) (fam (k : Int) R) (by omega)).trans ((hp_old w4 (.cells (fam 0 noSet) 83) (w.heap.size + 2) (by omega)).trans ((hb4.block (w.heap.size + 2) (by omega)).trans HR4.out))); have HZ5 := hide (show ((w4.alloc (.cells (fam 0 noSet) 83)).setRow w4.heap.size (fam (k : Int) R)).heap.size = w4.heap.size + 1 by simp [World.setRow]); clear hb4 q0 q1 q2 q3 g1 g2)
          | (refine wpList_store_fam sizeT rfl (.tmp 9) (.tmp _) rfl w4.heap.size (k : Int) R rfl rfl _ _ (famAt.new _ _ _ _) ?_)
          | (refine wpList_load_fam rowT sizeT rfl (.tmp 9) rfl w4.heap.size rfl (k : Int) R HF5.out ?_)
          | (go_at_call 97; refine (full_c (k : Int) R _ (by omega) (by omega)).mono ?_; rw [Int.toNat_natCast]; rintro e w6 ⟨rfl, hb6⟩; rw [HZ5.out] at hb6; have hf6 := HF5.out.below hb6 (by omega); have c6 := hf6.get (low k) hlo; rw [HFU.out] at c6; have HB6 := hide (HB5.out.trans (hb6.mono (by omega))); have hr6 := (hb6.block (w.heap.size + 2) (by omega)).trans HR5.out; obtain ⟨q0, q1, q2, q3⟩ := zero_slots hr6; clear hb6 hr6 hf6))
        refine bodyPost_ret (v := .tuple #[.agg #[.int .i64 0, .slice none 0 0], .bool false]) (by simp [results, Tryd.results42, go_sem, q0, q1]) rfl ⟨_, rfl, own_nil _ _ _, ?_⟩
        exact (HB6.out.setCell (by show w.heap.size ≤ w.heap.size + 2; omega) _).setCell (by show w.heap.size ≤ w.heap.size + 2; omega) _
      · have HFU := hide hfu
        obtain ⟨e1, e2, e3⟩ := HYES.out (HMB.out.trans hfu)
        rw [e1, e2, e3]
        clear hfu e1 e2 e3
        go_enter Tryd.func42, Tryd.ntmps42
        go_wp2_with (first
          | (go_at_call 93; refine HFO.out.mono ?_; rintro e w1 ⟨rfl, hb1⟩; rw [HZ0.out] at hb1; have hz1 := hb1.size; rw [HZ0.out] at hz1; have HA6 := hide ((famAt.new 83 w1 0 noSet).alloc (.cells (fam 0 noSet) 83)); have HA7 := hide (show famAt 83 (((w1.alloc (.cells (fam 0 noSet) 83)).alloc (.cells (fam 0 noSet) 83)).setRow w1.heap.size (fam (k : Int) M1)) (w1.heap.size + 1) 0 noSet from (show famAt 83 ((w1.alloc (.cells (fam 0 noSet) 83)).alloc (.cells (fam 0 noSet) 83)) (w1.heap.size + 1) 0 noSet by (have h := famAt.new 83 (w1.alloc (.cells (fam 0 noSet) 83)) 0 noSet; simpa using h)).rowO w1.heap.size (by omega) _); have hfa4 := (HA6.out.row (k : Int) M1).rowO (w1.heap.size + 1) (by omega) (fam (k : Int) M2); have hfb4 := HA7.out.row (k : Int) M2; have hr4 : ((((w1.alloc (.cells (fam 0 noSet) 83)).alloc (.cells (fam 0 noSet) 83)).setRow w1.heap.size (fam (k : Int) M1)).setRow (w1.heap.size + 1) (fam (k : Int) M2)).heap[w.heap.size + 2]? = some (.cells #[.int .i64 0, .slice none 0 0] 30) := (hp_rowO _ _ _ _ (by omega)).trans ((hp_rowO _ _ _ _ (by omega)).trans ((hp_old _ _ _ (by simp; omega)).trans ((hp_old _ _ _ (by omega)).trans ((hb1.block (w.heap.size + 2) (by omega)).trans HR0.out)))); have HR4 := hide hr4; have HFA4 := hide hfa4; have HFB4 := hide hfb4; have g1 := hfa4.get0; have g2 := hfb4.get0; obtain ⟨q0, q1, q2, q3⟩ := zero_slots hr4; have HB4 := hide (bl_row (bl_row (((H0.out.trans (hb1.mono (by omega))).alloc (by omega) (.cells (fam 0 noSet) 83)).alloc (by simp; omega) (.cells (fam 0 noSet) 83)) (show w.heap.size ≤ w1.heap.size by omega) (fam (k : Int) M1)) (show w.heap.size ≤ w1.heap.size + 1 by omega) (fam (k : Int) M2)); have HZX := hide (show ((((w1.alloc (.cells (fam 0 noSet) 83)).alloc (.cells (fam 0 noSet) 83)).setRow w1.heap.size (fam (k : Int) M1)).setRow (w1.heap.size + 1) (fam (k : Int) M2)).heap.size = w1.heap.size + 1 + 1 by simp [World.setRow]); clear hb1 hfa4 hfb4 hr4)
          | (refine wpList_alloc_fam zeroT rfl rfl _ (by first | (simp only [World.size_alloc]; rfl) | rfl) ?_)
          | (refine wpList_store_fam sizeT rfl (.tmp 6) (.tmp 14) rfl w1.heap.size (k : Int) M1 rfl rfl _ _ HA6.out ?_)
          | (refine wpList_store_fam sizeT rfl (.tmp 7) (.tmp 15) rfl (w1.heap.size + 1) (k : Int) M2 rfl rfl _ _ HA7.out ?_)
          | (go_at_call 94; refine (reachedBy_c k 95 #[] #[.pointer (some ⟨w1.heap.size, 0, none⟩), .pointer (some ⟨w1.heap.size + 1, 0, none⟩)] (mnN M1 M2 k) _ h7 ent_meet1 (HT.out.below HB4.out) (fun a _ => mn_lt M1 M2 k a) (fun s w5 hs5 _ hb5 => meet1_c k s w1.heap.size (w1.heap.size + 1) M1 M2 w5 h7 (by have := p2_le k 7 h7; omega) (HFA4.out.below hb5 HFA4.out.lt) (HFB4.out.below hb5 HFB4.out.lt))).mono ?_; rw [HRR.out]; rintro e w4 ⟨rfl, hb4⟩; rw [HZX.out] at hb4; have hz4 := hb4.size; rw [HZX.out] at hz4; have HB5 := hide (bl_row ((HB4.out.trans (hb4.mono (by omega))).alloc (by omega) (.cells (fam 0 noSet) 83)) (show w.heap.size ≤ w4.heap.size by omega) (fam (k : Int) R)); have HF5 := hide ((famAt.new 83 w4 0 noSet).row (k : Int) R); have HR5 := hide ((hp_rowO (w4.alloc (.cells (fam 0 noSet) 83)) w4.heap.size (w.heap.size + 2) (fam (k : Int) R) (by omega)).trans ((hp_old w4 (.cells (fam 0 noSet) 83) (w.heap.size + 2) (by omega)).trans ((hb4.block (w.heap.size + 2) (by omega)).trans HR4.out))); have HZ5 := hide (show ((w4.alloc (.cells (fam 0 noSet) 83)).setRow w4.heap.size (fam (k : Int) R)).heap.size = w4.heap.size + 1 by simp [World.setRow]); clear hb4 q0 q1 q2 q3 g1 g2)
          | (refine wpList_store_fam sizeT rfl (.tmp 9) (.tmp _) rfl w4.heap.size (k : Int) R rfl rfl _ _ (famAt.new _ _ _ _) ?_)
          | (refine wpList_load_fam rowT sizeT rfl (.tmp 9) rfl w4.heap.size rfl (k : Int) R HF5.out ?_)
          | (go_at_call 97; refine (full_c (k : Int) R _ (by omega) (by omega)).mono ?_; rw [Int.toNat_natCast]; rintro e w6 ⟨rfl, hb6⟩; rw [HZ5.out] at hb6; have hz6 := hb6.size; rw [HZ5.out] at hz6; have hf6 := HF5.out.below hb6 (by omega); have c6 := hf6.get (low k) hlo; rw [HFU.out] at c6; have HF6 := hide hf6; have HB6 := hide (HB5.out.trans (hb6.mono (by omega))); have HR6 := hide ((hb6.block (w.heap.size + 2) (by omega)).trans HR5.out); clear hb6 hf6)
          | (refine wpList_load_fam rowT sizeT rfl (.tmp 9) rfl w4.heap.size rfl (k : Int) R HF6.out ?_)
          | (go_at_call 98; refine (space_c (k : Int) R _).mono ?_; rintro e w8 ⟨v8, rfl, ho8, hb8⟩; obtain ⟨ua, uc, huv⟩ := ho8.shape; subst huv; have hr8 := (hb8.block (w.heap.size + 2) (by omega)).trans HR6.out; obtain ⟨q0, q1, q2, q3⟩ := zero_slots hr8; have HB8 := hide (HB6.out.trans (hb8.mono (by omega))); have HO8 := hide ho8; clear hb8 hr8 ho8))
        generalize hSS : setsTo R 128 = SS at *
        refine bodyPost_ret (v := .tuple #[.agg #[.int .i64 (k : Int), .slice ua SS.length uc], .bool true]) (by simp [results, Tryd.results42, go_sem, q0, q1]) rfl ⟨_, rfl, ?_, ?_⟩
        · have hfin := ((HO8.out.setLow ⟨w.heap.size + 2, 0, none⟩ (show w.heap.size + 2 < _ by omega) (.int .i64 (k : Int))).setLow ⟨w.heap.size + 2, 1, none⟩ (show w.heap.size + 2 < _ by omega) (.slice ua SS.length uc))
          exact hfin.mono (by omega)
        · exact (HB8.out.setCell (by show w.heap.size ≤ w.heap.size + 2; omega) _).setCell (by show w.heap.size ≤ w.heap.size + 2; omega) _
    · obtain ⟨e1, e2, e3⟩ := me_no (la := la) (lb := lb) (meB_no2 h3)
      rw [e1, e2, e3]
      rw [hfb] at HFO
      have hnn : (fbN true n != fbN true m) = true := by show (n != m) = true; simpa using h3
      clear hfb h1 h2 h3 e1 e2 e3
      generalize fbN true n = N1 at HFO hnn
      generalize fbN true m = N2 at HFO hnn
      generalize fbM true la = M1 at HFO
      generalize fbM true lb = M2 at HFO
      go_enter Tryd.func42, Tryd.ntmps42
      go_wp2_with (first
        | (go_at_call 93; refine HFO.out.mono ?_; rintro e w1 ⟨rfl, hb1⟩; rw [HZ0.out] at hb1; have hz1 := hb1.size; rw [HZ0.out] at hz1; have HA6 := hide ((famAt.new 83 w1 0 noSet).alloc (.cells (fam 0 noSet) 83)); have HA7 := hide (show famAt 83 (((w1.alloc (.cells (fam 0 noSet) 83)).alloc (.cells (fam 0 noSet) 83)).setRow w1.heap.size (fam N1 M1)) (w1.heap.size + 1) 0 noSet from (show famAt 83 ((w1.alloc (.cells (fam 0 noSet) 83)).alloc (.cells (fam 0 noSet) 83)) (w1.heap.size + 1) 0 noSet by (have h := famAt.new 83 (w1.alloc (.cells (fam 0 noSet) 83)) 0 noSet; simpa using h)).rowO w1.heap.size (by omega) _); have hfa4 := (HA6.out.row N1 M1).rowO (w1.heap.size + 1) (by omega) (fam N2 M2); have hfb4 := HA7.out.row N2 M2; have hr4 : ((((w1.alloc (.cells (fam 0 noSet) 83)).alloc (.cells (fam 0 noSet) 83)).setRow w1.heap.size (fam N1 M1)).setRow (w1.heap.size + 1) (fam N2 M2)).heap[w.heap.size + 2]? = some (.cells #[.int .i64 0, .slice none 0 0] 30) := (hp_rowO _ _ _ _ (by omega)).trans ((hp_rowO _ _ _ _ (by omega)).trans ((hp_old _ _ _ (by simp; omega)).trans ((hp_old _ _ _ (by omega)).trans ((hb1.block (w.heap.size + 2) (by omega)).trans HR0.out)))); have HR4 := hide hr4; have HFA4 := hide hfa4; have HFB4 := hide hfb4; have g1 := hfa4.get0; have g2 := hfb4.get0; obtain ⟨q0, q1, q2, q3⟩ := zero_slots hr4; have HB4 := hide (bl_row (bl_row (((H0.out.trans (hb1.mono (by omega))).alloc (by omega) (.cells (fam 0 noSet) 83)).alloc (by simp; omega) (.cells (fam 0 noSet) 83)) (show w.heap.size ≤ w1.heap.size by omega) (fam N1 M1)) (show w.heap.size ≤ w1.heap.size + 1 by omega) (fam N2 M2)); have HZX := hide (show ((((w1.alloc (.cells (fam 0 noSet) 83)).alloc (.cells (fam 0 noSet) 83)).setRow w1.heap.size (fam N1 M1)).setRow (w1.heap.size + 1) (fam N2 M2)).heap.size = w1.heap.size + 1 + 1 by simp [World.setRow]); clear hb1 hfa4 hfb4 hr4)
        | (refine wpList_alloc_fam zeroT rfl rfl _ (by first | (simp only [World.size_alloc]; rfl) | rfl) ?_)
        | (refine wpList_store_fam sizeT rfl (.tmp 6) (.tmp 14) rfl w1.heap.size N1 M1 rfl rfl _ _ HA6.out ?_)
        | (refine wpList_store_fam sizeT rfl (.tmp 7) (.tmp 15) rfl (w1.heap.size + 1) N2 M2 rfl rfl _ _ HA7.out ?_)
        )
      refine bodyPost_ret (v := .tuple #[.agg #[.int .i64 0, .slice none 0 0], .bool false]) (by simp [results, Tryd.results42, go_sem, q0, q1]) rfl ⟨_, rfl, own_nil _ _ _, ?_⟩
      exact (HB4.out.setCell (by show w.heap.size ≤ w.heap.size + 2; omega) _).setCell (by show w.heap.size ≤ w.heap.size + 2; omega) _
theorem ent_spHasM : enters Tryd.prog 83 := enters_of Tryd.func83 (by kernel_rfl) (by kernel_rfl)
theorem bareM {w : World} {b : Nat} {T : TypeId} {x y : Value} (h : w.heap[b]? = some (.cells #[x, y] T)) (u : Value) : (w.setCell ⟨b, 1, none⟩ u).heap[b]? = some (.cells #[x, u] T) := by
  rw [hp_set w b 1 _ T u h]; rfl
set_option maxHeartbeats 4000000 in
theorem specMeetOfSpaces_c (n : Int) (v : Value) (la : List Int) (m : Int) (u : Value) (lb : List Int) (w : World) (hl : ints w.heap.size w v la) (hlen : la.length < 1000000000) (hm : ints w.heap.size w u lb) (hml : lb.length < 1000000000) (_hT : tab w) :
    Calls Tryd.prog 41 #[.agg #[.int .i64 n, v], .agg #[.int .i64 m, u]] w fun e w' => ∃ v', e = .returned (.tuple #[.agg #[.int .i64 (meN n la m lb), v'], .bool (meB n la m lb)]) ∧ own 3 w' w.heap.size v' (meL n la m lb) ∧ Below w.heap.size w w' := by
  have ha0 : (((w.alloc (.cells #[.int .i64 n, v] 30)).alloc (.cells #[.int .i64 m, u] 30)).alloc (.cells #[.int .i64 0, .slice none 0 0] 30)).heap[w.heap.size]? = some (.cells #[.int .i64 n, v] 30) := (hp_old _ _ _ (by simp; omega)).trans ((hp_old _ _ _ (by simp)).trans (hp_last _ _))
  have hb0 : (((w.alloc (.cells #[.int .i64 n, v] 30)).alloc (.cells #[.int .i64 m, u] 30)).alloc (.cells #[.int .i64 0, .slice none 0 0] 30)).heap[w.heap.size + 1]? = some (.cells #[.int .i64 m, u] 30) := (hp_old _ _ _ (by simp)).trans (by have := hp_last (w.alloc (.cells #[.int .i64 n, v] 30)) (.cells #[.int .i64 m, u] 30); simpa using this)
  have hr0 : (((w.alloc (.cells #[.int .i64 n, v] 30)).alloc (.cells #[.int .i64 m, u] 30)).alloc (.cells #[.int .i64 0, .slice none 0 0] 30)).heap[w.heap.size + 2]? = some (.cells #[.int .i64 0, .slice none 0 0] 30) := by have := hp_last ((w.alloc (.cells #[.int .i64 n, v] 30)).alloc (.cells #[.int .i64 m, u] 30)) (.cells #[.int .i64 0, .slice none 0 0] 30); simpa using this
  have H0 := hide ((((Below.refl w.heap.size w).alloc (Nat.le_refl _) (.cells #[.int .i64 n, v] 30)).alloc (by simp) (.cells #[.int .i64 m, u] 30)).alloc (by simp; omega) (.cells #[.int .i64 0, .slice none 0 0] 30))
  have HL0 := hide (((hl.alloc (.cells #[.int .i64 n, v] 30)).alloc (.cells #[.int .i64 m, u] 30)).alloc (.cells #[.int .i64 0, .slice none 0 0] 30))
  have HM0 := hide (((hm.alloc (.cells #[.int .i64 n, v] 30)).alloc (.cells #[.int .i64 m, u] 30)).alloc (.cells #[.int .i64 0, .slice none 0 0] 30))
  have hz0 : (((w.alloc (.cells #[.int .i64 n, v] 30)).alloc (.cells #[.int .i64 m, u] 30)).alloc (.cells #[.int .i64 0, .slice none 0 0] 30)).heap.size = w.heap.size + 3 := by simp
  have HA0 := hide ha0
  have HBX0 := hide hb0
  have HR0 := hide hr0
  have HZ0 := hide hz0
  clear hl hm ha0 hb0 hr0 hz0
  cases hok : okSp n la
  · have HG := hide (show goodB n la = false by rw [← ok_good]; exact hok)
    obtain ⟨e1, e2, e3⟩ := me_no (meB_no1 (fbB_no1 (m := m) (lb := lb) hok))
    rw [e1, e2, e3]
    clear hok e1 e2 e3
    go_enter Tryd.func41, Tryd.ntmps41
    go_wp2_with fail
    refine (spGood_c _ v la _ (HL0.out.mono (by rw [HZ0.out]; omega)) hlen).mono ?_
    rw [HG.out]
    rintro e w1 ⟨rfl, hb1⟩
    have ha1 := (hb1.block w.heap.size (by rw [HZ0.out]; omega)).trans HA0.out
    have hbx1 := (hb1.block (w.heap.size + 1) (by rw [HZ0.out]; omega)).trans HBX0.out
    have hr1 := (hb1.block (w.heap.size + 2) (by rw [HZ0.out]; omega)).trans HR0.out
    have a0 := cells_at0 ha1
    have a1 := cells_at1 ha1
    have b0 := cells_at0 hbx1
    have b1 := cells_at1 hbx1
    obtain ⟨q0, q1, q2, q3⟩ := zero_slots hr1
    have HA1 := hide ha1
    have HBX1 := hide hbx1
    have HR1 := hide hr1
    have HB1 := hide (H0.out.trans (hb1.mono (by rw [HZ0.out]; omega)))
    have HL1 := hide (HL0.out.below hb1 (by rw [HZ0.out]; omega))
    have HM1 := hide (HM0.out.below hb1 (by rw [HZ0.out]; omega))
    have HZ1 := hide (show w.heap.size + 3 ≤ w1.heap.size by rw [← HZ0.out]; exact hb1.size)
    clear hb1 ha1 hbx1 hr1
    go_wp2
    refine bodyPost_ret (v := .tuple #[.agg #[.int .i64 0, .slice none 0 0], .bool false]) (by simp [results, Tryd.results41, go_sem, q0, q1]) rfl ⟨_, rfl, own_nil _ _ _, ?_⟩
    exact (HB1.out.setCell (by show w.heap.size ≤ w.heap.size + 2; omega) _).setCell (by show w.heap.size ≤ w.heap.size + 2; omega) _
  · have HG := hide (show goodB n la = true by rw [← ok_good]; exact hok)
    cases hok2 : okSp m lb
    · have HG2 := hide (show goodB m lb = false by rw [← ok_good]; exact hok2)
      obtain ⟨e1, e2, e3⟩ := me_no (meB_no1 (fbB_no2 (n := n) (la := la) hok2))
      rw [e1, e2, e3]
      clear hok hok2 e1 e2 e3
      go_enter Tryd.func41, Tryd.ntmps41
      go_wp2_with fail
      refine (spGood_c _ v la _ (HL0.out.mono (by rw [HZ0.out]; omega)) hlen).mono ?_
      rw [HG.out]
      rintro e w1 ⟨rfl, hb1⟩
      have ha1 := (hb1.block w.heap.size (by rw [HZ0.out]; omega)).trans HA0.out
      have hbx1 := (hb1.block (w.heap.size + 1) (by rw [HZ0.out]; omega)).trans HBX0.out
      have hr1 := (hb1.block (w.heap.size + 2) (by rw [HZ0.out]; omega)).trans HR0.out
      have a0 := cells_at0 ha1
      have a1 := cells_at1 ha1
      have b0 := cells_at0 hbx1
      have b1 := cells_at1 hbx1
      obtain ⟨q0, q1, q2, q3⟩ := zero_slots hr1
      have HA1 := hide ha1
      have HBX1 := hide hbx1
      have HR1 := hide hr1
      have HB1 := hide (H0.out.trans (hb1.mono (by rw [HZ0.out]; omega)))
      have HL1 := hide (HL0.out.below hb1 (by rw [HZ0.out]; omega))
      have HM1 := hide (HM0.out.below hb1 (by rw [HZ0.out]; omega))
      have HZ1 := hide (show w.heap.size + 3 ≤ w1.heap.size by rw [← HZ0.out]; exact hb1.size)
      clear hb1 ha1 hbx1 hr1
      go_wp2_with fail
      refine (spGood_c _ u lb _ (HM1.out.mono (by have := HZ1.out; omega)) hml).mono ?_
      rw [HG2.out]
      rintro e w2 ⟨rfl, hb2⟩
      have ha2 := (hb2.block w.heap.size (by have := HZ1.out; omega)).trans HA1.out
      have hbx2 := (hb2.block (w.heap.size + 1) (by have := HZ1.out; omega)).trans HBX1.out
      have hr2 := (hb2.block (w.heap.size + 2) (by have := HZ1.out; omega)).trans HR1.out
      clear a0 a1 b0 b1 q0 q1 q2 q3
      have a0 := cells_at0 ha2
      have a1 := cells_at1 ha2
      have b0 := cells_at0 hbx2
      have b1 := cells_at1 hbx2
      obtain ⟨q0, q1, q2, q3⟩ := zero_slots hr2
      have HA2 := hide ha2
      have HBX2 := hide hbx2
      have HR2 := hide hr2
      have HB2 := hide (HB1.out.trans (hb2.mono (by have := HZ1.out; omega)))
      have HL2 := hide (HL1.out.below hb2 (by have := HZ1.out; omega))
      have HM2 := hide (HM1.out.below hb2 (by have := HZ1.out; omega))
      have HZ2 := hide (show w.heap.size + 3 ≤ w2.heap.size by have := HZ1.out; have := hb2.size; omega)
      clear hb2 ha2 hbx2 hr2
      go_wp2
      refine bodyPost_ret (v := .tuple #[.agg #[.int .i64 0, .slice none 0 0], .bool false]) (by simp [results, Tryd.results41, go_sem, q0, q1]) rfl ⟨_, rfl, own_nil _ _ _, ?_⟩
      exact (HB2.out.setCell (by show w.heap.size ≤ w.heap.size + 2; omega) _).setCell (by show w.heap.size ≤ w.heap.size + 2; omega) _
    · have HG2 := hide (show goodB m lb = true by rw [← ok_good]; exact hok2)
      by_cases h3 : n = m
      · subst h3
        have hnn : (n != n) = false := by simp
        have HMB := hide (meB_is (fbB_yes hok hok2) rfl)
        have hn := okSp_n hok
        obtain ⟨N, rfl⟩ := Int.eq_ofNat_of_zero_le (show 0 ≤ n by omega)
        have h7 : N ≤ 7 := by omega
        have hlo := low_lt N h7
        rw [Int.toNat_natCast] at HMB
        have HYES := hide (fun h => me_yes (n := (N : Int)) (la := la) (m := (N : Int)) (lb := lb) h)
        have HNOO := hide (fun h => me_no (n := (N : Int)) (la := la) (m := (N : Int)) (lb := lb) h)
        have HIN := hide (meF_in hok hok2)
        have HSA := hide hok
        have HSB := hide hok2
        have HSTEP := hide (fun y (hy : y < 2 ^ N) (hF : marksTo la la.length y = true) => show meF (N : Int) la lb y = (marksTo lb lb.length y && (decide (y = 0) || !decide (itemsOf (innerSp (setsTo (cutAt (meF (N : Int) la lb) y) 128) y) 7 = 0))) from meR_step (N := N) (okSp_spc hok).zero (okSp_spc hok2).zero h7 hy hF)
        have HLT := hide (fun y (h : marksTo la la.length y = true) => show y < 2 ^ N from (okSp_spc hok).lt y h)
        clear hok hok2 hn
        generalize meF (N : Int) la lb = R at HMB HYES HIN HSTEP
        go_enter Tryd.func41, Tryd.ntmps41
        go_wp2_with fail
        refine (spGood_c _ v la _ (HL0.out.mono (by rw [HZ0.out]; omega)) hlen).mono ?_
        rw [HG.out]
        rintro e w1 ⟨rfl, hb1⟩
        have ha1 := (hb1.block w.heap.size (by rw [HZ0.out]; omega)).trans HA0.out
        have hbx1 := (hb1.block (w.heap.size + 1) (by rw [HZ0.out]; omega)).trans HBX0.out
        have hr1 := (hb1.block (w.heap.size + 2) (by rw [HZ0.out]; omega)).trans HR0.out
        have a0 := cells_at0 ha1
        have a1 := cells_at1 ha1
        have b0 := cells_at0 hbx1
        have b1 := cells_at1 hbx1
        obtain ⟨q0, q1, q2, q3⟩ := zero_slots hr1
        have HA1 := hide ha1
        have HBX1 := hide hbx1
        have HR1 := hide hr1
        have HB1 := hide (H0.out.trans (hb1.mono (by rw [HZ0.out]; omega)))
        have HL1 := hide (HL0.out.below hb1 (by rw [HZ0.out]; omega))
        have HM1 := hide (HM0.out.below hb1 (by rw [HZ0.out]; omega))
        have HZ1 := hide (show w.heap.size + 3 ≤ w1.heap.size by rw [← HZ0.out]; exact hb1.size)
        clear hb1 ha1 hbx1 hr1
        go_wp2_with fail
        refine (spGood_c _ u lb _ (HM1.out.mono (by have := HZ1.out; omega)) hml).mono ?_
        rw [HG2.out]
        rintro e w2 ⟨rfl, hb2⟩
        have ha2 := (hb2.block w.heap.size (by have := HZ1.out; omega)).trans HA1.out
        have hbx2 := (hb2.block (w.heap.size + 1) (by have := HZ1.out; omega)).trans HBX1.out
        have hr2 := (hb2.block (w.heap.size + 2) (by have := HZ1.out; omega)).trans HR1.out
        clear a0 a1 b0 b1 q0 q1 q2 q3
        have a0 := cells_at0 ha2
        have a1 := cells_at1 ha2
        have b0 := cells_at0 hbx2
        have b1 := cells_at1 hbx2
        obtain ⟨q0, q1, q2, q3⟩ := zero_slots hr2
        have HA2 := hide ha2
        have HBX2 := hide hbx2
        have HR2 := hide hr2
        have HB2 := hide (HB1.out.trans (hb2.mono (by have := HZ1.out; omega)))
        have HL2 := hide (HL1.out.below hb2 (by have := HZ1.out; omega))
        have HM2 := hide (HM1.out.below hb2 (by have := HZ1.out; omega))
        have HZ2 := hide (show w.heap.size + 3 ≤ w2.heap.size by have := HZ1.out; have := hb2.size; omega)
        clear hb2 ha2 hbx2 hr2
        have HTX := hide (hp_last w2 (.cells #[.int .i64 (N : Int), .slice none 0 0] 30))
        have HBT := hide (HB2.out.alloc (by have := HZ2.out; omega) (.cells #[.int .i64 (N : Int), .slice none 0 0] 30))
        have HL3 := hide (HL2.out.alloc (.cells #[.int .i64 (N : Int), .slice none 0 0] 30))
        have HM3 := hide (HM2.out.alloc (.cells #[.int .i64 (N : Int), .slice none 0 0] 30))
        have HRT := hide ((hp_old w2 (.cells #[.int .i64 (N : Int), .slice none 0 0] 30) (w.heap.size + 2) (by have := HZ2.out; omega)).trans HR2.out)
        have HA3 := hide ((hp_old w2 (.cells #[.int .i64 (N : Int), .slice none 0 0] 30) w.heap.size (by have := HZ2.out; omega)).trans HA2.out)
        have HBX3 := hide ((hp_old w2 (.cells #[.int .i64 (N : Int), .slice none 0 0] 30) (w.heap.size + 1) (by have := HZ2.out; omega)).trans HBX2.out)
        have hd1 := cells_at1 HA3.out
        have HZT := hide (show (w2.alloc (.cells #[.int .i64 (N : Int), .slice none 0 0] 30)).heap.size = w2.heap.size + 1 by simp)
        have HZB := hide (show w.heap.size + 3 ≤ w2.heap.size from HZ2.out)
        clear q0 q1 q2 q3 a1 b1
        go_wp2_with (refine wpList_len sliceT rfl (.tmp _) rfl v rfl w.heap.size la HL3.out ?_)
        clear HA2 HBX2 HR2 HB2 HL2 HM2 HZ2 hd1 a0 b0
        generalize (w2.alloc (.cells #[.int .i64 (N : Int), .slice none 0 0] 30)) = W1 at HTX HBT HZT HRT HL3 HM3 HA3 HBX3 ⊢
        generalize hBe : w2.heap.size = B at HTX HZT HZB ⊢
        clear hBe
        have hzb := HZB.out
        go_loopw [31] (fun i w3 => ∃ k : Nat, k ≤ la.length ∧ i = .int .i64 (k : Int) ∧ Hid (∃ sv, own 3 w3 (B + 1) sv (setsTo (cutAt R (bnd la k)) 128) ∧ w3.heap[B]? = some (.cells #[.int .i64 (N : Int), sv] 30)) ∧ Hid (Below B W1 w3)) (fun i _ => la.length - (intOf i).toNat)
        case atStart => exact ⟨0, Nat.zero_le _, rfl, ⟨_, by rw [cut_start HSA.out HIN.out]; exact own_nil _ _ _, HTX.out⟩, Below.refl _ _⟩
        case round =>
          obtain ⟨k, hk, rfl, HO, HBB⟩ := hrel
          have hz3 := HBB.out.size
          rw [HZT.out] at hz3
          have HLW := hide (HL3.out.below HBB.out (by omega))
          have HMW := hide ((HM3.out.below HBB.out (by omega)).mono (show w.heap.size ≤ wr.heap.size by omega))
          have b1 := cells_at1 ((HBB.out.block (w.heap.size + 1) (by omega)).trans HBX3.out)
          by_cases hlt : k < la.length
          · have hlt' : (k : Int) < (la.length : Int) := by omega
            have HX := hide (nth_cast HSA.out k hlt)
            have hFy := (okSp_has HSA.out (nth la k)).2 ⟨k, hlt, rfl⟩
            have hy := okSp_lt128 HSA.out _ hFy
            have HRS := hide (HSTEP.out (nth la k) (HLT.out _ hFy) hFy)
            have HCY := hide (fun h => cut_yes HSA.out HIN.out hlt h)
            have HCN := hide (fun h => cut_no HSA.out HIN.out hlt h)
            have hbk : bnd la k = nth la k := by unfold bnd; rw [if_pos hlt]
            rw [hbk] at HO HCY HCN
            have HMM := hide (okSp_marks HSB.out (nth la k)).symm
            clear hFy hbk
            generalize nth la k = y at HO HX hy HRS HCY HCN HMM
            have HLA := hide (setsTo_len (cutAt R y) 128)
            have HINC := hide (sets_inc (cutAt R y) 128)
            generalize setsTo (cutAt R y) 128 = S1 at HO HRS HCY HCN HLA HINC
            obtain ⟨sv, ho3, ht3⟩ := HO.out
            obtain ⟨sa, sc, hsv⟩ := ho3.shape
            subst hsv
            have HO3 := hide ho3
            have HT3 := hide ht3
            have k3 := cells_at1 ht3
            clear HO ho3 ht3
            cases hgy : marksTo lb lb.length y
            · rw [hgy] at HRS HMM
              have HST := hide (HCN.out (by rw [HRS.out]; rfl))
              clear hgy
              go_wp2_with (first
                | (refine wpList_at sliceT intS rfl (.tmp _) (.tmp _) rfl v rfl k rfl w.heap.size la HLW.out hlt ?_; intro ad hcell hblk; rw [HX.out] at hcell)
                | (go_at_call 83; refine (spHas_c u lb (y : Int) _ HMW.out (okSp_inc HSB.out) hml).mono ?_; rw [HMM.out]; rintro e w4 ⟨rfl, rfl⟩))
              go_roundw
              case rel => exact ⟨k + 1, by omega, by go_num, ⟨_, by rw [HST.out]; exact HO3.out, HT3.out⟩, HBB⟩
              case measure => (simp [intOf] <;> omega)
            · rw [hgy] at HRS HMM
              clear hgy
              by_cases hy0 : y = 0
              · have hyb : ((y : Int) == 0) = true := by subst hy0; rfl
                have HST := hide (HCY.out (by rw [HRS.out, decide_eq_true hy0]; rfl))
                clear hy0
                go_wp2_with (first
                  | (refine wpList_at sliceT intS rfl (.tmp _) (.tmp _) rfl v rfl k rfl w.heap.size la HLW.out hlt ?_; intro ad hcell hblk; rw [HX.out] at hcell)
                  | (go_at_call 83; refine (spHas_c u lb (y : Int) _ HMW.out (okSp_inc HSB.out) hml).mono ?_; rw [HMM.out]; rintro e w4 ⟨rfl, rfl⟩)
                  | (at_builtin; refine wpList_append1 sliceT intI rfl _ _ rfl (B + 1) _ _ rfl (HO3.out.alloc _) _ (y : Int) rfl (by simp [go_sem]) (by simp; omega) (by have := HLA.out; omega) ?_; intro v5 w5 ho5 hb5; obtain ⟨a5, c5, hv5⟩ := ho5.shape; subst hv5; have HB5 := hide (((Below.refl _ _).alloc (by omega) _).trans hb5); have HO5 := hide ho5; clear ho5 hb5; have ht5 := (HB5.out.block B (by omega)).trans HT3.out; have f5 := hp_free ht5 1; have k5 := cells_at1 ht5; have HT5 := hide ht5; clear ht5; have hb6 := HBB.out.trans (HB5.out.mono (by omega)); have HB6 := hide hb6; clear hb6))
                go_roundw
                case rel => exact ⟨k + 1, by omega, by go_num, ⟨_, by have h := HO5.out.setLow ⟨B, 1, none⟩ (by show B < B + 1; omega) (.slice a5 (S1.length + 1) c5); rw [List.length_append, List.length_singleton] at h; rw [HST.out]; exact h, bareM HT5.out _⟩, HB6.out.setCell (by show B ≤ B; omega) _⟩
                case measure => (simp [intOf] <;> omega)
              · have hyb : ((y : Int) == 0) = false := by simp; omega
                rw [decide_eq_false hy0] at HRS
                have HSI := hide (fun w4 (h : ints w4.heap.size w4 (.slice sa S1.length sc) S1) => spInner_c (.slice sa S1.length sc) S1 (y : Int) w4 h HINC.out (by have := HLA.out; omega) (by omega) (by omega))
                rw [Int.toNat_natCast] at HSI
                have hz8 : itemsOf (innerSp S1 y) 7 < 128 := itemsOf_lt _ _
                clear hy0
                generalize itemsOf (innerSp S1 y) 7 = z at HRS HSI hz8
                by_cases hz0 : z = 0
                · have hzb2 : ((z : Int) != 0) = false := by subst hz0; rfl
                  have HST := hide (HCN.out (by rw [HRS.out, decide_eq_true hz0]; rfl))
                  clear hz0
                  go_wp2_with (first
                    | (refine wpList_at sliceT intS rfl (.tmp _) (.tmp _) rfl v rfl k rfl w.heap.size la HLW.out hlt ?_; intro ad hcell hblk; rw [HX.out] at hcell)
                    | (go_at_call 83; refine (spHas_c u lb (y : Int) _ HMW.out (okSp_inc HSB.out) hml).mono ?_; rw [HMM.out]; rintro e w4 ⟨rfl, rfl⟩)
                    | (go_at_call 92; refine (HSI.out _ HO3.out.ints).mono ?_; rintro e w6 ⟨rfl, rfl⟩))
                  go_roundw
                  case rel => exact ⟨k + 1, by omega, by go_num, ⟨_, by rw [HST.out]; exact HO3.out, HT3.out⟩, HBB⟩
                  case measure => (simp [intOf] <;> omega)
                · have hzb2 : ((z : Int) != 0) = true := by simp; omega
                  have HST := hide (HCY.out (by rw [HRS.out, decide_eq_false hz0]; rfl))
                  clear hz0
                  go_wp2_with (first
                    | (refine wpList_at sliceT intS rfl (.tmp _) (.tmp _) rfl v rfl k rfl w.heap.size la HLW.out hlt ?_; intro ad hcell hblk; rw [HX.out] at hcell)
                    | (go_at_call 83; refine (spHas_c u lb (y : Int) _ HMW.out (okSp_inc HSB.out) hml).mono ?_; rw [HMM.out]; rintro e w4 ⟨rfl, rfl⟩)
                    | (go_at_call 92; refine (HSI.out _ HO3.out.ints).mono ?_; rintro e w6 ⟨rfl, rfl⟩)
                    | (at_builtin; refine wpList_append1 sliceT intI rfl _ _ rfl (B + 1) _ _ rfl (HO3.out.alloc _) _ (y : Int) rfl (by simp [go_sem]) (by simp; omega) (by have := HLA.out; omega) ?_; intro v5 w5 ho5 hb5; obtain ⟨a5, c5, hv5⟩ := ho5.shape; subst hv5; have HB5 := hide (((Below.refl _ _).alloc (by omega) _).trans hb5); have HO5 := hide ho5; clear ho5 hb5; have ht5 := (HB5.out.block B (by omega)).trans HT3.out; have f5 := hp_free ht5 1; have k5 := cells_at1 ht5; have HT5 := hide ht5; clear ht5; have hb6 := HBB.out.trans (HB5.out.mono (by omega)); have HB6 := hide hb6; clear hb6))
                  go_roundw
                  case rel => exact ⟨k + 1, by omega, by go_num, ⟨_, by have h := HO5.out.setLow ⟨B, 1, none⟩ (by show B < B + 1; omega) (.slice a5 (S1.length + 1) c5); rw [List.length_append, List.length_singleton] at h; rw [HST.out]; exact h, bareM HT5.out _⟩, HB6.out.setCell (by show B ≤ B; omega) _⟩
                  case measure => (simp [intOf] <;> omega)
          · have hlt' : ¬ ((k : Int) < (la.length : Int)) := by omega
            have HKE := hide (show k = la.length by omega)
            obtain ⟨sv, ho3, ht3⟩ := HO.out
            rw [HKE.out, cut_all R la] at ho3
            obtain ⟨sa, sc, hsv⟩ := ho3.shape
            subst hsv
            have HMS := hide (show memB (setsTo R 128) (low N : Int) = R (low N) by
              rw [Bool.eq_iff_iff, mem_sets]
              exact ⟨fun h => h.2, fun h => ⟨hlo, h⟩⟩)
            have HINC := hide (sets_inc R 128)
            have HLA := hide (setsTo_len R 128)
            generalize hSS : setsTo R 128 = SS at ho3 ht3 HMS HINC HLA HYES
            have HO3 := hide ho3
            have HT3 := hide ht3
            have HR3 := hide ((HBB.out.block (w.heap.size + 2) (by omega)).trans HRT.out)
            have HB3 := hide (HBT.out.trans (HBB.out.mono (by omega)))
            have hp := wrap_p2 N h7
            have hp2 : IntKind.i64.wrap (2 ^ N) = (p2 N : Int) := by rw [IntWalk.i64_left]; exact hp
            have hp3 := wrap_low N h7
            have hp4 : wrap64 ((p2 N : Int) - 1) = (low N : Int) := by rw [← IntWalk.i64_left]; exact hp3
            clear HO ho3 ht3 b1 hSS
            cases hfu : R (low N)
            · have HFU := hide hfu
              have HE := hide (HNOO.out (HMB.out.trans hfu))
              clear hfu
              go_wp2_with fail
              refine wp_region_old (by kernel_rfl) (by kernel_rfl) ?_
              go_big_quiet_step ((first | exact fun _ => rfl | exact fun _ => ⟨rfl, rfl⟩))
              refine q_load_cell (by kernel_rfl) rfl (.tmp _) rfl ⟨B, 1, none⟩ rfl (.slice sa SS.length sc) (fun w' h => (h.cell (p := ⟨B, 1, none⟩) (by show B < wr.heap.size; omega)).trans (cells_at1 HT3.out)) ?_
              simp only [Act.put, List.setIfInBounds_toArray, List.set_cons_zero, List.set_cons_succ]
              go_big_quiet_step ((first | exact fun _ => rfl | exact fun _ => ⟨rfl, rfl⟩))
              refine q_load_cell rowI rfl (.tmp _) rfl ⟨B, 0, none⟩ rfl (.int .i64 (N : Int)) (fun w' h => (h.cell (p := ⟨B, 0, none⟩) (by show B < wr.heap.size; omega)).trans (cells_at0 HT3.out)) ?_
              simp only [Act.put, List.setIfInBounds_toArray, List.set_cons_zero, List.set_cons_succ]
              go_big_quiet_step ((first | exact fun _ => rfl | exact fun _ => ⟨rfl, rfl⟩))
              go_big_quiet_step ((first | exact fun _ => rfl | exact fun _ => ⟨rfl, rfl⟩))
              refine q_pure rfl 83 ent_spHasM _ _ rfl #[.slice sa SS.length sc, .int .i64 (low N : Int)] rfl (.bool (R (low N))) (fun w' hb => by have := spHas_c (.slice sa SS.length sc) SS (low N : Int) w' (HO3.out.kept hb).ints HINC.out (by have := HLA.out; omega); rw [HMS.out] at this; exact this) ?_
              simp only [Act.put, List.setIfInBounds_toArray, List.set_cons_zero, List.set_cons_succ]
              rw [HFU.out]
              go_big_quiet_step ((first | exact fun _ => rfl | exact fun _ => ⟨rfl, rfl⟩))
              refine wpQuiet_nil ?_
              intro w9 hb9
              have hz9 := hb9.size
              have hr9 := (hb9.block (w.heap.size + 2) (by omega)).trans HR3.out
              obtain ⟨q0, q1, q2, q3⟩ := zero_slots hr9
              have HB9 := hide (HB3.out.trans (hb9.mono (by omega)))
              have ht9 := (hb9.block B (by omega)).trans HT3.out
              have k0 := cells_at0 ht9
              have k1 := cells_at1 ht9
              have HO9 := hide (HO3.out.kept hb9)
              clear hb9 hr9 ht9
              go_wp2
              refine bodyPost_ret (v := .tuple #[.agg #[.int .i64 0, .slice none 0 0], .bool false]) (by simp [results, Tryd.results41, go_sem, q0, q1]) rfl ⟨_, by rw [HE.out.1, HE.out.2.2], by rw [HE.out.2.1]; exact own_nil _ _ _, ?_⟩
              exact (HB9.out.setCell (by show w.heap.size ≤ w.heap.size + 2; omega) _).setCell (by show w.heap.size ≤ w.heap.size + 2; omega) _
            · have HFU := hide hfu
              have HE := hide (HYES.out (HMB.out.trans hfu))
              clear hfu
              go_wp2_with fail
              refine wp_region_old (by kernel_rfl) (by kernel_rfl) ?_
              go_big_quiet_step ((first | exact fun _ => rfl | exact fun _ => ⟨rfl, rfl⟩))
              refine q_load_cell (by kernel_rfl) rfl (.tmp _) rfl ⟨B, 1, none⟩ rfl (.slice sa SS.length sc) (fun w' h => (h.cell (p := ⟨B, 1, none⟩) (by show B < wr.heap.size; omega)).trans (cells_at1 HT3.out)) ?_
              simp only [Act.put, List.setIfInBounds_toArray, List.set_cons_zero, List.set_cons_succ]
              go_big_quiet_step ((first | exact fun _ => rfl | exact fun _ => ⟨rfl, rfl⟩))
              refine q_load_cell rowI rfl (.tmp _) rfl ⟨B, 0, none⟩ rfl (.int .i64 (N : Int)) (fun w' h => (h.cell (p := ⟨B, 0, none⟩) (by show B < wr.heap.size; omega)).trans (cells_at0 HT3.out)) ?_
              simp only [Act.put, List.setIfInBounds_toArray, List.set_cons_zero, List.set_cons_succ]
              go_big_quiet_step ((first | exact fun _ => rfl | exact fun _ => ⟨rfl, rfl⟩))
              go_big_quiet_step ((first | exact fun _ => rfl | exact fun _ => ⟨rfl, rfl⟩))
              refine q_pure rfl 83 ent_spHasM _ _ rfl #[.slice sa SS.length sc, .int .i64 (low N : Int)] rfl (.bool (R (low N))) (fun w' hb => by have := spHas_c (.slice sa SS.length sc) SS (low N : Int) w' (HO3.out.kept hb).ints HINC.out (by have := HLA.out; omega); rw [HMS.out] at this; exact this) ?_
              simp only [Act.put, List.setIfInBounds_toArray, List.set_cons_zero, List.set_cons_succ]
              rw [HFU.out]
              go_big_quiet_step ((first | exact fun _ => rfl | exact fun _ => ⟨rfl, rfl⟩))
              refine wpQuiet_nil ?_
              intro w9 hb9
              have hz9 := hb9.size
              have hr9 := (hb9.block (w.heap.size + 2) (by omega)).trans HR3.out
              obtain ⟨q0, q1, q2, q3⟩ := zero_slots hr9
              have HB9 := hide (HB3.out.trans (hb9.mono (by omega)))
              have ht9 := (hb9.block B (by omega)).trans HT3.out
              have k0 := cells_at0 ht9
              have k1 := cells_at1 ht9
              have HO9 := hide (HO3.out.kept hb9)
              clear hb9 hr9 ht9
              go_wp2
              refine bodyPost_ret (v := .tuple #[.agg #[.int .i64 (N : Int), .slice sa SS.length sc], .bool true]) (by simp [results, Tryd.results41, go_sem, q0, q1]) rfl ⟨_, by rw [HE.out.1, HE.out.2.2], ?_, ?_⟩
              · rw [HE.out.2.1]
                have hfin := ((HO9.out.setLow ⟨w.heap.size + 2, 0, none⟩ (show w.heap.size + 2 < B + 1 by omega) (.int .i64 (N : Int))).setLow ⟨w.heap.size + 2, 1, none⟩ (show w.heap.size + 2 < B + 1 by omega) (.slice sa SS.length sc))
                exact hfin.mono (by omega)
              · exact (HB9.out.setCell (by show w.heap.size ≤ w.heap.size + 2; omega) _).setCell (by show w.heap.size ≤ w.heap.size + 2; omega) _
      · have hnn : (n != m) = true := by simpa using h3
        obtain ⟨e1, e2, e3⟩ := me_no (la := la) (lb := lb) (meB_no2 h3)
        rw [e1, e2, e3]
        clear hok hok2 h3 e1 e2 e3
        go_enter Tryd.func41, Tryd.ntmps41
        go_wp2_with fail
        refine (spGood_c _ v la _ (HL0.out.mono (by rw [HZ0.out]; omega)) hlen).mono ?_
        rw [HG.out]
        rintro e w1 ⟨rfl, hb1⟩
        have ha1 := (hb1.block w.heap.size (by rw [HZ0.out]; omega)).trans HA0.out
        have hbx1 := (hb1.block (w.heap.size + 1) (by rw [HZ0.out]; omega)).trans HBX0.out
        have hr1 := (hb1.block (w.heap.size + 2) (by rw [HZ0.out]; omega)).trans HR0.out
        have a0 := cells_at0 ha1
        have a1 := cells_at1 ha1
        have b0 := cells_at0 hbx1
        have b1 := cells_at1 hbx1
        obtain ⟨q0, q1, q2, q3⟩ := zero_slots hr1
        have HA1 := hide ha1
        have HBX1 := hide hbx1
        have HR1 := hide hr1
        have HB1 := hide (H0.out.trans (hb1.mono (by rw [HZ0.out]; omega)))
        have HL1 := hide (HL0.out.below hb1 (by rw [HZ0.out]; omega))
        have HM1 := hide (HM0.out.below hb1 (by rw [HZ0.out]; omega))
        have HZ1 := hide (show w.heap.size + 3 ≤ w1.heap.size by rw [← HZ0.out]; exact hb1.size)
        clear hb1 ha1 hbx1 hr1
        go_wp2_with fail
        refine (spGood_c _ u lb _ (HM1.out.mono (by have := HZ1.out; omega)) hml).mono ?_
        rw [HG2.out]
        rintro e w2 ⟨rfl, hb2⟩
        have ha2 := (hb2.block w.heap.size (by have := HZ1.out; omega)).trans HA1.out
        have hbx2 := (hb2.block (w.heap.size + 1) (by have := HZ1.out; omega)).trans HBX1.out
        have hr2 := (hb2.block (w.heap.size + 2) (by have := HZ1.out; omega)).trans HR1.out
        clear a0 a1 b0 b1 q0 q1 q2 q3
        have a0 := cells_at0 ha2
        have a1 := cells_at1 ha2
        have b0 := cells_at0 hbx2
        have b1 := cells_at1 hbx2
        obtain ⟨q0, q1, q2, q3⟩ := zero_slots hr2
        have HA2 := hide ha2
        have HBX2 := hide hbx2
        have HR2 := hide hr2
        have HB2 := hide (HB1.out.trans (hb2.mono (by have := HZ1.out; omega)))
        have HL2 := hide (HL1.out.below hb2 (by have := HZ1.out; omega))
        have HM2 := hide (HM1.out.below hb2 (by have := HZ1.out; omega))
        have HZ2 := hide (show w.heap.size + 3 ≤ w2.heap.size by have := HZ1.out; have := hb2.size; omega)
        clear hb2 ha2 hbx2 hr2
        go_wp2
        refine bodyPost_ret (v := .tuple #[.agg #[.int .i64 0, .slice none 0 0], .bool false]) (by simp [results, Tryd.results41, go_sem, q0, q1]) rfl ⟨_, rfl, own_nil _ _ _, ?_⟩
        exact (HB2.out.setCell (by show w.heap.size ≤ w.heap.size + 2; omega) _).setCell (by show w.heap.size ≤ w.heap.size + 2; omega) _
end Go.Proofs.YtonimjpfaalniaaDoor
