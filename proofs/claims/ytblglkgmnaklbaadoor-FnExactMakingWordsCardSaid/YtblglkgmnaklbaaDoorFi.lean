/- Contracts: a word led on to a goal, the program's. -/
import Derived.Test.YtblglkgmnaklbaaDoorFm
import Derived.Test.YtblglkgmnaklbaaDoorCf
import Derived.Test.YtblglkgmnaklbaaDoorXw
namespace Go.Proofs.YtblglkgmnaklbaaDoor
open Go.RowKit
set_option maxRecDepth 100000
attribute [local irreducible] p2 low memB risB
set_option maxHeartbeats 2000000 in
theorem leadOn_c (n : Int) (F : Nat → Bool) (u : Value) (m : List Int) (s goal : Nat) (w : World) (hm : ints w.heap.size w u m) (hml : m.length < 100000000) (h0 : 0 ≤ n) (h7 : n ≤ 7)
    (hsp : Spc F n.toNat) (hs : F s = true) (hg : F goal = true) (hin : andNot s goal = 0) (hT : tab w) :
    Calls Tryd.prog 73 #[.agg (fam n F), u, .int .i64 (s : Int), .int .i64 (goal : Int)] w fun e w' => ∃ v', e = .returned v' ∧ own 3 w' w.heap.size v' (m ++ finL F n.toNat goal s) ∧ Below w.heap.size w w' := by
  have hp := p2_le n.toNat 7 (by omega)
  have hg128 : goal < 128 := by have := hsp.lt goal hg; omega
  have HLT := hide (fun x (hx : F x = true) => show x < 128 by have := hsp.lt x hx; omega)
  have HSP := hide hsp
  have HG := hide hg
  have HIN := hide (And.intro hs hin)
  have hT0 := hide hT
  have HT := hide (hT.alloc (.cells (fam n F) 57))
  have H0 := hide ((Below.refl w.heap.size w).alloc (Nat.le_refl _) (.cells (fam n F) 57))
  have HF := hide (famAt.new 57 w n F)
  have HM := hide (hm.alloc (.cells (fam n F) 57))
  have HZ := hide (show (w.alloc (.cells (fam n F) 57)).heap.size = w.heap.size + 1 by simp)
  have HLN := hide (finL_len F n.toNat goal s)
  have HN7 := hide (show n.toNat ≤ 7 by omega)
  clear hsp hs hg hin hT hm hp
  have HE := hide (show own 3 ((w.alloc (.cells (fam n F) 57)).alloc (.cells #[] 3)) (w.heap.size + 1) (.slice (some ⟨w.heap.size + 1, 0, none⟩) 0 0) [] by
    have h := own_empty 3 (w.alloc (.cells (fam n F) 57))
    rw [HZ.out] at h
    exact h)
  have HMA := hide (HM.out.alloc (.cells #[] 3))
  go_enter Tryd.func73, Tryd.ntmps73
  go_wp2_with (at_builtin; refine wpList_appendN sliceT intI rfl (.tmp 11) (.tmp 12) rfl (w.heap.size + 1) _ [] rfl HE.out u m w.heap.size rfl HMA.out (by simp) (by simp; omega) ?_; intro v1 w1 ho1 hb1; have HO1 := hide (show own 3 w1 (w.heap.size + 1) v1 m by simpa using ho1); have HB1 := hide (((Below.refl (w.heap.size + 1) (w.alloc (.cells (fam n F) 57))).alloc (by rw [HZ.out]; omega) (.cells #[] 3)).trans hb1); clear ho1 hb1)
  have HF1 := hide (HF.out.below HB1.out (by omega))
  have HT1 := hide (HT.out.belowB hT0.out HB1.out (by omega))
  have H1 := hide (H0.out.trans (HB1.out.mono (by omega)))
  have hzw : w.heap.size + 1 ≤ w1.heap.size := by have := HB1.out.size; rw [HZ.out] at this; omega
  clear HF HT H0 HB1 HE HMA HM HZ
  go_loopw [9, 2] (fun o i wr => ∃ r : Nat, i = .int .i64 (r : Int) ∧ Hid (F r = true ∧ andNot r goal = 0) ∧ Hid (∃ L, own 3 wr (w.heap.size + 1) o L ∧ L ++ finL F n.toNat goal r = m ++ finL F n.toNat goal s) ∧ Hid (Below (w.heap.size + 1) w1 wr)) (fun _ i _ => pc (andNot goal (intOf i).toNat))
  case atStart => exact ⟨s, rfl, HIN, ⟨m, HO1.out, rfl⟩, Below.refl _ _⟩
  case round =>
    obtain ⟨r, rfl, HR, HO, HBW⟩ := hrel
    obtain ⟨L, ho, hl⟩ := HO.out
    have HOO := hide ho
    have HLL := hide hl
    have hr128 : r < 128 := HLT.out r HR.out.1
    have hszw := HBW.out.size
    have hlL : L.length < 1000000000 := by
      have h1 := congrArg List.length hl
      rw [List.length_append, List.length_append] at h1
      have := HLN.out
      omega
    clear ho hl HO HO1
    by_cases hrg : r = goal
    · have hb : ((r : Int) == (goal : Int)) = true := by subst hrg; simp
      have hl := HLL.out
      rw [hrg, finL_done, List.append_nil] at hl
      have HL2 := hide hl
      clear hl hrg
      go_wp2
      go_ret
      exact ⟨_, rfl, by rw [← HL2.out]; exact HOO.out.mono (by omega), H1.out.trans (HBW.out.mono (by omega))⟩
    · have hb : ((r : Int) == (goal : Int)) = false := by simp; omega
      have hb2 : ((r : Int) != (goal : Int)) = true := by simp; omega
      obtain ⟨f1, f2, f3, f4, f5, f6, f7, f8⟩ := fin_next HSP.out HN7.out HG.out HR.out.1 HR.out.2 hrg
      have hx128 := nxt_lt F n.toNat goal r hg128
      have HXD := hide (show outerOf F n.toNat r &&& goal = nxt F n.toNat goal r from rfl)
      have HO128 := hide (outer_lt F n.toNat r HN7.out)
      generalize hi : tzN (nxt F n.toNat goal r) = i at f2 f3 f4 f5 f6 f7 f8
      have HI := hide hi
      generalize hX : nxt F n.toNat goal r = X at f1 hx128 HXD HI
      have F1 := hide f1
      have F5 := hide (And.intro f5 f6)
      have F7 := hide f7
      have F8 := hide f8
      have hi7 : i < 7 := by have := HN7.out; omega
      have HFW := hide (HF1.out.below HBW.out (by omega))
      have HTW := hide (HT1.out.belowB hT0.out HBW.out (by omega))
      clear hi hX f1 f2 f3 f4 f5 f6 f7 f8 hrg
      go_wp2_with (first
        | (refine wpList_load_fam rowT sizeT rfl (.tmp _) rfl _ rfl n F HFW.out ?_)
        | (go_at_call 80; refine (outerFringe_c n F (r : Int) wr h0 h7 (by omega) (by omega)).mono ?_; rw [Int.toNat_natCast]; rintro e w5 ⟨rfl, hb5⟩; have hsz5 := hb5.size; have HB5 := hide (HBW.out.trans (hb5.mono (by omega))); have HOO5 := hide (HOO.out.kept hb5); have HT5 := hide (HTW.out.belowB HTW.out hb5 (Nat.le_refl _)); have hand := i64_and (outerOf F n.toNat r) goal (by have := HO128.out; omega) (by omega); rw [HXD.out] at hand; clear hb5)
        | (go_at_call 102; refine (first_c X _ hx128 F1.out HT5.out).mono ?_; rw [HI.out]; rintro e w6 ⟨rfl, rfl⟩)
        | (at_builtin; refine wpList_append1 sliceT intI rfl (.tmp 23) (.tmp 25) rfl (w.heap.size + 1) _ _ rfl (HOO5.out.alloc _) _ (i : Int) rfl (by simp [go_sem]) (by simp; omega) (by omega) ?_; intro v7 w7 ho7 hb7; have HO7 := hide ho7; have HB7 := hide ((HB5.out.alloc (by omega) _).trans hb7); clear ho7 hb7)
        | (go_at_call 82; refine (with_c _ _ _ (by omega) (by omega) (by omega) (by omega)).mono ?_; rw [Int.toNat_natCast, Int.toNat_natCast]; rintro e w8 ⟨rfl, rfl⟩))
      go_roundw
      case rel => exact ⟨r ||| p2 i, rfl, F5, ⟨L ++ [(i : Int)], HO7.out, by rw [← HLL.out, F7.out, List.append_assoc]; rfl⟩, HB7⟩
      case measure =>
        have := F8.out
        simp only [intOf, Int.toNat_natCast]
        omega
end Go.Proofs.YtblglkgmnaklbaaDoor
