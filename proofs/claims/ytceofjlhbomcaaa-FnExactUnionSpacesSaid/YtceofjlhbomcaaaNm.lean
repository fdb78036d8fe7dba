/- Contracts: items numbered anew by the specification; a space or nothing; a set put into a space's sets. -/
import Derived.Test.YtceofjlhbomcaaaRn
import Derived.Test.YtceofjlhbomcaaaAny
import Derived.Test.YtceofjlhbomcaaaHar
namespace Go.Proofs.Ytceofjlhbomcaaa
open Go.RowKit
set_option maxRecDepth 100000
attribute [local irreducible] p2 low memB risB

theorem ent_spNumbered : enters Try.prog 69 := enters_of Try.func69 (by kernel_rfl) (by kernel_rfl)
theorem ent_spPutN : enters Try.prog 48 := enters_of Try.func48 (by kernel_rfl) (by kernel_rfl)
theorem bareN {w : World} {b : Nat} {T : TypeId} {x y : Value} (h : w.heap[b]? = some (.cells #[x, y] T)) (u : Value) : (w.setCell ⟨b, 1, none⟩ u).heap[b]? = some (.cells #[x, u] T) := by
  rw [hp_set _ _ _ _ _ _ h]; rfl
theorem rn_step {kept a i : Nat} (h : kept.testBit i = true) (h2 : a.testBit i = true) : (if (a &&& kept).testBit i then p2 (rnI kept i) else 0) = p2 (rnI kept i) := by
  rw [Nat.testBit_and, h, h2]; rfl
theorem rn_step0 {kept a i : Nat} (h : (a &&& kept).testBit i = false) : (if (a &&& kept).testBit i then p2 (rnI kept i) else 0) = 0 := by
  rw [h]; rfl

set_option maxHeartbeats 4000000 in
theorem spNumbered_c (a kept : Nat) (w : World) (ha : a < 128) (hk : kept < 128) :
    Calls Try.prog 69 #[.int .i64 (a : Int), .int .i64 (kept : Int)] w fun e w' => e = .returned (.int .i64 (rn kept a : Int)) ∧ w = w' := by
  have HG := hide (fun j => show orTo (fun i => if (a &&& kept).testBit i then p2 (rnI kept i) else 0) (j + 1) = orTo (fun i => if (a &&& kept).testBit i then p2 (rnI kept i) else 0) j ||| (if (a &&& kept).testBit j then p2 (rnI kept j) else 0) from rfl)
  have HL := hide (fun j (hj : j ≤ 7) => orTo_lt (fun i => if (a &&& kept).testBit i then p2 (rnI kept i) else 0) 7 j (fun i hi => by
    show (if (a &&& kept).testBit i then p2 (rnI kept i) else 0) < 2 ^ 7
    split
    · rename_i hb
      rw [Nat.testBit_and, Bool.and_eq_true] at hb
      have h1 := rnI_lt kept hk i (by omega) hb.2
      have h2 := pc_le kept
      exact p2_lt128 _ (by omega)
    · omega))
  have HR := hide (show orTo (fun i => if (a &&& kept).testBit i then p2 (rnI kept i) else 0) 7 = rn kept a from rfl)
  have H0 := hide (show orTo (fun i => if (a &&& kept).testBit i then p2 (rnI kept i) else 0) 0 = 0 from rfl)
  generalize orTo (fun i => if (a &&& kept).testBit i then p2 (rnI kept i) else 0) = O at HG HL HR H0
  have HS := hide (rnI_step kept hk)
  have HZ := hide (show rnI kept 0 = 0 by unfold rnI low; simp; rfl)
  have HK7 := hide (rnI_le kept)
  have HT := hide (fun i => Nat.testBit_and a kept i)
  go_enter Try.func69, Try.ntmps69
  go_wp2
  go_loop [5, 6, 7] (fun o k i => ∃ j : Nat, j ≤ 7 ∧ i = .int .i64 j ∧ k = .int .i64 (rnI kept j : Int) ∧ o = .int .i64 (O j : Int)) (fun _ _ i => 7 - (intOf i).toNat)
  case atStart => exact ⟨0, by omega, rfl, by rw [HZ.out]; rfl, by rw [H0.out]; rfl⟩
  case round =>
    obtain ⟨j, hj, rfl, rfl, rfl⟩ := hrel
    by_cases hlt : j < 7
    · have hS := HS.out j hlt
      have hG := HG.out j
      have hT := HT.out j
      have hO := HL.out j hj
      have hk7 := HK7.out j
      generalize O j = oj at hG hO
      cases hb : kept.testBit j
      · have HB := hide hb
        have HS1 := hide (show rnI kept (j + 1) = rnI kept j by rw [hS, hb]; simp)
        have HG1 := hide (show O (j + 1) = oj by rw [hG, rn_step0 (by rw [hT, hb, Bool.and_false])]; simp)
        generalize rnI kept j = kj at hk7 HS1
        clear hS hG hT hb
        go_wp2_with (go_at_call 60; refine (spIn_c _ _ _ (by omega) (by omega) (by omega) (by omega)).mono ?_; rw [Int.toNat_natCast, Int.toNat_natCast, HB.out]; rintro e w' ⟨rfl, rfl⟩)
        go_round
        case rel => exact ⟨j + 1, by omega, by go_num, by rw [HS1.out], by rw [HG1.out]⟩
        case measure => simp [intOf]; omega
      · cases ha2 : a.testBit j
        · have HB := hide hb
          have HA := hide ha2
          have HS1 := hide (show rnI kept (j + 1) = rnI kept j + 1 by rw [hS, hb]; simp)
          have HG1 := hide (show O (j + 1) = oj by rw [hG, rn_step0 (by rw [hT, ha2, Bool.false_and])]; simp)
          generalize rnI kept j = kj at hk7 HS1
          clear hS hG hT hb ha2
          go_wp2_with fail
          refine (spIn_c (kept : Int) (j : Int) _ (by omega) (by omega) (by omega) (by omega)).mono ?_
          rw [Int.toNat_natCast, Int.toNat_natCast, HB.out]
          rintro e w' ⟨rfl, rfl⟩
          go_wp2_with fail
          refine (spIn_c (a : Int) (j : Int) _ (by omega) (by omega) (by omega) (by omega)).mono ?_
          rw [Int.toNat_natCast, Int.toNat_natCast, HA.out]
          rintro e w' ⟨rfl, rfl⟩
          go_wp2
          go_round
          case rel => exact ⟨j + 1, by omega, by go_num, by rw [HS1.out]; go_num, by rw [HG1.out]⟩
          case measure => simp [intOf]; omega
        · have HB := hide hb
          have HA := hide ha2
          have HS1 := hide (show rnI kept (j + 1) = rnI kept j + 1 by rw [hS, hb]; simp)
          have hlt3 := rnI_lt kept hk j hlt hb
          have hpk := pc_le kept
          have HG1 := hide (show O (j + 1) = oj ||| p2 (rnI kept j) by rw [hG, rn_step hb ha2])
          generalize rnI kept j = kj at hk7 HS1 HG1 hlt3
          have hp := wrap_p2 kj (by omega)
          have hp2 : IntKind.i64.wrap (2 ^ kj) = (p2 kj : Int) := by rw [IntWalk.i64_left]; exact hp
          have hpl := p2_lt128 kj (by omega)
          have ho := i64_or oj (p2 kj) (by omega) (by omega)
          clear hS hG hT hb ha2
          go_wp2_with fail
          refine (spIn_c (kept : Int) (j : Int) _ (by omega) (by omega) (by omega) (by omega)).mono ?_
          rw [Int.toNat_natCast, Int.toNat_natCast, HB.out]
          rintro e w' ⟨rfl, rfl⟩
          go_wp2_with fail
          refine (spIn_c (a : Int) (j : Int) _ (by omega) (by omega) (by omega) (by omega)).mono ?_
          rw [Int.toNat_natCast, Int.toNat_natCast, HA.out]
          rintro e w' ⟨rfl, rfl⟩
          go_wp2
          go_round
          case rel => exact ⟨j + 1, by omega, by go_num, by rw [HS1.out]; go_num, by rw [HG1.out]⟩
          case measure => simp [intOf]; omega
    · have hj' : j = 7 := by omega
      subst hj'
      go_wp2
      go_ret
      exact ⟨ret_i (by rw [HR.out]), rfl⟩

set_option maxHeartbeats 400000 in
theorem spIf_c (n : Int) (v : Value) (l : List Int) (w : World) (hl : ints w.heap.size w v l) (hlen : l.length < 1000000000) (hg : goodB n l = true) :
    Calls Try.prog 51 #[.agg #[.int .i64 n, v]] w fun e w' => e = .returned (.tuple #[.agg #[.int .i64 n, v], .bool true]) ∧ Below w.heap.size w w' := by
  obtain ⟨aa, cc, hv⟩ := hl.shape
  subst hv
  have hs0 : ((w.alloc (.cells #[.int .i64 n, .slice aa l.length cc] 24)).alloc (.cells #[.int .i64 0, .slice none 0 0] 24)).heap[w.heap.size]? = some (.cells #[.int .i64 n, .slice aa l.length cc] 24) := (hp_old _ _ _ (by simp)).trans (hp_last _ _)
  have hr0 : ((w.alloc (.cells #[.int .i64 n, .slice aa l.length cc] 24)).alloc (.cells #[.int .i64 0, .slice none 0 0] 24)).heap[w.heap.size + 1]? = some (.cells #[.int .i64 0, .slice none 0 0] 24) := by have := hp_last (w.alloc (.cells #[.int .i64 n, .slice aa l.length cc] 24)) (.cells #[.int .i64 0, .slice none 0 0] 24); simpa using this
  have H0 := hide (((Below.refl w.heap.size w).alloc (Nat.le_refl _) (.cells #[.int .i64 n, .slice aa l.length cc] 24)).alloc (by simp) (.cells #[.int .i64 0, .slice none 0 0] 24))
  have HZ := hide (show ((w.alloc (.cells #[.int .i64 n, .slice aa l.length cc] 24)).alloc (.cells #[.int .i64 0, .slice none 0 0] 24)).heap.size = w.heap.size + 2 by simp)
  have HL := hide (((hl.alloc (.cells #[.int .i64 n, .slice aa l.length cc] 24)).alloc (.cells #[.int .i64 0, .slice none 0 0] 24)).mono (show w.heap.size ≤ ((w.alloc (.cells #[.int .i64 n, .slice aa l.length cc] 24)).alloc (.cells #[.int .i64 0, .slice none 0 0] 24)).heap.size by rw [HZ.out]; omega))
  have HS0 := hide hs0
  have HR0 := hide hr0
  have HG := hide hg
  clear hl hs0 hr0 hg
  go_enter Try.func51, Try.ntmps51
  go_wp2_with (go_at_call 64; refine (spGood_c n (.slice aa l.length cc) l _ HL.out hlen).mono ?_; rw [HG.out]; rintro e w1 ⟨rfl, hb1⟩; have hs1 := (hb1.block w.heap.size (by rw [HZ.out]; omega)).trans HS0.out; have hr1 := (hb1.block (w.heap.size + 1) (by rw [HZ.out]; omega)).trans HR0.out; have d0 := cells_at0 hs1; have d1 := cells_at1 hs1; have c0 := cells_at0 hr1; have c1 := cells_at1 hr1; have f0 := hp_free hr1 0; have f1 := hp_free hr1 1; have HB1 := hide (H0.out.trans (hb1.mono (by rw [HZ.out]; omega))); clear hb1 hs1 hr1)
  refine bodyPost_ret (v := .tuple #[.agg #[.int .i64 n, .slice aa l.length cc], .bool true]) (by simp [results, Try.results51, go_sem, c0, c1]) rfl ⟨rfl, ?_⟩
  exact (HB1.out.setCell (by show w.heap.size ≤ w.heap.size + 1; omega) _).setCell (by show w.heap.size ≤ w.heap.size + 1; omega) _
set_option maxHeartbeats 400000 in
theorem spIf_no_c (n : Int) (v : Value) (l : List Int) (w : World) (hl : ints w.heap.size w v l) (hlen : l.length < 1000000000) (hg : goodB n l = false) :
    Calls Try.prog 51 #[.agg #[.int .i64 n, v]] w fun e w' => e = .returned (.tuple #[.agg #[.int .i64 0, .slice none 0 0], .bool false]) ∧ Below w.heap.size w w' := by
  obtain ⟨aa, cc, hv⟩ := hl.shape
  subst hv
  have hs0 : ((w.alloc (.cells #[.int .i64 n, .slice aa l.length cc] 24)).alloc (.cells #[.int .i64 0, .slice none 0 0] 24)).heap[w.heap.size]? = some (.cells #[.int .i64 n, .slice aa l.length cc] 24) := (hp_old _ _ _ (by simp)).trans (hp_last _ _)
  have hr0 : ((w.alloc (.cells #[.int .i64 n, .slice aa l.length cc] 24)).alloc (.cells #[.int .i64 0, .slice none 0 0] 24)).heap[w.heap.size + 1]? = some (.cells #[.int .i64 0, .slice none 0 0] 24) := by have := hp_last (w.alloc (.cells #[.int .i64 n, .slice aa l.length cc] 24)) (.cells #[.int .i64 0, .slice none 0 0] 24); simpa using this
  have H0 := hide (((Below.refl w.heap.size w).alloc (Nat.le_refl _) (.cells #[.int .i64 n, .slice aa l.length cc] 24)).alloc (by simp) (.cells #[.int .i64 0, .slice none 0 0] 24))
  have HZ := hide (show ((w.alloc (.cells #[.int .i64 n, .slice aa l.length cc] 24)).alloc (.cells #[.int .i64 0, .slice none 0 0] 24)).heap.size = w.heap.size + 2 by simp)
  have HL := hide (((hl.alloc (.cells #[.int .i64 n, .slice aa l.length cc] 24)).alloc (.cells #[.int .i64 0, .slice none 0 0] 24)).mono (show w.heap.size ≤ ((w.alloc (.cells #[.int .i64 n, .slice aa l.length cc] 24)).alloc (.cells #[.int .i64 0, .slice none 0 0] 24)).heap.size by rw [HZ.out]; omega))
  have HS0 := hide hs0
  have HR0 := hide hr0
  have HG := hide hg
  clear hl hs0 hr0 hg
  go_enter Try.func51, Try.ntmps51
  go_wp2_with (go_at_call 64; refine (spGood_c n (.slice aa l.length cc) l _ HL.out hlen).mono ?_; rw [HG.out]; rintro e w1 ⟨rfl, hb1⟩; have hr1 := (hb1.block (w.heap.size + 1) (by rw [HZ.out]; omega)).trans HR0.out; have c0 := cells_at0 hr1; have c1 := cells_at1 hr1; have f0 := hp_free hr1 0; have f1 := hp_free hr1 1; have HB1 := hide (H0.out.trans (hb1.mono (by rw [HZ.out]; omega))); clear hb1 hr1)
  refine bodyPost_ret (v := .tuple #[.agg #[.int .i64 0, .slice none 0 0], .bool false]) (by simp [results, Try.results51, go_sem, c0, c1]) rfl ⟨rfl, ?_⟩
  exact (HB1.out.setCell (by show w.heap.size ≤ w.heap.size + 1; omega) _).setCell (by show w.heap.size ≤ w.heap.size + 1; omega) _
end Go.Proofs.Ytceofjlhbomcaaa
