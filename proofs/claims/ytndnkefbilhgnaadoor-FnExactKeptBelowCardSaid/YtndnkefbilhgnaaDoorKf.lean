/- Tasks as they come in; marks on tasks of one's own. -/
import Derived.Test.YtndnkefbilhgnaaDoorKe
namespace Go.Proofs.YtndnkefbilhgnaaDoor
open Go.RowKit Go.ChangeShapes Go.WideShapes
set_option maxRecDepth 100000
set_option linter.unusedSimpArgs false
theorem tasks_open {H : Type} {enc : TypeId × Value → H} {W : World} {b0 : Nat} {v : Value} {d : DataW H} {p : List MemPlace}
    (hv : Value.okWide Tryd.prog W .any b0 25 v) (h : DataW.Trod enc Tryd.prog W 0 (fun _ => true) true 25 v d p) :
    ∃ T : List Tsk, tks W.heap.size W v T ∧ T.length ≤ 9223372036854775807 := by
  obtain ⟨a0, len0, cap0, rfl⟩ := okWide_slice Tryd.underlying25 hv
  obtain ⟨fuel, hf⟩ := h
  have hc3 : Tryd.prog.cellsOf 70 = 3 := by kernel_rfl
  have ci : Tryd.prog.cellsOf 3 = 1 := by kernel_rfl
  rcases Go.Deep.open_slice Tryd.underlying25 hf with ⟨hcs, _⟩ | ⟨x, len, cap, m, n, D, Pl, hcs, _, hl, hm, hmm, _, hel⟩
  · simp [Value.cells] at hcs
    obtain ⟨rfl, rfl, rfl⟩ := hcs
    exact ⟨[], .inl ⟨rfl, none, 0, rfl⟩, by simp⟩
  · simp [Value.cells] at hcs
    obtain ⟨rfl, rfl, rfl⟩ := hcs
    have each : ∀ i, i < len0 → ∃ q : Int × Int × Int, W.cell? (x.add (i * 3)) = some (.int .i64 q.1) ∧ W.cell? (x.add (i * 3 + 1)) = some (.int .i64 q.2.1) ∧ W.cell? (x.add (i * 3 + 2)) = some (.int .i64 q.2.2) := by
      intro i hi
      obtain ⟨cs', h1, h2⟩ := hel i (by rw [hmm]; simp; omega)
      rw [hc3] at h1
      obtain ⟨_, hlen, hcell⟩ := World.cells?_some h1
      obtain ⟨xs, k, _, _, _, hxl, hfl⟩ := DataW.trod_struct Tryd.underlying70 h2
      match xs, hxl, cs', hlen with
      | [y0, y1, y2], _, [v0, v1, v2], _ =>
        have g0 := hfl 0 _ rfl
        have g1 := hfl 1 _ rfl
        have g2 := hfl 2 _ rfl
        simp [ci] at g0 g1 g2
        obtain ⟨n0, e0, _⟩ := DataW.trod_int Tryd.underlying3 g0
        obtain ⟨n1, e1, _⟩ := DataW.trod_int Tryd.underlying3 g1
        obtain ⟨n2, e2, _⟩ := DataW.trod_int Tryd.underlying3 g2
        have c0 := hcell 0 (by omega)
        have c1 := hcell 1 (by omega)
        have c2 := hcell 2 (by omega)
        rw [Go.Deep.add_add] at c0 c1 c2
        simp at e0 e1 e2 c0 c1 c2
        subst e0 e1 e2
        exact ⟨(n0, n1, n2), c0, c1, c2⟩
    obtain ⟨q, hq⟩ := Go.Deep.choose_lt each
    have hlen : ((List.range len0).map q).length = len0 := by simp
    have hat : ∀ j, j < len0 → ((List.range len0).map q)[j]?.getD (0, 0, 0) = q j := fun j hj => by simp [hj]
    refine ⟨(List.range len0).map q, ?_, by rw [hlen]; unfold maxLen at hm; omega⟩
    rcases Nat.eq_zero_or_pos len0 with h0 | h0
    · subst h0
      exact .inl ⟨by simp, some x, _, rfl⟩
    · obtain ⟨b, off, spot⟩ := x
      have hc0 := (hq 0 h0).1
      have hspot : spot = none := by simpa [Addr.add] using World.cell?_spot hc0
      subst hspot
      rw [add_plain] at hc0
      have hbl := block_lt_of_cell hc0
      refine .inr ⟨b, off, _, by rw [hlen], hbl, hbl, fun r hr => ?_⟩
      rw [hlen] at hr
      have h1 := hq (r / 3) (by omega)
      rw [add_plain, add_plain, add_plain] at h1
      have h3 : r % 3 = 0 ∨ r % 3 = 1 ∨ r % 3 = 2 := by omega
      unfold kc tkT tkR tkB
      rw [hat (r / 3) (by omega)]
      rcases h3 with h | h | h
      · rw [if_pos h, show off + r = off + r / 3 * 3 by omega]; exact h1.1
      · rw [if_neg (by omega), if_pos h, show off + r = off + (r / 3 * 3 + 1) by omega]; exact h1.2.1
      · rw [if_neg (by omega), if_neg (by omega), show off + r = off + (r / 3 * 3 + 2) by omega]; exact h1.2.2
set_option maxHeartbeats 1000000 in
theorem markTaskS_c (v : Value) (T : List Tsk) (k0 : Int) (w : World) (base : Nat) (hl : ownK w base v T) (hlen : T.length < 2000000) (h1 : 0 ≤ k0) (h2 : k0 < 1000000000) :
    Calls Tryd.prog 29 #[v, .int .i64 k0] w fun e w' => e = .returned (.int .i64 (k0 + 3 * (T.length : Int))) ∧ Other v w w' := by
  obtain ⟨ho1, ho2⟩ := hl
  rcases ho2 with ⟨e, h0⟩ | ⟨g, cap, cur, e, hg, hh, h3, h4, h5, h6⟩
  · subst e
    go_enter Tryd.func29, Tryd.ntmps29
    go_wp2_with fail
    go_loopw [5, 1] (fun i kv wr => i = .int .i64 ((0 : Nat) : Int) ∧ kv = .int .i64 k0 ∧ wr = w) (fun _ _ _ => 0)
    case atStart => exact ⟨rfl, rfl, rfl⟩
    case round =>
      obtain ⟨rfl, rfl, rfl⟩ := hrel
      go_wp2
      go_ret
      exact ⟨ret_i (by rw [h0]; omega), Other.refl _ _⟩
  · subst e
    have HH := hide hh
    have HSZ := hide h5
    clear hh h6 ho1
    go_enter Tryd.func29, Tryd.ntmps29
    go_wp2_with fail
    go_loopw [5, 1] (fun i kv wr => ∃ k : Nat, k ≤ T.length ∧ i = .int .i64 (k : Int) ∧ kv = .int .i64 (k0 + 3 * (k : Int)) ∧ Hid (∃ c, wr.heap[g]? = some (.cells c 68) ∧ c.size = cap * 3) ∧ Hid (Other (.slice (some ⟨g, 0, none⟩) T.length cap) w wr)) (fun i _ _ => T.length - (intOf i).toNat)
    case atStart => exact ⟨0, Nat.zero_le _, rfl, by go_num, ⟨cur, HH.out, HSZ.out⟩, Other.refl _ _⟩
    case round =>
      obtain ⟨k, hk, rfl, rfl, HC, HO⟩ := hrel
      obtain ⟨c, hc, hcs⟩ := HC.out
      by_cases hlt : k < T.length
      · have hlt' : (k : Int) < (T.length : Int) := by omega
        have hw1 : IntKind.i64.wrap (k0 + 3 * (k : Int) + 1) = k0 + 3 * (k : Int) + 1 := IntWalk.i64_in _ (by omega)
        have hw2 : IntKind.i64.wrap (k0 + 3 * (k : Int) + 1 + 1) = k0 + 3 * (k : Int) + 1 + 1 := IntWalk.i64_in _ (by omega)
        have hw3 : IntKind.i64.wrap (k0 + 3 * (k : Int) + 1 + 1 + 1) = k0 + 3 * (k : Int) + 1 + 1 + 1 := IntWalk.i64_in _ (by omega)
        have b1 := hp_set wr g (3 * k) c _ (.int .i64 (k0 + 3 * (k : Int))) hc
        have b2 := hp_set _ g (3 * k + 1) _ _ (.int .i64 (k0 + 3 * (k : Int) + 1)) b1
        have b3 := hp_set _ g (3 * k + 2) _ _ (.int .i64 (k0 + 3 * (k : Int) + 1 + 1)) b2
        have x0 : ∃ u, wr.cell? ⟨g, 3 * k, none⟩ = some u := by rw [hp_cell hc]; exact ⟨_, Array.getElem?_eq_getElem (by omega)⟩
        have x1 : ∃ u, (wr.setCell ⟨g, 3 * k, none⟩ (.int .i64 (k0 + 3 * (k : Int)))).cell? ⟨g, 3 * k + 1, none⟩ = some u := by rw [hp_cell b1]; exact ⟨_, Array.getElem?_eq_getElem (by simp; omega)⟩
        have x2 : ∃ u, ((wr.setCell ⟨g, 3 * k, none⟩ (.int .i64 (k0 + 3 * (k : Int)))).setCell ⟨g, 3 * k + 1, none⟩ (.int .i64 (k0 + 3 * (k : Int) + 1))).cell? ⟨g, 3 * k + 2, none⟩ = some u := by rw [hp_cell b2]; exact ⟨_, Array.getElem?_eq_getElem (by simp; omega)⟩
        obtain ⟨z0, c0⟩ := x0
        obtain ⟨z1, c1⟩ := x1
        obtain ⟨z2, c2⟩ := x2
        have f0 := hp_free hc (3 * k)
        have f1 := hp_free b1 (3 * k + 1)
        have f2 := hp_free b2 (3 * k + 2)
        have HB3 := hide b3
        clear HC hc b1 b2 b3 HH HSZ
        go_wp2_with (refine wpList_ptrK kSl kSz rfl (.tmp _) (.tmp _) rfl g T.length cap k rfl rfl hlt ?_)
        go_roundw
        case rel => exact ⟨k + 1, by omega, by go_num, by go_num, ⟨_, HB3.out, by simp [hcs]⟩, (((HO.out.setCell (g := g) rfl (3 * k) _).setCell (g := g) rfl (3 * k + 1) _).setCell (g := g) rfl (3 * k + 2) _)⟩
        case measure => (simp [intOf] <;> omega)
      · have hlt' : ¬ ((k : Int) < (T.length : Int)) := by omega
        have HK := hide (show k = T.length by omega)
        go_wp2
        go_ret
        exact ⟨ret_i (by rw [HK.out]), HO.out⟩
end Go.Proofs.YtndnkefbilhgnaaDoor
