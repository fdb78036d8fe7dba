/- Contracts: IsDesk, both. -/
import Derived.Test.YtppojaekngeelaaDk
import Derived.Test.YtppojaekngeelaaIs
import Derived.Test.YtppojaekngeelaaFr
namespace Go.Proofs.Ytppojaekngeelaa
open Go.RowKit
set_option maxRecDepth 100000
set_option linter.unusedSimpArgs false
theorem yields_load_three {ops : Array Oper} {S : World → Prop} {a : Act} {ty : TypeId} (hT : (Try.prog.underlying ty).map TypeDesc.isRow = some true) (hZ : (Try.prog.info? ty).map (·.size) = some 3) {o : Oper} (hw : Region.wanted o (yielded ops a.tmps) = true) (x : Operand) (ho : o.op = .load ty x)
    (g : Nat) (hx : a.eval x = .pointer (some ⟨g, 0, none⟩)) (u v z : Value) (h0 : ∀ w, S w → w.cell? ⟨g, 0, none⟩ = some u) (h1 : ∀ w, S w → w.cell? ⟨g, 1, none⟩ = some v) (h2 : ∀ w, S w → w.cell? ⟨g, 2, none⟩ = some z) : YieldsIf Try.prog ops S o (.agg #[u, v, z]) a := by
  obtain ⟨d, hu, hd⟩ := rowTy_of hT
  exact yieldsIf_load_mid hw ty x ho g 0 hx [u, v, z] d (fun w hS j y hy => by
    match j, hy with
    | 0, hy => simp at hy; subst hy; exact h0 w hS
    | 1, hy => simp at hy; subst hy; exact h1 w hS
    | 2, hy => simp at hy; subst hy; exact h2 w hS
    | j + 3, hy => simp at hy) hu hd (by rw [hZ]; rfl)
theorem ent_toDesk : enters Try.prog 12 := enters_of Try.func12 (by kernel_rfl) (by kernel_rfl)
theorem ent_eqDesk : enters Try.prog 7 := enters_of Try.func7 (by kernel_rfl) (by kernel_rfl)
/-- The program's desk is a desk exactly if its space is one that has the set. -/
theorem coGood_c (n : Int) (v : Value) (l : List Int) (k : Int) (w : World) (hl : ints w.heap.size w v l) (hlen : l.length < 1000000000) :
    Calls Try.prog 18 #[.agg #[.int .i64 n, v, .int .i64 k]] w fun e w' => e = .returned (.bool (okOne n l k)) ∧ Below w.heap.size w w' := by
  have HL := hide ((hl.alloc (.cells #[.int .i64 n, v, .int .i64 k] 26)).mono (show w.heap.size ≤ (w.alloc (.cells #[.int .i64 n, v, .int .i64 k] 26)).heap.size by simp))
  have H0 := hide ((Below.refl w.heap.size w).alloc (Nat.le_refl _) (.cells #[.int .i64 n, v, .int .i64 k] 26))
  clear hl
  go_enter Try.func18, Try.ntmps18
  go_wp2_with (go_at_call 25; refine (spOne_c n v l k _ HL.out hlen).mono ?_; rintro e w1 ⟨rfl, hb⟩; have HB := hide (H0.out.trans (hb.mono (by simp))); clear hb)
  go_ret
  exact ⟨rfl, HB.out⟩
theorem specIsDesk_c (n : Int) (v : Value) (l : List Int) (k : Int) (w : World) (hl : ints w.heap.size w v l) (hlen : l.length < 1000000000) :
    Calls Try.prog 11 #[.agg #[.int .i64 n, v, .int .i64 k]] w fun e w' => e = .returned (.bool (okOne n l k)) ∧ Below w.heap.size w w' := by
  have HL := hide ((hl.alloc (.cells #[.int .i64 n, v, .int .i64 k] 26)).mono (show w.heap.size ≤ (w.alloc (.cells #[.int .i64 n, v, .int .i64 k] 26)).heap.size by simp))
  have H0 := hide ((Below.refl w.heap.size w).alloc (Nat.le_refl _) (.cells #[.int .i64 n, v, .int .i64 k] 26))
  clear hl
  go_enter Try.func11, Try.ntmps11
  go_wp2_with (go_at_call 18; refine (coGood_c n v l k _ HL.out hlen).mono ?_; rintro e w1 ⟨rfl, hb⟩; have HB := hide (H0.out.trans (hb.mono (by simp))); clear hb)
  go_ret
  exact ⟨rfl, HB.out⟩
theorem implIsDesk_c (n : Int) (v : Value) (l : List Int) (k : Int) (w : World) (hl : ints w.heap.size w v l) (hlen : l.length < 1000000000) :
    Calls Try.prog 13 #[.agg #[.int .i64 n, v, .int .i64 k]] w fun e w' => e = .returned (.bool (okOne n l k)) ∧ Below w.heap.size w w' := by
  have HL := hide ((hl.alloc (.cells #[.int .i64 n, v, .int .i64 k] 26)).mono (show w.heap.size ≤ (w.alloc (.cells #[.int .i64 n, v, .int .i64 k] 26)).heap.size by simp))
  have H0 := hide ((Below.refl w.heap.size w).alloc (Nat.le_refl _) (.cells #[.int .i64 n, v, .int .i64 k] 26))
  have HZ := hide (show (w.alloc (.cells #[.int .i64 n, v, .int .i64 k] 26)).heap.size = w.heap.size + 1 by simp)
  clear hl
  cases hok : okOne n l k
  · have HV := hide (famVal3_no n l k hok)
    clear hok
    go_enter Try.func13, Try.ntmps13
    go_wp2_with (first
      | (go_at_call 20; refine (familyAndOwnSet_c n v l k _ HL.out hlen).mono ?_; rw [HV.out]; rintro e w1 ⟨rfl, hb⟩; have hz1 := hb.size; rw [HZ.out] at hz1; have HB := hide (bl_row ((H0.out.trans (hb.mono (by rw [HZ.out]; omega))).alloc (by omega) (.cells (fam 0 noSet) 44)) (show w.heap.size ≤ w1.heap.size by omega) (fam 0 noSet)); clear hb)
      | (refine wpList_alloc_fam zeroT rfl rfl _ (by first | (simp only [World.size_alloc]; rfl) | rfl) ?_)
      | (refine wpList_store_fam sizeT rfl (.tmp _) (.tmp _) rfl w1.heap.size _ _ rfl rfl _ _ (famAt.new _ _ _ _) ?_))
    go_ret
    exact ⟨rfl, HB.out⟩
  · have HV := hide (famVal3_yes n l k hok)
    clear hok
    go_enter Try.func13, Try.ntmps13
    go_wp2_with (first
      | (go_at_call 20; refine (familyAndOwnSet_c n v l k _ HL.out hlen).mono ?_; rw [HV.out]; rintro e w1 ⟨rfl, hb⟩; have hz1 := hb.size; rw [HZ.out] at hz1; have HB := hide (bl_row ((H0.out.trans (hb.mono (by rw [HZ.out]; omega))).alloc (by omega) (.cells (fam 0 noSet) 44)) (show w.heap.size ≤ w1.heap.size by omega) (fam n (marksTo l l.length))); clear hb)
      | (refine wpList_alloc_fam zeroT rfl rfl _ (by first | (simp only [World.size_alloc]; rfl) | rfl) ?_)
      | (refine wpList_store_fam sizeT rfl (.tmp _) (.tmp _) rfl w1.heap.size _ _ rfl rfl _ _ (famAt.new _ _ _ _) ?_))
    go_ret
    exact ⟨rfl, HB.out⟩
end Go.Proofs.Ytppojaekngeelaa
