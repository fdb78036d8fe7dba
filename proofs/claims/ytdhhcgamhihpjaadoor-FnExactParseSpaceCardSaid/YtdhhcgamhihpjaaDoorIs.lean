/- IsSpace: the program's function, the specification's, and the law that holds one against the other. -/
import Derived.Test.YtdhhcgamhihpjaaDoorLawA
namespace Go.Proofs.YtdhhcgamhihpjaaDoor
open Go.RowKit
set_option maxRecDepth 100000

theorem implIsSpace_c (n : Int) (v : Value) (l : List Int) (w : World) (hl : ints w.heap.size w v l) (hlen : l.length < 1000000000) :
    Calls Tryd.prog 21 #[.agg #[.int .i64 n, v]] w fun e w' => e = .returned (.bool (okSp n l)) ∧ Below w.heap.size w w' := by
  have HL := hide ((hl.alloc (.cells #[.int .i64 n, v] 24)).mono (show w.heap.size ≤ (w.alloc (.cells #[.int .i64 n, v] 24)).heap.size by simp))
  clear hl
  go_enter Tryd.func21, Tryd.ntmps21
  go_wp2_with (first
    | (go_at_call 31; refine (familyOf_c n v l _ HL.out hlen).mono ?_; unfold famVal; rintro e w1 ⟨rfl, hb⟩)
    | (refine wpList_alloc_fam zeroT rfl rfl _ (by first | (simp only [World.size_alloc]; rfl) | rfl) ?_)
    | (refine wpList_store_fam sizeT rfl (.tmp _) (.tmp _) rfl _ _ _ rfl rfl _ _ (famAt.new _ _ _ _) ?_))
  go_ret
  have hsz := hb.size
  simp at hsz
  exact ⟨rfl, bl_row ((((Below.refl _ _).alloc (Nat.le_refl _) _).trans (hb.mono (by simp))).alloc (by omega) _) (by omega) _⟩

theorem rowSp : (Tryd.prog.underlying 24).map TypeDesc.isRow = some true := by kernel_rfl
theorem rowSl : (Tryd.prog.underlying 30).map TypeDesc.isRow = some true := by kernel_rfl
theorem sizeSp : (Tryd.prog.info? 24).map (·.size) = some 2 := by kernel_rfl
theorem sizeSl : (Tryd.prog.info? 30).map (·.size) = some 2 := by kernel_rfl
theorem ent_toSpace : enters Tryd.prog 13 := enters_of Tryd.func13 (by kernel_rfl) (by kernel_rfl)
theorem ent_eqSpace : enters Tryd.prog 7 := enters_of Tryd.func7 (by kernel_rfl) (by kernel_rfl)

theorem yields_load_two {ops : Array Oper} {S : World → Prop} {a : Act} {ty : TypeId} (hT : (Tryd.prog.underlying ty).map TypeDesc.isRow = some true) (hZ : (Tryd.prog.info? ty).map (·.size) = some 2) {o : Oper} (hw : Region.wanted o (yielded ops a.tmps) = true) (x : Operand) (ho : o.op = .load ty x)
    (g : Nat) (hx : a.eval x = .pointer (some ⟨g, 0, none⟩)) (u v : Value) (h0 : ∀ w, S w → w.cell? ⟨g, 0, none⟩ = some u) (h1 : ∀ w, S w → w.cell? ⟨g, 1, none⟩ = some v) : YieldsIf Tryd.prog ops S o (.agg #[u, v]) a := by
  obtain ⟨d, hu, hd⟩ := rowTy_of hT
  exact yieldsIf_load_mid hw ty x ho g 0 hx [u, v] d (fun w hS j y hy => by
    match j, hy with
    | 0, hy => simp at hy; subst hy; exact h0 w hS
    | 1, hy => simp at hy; subst hy; exact h1 w hS
    | j + 2, hy => simp at hy) hu hd (by rw [hZ]; rfl)

end Go.Proofs.YtdhhcgamhihpjaaDoor
