/- Families as keys of a map. -/
import Derived.Test.YtijgngnjhmkhaaaDoorHp
import Derived.Test.YtijgngnjhmkhaaaDoorHk
import Derived.DeepKeys3
import Derived.Maps.OwnSet
import Derived.Maps.OwnOps
import Derived.Maps.Views
namespace Go.Proofs.YtijgngnjhmkhaaaDoor
open Go.RowKit
open Go.Maps (Keyed)
open Go.WideMaps
set_option maxRecDepth 100000
set_option linter.unusedSimpArgs false
theorem intUI : Tryd.prog.underlying 3 = some (.int .i64) := by kernel_rfl
theorem boolUI : Tryd.prog.underlying 4 = some .bool := by kernel_rfl
theorem famUI : Tryd.prog.underlying 46 = some (.struct (Tryd.prog.fieldsOf 46)) := by kernel_rfl
theorem arrUI : Tryd.prog.underlying 44 = some (.array 128 4) := by kernel_rfl
theorem types2 : ∃ m, Tryd.prog.types.size = m + 3 := ⟨Tryd.prog.types.size - 3, by kernel_rfl⟩
theorem keyFam : Tryd.prog.keyType 46 = true := by kernel_rfl
theorem keyFamAt : Tryd.prog.keyTypeAt 3 46 = true := by kernel_rfl
theorem tiledFam : Tryd.prog.tiled 3 46 = true := by kernel_rfl
theorem wideFam : (match Tryd.prog.underlying 46 with | some (.array _ _) | some (.struct _) => true | _ => false) = true := by kernel_rfl
theorem lawFam : Keyed Tryd.prog 46 := Keyed.of_law (deep_law (m := 3) (by omega) keyFamAt tiledFam wideFam)
theorem lit_bool (m : Nat) (b : Bool) : Tryd.prog.keyLits (m + 1) 4 [.bool b] = some [.bool b] := by
  unfold Program.keyLits
  rw [boolUI]
theorem lit_arr (m : Nat) (F : Nat → Bool) : Tryd.prog.keyLits (m + 2) 44 (famRow F) = some ((List.range 128).map fun i => Lit.bool (F i)) := by
  unfold Program.keyLits
  rw [arrUI]
  have hc : Tryd.prog.cellsOf 44 = 128 := by kernel_rfl
  have hb : Tryd.prog.cellsOf 4 = 1 := by kernel_rfl
  have key : ∀ i, i < 128 → Tryd.prog.keyLits (m + 1) 4 (((famRow F).drop (i * Tryd.prog.cellsOf 4)).take (Tryd.prog.cellsOf 4)) = some [.bool (F i)] := by
    intro i hi
    rw [hb, Nat.mul_one]
    have h1 := famRow_get F i hi
    have h2 : ((famRow F).drop i).take 1 = [.bool (F i)] := by
      rw [List.take_one, List.head?_drop, h1]
      rfl
    rw [h2, lit_bool]
  have hm : (List.range 128).mapM (fun i => Tryd.prog.keyLits (m + 1) 4 (((famRow F).drop (i * Tryd.prog.cellsOf 4)).take (Tryd.prog.cellsOf 4))) = some ((List.range 128).map fun i => [Lit.bool (F i)]) := by
    have gen : ∀ l : List Nat, (∀ i ∈ l, i < 128) → l.mapM (fun i => Tryd.prog.keyLits (m + 1) 4 (((famRow F).drop (i * Tryd.prog.cellsOf 4)).take (Tryd.prog.cellsOf 4))) = some (l.map fun i => [Lit.bool (F i)]) := by
      intro l
      induction l with
      | nil => intro _; rfl
      | cons i r ih =>
        intro h
        rw [List.mapM_cons, key i (h i (by simp)), ih (fun j hj => h j (by simp [hj]))]
        rfl
    exact gen _ (fun i hi => List.mem_range.1 hi)
  simp only [famRow_len, hc, if_true, hm, Option.map_some]
  congr 1 <;> simp
theorem lit_int (m : Nat) (n : Int) (h : (Lit.int .i64 n).wf = true) : Tryd.prog.keyLits (m + 1) 3 [.int .i64 n] = some [.int .i64 n] := by
  unfold Program.keyLits
  rw [intUI]
  simp [h]
theorem fieldsFam : (Tryd.prog.fieldsOf 46).toList.map (fun f => (f.type, f.offset)) = [(3, 0), (44, 1)] := by kernel_rfl
theorem namesFam : (Tryd.prog.fieldsOf 46).all (·.name != "_") = true := by kernel_rfl
/-- The literal of a family as a key. -/
def kf (m : Nat) (F : Nat → Bool) : Lit := .string (keyBytes (Lit.int .i64 (m : Int) :: (List.range 128).map fun i => Lit.bool (F i)))
theorem keyOfFam (n : Int) (F : Nat → Bool) (hn : (Lit.int .i64 n).wf = true) : keyOf Tryd.prog 46 (.agg (fam n F)) = some (.string (keyBytes (Lit.int .i64 n :: (List.range 128).map fun i => Lit.bool (F i)))) := by
  have hc : Tryd.prog.cellsOf 46 = 129 := by kernel_rfl
  have hci : Tryd.prog.cellsOf 3 = 1 := by kernel_rfl
  have hca : Tryd.prog.cellsOf 44 = 128 := by kernel_rfl
  have hf : (Value.agg (fam n F)).formed Tryd.prog 46 = true := by
    unfold Value.formed
    rw [famUI]
    simp [fam_size, hc]
  obtain ⟨m, hm⟩ := types2
  have hl : (Value.agg (fam n F)).cells.toList = Value.int .i64 n :: famRow F := by simp [Value.cells, fam]
  have hk : Tryd.prog.keyLits (Tryd.prog.types.size + 1) 46 (Value.int .i64 n :: famRow F) = some (Lit.int .i64 n :: (List.range 128).map fun i => Lit.bool (F i)) := by
    rw [hm]
    unfold Program.keyLits
    rw [famUI]
    have hf2 := fieldsFam
    have hnm := namesFam
    generalize Tryd.prog.fieldsOf 46 = fs at hf2 hnm ⊢
    obtain ⟨fl⟩ := fs
    rcases fl with _ | ⟨f0, _ | ⟨f1, _ | ⟨f2, r⟩⟩⟩
    · simp at hf2
    · simp at hf2
    · simp at hf2
      obtain ⟨⟨e1, e2⟩, e3, e4⟩ := hf2
      simp only [hnm, hc, List.length_cons, famRow_len, and_self, if_true]
      rw [show ([f0, f1] : List Field).mapM (fun f => Tryd.prog.keyLits (m + 3) f.type (((Value.int .i64 n :: famRow F).drop f.offset).take (Tryd.prog.cellsOf f.type))) = some [[Lit.int .i64 n], (List.range 128).map fun i => Lit.bool (F i)] from by
        simp only [List.mapM_cons, List.mapM_nil, e1, e2, e3, e4, hci, hca, List.drop_zero, List.drop_succ_cons, List.take_succ_cons, List.take_zero]
        rw [lit_int (m + 2) n hn, List.take_of_length_le (by rw [famRow_len]; omega), lit_arr (m + 1) F]
        rfl]
      simp
    · simp at hf2
  unfold keyOf
  rw [famUI]
  simp only [keyFam, hf, Bool.and_self, if_true, hl, hk]
  rfl
theorem kf_is {m : Nat} (hm : m ≤ 7) (F : Nat → Bool) : keyOf Tryd.prog 46 (.agg (fam (m : Int) F)) = some (kf m F) :=
  keyOfFam (m : Int) F (by
    have : m = 0 ∨ m = 1 ∨ m = 2 ∨ m = 3 ∨ m = 4 ∨ m = 5 ∨ m = 6 ∨ m = 7 := by omega
    rcases this with rfl | rfl | rfl | rfl | rfl | rfl | rfl | rfl <;> decide)
theorem fam_inj {n : Int} {F G : Nat → Bool} (h : fam n F = fam n G) : ∀ i, i < 128 → F i = G i := by
  intro i hi
  have h1 := fam_get n F i hi
  rw [h, fam_get n G i hi] at h1
  exact (Value.bool.inj (Option.some.inj h1)).symm
theorem kf_inj {m : Nat} (hm : m ≤ 7) {F G : Nat → Bool} (hF : ∀ x, F x = true → x ≤ low m) (hG : ∀ x, G x = true → x ≤ low m) (h : kf m F = kf m G) : F = G := by
  have e := lawFam.inj (kf_is hm F) (by rw [h]; exact kf_is hm G)
  have e2 := fam_inj (Value.agg.inj e)
  have hlo := low_lt m hm
  funext x
  rcases Nat.lt_or_ge x 128 with hx | hx
  · exact e2 x hx
  · cases hf : F x
    · cases hg : G x
      · rfl
      · have := hG x hg; omega
    · have := hF x hf; omega
end Go.Proofs.YtijgngnjhmkhaaaDoor
