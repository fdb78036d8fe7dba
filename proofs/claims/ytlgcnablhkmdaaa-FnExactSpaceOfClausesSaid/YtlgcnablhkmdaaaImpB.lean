/- Contracts of the program's functions, II: unions over closures; what a family of sets is asked. -/
import Derived.Test.YtlgcnablhkmdaaaImpA
namespace Go.Proofs.Ytlgcnablhkmdaaa
open Go.RowKit

theorem rowT : (Try.prog.underlying 46).map TypeDesc.isRow = some true := by kernel_rfl
theorem sizeT : (Try.prog.info? 46).map (·.size) = some 129 := by kernel_rfl
theorem rowA : (Try.prog.underlying 44).map TypeDesc.isRow = some true := by kernel_rfl
theorem sizeA : (Try.prog.info? 44).map (·.size) = some 128 := by kernel_rfl

theorem arrA : Try.prog.underlying 44 = some (.array 128 4) := by kernel_rfl
theorem sizeB : (Try.prog.info? 4).map (·.size) = some 1 := by kernel_rfl
theorem rowB : (Try.prog.underlying 4).map TypeDesc.isRow = some false := by kernel_rfl

theorem zeroT : ((Try.prog.info? 46).bind (·.zero)).map Value.cells = some (fam 0 noSet) := by kernel_rfl
theorem builtT : ∀ n : Int, Try.prog.built 46 [(0, .int .i64 n)] = some (fam n noSet) := by intro n; kernel_rfl
theorem built0 : Try.prog.built 46 [] = some (fam 0 noSet) := by kernel_rfl

theorem sum_step {G : Nat → Nat} {n j : Nat} (hg : ∀ i, i < n → G i < 128) (hj : j < n) : Value.int .i64 (bits .or .i64 (orTo G j : Int) (G j : Int)) = .int .i64 (orTo G (j + 1) : Int) := by
  have h1 : orTo G j < 2 ^ 7 := orTo_lt G 7 j fun i hi => hg i (by omega)
  have h2 := hg j hj
  rw [i64_or _ _ (by omega) (by omega)]; rfl

theorem full_c (n : Int) (F : Nat → Bool) (w : World) (h0 : 0 ≤ n) (h2 : n ≤ 7) : Calls Try.prog 25 #[.agg (fam n F)] w fun e w' => e = .returned (.int .i64 (low n.toNat : Int)) ∧ Below w.heap.size w w' := by
  go_enter Try.func25, Try.ntmps25
  go_wp2_with (go_at_call 37; refine (below_c _ _ (by omega) (by omega)).mono ?_; rintro e w' ⟨rfl, rfl⟩)
  go_ret
  exact ⟨rfl, (Below.refl _ _).alloc (Nat.le_refl _) _⟩

end Go.Proofs.Ytlgcnablhkmdaaa
