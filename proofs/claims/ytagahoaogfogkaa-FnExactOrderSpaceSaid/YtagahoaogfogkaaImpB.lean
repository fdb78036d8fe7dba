/- Contracts of the program's functions, II: unions over closures; what a family of sets is asked. -/
import Derived.Test.YtagahoaogfogkaaImpA
namespace Go.Proofs.Ytagahoaogfogkaa
open Go.RowKit

theorem rowT : (Try.prog.underlying 64).map TypeDesc.isRow = some true := by kernel_rfl
theorem sizeT : (Try.prog.info? 64).map (·.size) = some 129 := by kernel_rfl
theorem rowA : (Try.prog.underlying 62).map TypeDesc.isRow = some true := by kernel_rfl
theorem sizeA : (Try.prog.info? 62).map (·.size) = some 128 := by kernel_rfl

theorem arrA : Try.prog.underlying 62 = some (.array 128 4) := by kernel_rfl
theorem sizeB : (Try.prog.info? 4).map (·.size) = some 1 := by kernel_rfl
theorem rowB : (Try.prog.underlying 4).map TypeDesc.isRow = some false := by kernel_rfl

theorem zeroT : ((Try.prog.info? 64).bind (·.zero)).map Value.cells = some (fam 0 noSet) := by kernel_rfl
theorem builtT : ∀ n : Int, Try.prog.built 64 [(0, .int .i64 n)] = some (fam n noSet) := by intro n; kernel_rfl
theorem built0 : Try.prog.built 64 [] = some (fam 0 noSet) := by kernel_rfl

theorem sum_step {G : Nat → Nat} {n j : Nat} (hg : ∀ i, i < n → G i < 128) (hj : j < n) : Value.int .i64 (bits .or .i64 (orTo G j : Int) (G j : Int)) = .int .i64 (orTo G (j + 1) : Int) := by
  have h1 : orTo G j < 2 ^ 7 := orTo_lt G 7 j fun i hi => hg i (by omega)
  have h2 := hg j hj
  rw [i64_or _ _ (by omega) (by omega)]; rfl

set_option maxRecDepth 100000 in
set_option maxHeartbeats 400000 in
theorem sumOf_c (n : Int) (k : Nat) (caps : Array Value) (w : World) (G : Nat → Nat) (h0 : 0 ≤ n) (h2 : n ≤ 128) (hk : enters Try.prog k)
    (hg : ∀ i, i < n.toNat → G i < 128)
    (hcl : ∀ (i : Int) (w1 : World), 0 ≤ i → i < n → Below w.heap.size w w1 → Calls Try.prog k (#[.int .i64 i] ++ caps) w1 fun e w2 => e = .returned (.int .i64 (G i.toNat : Int)) ∧ Below w1.heap.size w1 w2) :
    Calls Try.prog 119 #[.int .i64 n, .func (.func k) #[] caps] w fun e w' => e = .returned (.int .i64 (orTo G n.toNat : Int)) ∧ Below w.heap.size w w' := by
  have hg := hide hg
  have hk1 : ∀ (args : Array Value) (w : World), Sem.run Try.prog (callFunc k args) w = .ok (.enter k args) w := hk
  go_enter Try.func119, Try.ntmps119
  go_wp2_with fail
  go_loopw [5, 8] (fun s i wr => ∃ j : Nat, j ≤ n.toNat ∧ i = .int .i64 j ∧ s = .int .i64 (orTo G j : Int) ∧ Below w.heap.size w wr) (fun _ i _ => n.toNat - (intOf i).toNat)
  case atStart => exact ⟨0, by omega, rfl, rfl, Below.refl _ _⟩
  case round =>
    obtain ⟨j, hj, rfl, rfl, hb⟩ := hrel
    by_cases hlt : (j : Int) < n
    · go_wp2_with fail
      refine (hcl _ _ (by omega) hlt hb).mono ?_
      rintro e w1 ⟨rfl, hb1⟩
      rw [Int.toNat_natCast]
      go_wp2
      go_roundw
      case rel => exact ⟨j + 1, by omega, by go_num, sum_step hg.out (by omega), hb.trans (hb1.mono hb.size)⟩
      case measure => simp [intOf]; omega
    · go_wp2
      go_ret
      exact ⟨ret_i (by rw [show n.toNat = j by omega]), hb⟩
theorem full_c (n : Int) (F : Nat → Bool) (w : World) (h0 : 0 ≤ n) (h2 : n ≤ 7) : Calls Try.prog 53 #[.agg (fam n F)] w fun e w' => e = .returned (.int .i64 (low n.toNat : Int)) ∧ Below w.heap.size w w' := by
  go_enter Try.func53, Try.ntmps53
  go_wp2_with (go_at_call 91; refine (below_c _ _ (by omega) (by omega)).mono ?_; rintro e w' ⟨rfl, rfl⟩)
  go_ret
  exact ⟨rfl, (Below.refl _ _).alloc (Nat.le_refl _) _⟩

end Go.Proofs.Ytagahoaogfogkaa
