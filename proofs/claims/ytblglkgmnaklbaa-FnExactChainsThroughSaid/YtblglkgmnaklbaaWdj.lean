/- Mathematics: the chains are small. -/
import Derived.Test.YtblglkgmnaklbaaWdi
namespace Go.Proofs.Ytblglkgmnaklbaa
open Go.RowKit
theorem chP_row (P : Nat → Bool) : ∀ r ∈ chP P, r.length ≤ 128 := by
  intro r hr
  unfold chP chR at hr
  obtain ⟨a, _, rfl⟩ := List.mem_map.1 hr
  exact chW_len _ _ _
theorem chV_small (n : Int) (l : List Int) : small2 (chV n l) := by
  have h1 := chV_len n l
  refine small2_of _ 128 ?_ (by omega) (by omega)
  unfold chV
  split
  · exact chP_row _
  · simp
end Go.Proofs.Ytblglkgmnaklbaa
