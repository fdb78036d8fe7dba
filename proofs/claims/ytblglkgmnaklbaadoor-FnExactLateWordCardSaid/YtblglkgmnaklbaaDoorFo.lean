/- Contracts: the families of two spaces. -/
import Derived.Test.YtblglkgmnaklbaaDoorRs
namespace Go.Proofs.YtblglkgmnaklbaaDoor
open Go.RowKit
set_option maxRecDepth 100000
set_option linter.unusedSimpArgs false
def fbB (n : Int) (la : List Int) (m : Int) (lb : List Int) : Bool := okSp n la && okSp m lb
def fbN (b : Bool) (n : Int) : Int := if b then n else 0
def fbM (b : Bool) (l : List Int) : Nat → Bool := if b then marksTo l l.length else noSet
theorem fbB_yes {n m : Int} {la lb : List Int} (h : okSp n la = true) (h2 : okSp m lb = true) : fbB n la m lb = true := by unfold fbB; rw [h, h2]; rfl
theorem fbB_no1 {n m : Int} {la lb : List Int} (h : okSp n la = false) : fbB n la m lb = false := by unfold fbB; rw [h]; rfl
theorem fbB_no2 {n m : Int} {la lb : List Int} (h : okSp m lb = false) : fbB n la m lb = false := by unfold fbB; rw [h, Bool.and_false]
theorem fbB_in {n m : Int} {la lb : List Int} (h : fbB n la m lb = true) : okSp n la = true ∧ okSp m lb = true := by unfold fbB at h; rw [Bool.and_eq_true] at h; exact h
attribute [local irreducible] p2 low memB risB fbB
section
variable {P : Program}
/-- Three results, the first two families. -/
theorem results_fam22 {T : TypeId} (hT : (P.underlying T).map TypeDesc.isRow = some true) (hS : (P.info? T).map (·.size) = some 129) {fn : Func} {p q r : Tmp} (h : fn.results = #[.cell p T, .cell q T, .tmp r]) (tmps : Array Value) (w : World) (g g2 : Nat)
    (hp : tmps.getD p undef = .pointer (some ⟨g, 0, none⟩)) (hq : tmps.getD q undef = .pointer (some ⟨g2, 0, none⟩)) (n : Int) (F : Nat → Bool) (m : Int) (G : Nat → Bool) (hg : famAt T w g n F) (hg2 : famAt T w g2 m G) : (results fn tmps).run P w = .ok (.tuple #[.agg (fam n F), .agg (fam m G), tmps.getD r undef]) w := by
  obtain ⟨d, hu, hd⟩ := rowTy_of hT
  have hp' : tmps[p]?.getD undef = .pointer (some ⟨g, 0, none⟩) := by simpa using hp
  have hq' : tmps[q]?.getD undef = .pointer (some ⟨g2, 0, none⟩) := by simpa using hq
  have hl := run_loadVar_row (P := P) w g T T (fam n F) (0, 0) d hg hu (by cases d <;> first | rfl | (cases hd)) (by rw [hS, fam_size])
  have hl2 := run_loadVar_row (P := P) w g2 T T (fam m G) (0, 0) d hg2 hu (by cases d <;> first | rfl | (cases hd)) (by rw [hS, fam_size])
  simp [results, h, hp', hq', asAddr, hl, hl2]
end
end Go.Proofs.YtblglkgmnaklbaaDoor
