/-
  No cell of these rows narrows 'for every input' (looked for: loops, veiled, ifaces, maps, wideKeys, modest, calm, conditions, laid).
  DERIVED. THE GIVEN ROWS OF THIS SEAT. 4 by the template 'for every input the law returns true; each argument reads behind the call as it read before'; 0 by the template 'total and deterministic' (their statements: YtblglkgmnaklbaaTotals.lean).
  GIVEN WITH THE SEED: the statements are not yours to turn. If you find one false, say at which input.
  Laid BY PROGRAM, IN A SANDBOX (cutbox-rows.mjs): the forced cells as the released guide's own fill.sh prints them over the translation 2e4d5fe807f5e749… (all of the seat's roots in one cut). By AI agents, Wed Nov 11 2026. No macro, syntax, notation, axiom, sorry.
-/
import Derived.Test.YtblglkgmnaklbaaChecked
import GoSem.Claim
import GoSem.ClaimJoined
import GoSem.ClaimMapViews
import Derived.JoinedTies
import Derived.KernelRfl
namespace Go.Proofs.Ytblglkgmnaklbaa
/- THE CELL 'sum', in the pinned program and in every row, IS THE sha256 OF THE DUMP (.gsa) THAT YtblglkgmnaklbaaProg.lean LOADS. Nothing in Lean hashes anything: it is a label: what it is worth is what the hold of that sum in a sandbox is worth. -/
noncomputable def Try.pinned : Pinned := { name := "ytblglkgmnaklbaa", sum := "2e4d5fe807f5e749679cad260add0bd569b587f6812551090529879879c59f95", checked := Try.checked }
namespace Rows
def none {H : Type} : Left H := { results := [], args := [] }

/-- 'laws.FnExactWidthOf': WHATEVER THE INPUT: true; the input reads as it did. -/
def fnExactWidthOfSpec : ChangeSpec := { name := "fnExactWidthOf", fn := fun _ => fun
  | [d] => { results := [.lit (.bool true)], args := [d] }
  | _ => none }
def fnExactWidthOfRow : OpenClaim := { program := "ytblglkgmnaklbaa", sum := "2e4d5fe807f5e749679cad260add0bd569b587f6812551090529879879c59f95", func := "loop.example/g01137/laws.FnExactWidthOf", spec := "fnExactWidthOf", unfollowed := true, recurses := true, apart := false }
def FnExactWidthOfSaid : Prop := fnExactWidthOfRow.holds Try.pinned (OpenSpec.ofChange fnExactWidthOfSpec)

/-- ITS FALSE NEIGHBOUR: 'it returns false'. Refute it at one input. -/
def fnExactWidthOfWrong : ChangeSpec := { name := "fnExactWidthOf", fn := fun _ => fun
  | [d] => { results := [.lit (.bool false)], args := [d] }
  | _ => none }
def FnExactWidthOfWrongFalsely : Prop := fnExactWidthOfRow.holds Try.pinned (OpenSpec.ofChange fnExactWidthOfWrong)

/-- 'laws.FnExactChainsThrough': WHATEVER THE INPUT: true; the input reads as it did. -/
def fnExactChainsThroughSpec : ChangeSpec := { name := "fnExactChainsThrough", fn := fun _ => fun
  | [d] => { results := [.lit (.bool true)], args := [d] }
  | _ => none }
def fnExactChainsThroughRow : OpenClaim := { program := "ytblglkgmnaklbaa", sum := "2e4d5fe807f5e749679cad260add0bd569b587f6812551090529879879c59f95", func := "loop.example/g01137/laws.FnExactChainsThrough", spec := "fnExactChainsThrough", unfollowed := true, recurses := true, apart := false }
def FnExactChainsThroughSaid : Prop := fnExactChainsThroughRow.holds Try.pinned (OpenSpec.ofChange fnExactChainsThroughSpec)

/-- ITS FALSE NEIGHBOUR: 'it returns false'. Refute it at one input. -/
def fnExactChainsThroughWrong : ChangeSpec := { name := "fnExactChainsThrough", fn := fun _ => fun
  | [d] => { results := [.lit (.bool false)], args := [d] }
  | _ => none }
def FnExactChainsThroughWrongFalsely : Prop := fnExactChainsThroughRow.holds Try.pinned (OpenSpec.ofChange fnExactChainsThroughWrong)

/-- 'laws.FnExactFewestWords': WHATEVER THE INPUT: true; the input reads as it did. -/
def fnExactFewestWordsSpec : ChangeSpec := { name := "fnExactFewestWords", fn := fun _ => fun
  | [d] => { results := [.lit (.bool true)], args := [d] }
  | _ => none }
def fnExactFewestWordsRow : OpenClaim := { program := "ytblglkgmnaklbaa", sum := "2e4d5fe807f5e749679cad260add0bd569b587f6812551090529879879c59f95", func := "loop.example/g01137/laws.FnExactFewestWords", spec := "fnExactFewestWords", unfollowed := true, recurses := true, apart := false }
def FnExactFewestWordsSaid : Prop := fnExactFewestWordsRow.holds Try.pinned (OpenSpec.ofChange fnExactFewestWordsSpec)

/-- ITS FALSE NEIGHBOUR: 'it returns false'. Refute it at one input. -/
def fnExactFewestWordsWrong : ChangeSpec := { name := "fnExactFewestWords", fn := fun _ => fun
  | [d] => { results := [.lit (.bool false)], args := [d] }
  | _ => none }
def FnExactFewestWordsWrongFalsely : Prop := fnExactFewestWordsRow.holds Try.pinned (OpenSpec.ofChange fnExactFewestWordsWrong)

/-- 'laws.FnExactGreatestAntichain': WHATEVER THE INPUT: true; the input reads as it did. -/
def fnExactGreatestAntichainSpec : ChangeSpec := { name := "fnExactGreatestAntichain", fn := fun _ => fun
  | [d] => { results := [.lit (.bool true)], args := [d] }
  | _ => none }
def fnExactGreatestAntichainRow : OpenClaim := { program := "ytblglkgmnaklbaa", sum := "2e4d5fe807f5e749679cad260add0bd569b587f6812551090529879879c59f95", func := "loop.example/g01137/laws.FnExactGreatestAntichain", spec := "fnExactGreatestAntichain", unfollowed := true, recurses := true, apart := false }
def FnExactGreatestAntichainSaid : Prop := fnExactGreatestAntichainRow.holds Try.pinned (OpenSpec.ofChange fnExactGreatestAntichainSpec)

/-- ITS FALSE NEIGHBOUR: 'it returns false'. Refute it at one input. -/
def fnExactGreatestAntichainWrong : ChangeSpec := { name := "fnExactGreatestAntichain", fn := fun _ => fun
  | [d] => { results := [.lit (.bool false)], args := [d] }
  | _ => none }
def FnExactGreatestAntichainWrongFalsely : Prop := fnExactGreatestAntichainRow.holds Try.pinned (OpenSpec.ofChange fnExactGreatestAntichainWrong)

/- THE SECOND FORM. 'bulk': how many values and letters a reading holds, each counted each time it is reached (what is shared counts as often as it is met; a slice's spare places count too). A statement '..UptoSaid' is the law's where the arguments, and the package variables that the reading takes, are together of bulk at most 1048576: NARROWER than '..Said'. Prove '..Said' where nothing that the law and all that it calls make is longer than what came in: it says more and counts as full. Else prove '..UptoSaid'. A law counts once. -/
mutual
def uptoBulk {H : Type} : DataW H → Nat
  | .lit (.string bytes) => bytes.length + 1
  | .lit _ => 1
  | .nil => 1
  | .ptr d => uptoBulk d + 1
  | .slice elems spare => uptoBulkAll elems + uptoBulkAll spare + 1
  | .agg parts => uptoBulkAll parts + 1
  | .iface _ d => uptoBulk d + 1
  | .map entries => uptoBulkEntries entries + 1
  | .held _ => 1
def uptoBulkAll {H : Type} : List (DataW H) → Nat
  | [] => 0
  | d :: r => uptoBulk d + uptoBulkAll r
def uptoBulkEntries {H : Type} : List (Lit × DataW H) → Nat
  | [] => 0
  | x :: r => uptoBulkEntry x + uptoBulkEntries r
def uptoBulkEntry {H : Type} : Lit × DataW H → Nat
  | (.string bytes, d) => bytes.length + uptoBulk d + 1
  | (_, d) => uptoBulk d + 1
 end
def uptoSmall : (H : Type) → List (DataW H) → Bool := fun _ ds => decide (uptoBulkAll ds ≤ 1048576)
def OpenSpec.upto (s : _root_.Go.ChangeSpec) : _root_.Go.OpenSpec := { _root_.Go.OpenSpec.ofChange s with cond := some uptoSmall }

/-- 'laws.FnExactWidthOf', WHERE WHAT IT READS IS OF BULK AT MOST 1048576: true; the input reads as it did. -/
def fnExactWidthOfUptoRow : OpenClaim := { program := "ytblglkgmnaklbaa", sum := "2e4d5fe807f5e749679cad260add0bd569b587f6812551090529879879c59f95", func := "loop.example/g01137/laws.FnExactWidthOf", spec := "fnExactWidthOf", unfollowed := true, recurses := true, apart := false, narrowed := true }
def FnExactWidthOfUptoSaid : Prop := fnExactWidthOfUptoRow.holds Try.pinned (OpenSpec.upto fnExactWidthOfSpec)

/-- 'laws.FnExactChainsThrough', WHERE WHAT IT READS IS OF BULK AT MOST 1048576: true; the input reads as it did. -/
def fnExactChainsThroughUptoRow : OpenClaim := { program := "ytblglkgmnaklbaa", sum := "2e4d5fe807f5e749679cad260add0bd569b587f6812551090529879879c59f95", func := "loop.example/g01137/laws.FnExactChainsThrough", spec := "fnExactChainsThrough", unfollowed := true, recurses := true, apart := false, narrowed := true }
def FnExactChainsThroughUptoSaid : Prop := fnExactChainsThroughUptoRow.holds Try.pinned (OpenSpec.upto fnExactChainsThroughSpec)

/-- 'laws.FnExactFewestWords', WHERE WHAT IT READS IS OF BULK AT MOST 1048576: true; the input reads as it did. -/
def fnExactFewestWordsUptoRow : OpenClaim := { program := "ytblglkgmnaklbaa", sum := "2e4d5fe807f5e749679cad260add0bd569b587f6812551090529879879c59f95", func := "loop.example/g01137/laws.FnExactFewestWords", spec := "fnExactFewestWords", unfollowed := true, recurses := true, apart := false, narrowed := true }
def FnExactFewestWordsUptoSaid : Prop := fnExactFewestWordsUptoRow.holds Try.pinned (OpenSpec.upto fnExactFewestWordsSpec)

/-- 'laws.FnExactGreatestAntichain', WHERE WHAT IT READS IS OF BULK AT MOST 1048576: true; the input reads as it did. -/
def fnExactGreatestAntichainUptoRow : OpenClaim := { program := "ytblglkgmnaklbaa", sum := "2e4d5fe807f5e749679cad260add0bd569b587f6812551090529879879c59f95", func := "loop.example/g01137/laws.FnExactGreatestAntichain", spec := "fnExactGreatestAntichain", unfollowed := true, recurses := true, apart := false, narrowed := true }
def FnExactGreatestAntichainUptoSaid : Prop := fnExactGreatestAntichainUptoRow.holds Try.pinned (OpenSpec.upto fnExactGreatestAntichainSpec)

end Rows
end Go.Proofs.Ytblglkgmnaklbaa
