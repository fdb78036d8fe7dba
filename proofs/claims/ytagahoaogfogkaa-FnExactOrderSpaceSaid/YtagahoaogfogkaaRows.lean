/-
  No cell of these rows narrows 'for every input' (looked for: loops, veiled, ifaces, maps, wideKeys, modest, calm, conditions, laid).
  DERIVED. THE GIVEN ROWS OF THIS SEAT. 10 by the template 'for every input the law returns true; each argument reads behind the call as it read before'; 0 by the template 'total and deterministic' (their statements: YtagahoaogfogkaaTotals.lean).
  GIVEN WITH THE SEED: the statements are not yours to turn. If you find one false, say at which input.
  Laid BY PROGRAM, IN A SANDBOX (cutbox-rows.mjs): the forced cells as the released guide's own fill.sh prints them over the translation 4342b2863e622b00… (all of the seat's roots in one cut). By AI agents, Wed Nov 11 2026. No macro, syntax, notation, axiom, sorry.
-/
import Derived.Test.YtagahoaogfogkaaChecked
import GoSem.Claim
import GoSem.ClaimJoined
import GoSem.ClaimMapViews
import Derived.JoinedTies
import Derived.KernelRfl
namespace Go.Proofs.Ytagahoaogfogkaa
/- THE CELL 'sum', in the pinned program and in every row, IS THE sha256 OF THE DUMP (.gsa) THAT YtagahoaogfogkaaProg.lean LOADS. Nothing in Lean hashes anything: it is a label: what it is worth is what the hold of that sum in a sandbox is worth. -/
noncomputable def Try.pinned : Pinned := { name := "ytagahoaogfogkaa", sum := "4342b2863e622b009ba027febf5c0479a9b402b0279ac3f68c1387cf21769d06", checked := Try.checked }
namespace Rows
def none {H : Type} : Left H := { results := [], args := [] }

/-- 'laws.FnExactOrderSpace': WHATEVER THE INPUT: true; the input reads as it did. -/
def fnExactOrderSpaceSpec : ChangeSpec := { name := "fnExactOrderSpace", fn := fun _ => fun
  | [d1, d2] => { results := [.lit (.bool true)], args := [d1, d2] }
  | _ => none }
def fnExactOrderSpaceRow : OpenClaim := { program := "ytagahoaogfogkaa", sum := "4342b2863e622b009ba027febf5c0479a9b402b0279ac3f68c1387cf21769d06", func := "loop.example/g01137/laws.FnExactOrderSpace", spec := "fnExactOrderSpace", unfollowed := true, recurses := true, apart := false }
def FnExactOrderSpaceSaid : Prop := fnExactOrderSpaceRow.holds Try.pinned (OpenSpec.ofChange fnExactOrderSpaceSpec)

/-- ITS FALSE NEIGHBOUR: 'it returns false'. Refute it at one input. -/
def fnExactOrderSpaceWrong : ChangeSpec := { name := "fnExactOrderSpace", fn := fun _ => fun
  | [d1, d2] => { results := [.lit (.bool false)], args := [d1, d2] }
  | _ => none }
def FnExactOrderSpaceWrongFalsely : Prop := fnExactOrderSpaceRow.holds Try.pinned (OpenSpec.ofChange fnExactOrderSpaceWrong)

/-- 'laws.FnExactSwapWay': WHATEVER THE INPUT: true; the input reads as it did. -/
def fnExactSwapWaySpec : ChangeSpec := { name := "fnExactSwapWay", fn := fun _ => fun
  | [d1, d2, d3] => { results := [.lit (.bool true)], args := [d1, d2, d3] }
  | _ => none }
def fnExactSwapWayRow : OpenClaim := { program := "ytagahoaogfogkaa", sum := "4342b2863e622b009ba027febf5c0479a9b402b0279ac3f68c1387cf21769d06", func := "loop.example/g01137/laws.FnExactSwapWay", spec := "fnExactSwapWay", unfollowed := true, recurses := true, apart := false }
def FnExactSwapWaySaid : Prop := fnExactSwapWayRow.holds Try.pinned (OpenSpec.ofChange fnExactSwapWaySpec)

/-- ITS FALSE NEIGHBOUR: 'it returns false'. Refute it at one input. -/
def fnExactSwapWayWrong : ChangeSpec := { name := "fnExactSwapWay", fn := fun _ => fun
  | [d1, d2, d3] => { results := [.lit (.bool false)], args := [d1, d2, d3] }
  | _ => none }
def FnExactSwapWayWrongFalsely : Prop := fnExactSwapWayRow.holds Try.pinned (OpenSpec.ofChange fnExactSwapWayWrong)

/-- 'laws.FnExactSpaceOfWords': WHATEVER THE INPUT: true; the input reads as it did. -/
def fnExactSpaceOfWordsSpec : ChangeSpec := { name := "fnExactSpaceOfWords", fn := fun _ => fun
  | [d] => { results := [.lit (.bool true)], args := [d] }
  | _ => none }
def fnExactSpaceOfWordsRow : OpenClaim := { program := "ytagahoaogfogkaa", sum := "4342b2863e622b009ba027febf5c0479a9b402b0279ac3f68c1387cf21769d06", func := "loop.example/g01137/laws.FnExactSpaceOfWords", spec := "fnExactSpaceOfWords", apart := false }
def FnExactSpaceOfWordsSaid : Prop := fnExactSpaceOfWordsRow.holds Try.pinned (OpenSpec.ofChange fnExactSpaceOfWordsSpec)

/-- ITS FALSE NEIGHBOUR: 'it returns false'. Refute it at one input. -/
def fnExactSpaceOfWordsWrong : ChangeSpec := { name := "fnExactSpaceOfWords", fn := fun _ => fun
  | [d] => { results := [.lit (.bool false)], args := [d] }
  | _ => none }
def FnExactSpaceOfWordsWrongFalsely : Prop := fnExactSpaceOfWordsRow.holds Try.pinned (OpenSpec.ofChange fnExactSpaceOfWordsWrong)

/-- 'laws.FnExactIsPath': WHATEVER THE INPUT: true; the input reads as it did. -/
def fnExactIsPathSpec : ChangeSpec := { name := "fnExactIsPath", fn := fun _ => fun
  | [d1, d2] => { results := [.lit (.bool true)], args := [d1, d2] }
  | _ => none }
def fnExactIsPathRow : OpenClaim := { program := "ytagahoaogfogkaa", sum := "4342b2863e622b009ba027febf5c0479a9b402b0279ac3f68c1387cf21769d06", func := "loop.example/g01137/laws.FnExactIsPath", spec := "fnExactIsPath", unfollowed := true, recurses := true, apart := false }
def FnExactIsPathSaid : Prop := fnExactIsPathRow.holds Try.pinned (OpenSpec.ofChange fnExactIsPathSpec)

/-- ITS FALSE NEIGHBOUR: 'it returns false'. Refute it at one input. -/
def fnExactIsPathWrong : ChangeSpec := { name := "fnExactIsPath", fn := fun _ => fun
  | [d1, d2] => { results := [.lit (.bool false)], args := [d1, d2] }
  | _ => none }
def FnExactIsPathWrongFalsely : Prop := fnExactIsPathRow.holds Try.pinned (OpenSpec.ofChange fnExactIsPathWrong)

/-- 'laws.FnExactPathsOf': WHATEVER THE INPUT: true; the input reads as it did. -/
def fnExactPathsOfSpec : ChangeSpec := { name := "fnExactPathsOf", fn := fun _ => fun
  | [d] => { results := [.lit (.bool true)], args := [d] }
  | _ => none }
def fnExactPathsOfRow : OpenClaim := { program := "ytagahoaogfogkaa", sum := "4342b2863e622b009ba027febf5c0479a9b402b0279ac3f68c1387cf21769d06", func := "loop.example/g01137/laws.FnExactPathsOf", spec := "fnExactPathsOf", unfollowed := true, recurses := true, apart := false }
def FnExactPathsOfSaid : Prop := fnExactPathsOfRow.holds Try.pinned (OpenSpec.ofChange fnExactPathsOfSpec)

/-- ITS FALSE NEIGHBOUR: 'it returns false'. Refute it at one input. -/
def fnExactPathsOfWrong : ChangeSpec := { name := "fnExactPathsOf", fn := fun _ => fun
  | [d] => { results := [.lit (.bool false)], args := [d] }
  | _ => none }
def FnExactPathsOfWrongFalsely : Prop := fnExactPathsOfRow.holds Try.pinned (OpenSpec.ofChange fnExactPathsOfWrong)

/-- 'laws.FnExactPathsWithin': WHATEVER THE INPUT: true; the input reads as it did. -/
def fnExactPathsWithinSpec : ChangeSpec := { name := "fnExactPathsWithin", fn := fun _ => fun
  | [d1, d2] => { results := [.lit (.bool true)], args := [d1, d2] }
  | _ => none }
def fnExactPathsWithinRow : OpenClaim := { program := "ytagahoaogfogkaa", sum := "4342b2863e622b009ba027febf5c0479a9b402b0279ac3f68c1387cf21769d06", func := "loop.example/g01137/laws.FnExactPathsWithin", spec := "fnExactPathsWithin", unfollowed := true, recurses := true, apart := false }
def FnExactPathsWithinSaid : Prop := fnExactPathsWithinRow.holds Try.pinned (OpenSpec.ofChange fnExactPathsWithinSpec)

/-- ITS FALSE NEIGHBOUR: 'it returns false'. Refute it at one input. -/
def fnExactPathsWithinWrong : ChangeSpec := { name := "fnExactPathsWithin", fn := fun _ => fun
  | [d1, d2] => { results := [.lit (.bool false)], args := [d1, d2] }
  | _ => none }
def FnExactPathsWithinWrongFalsely : Prop := fnExactPathsWithinRow.holds Try.pinned (OpenSpec.ofChange fnExactPathsWithinWrong)

/-- 'laws.FnExactSpaceOfPaths': WHATEVER THE INPUT: true; the input reads as it did. -/
def fnExactSpaceOfPathsSpec : ChangeSpec := { name := "fnExactSpaceOfPaths", fn := fun _ => fun
  | [d1, d2] => { results := [.lit (.bool true)], args := [d1, d2] }
  | _ => none }
def fnExactSpaceOfPathsRow : OpenClaim := { program := "ytagahoaogfogkaa", sum := "4342b2863e622b009ba027febf5c0479a9b402b0279ac3f68c1387cf21769d06", func := "loop.example/g01137/laws.FnExactSpaceOfPaths", spec := "fnExactSpaceOfPaths", unfollowed := true, recurses := true, apart := false }
def FnExactSpaceOfPathsSaid : Prop := fnExactSpaceOfPathsRow.holds Try.pinned (OpenSpec.ofChange fnExactSpaceOfPathsSpec)

/-- ITS FALSE NEIGHBOUR: 'it returns false'. Refute it at one input. -/
def fnExactSpaceOfPathsWrong : ChangeSpec := { name := "fnExactSpaceOfPaths", fn := fun _ => fun
  | [d1, d2] => { results := [.lit (.bool false)], args := [d1, d2] }
  | _ => none }
def FnExactSpaceOfPathsWrongFalsely : Prop := fnExactSpaceOfPathsRow.holds Try.pinned (OpenSpec.ofChange fnExactSpaceOfPathsWrong)

/-- 'laws.FnExactSpaceOfClauses': WHATEVER THE INPUT: true; the input reads as it did. -/
def fnExactSpaceOfClausesSpec : ChangeSpec := { name := "fnExactSpaceOfClauses", fn := fun _ => fun
  | [d1, d2] => { results := [.lit (.bool true)], args := [d1, d2] }
  | _ => none }
def fnExactSpaceOfClausesRow : OpenClaim := { program := "ytagahoaogfogkaa", sum := "4342b2863e622b009ba027febf5c0479a9b402b0279ac3f68c1387cf21769d06", func := "loop.example/g01137/laws.FnExactSpaceOfClauses", spec := "fnExactSpaceOfClauses", unfollowed := true, recurses := true, apart := false }
def FnExactSpaceOfClausesSaid : Prop := fnExactSpaceOfClausesRow.holds Try.pinned (OpenSpec.ofChange fnExactSpaceOfClausesSpec)

/-- ITS FALSE NEIGHBOUR: 'it returns false'. Refute it at one input. -/
def fnExactSpaceOfClausesWrong : ChangeSpec := { name := "fnExactSpaceOfClauses", fn := fun _ => fun
  | [d1, d2] => { results := [.lit (.bool false)], args := [d1, d2] }
  | _ => none }
def FnExactSpaceOfClausesWrongFalsely : Prop := fnExactSpaceOfClausesRow.holds Try.pinned (OpenSpec.ofChange fnExactSpaceOfClausesWrong)

/-- 'laws.FnExactCanLearn': WHATEVER THE INPUT: true; the input reads as it did. -/
def fnExactCanLearnSpec : ChangeSpec := { name := "fnExactCanLearn", fn := fun _ => fun
  | [d1, d2, d3] => { results := [.lit (.bool true)], args := [d1, d2, d3] }
  | _ => none }
def fnExactCanLearnRow : OpenClaim := { program := "ytagahoaogfogkaa", sum := "4342b2863e622b009ba027febf5c0479a9b402b0279ac3f68c1387cf21769d06", func := "loop.example/g01137/laws.FnExactCanLearn", spec := "fnExactCanLearn", unfollowed := true, recurses := true, apart := false }
def FnExactCanLearnSaid : Prop := fnExactCanLearnRow.holds Try.pinned (OpenSpec.ofChange fnExactCanLearnSpec)

/-- ITS FALSE NEIGHBOUR: 'it returns false'. Refute it at one input. -/
def fnExactCanLearnWrong : ChangeSpec := { name := "fnExactCanLearn", fn := fun _ => fun
  | [d1, d2, d3] => { results := [.lit (.bool false)], args := [d1, d2, d3] }
  | _ => none }
def FnExactCanLearnWrongFalsely : Prop := fnExactCanLearnRow.holds Try.pinned (OpenSpec.ofChange fnExactCanLearnWrong)

/-- 'laws.FnExactLongestPath': WHATEVER THE INPUT: true; the input reads as it did. -/
def fnExactLongestPathSpec : ChangeSpec := { name := "fnExactLongestPath", fn := fun _ => fun
  | [d] => { results := [.lit (.bool true)], args := [d] }
  | _ => none }
def fnExactLongestPathRow : OpenClaim := { program := "ytagahoaogfogkaa", sum := "4342b2863e622b009ba027febf5c0479a9b402b0279ac3f68c1387cf21769d06", func := "loop.example/g01137/laws.FnExactLongestPath", spec := "fnExactLongestPath", unfollowed := true, recurses := true, apart := false }
def FnExactLongestPathSaid : Prop := fnExactLongestPathRow.holds Try.pinned (OpenSpec.ofChange fnExactLongestPathSpec)

/-- ITS FALSE NEIGHBOUR: 'it returns false'. Refute it at one input. -/
def fnExactLongestPathWrong : ChangeSpec := { name := "fnExactLongestPath", fn := fun _ => fun
  | [d] => { results := [.lit (.bool false)], args := [d] }
  | _ => none }
def FnExactLongestPathWrongFalsely : Prop := fnExactLongestPathRow.holds Try.pinned (OpenSpec.ofChange fnExactLongestPathWrong)

/- THE SECOND FORM. 'bulk': how many values and letters a reading holds, each counted each time it is reached (what is shared counts as often as it is met; a slice's spare places count too). A statement '..UptoSaid' is the law's where the arguments, and the package variables that the reading takes, are together of bulk at most 1048576: NARROWER than '..Said'. Prove '..Said' where nothing that the law and all that it calls make is longer than what came in: it says more and counts as full. Else prove '..UptoSaid'. A law counts once. -/
mutual
def uptoBulk {H : Type} : DataW H → Nat
  | .lit (.string bytes) => bytes.length + 1
  | .lit _ => 1
  | .nil => 1
  | .ptr d => uptoBulk d + 1
  | .slice elems spare => uptoBulkAll elems + uptoBulkAll spare + 1
  | .agg parts => uptoBulkAll parts + 1
  | .iface _ d => uptoBulk d + 1
  | .map entries => uptoBulkEntries entries + 1
  | .held _ => 1
def uptoBulkAll {H : Type} : List (DataW H) → Nat
  | [] => 0
  | d :: r => uptoBulk d + uptoBulkAll r
def uptoBulkEntries {H : Type} : List (Lit × DataW H) → Nat
  | [] => 0
  | x :: r => uptoBulkEntry x + uptoBulkEntries r
def uptoBulkEntry {H : Type} : Lit × DataW H → Nat
  | (.string bytes, d) => bytes.length + uptoBulk d + 1
  | (_, d) => uptoBulk d + 1
 end
def uptoSmall : (H : Type) → List (DataW H) → Bool := fun _ ds => decide (uptoBulkAll ds ≤ 1048576)
def OpenSpec.upto (s : _root_.Go.ChangeSpec) : _root_.Go.OpenSpec := { _root_.Go.OpenSpec.ofChange s with cond := some uptoSmall }

/-- 'laws.FnExactOrderSpace', WHERE WHAT IT READS IS OF BULK AT MOST 1048576: true; the input reads as it did. -/
def fnExactOrderSpaceUptoRow : OpenClaim := { program := "ytagahoaogfogkaa", sum := "4342b2863e622b009ba027febf5c0479a9b402b0279ac3f68c1387cf21769d06", func := "loop.example/g01137/laws.FnExactOrderSpace", spec := "fnExactOrderSpace", unfollowed := true, recurses := true, apart := false, narrowed := true }
def FnExactOrderSpaceUptoSaid : Prop := fnExactOrderSpaceUptoRow.holds Try.pinned (OpenSpec.upto fnExactOrderSpaceSpec)

/-- 'laws.FnExactSwapWay', WHERE WHAT IT READS IS OF BULK AT MOST 1048576: true; the input reads as it did. -/
def fnExactSwapWayUptoRow : OpenClaim := { program := "ytagahoaogfogkaa", sum := "4342b2863e622b009ba027febf5c0479a9b402b0279ac3f68c1387cf21769d06", func := "loop.example/g01137/laws.FnExactSwapWay", spec := "fnExactSwapWay", unfollowed := true, recurses := true, apart := false, narrowed := true }
def FnExactSwapWayUptoSaid : Prop := fnExactSwapWayUptoRow.holds Try.pinned (OpenSpec.upto fnExactSwapWaySpec)

/-- 'laws.FnExactSpaceOfWords', WHERE WHAT IT READS IS OF BULK AT MOST 1048576: true; the input reads as it did. -/
def fnExactSpaceOfWordsUptoRow : OpenClaim := { program := "ytagahoaogfogkaa", sum := "4342b2863e622b009ba027febf5c0479a9b402b0279ac3f68c1387cf21769d06", func := "loop.example/g01137/laws.FnExactSpaceOfWords", spec := "fnExactSpaceOfWords", apart := false, narrowed := true }
def FnExactSpaceOfWordsUptoSaid : Prop := fnExactSpaceOfWordsUptoRow.holds Try.pinned (OpenSpec.upto fnExactSpaceOfWordsSpec)

/-- 'laws.FnExactIsPath', WHERE WHAT IT READS IS OF BULK AT MOST 1048576: true; the input reads as it did. -/
def fnExactIsPathUptoRow : OpenClaim := { program := "ytagahoaogfogkaa", sum := "4342b2863e622b009ba027febf5c0479a9b402b0279ac3f68c1387cf21769d06", func := "loop.example/g01137/laws.FnExactIsPath", spec := "fnExactIsPath", unfollowed := true, recurses := true, apart := false, narrowed := true }
def FnExactIsPathUptoSaid : Prop := fnExactIsPathUptoRow.holds Try.pinned (OpenSpec.upto fnExactIsPathSpec)

/-- 'laws.FnExactPathsOf', WHERE WHAT IT READS IS OF BULK AT MOST 1048576: true; the input reads as it did. -/
def fnExactPathsOfUptoRow : OpenClaim := { program := "ytagahoaogfogkaa", sum := "4342b2863e622b009ba027febf5c0479a9b402b0279ac3f68c1387cf21769d06", func := "loop.example/g01137/laws.FnExactPathsOf", spec := "fnExactPathsOf", unfollowed := true, recurses := true, apart := false, narrowed := true }
def FnExactPathsOfUptoSaid : Prop := fnExactPathsOfUptoRow.holds Try.pinned (OpenSpec.upto fnExactPathsOfSpec)

/-- 'laws.FnExactPathsWithin', WHERE WHAT IT READS IS OF BULK AT MOST 1048576: true; the input reads as it did. -/
def fnExactPathsWithinUptoRow : OpenClaim := { program := "ytagahoaogfogkaa", sum := "4342b2863e622b009ba027febf5c0479a9b402b0279ac3f68c1387cf21769d06", func := "loop.example/g01137/laws.FnExactPathsWithin", spec := "fnExactPathsWithin", unfollowed := true, recurses := true, apart := false, narrowed := true }
def FnExactPathsWithinUptoSaid : Prop := fnExactPathsWithinUptoRow.holds Try.pinned (OpenSpec.upto fnExactPathsWithinSpec)

/-- 'laws.FnExactSpaceOfPaths', WHERE WHAT IT READS IS OF BULK AT MOST 1048576: true; the input reads as it did. -/
def fnExactSpaceOfPathsUptoRow : OpenClaim := { program := "ytagahoaogfogkaa", sum := "4342b2863e622b009ba027febf5c0479a9b402b0279ac3f68c1387cf21769d06", func := "loop.example/g01137/laws.FnExactSpaceOfPaths", spec := "fnExactSpaceOfPaths", unfollowed := true, recurses := true, apart := false, narrowed := true }
def FnExactSpaceOfPathsUptoSaid : Prop := fnExactSpaceOfPathsUptoRow.holds Try.pinned (OpenSpec.upto fnExactSpaceOfPathsSpec)

/-- 'laws.FnExactSpaceOfClauses', WHERE WHAT IT READS IS OF BULK AT MOST 1048576: true; the input reads as it did. -/
def fnExactSpaceOfClausesUptoRow : OpenClaim := { program := "ytagahoaogfogkaa", sum := "4342b2863e622b009ba027febf5c0479a9b402b0279ac3f68c1387cf21769d06", func := "loop.example/g01137/laws.FnExactSpaceOfClauses", spec := "fnExactSpaceOfClauses", unfollowed := true, recurses := true, apart := false, narrowed := true }
def FnExactSpaceOfClausesUptoSaid : Prop := fnExactSpaceOfClausesUptoRow.holds Try.pinned (OpenSpec.upto fnExactSpaceOfClausesSpec)

/-- 'laws.FnExactCanLearn', WHERE WHAT IT READS IS OF BULK AT MOST 1048576: true; the input reads as it did. -/
def fnExactCanLearnUptoRow : OpenClaim := { program := "ytagahoaogfogkaa", sum := "4342b2863e622b009ba027febf5c0479a9b402b0279ac3f68c1387cf21769d06", func := "loop.example/g01137/laws.FnExactCanLearn", spec := "fnExactCanLearn", unfollowed := true, recurses := true, apart := false, narrowed := true }
def FnExactCanLearnUptoSaid : Prop := fnExactCanLearnUptoRow.holds Try.pinned (OpenSpec.upto fnExactCanLearnSpec)

/-- 'laws.FnExactLongestPath', WHERE WHAT IT READS IS OF BULK AT MOST 1048576: true; the input reads as it did. -/
def fnExactLongestPathUptoRow : OpenClaim := { program := "ytagahoaogfogkaa", sum := "4342b2863e622b009ba027febf5c0479a9b402b0279ac3f68c1387cf21769d06", func := "loop.example/g01137/laws.FnExactLongestPath", spec := "fnExactLongestPath", unfollowed := true, recurses := true, apart := false, narrowed := true }
def FnExactLongestPathUptoSaid : Prop := fnExactLongestPathUptoRow.holds Try.pinned (OpenSpec.upto fnExactLongestPathSpec)

end Rows
end Go.Proofs.Ytagahoaogfogkaa
