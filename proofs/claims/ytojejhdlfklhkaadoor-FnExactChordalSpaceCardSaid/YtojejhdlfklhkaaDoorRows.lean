/-
  NARROWER THAN 'FOR EVERY INPUT', by the rows' own cells (each row's printed sentence says how): FnExactIsNet: laid · FnExactIsTree: laid · FnExactTreeSpace: laid · FnExactWayBetween: laid · FnExactSimplicialOf: laid · FnExactIsElimination: laid · FnExactEliminationOf: laid · FnExactChordalSpace: laid · FnExactCornersOf: laid · FnExactCoveredBy: laid · FnExactPointSpace: laid · FnExactFreeTriples: laid.
  DERIVED. THE GIVEN ROWS OF THIS SEAT. 12 by the template 'for every input the law returns true; each argument reads behind the call as it read before'; 0 by the template 'total and deterministic' (their statements: YtojejhdlfklhkaaDoorTotals.lean).
  GIVEN WITH THE SEED: the statements are not yours to turn. If you find one false, say at which input.
  Laid BY PROGRAM, IN A SANDBOX (cutbox-rows.mjs): the forced cells as the released guide's own fill.sh prints them over the translation e76f6a3dace5ff42… (all of the seat's roots in one cut). By AI agents, Wed Nov 11 2026. No macro, syntax, notation, axiom, sorry.
-/
import Derived.Test.YtojejhdlfklhkaaDoorChecked
import GoSem.Claim
import GoSem.ClaimJoined
import GoSem.ClaimMapViews
import Derived.JoinedTies
import Derived.KernelRfl
namespace Go.Proofs.YtojejhdlfklhkaaDoor
/- THE CELL 'sum', in the pinned program and in every row, IS THE sha256 OF THE DUMP (.gsa) THAT YtojejhdlfklhkaaDoorProg.lean LOADS. Nothing in Lean hashes anything: it is a label: what it is worth is what the hold of that sum in a sandbox is worth. -/
noncomputable def Tryd.pinned : Pinned := { name := "ytojejhdlfklhkaadoor", sum := "e76f6a3dace5ff428cfbea44443596fe506a13ca3cdecf5e5b3eeeb62ead48db", checked := Tryd.checked }
namespace Rows
def none {H : Type} : Left H := { results := [], args := [] }

/- WHAT THE LISTED PACKAGE-LEVEL VARIABLES READ AS WHEN THE CALL BEGINS. Each datum BY PROGRAM (the guide's laid-datum.mjs) off the statement by which the dump's own 'gosem.cut.vars' lays the variable. In a bare row this is a premise. The card (YtojejhdlfklhkaaDoorCards.lean) ties it to the program's text. -/
def laid_math_bits_deBruijn32tab {H : Type} : DataW H := .agg [.lit (.int .u8 0), .lit (.int .u8 1), .lit (.int .u8 28), .lit (.int .u8 2), .lit (.int .u8 29), .lit (.int .u8 14), .lit (.int .u8 24), .lit (.int .u8 3), .lit (.int .u8 30), .lit (.int .u8 22), .lit (.int .u8 20), .lit (.int .u8 15), .lit (.int .u8 25), .lit (.int .u8 17), .lit (.int .u8 4), .lit (.int .u8 8), .lit (.int .u8 31), .lit (.int .u8 27), .lit (.int .u8 13), .lit (.int .u8 23), .lit (.int .u8 21), .lit (.int .u8 19), .lit (.int .u8 16), .lit (.int .u8 7), .lit (.int .u8 26), .lit (.int .u8 12), .lit (.int .u8 18), .lit (.int .u8 6), .lit (.int .u8 11), .lit (.int .u8 5), .lit (.int .u8 10), .lit (.int .u8 9)]
def laid_math_bits_deBruijn64tab {H : Type} : DataW H := .agg [.lit (.int .u8 0), .lit (.int .u8 1), .lit (.int .u8 56), .lit (.int .u8 2), .lit (.int .u8 57), .lit (.int .u8 49), .lit (.int .u8 28), .lit (.int .u8 3), .lit (.int .u8 61), .lit (.int .u8 58), .lit (.int .u8 42), .lit (.int .u8 50), .lit (.int .u8 38), .lit (.int .u8 29), .lit (.int .u8 17), .lit (.int .u8 4), .lit (.int .u8 62), .lit (.int .u8 47), .lit (.int .u8 59), .lit (.int .u8 36), .lit (.int .u8 45), .lit (.int .u8 43), .lit (.int .u8 51), .lit (.int .u8 22), .lit (.int .u8 53), .lit (.int .u8 39), .lit (.int .u8 33), .lit (.int .u8 30), .lit (.int .u8 24), .lit (.int .u8 18), .lit (.int .u8 12), .lit (.int .u8 5), .lit (.int .u8 63), .lit (.int .u8 55), .lit (.int .u8 48), .lit (.int .u8 27), .lit (.int .u8 60), .lit (.int .u8 41), .lit (.int .u8 37), .lit (.int .u8 16), .lit (.int .u8 46), .lit (.int .u8 35), .lit (.int .u8 44), .lit (.int .u8 21), .lit (.int .u8 52), .lit (.int .u8 32), .lit (.int .u8 23), .lit (.int .u8 11), .lit (.int .u8 54), .lit (.int .u8 26), .lit (.int .u8 40), .lit (.int .u8 15), .lit (.int .u8 34), .lit (.int .u8 20), .lit (.int .u8 31), .lit (.int .u8 10), .lit (.int .u8 25), .lit (.int .u8 14), .lit (.int .u8 19), .lit (.int .u8 9), .lit (.int .u8 13), .lit (.int .u8 8), .lit (.int .u8 7), .lit (.int .u8 6)]

/-- 'laws.FnExactIsNet': WHATEVER THE INPUT: true; the input reads as it did. -/
def fnExactIsNetSpec : ChangeSpec := { name := "fnExactIsNet", fn := fun _ => fun
  | [d] => { results := [.lit (.bool true)], args := [d] }
  | _ => none }
def fnExactIsNetRow : OpenClaim := { program := "ytojejhdlfklhkaadoor", sum := "e76f6a3dace5ff428cfbea44443596fe506a13ca3cdecf5e5b3eeeb62ead48db", func := "loop.example/g01137/laws.FnExactIsNet", spec := "fnExactIsNet", named := ["math/bits.deBruijn32tab", "math/bits.deBruijn64tab"], apart := false, laid := [("math/bits.deBruijn32tab", laid_math_bits_deBruijn32tab), ("math/bits.deBruijn64tab", laid_math_bits_deBruijn64tab)] }
def FnExactIsNetSaid : Prop := fnExactIsNetRow.holds Tryd.pinned (OpenSpec.ofChange fnExactIsNetSpec)

/-- ITS FALSE NEIGHBOUR: 'it returns false'. Refute it at one input. -/
def fnExactIsNetWrong : ChangeSpec := { name := "fnExactIsNet", fn := fun _ => fun
  | [d] => { results := [.lit (.bool false)], args := [d] }
  | _ => none }
def FnExactIsNetWrongFalsely : Prop := fnExactIsNetRow.holds Tryd.pinned (OpenSpec.ofChange fnExactIsNetWrong)

/-- 'laws.FnExactIsTree': WHATEVER THE INPUT: true; the input reads as it did. -/
def fnExactIsTreeSpec : ChangeSpec := { name := "fnExactIsTree", fn := fun _ => fun
  | [d] => { results := [.lit (.bool true)], args := [d] }
  | _ => none }
def fnExactIsTreeRow : OpenClaim := { program := "ytojejhdlfklhkaadoor", sum := "e76f6a3dace5ff428cfbea44443596fe506a13ca3cdecf5e5b3eeeb62ead48db", func := "loop.example/g01137/laws.FnExactIsTree", spec := "fnExactIsTree", named := ["math/bits.deBruijn32tab", "math/bits.deBruijn64tab"], apart := false, laid := [("math/bits.deBruijn32tab", laid_math_bits_deBruijn32tab), ("math/bits.deBruijn64tab", laid_math_bits_deBruijn64tab)] }
def FnExactIsTreeSaid : Prop := fnExactIsTreeRow.holds Tryd.pinned (OpenSpec.ofChange fnExactIsTreeSpec)

/-- ITS FALSE NEIGHBOUR: 'it returns false'. Refute it at one input. -/
def fnExactIsTreeWrong : ChangeSpec := { name := "fnExactIsTree", fn := fun _ => fun
  | [d] => { results := [.lit (.bool false)], args := [d] }
  | _ => none }
def FnExactIsTreeWrongFalsely : Prop := fnExactIsTreeRow.holds Tryd.pinned (OpenSpec.ofChange fnExactIsTreeWrong)

/-- 'laws.FnExactTreeSpace': WHATEVER THE INPUT: true; the input reads as it did. -/
def fnExactTreeSpaceSpec : ChangeSpec := { name := "fnExactTreeSpace", fn := fun _ => fun
  | [d] => { results := [.lit (.bool true)], args := [d] }
  | _ => none }
def fnExactTreeSpaceRow : OpenClaim := { program := "ytojejhdlfklhkaadoor", sum := "e76f6a3dace5ff428cfbea44443596fe506a13ca3cdecf5e5b3eeeb62ead48db", func := "loop.example/g01137/laws.FnExactTreeSpace", spec := "fnExactTreeSpace", unfollowed := true, recurses := true, named := ["math/bits.deBruijn32tab", "math/bits.deBruijn64tab"], apart := false, laid := [("math/bits.deBruijn32tab", laid_math_bits_deBruijn32tab), ("math/bits.deBruijn64tab", laid_math_bits_deBruijn64tab)] }
def FnExactTreeSpaceSaid : Prop := fnExactTreeSpaceRow.holds Tryd.pinned (OpenSpec.ofChange fnExactTreeSpaceSpec)

/-- ITS FALSE NEIGHBOUR: 'it returns false'. Refute it at one input. -/
def fnExactTreeSpaceWrong : ChangeSpec := { name := "fnExactTreeSpace", fn := fun _ => fun
  | [d] => { results := [.lit (.bool false)], args := [d] }
  | _ => none }
def FnExactTreeSpaceWrongFalsely : Prop := fnExactTreeSpaceRow.holds Tryd.pinned (OpenSpec.ofChange fnExactTreeSpaceWrong)

/-- 'laws.FnExactWayBetween': WHATEVER THE INPUT: true; the input reads as it did. -/
def fnExactWayBetweenSpec : ChangeSpec := { name := "fnExactWayBetween", fn := fun _ => fun
  | [d1, d2, d3] => { results := [.lit (.bool true)], args := [d1, d2, d3] }
  | _ => none }
def fnExactWayBetweenRow : OpenClaim := { program := "ytojejhdlfklhkaadoor", sum := "e76f6a3dace5ff428cfbea44443596fe506a13ca3cdecf5e5b3eeeb62ead48db", func := "loop.example/g01137/laws.FnExactWayBetween", spec := "fnExactWayBetween", unfollowed := true, recurses := true, named := ["math/bits.deBruijn32tab", "math/bits.deBruijn64tab"], apart := false, laid := [("math/bits.deBruijn32tab", laid_math_bits_deBruijn32tab), ("math/bits.deBruijn64tab", laid_math_bits_deBruijn64tab)] }
def FnExactWayBetweenSaid : Prop := fnExactWayBetweenRow.holds Tryd.pinned (OpenSpec.ofChange fnExactWayBetweenSpec)

/-- ITS FALSE NEIGHBOUR: 'it returns false'. Refute it at one input. -/
def fnExactWayBetweenWrong : ChangeSpec := { name := "fnExactWayBetween", fn := fun _ => fun
  | [d1, d2, d3] => { results := [.lit (.bool false)], args := [d1, d2, d3] }
  | _ => none }
def FnExactWayBetweenWrongFalsely : Prop := fnExactWayBetweenRow.holds Tryd.pinned (OpenSpec.ofChange fnExactWayBetweenWrong)

/-- 'laws.FnExactSimplicialOf': WHATEVER THE INPUT: true; the input reads as it did. -/
def fnExactSimplicialOfSpec : ChangeSpec := { name := "fnExactSimplicialOf", fn := fun _ => fun
  | [d1, d2] => { results := [.lit (.bool true)], args := [d1, d2] }
  | _ => none }
def fnExactSimplicialOfRow : OpenClaim := { program := "ytojejhdlfklhkaadoor", sum := "e76f6a3dace5ff428cfbea44443596fe506a13ca3cdecf5e5b3eeeb62ead48db", func := "loop.example/g01137/laws.FnExactSimplicialOf", spec := "fnExactSimplicialOf", unfollowed := true, recurses := true, named := ["math/bits.deBruijn32tab", "math/bits.deBruijn64tab"], apart := false, laid := [("math/bits.deBruijn32tab", laid_math_bits_deBruijn32tab), ("math/bits.deBruijn64tab", laid_math_bits_deBruijn64tab)] }
def FnExactSimplicialOfSaid : Prop := fnExactSimplicialOfRow.holds Tryd.pinned (OpenSpec.ofChange fnExactSimplicialOfSpec)

/-- ITS FALSE NEIGHBOUR: 'it returns false'. Refute it at one input. -/
def fnExactSimplicialOfWrong : ChangeSpec := { name := "fnExactSimplicialOf", fn := fun _ => fun
  | [d1, d2] => { results := [.lit (.bool false)], args := [d1, d2] }
  | _ => none }
def FnExactSimplicialOfWrongFalsely : Prop := fnExactSimplicialOfRow.holds Tryd.pinned (OpenSpec.ofChange fnExactSimplicialOfWrong)

/-- 'laws.FnExactIsElimination': WHATEVER THE INPUT: true; the input reads as it did. -/
def fnExactIsEliminationSpec : ChangeSpec := { name := "fnExactIsElimination", fn := fun _ => fun
  | [d1, d2] => { results := [.lit (.bool true)], args := [d1, d2] }
  | _ => none }
def fnExactIsEliminationRow : OpenClaim := { program := "ytojejhdlfklhkaadoor", sum := "e76f6a3dace5ff428cfbea44443596fe506a13ca3cdecf5e5b3eeeb62ead48db", func := "loop.example/g01137/laws.FnExactIsElimination", spec := "fnExactIsElimination", unfollowed := true, recurses := true, named := ["math/bits.deBruijn32tab", "math/bits.deBruijn64tab"], apart := false, laid := [("math/bits.deBruijn32tab", laid_math_bits_deBruijn32tab), ("math/bits.deBruijn64tab", laid_math_bits_deBruijn64tab)] }
def FnExactIsEliminationSaid : Prop := fnExactIsEliminationRow.holds Tryd.pinned (OpenSpec.ofChange fnExactIsEliminationSpec)

/-- ITS FALSE NEIGHBOUR: 'it returns false'. Refute it at one input. -/
def fnExactIsEliminationWrong : ChangeSpec := { name := "fnExactIsElimination", fn := fun _ => fun
  | [d1, d2] => { results := [.lit (.bool false)], args := [d1, d2] }
  | _ => none }
def FnExactIsEliminationWrongFalsely : Prop := fnExactIsEliminationRow.holds Tryd.pinned (OpenSpec.ofChange fnExactIsEliminationWrong)

/-- 'laws.FnExactEliminationOf': WHATEVER THE INPUT: true; the input reads as it did. -/
def fnExactEliminationOfSpec : ChangeSpec := { name := "fnExactEliminationOf", fn := fun _ => fun
  | [d] => { results := [.lit (.bool true)], args := [d] }
  | _ => none }
def fnExactEliminationOfRow : OpenClaim := { program := "ytojejhdlfklhkaadoor", sum := "e76f6a3dace5ff428cfbea44443596fe506a13ca3cdecf5e5b3eeeb62ead48db", func := "loop.example/g01137/laws.FnExactEliminationOf", spec := "fnExactEliminationOf", unfollowed := true, recurses := true, named := ["math/bits.deBruijn32tab", "math/bits.deBruijn64tab"], apart := false, laid := [("math/bits.deBruijn32tab", laid_math_bits_deBruijn32tab), ("math/bits.deBruijn64tab", laid_math_bits_deBruijn64tab)] }
def FnExactEliminationOfSaid : Prop := fnExactEliminationOfRow.holds Tryd.pinned (OpenSpec.ofChange fnExactEliminationOfSpec)

/-- ITS FALSE NEIGHBOUR: 'it returns false'. Refute it at one input. -/
def fnExactEliminationOfWrong : ChangeSpec := { name := "fnExactEliminationOf", fn := fun _ => fun
  | [d] => { results := [.lit (.bool false)], args := [d] }
  | _ => none }
def FnExactEliminationOfWrongFalsely : Prop := fnExactEliminationOfRow.holds Tryd.pinned (OpenSpec.ofChange fnExactEliminationOfWrong)

/-- 'laws.FnExactChordalSpace': WHATEVER THE INPUT: true; the input reads as it did. -/
def fnExactChordalSpaceSpec : ChangeSpec := { name := "fnExactChordalSpace", fn := fun _ => fun
  | [d] => { results := [.lit (.bool true)], args := [d] }
  | _ => none }
def fnExactChordalSpaceRow : OpenClaim := { program := "ytojejhdlfklhkaadoor", sum := "e76f6a3dace5ff428cfbea44443596fe506a13ca3cdecf5e5b3eeeb62ead48db", func := "loop.example/g01137/laws.FnExactChordalSpace", spec := "fnExactChordalSpace", unfollowed := true, recurses := true, named := ["math/bits.deBruijn32tab", "math/bits.deBruijn64tab"], apart := false, laid := [("math/bits.deBruijn32tab", laid_math_bits_deBruijn32tab), ("math/bits.deBruijn64tab", laid_math_bits_deBruijn64tab)] }
def FnExactChordalSpaceSaid : Prop := fnExactChordalSpaceRow.holds Tryd.pinned (OpenSpec.ofChange fnExactChordalSpaceSpec)

/-- ITS FALSE NEIGHBOUR: 'it returns false'. Refute it at one input. -/
def fnExactChordalSpaceWrong : ChangeSpec := { name := "fnExactChordalSpace", fn := fun _ => fun
  | [d] => { results := [.lit (.bool false)], args := [d] }
  | _ => none }
def FnExactChordalSpaceWrongFalsely : Prop := fnExactChordalSpaceRow.holds Tryd.pinned (OpenSpec.ofChange fnExactChordalSpaceWrong)

/-- 'laws.FnExactCornersOf': WHATEVER THE INPUT: true; the input reads as it did. -/
def fnExactCornersOfSpec : ChangeSpec := { name := "fnExactCornersOf", fn := fun _ => fun
  | [d1, d2] => { results := [.lit (.bool true)], args := [d1, d2] }
  | _ => none }
def fnExactCornersOfRow : OpenClaim := { program := "ytojejhdlfklhkaadoor", sum := "e76f6a3dace5ff428cfbea44443596fe506a13ca3cdecf5e5b3eeeb62ead48db", func := "loop.example/g01137/laws.FnExactCornersOf", spec := "fnExactCornersOf", unfollowed := true, recurses := true, named := ["math/bits.deBruijn32tab", "math/bits.deBruijn64tab"], apart := false, laid := [("math/bits.deBruijn32tab", laid_math_bits_deBruijn32tab), ("math/bits.deBruijn64tab", laid_math_bits_deBruijn64tab)] }
def FnExactCornersOfSaid : Prop := fnExactCornersOfRow.holds Tryd.pinned (OpenSpec.ofChange fnExactCornersOfSpec)

/-- ITS FALSE NEIGHBOUR: 'it returns false'. Refute it at one input. -/
def fnExactCornersOfWrong : ChangeSpec := { name := "fnExactCornersOf", fn := fun _ => fun
  | [d1, d2] => { results := [.lit (.bool false)], args := [d1, d2] }
  | _ => none }
def FnExactCornersOfWrongFalsely : Prop := fnExactCornersOfRow.holds Tryd.pinned (OpenSpec.ofChange fnExactCornersOfWrong)

/-- 'laws.FnExactCoveredBy': WHATEVER THE INPUT: true; the input reads as it did. -/
def fnExactCoveredBySpec : ChangeSpec := { name := "fnExactCoveredBy", fn := fun _ => fun
  | [d1, d2] => { results := [.lit (.bool true)], args := [d1, d2] }
  | _ => none }
def fnExactCoveredByRow : OpenClaim := { program := "ytojejhdlfklhkaadoor", sum := "e76f6a3dace5ff428cfbea44443596fe506a13ca3cdecf5e5b3eeeb62ead48db", func := "loop.example/g01137/laws.FnExactCoveredBy", spec := "fnExactCoveredBy", unfollowed := true, recurses := true, named := ["math/bits.deBruijn32tab", "math/bits.deBruijn64tab"], apart := false, laid := [("math/bits.deBruijn32tab", laid_math_bits_deBruijn32tab), ("math/bits.deBruijn64tab", laid_math_bits_deBruijn64tab)] }
def FnExactCoveredBySaid : Prop := fnExactCoveredByRow.holds Tryd.pinned (OpenSpec.ofChange fnExactCoveredBySpec)

/-- ITS FALSE NEIGHBOUR: 'it returns false'. Refute it at one input. -/
def fnExactCoveredByWrong : ChangeSpec := { name := "fnExactCoveredBy", fn := fun _ => fun
  | [d1, d2] => { results := [.lit (.bool false)], args := [d1, d2] }
  | _ => none }
def FnExactCoveredByWrongFalsely : Prop := fnExactCoveredByRow.holds Tryd.pinned (OpenSpec.ofChange fnExactCoveredByWrong)

/-- 'laws.FnExactPointSpace': WHATEVER THE INPUT: true; the input reads as it did. -/
def fnExactPointSpaceSpec : ChangeSpec := { name := "fnExactPointSpace", fn := fun _ => fun
  | [d] => { results := [.lit (.bool true)], args := [d] }
  | _ => none }
def fnExactPointSpaceRow : OpenClaim := { program := "ytojejhdlfklhkaadoor", sum := "e76f6a3dace5ff428cfbea44443596fe506a13ca3cdecf5e5b3eeeb62ead48db", func := "loop.example/g01137/laws.FnExactPointSpace", spec := "fnExactPointSpace", unfollowed := true, recurses := true, named := ["math/bits.deBruijn32tab", "math/bits.deBruijn64tab"], apart := false, laid := [("math/bits.deBruijn32tab", laid_math_bits_deBruijn32tab), ("math/bits.deBruijn64tab", laid_math_bits_deBruijn64tab)] }
def FnExactPointSpaceSaid : Prop := fnExactPointSpaceRow.holds Tryd.pinned (OpenSpec.ofChange fnExactPointSpaceSpec)

/-- ITS FALSE NEIGHBOUR: 'it returns false'. Refute it at one input. -/
def fnExactPointSpaceWrong : ChangeSpec := { name := "fnExactPointSpace", fn := fun _ => fun
  | [d] => { results := [.lit (.bool false)], args := [d] }
  | _ => none }
def FnExactPointSpaceWrongFalsely : Prop := fnExactPointSpaceRow.holds Tryd.pinned (OpenSpec.ofChange fnExactPointSpaceWrong)

/-- 'laws.FnExactFreeTriples': WHATEVER THE INPUT: true; the input reads as it did. -/
def fnExactFreeTriplesSpec : ChangeSpec := { name := "fnExactFreeTriples", fn := fun _ => fun
  | [d] => { results := [.lit (.bool true)], args := [d] }
  | _ => none }
def fnExactFreeTriplesRow : OpenClaim := { program := "ytojejhdlfklhkaadoor", sum := "e76f6a3dace5ff428cfbea44443596fe506a13ca3cdecf5e5b3eeeb62ead48db", func := "loop.example/g01137/laws.FnExactFreeTriples", spec := "fnExactFreeTriples", unfollowed := true, recurses := true, named := ["math/bits.deBruijn32tab", "math/bits.deBruijn64tab"], apart := false, laid := [("math/bits.deBruijn32tab", laid_math_bits_deBruijn32tab), ("math/bits.deBruijn64tab", laid_math_bits_deBruijn64tab)] }
def FnExactFreeTriplesSaid : Prop := fnExactFreeTriplesRow.holds Tryd.pinned (OpenSpec.ofChange fnExactFreeTriplesSpec)

/-- ITS FALSE NEIGHBOUR: 'it returns false'. Refute it at one input. -/
def fnExactFreeTriplesWrong : ChangeSpec := { name := "fnExactFreeTriples", fn := fun _ => fun
  | [d] => { results := [.lit (.bool false)], args := [d] }
  | _ => none }
def FnExactFreeTriplesWrongFalsely : Prop := fnExactFreeTriplesRow.holds Tryd.pinned (OpenSpec.ofChange fnExactFreeTriplesWrong)

/- THE SECOND FORM. 'bulk': how many values and letters a reading holds, each counted each time it is reached (what is shared counts as often as it is met; a slice's spare places count too). A statement '..UptoSaid' is the law's where the arguments, and the package variables that the reading takes, are together of bulk at most 1048576: NARROWER than '..Said'. Prove '..Said' where nothing that the law and all that it calls make is longer than what came in: it says more and counts as full. Else prove '..UptoSaid'. A law counts once. -/
mutual
def uptoBulk {H : Type} : DataW H → Nat
  | .lit (.string bytes) => bytes.length + 1
  | .lit _ => 1
  | .nil => 1
  | .ptr d => uptoBulk d + 1
  | .slice elems spare => uptoBulkAll elems + uptoBulkAll spare + 1
  | .agg parts => uptoBulkAll parts + 1
  | .iface _ d => uptoBulk d + 1
  | .map entries => uptoBulkEntries entries + 1
  | .held _ => 1
def uptoBulkAll {H : Type} : List (DataW H) → Nat
  | [] => 0
  | d :: r => uptoBulk d + uptoBulkAll r
def uptoBulkEntries {H : Type} : List (Lit × DataW H) → Nat
  | [] => 0
  | x :: r => uptoBulkEntry x + uptoBulkEntries r
def uptoBulkEntry {H : Type} : Lit × DataW H → Nat
  | (.string bytes, d) => bytes.length + uptoBulk d + 1
  | (_, d) => uptoBulk d + 1
 end
def uptoSmall : (H : Type) → List (DataW H) → Bool := fun _ ds => decide (uptoBulkAll ds ≤ 1048576)
def OpenSpec.upto (s : _root_.Go.ChangeSpec) : _root_.Go.OpenSpec := { _root_.Go.OpenSpec.ofChange s with cond := some uptoSmall }

/-- 'laws.FnExactIsNet', WHERE WHAT IT READS IS OF BULK AT MOST 1048576: true; the input reads as it did. -/
def fnExactIsNetUptoRow : OpenClaim := { program := "ytojejhdlfklhkaadoor", sum := "e76f6a3dace5ff428cfbea44443596fe506a13ca3cdecf5e5b3eeeb62ead48db", func := "loop.example/g01137/laws.FnExactIsNet", spec := "fnExactIsNet", named := ["math/bits.deBruijn32tab", "math/bits.deBruijn64tab"], apart := false, laid := [("math/bits.deBruijn32tab", laid_math_bits_deBruijn32tab), ("math/bits.deBruijn64tab", laid_math_bits_deBruijn64tab)], narrowed := true }
def FnExactIsNetUptoSaid : Prop := fnExactIsNetUptoRow.holds Tryd.pinned (OpenSpec.upto fnExactIsNetSpec)

/-- 'laws.FnExactIsTree', WHERE WHAT IT READS IS OF BULK AT MOST 1048576: true; the input reads as it did. -/
def fnExactIsTreeUptoRow : OpenClaim := { program := "ytojejhdlfklhkaadoor", sum := "e76f6a3dace5ff428cfbea44443596fe506a13ca3cdecf5e5b3eeeb62ead48db", func := "loop.example/g01137/laws.FnExactIsTree", spec := "fnExactIsTree", named := ["math/bits.deBruijn32tab", "math/bits.deBruijn64tab"], apart := false, laid := [("math/bits.deBruijn32tab", laid_math_bits_deBruijn32tab), ("math/bits.deBruijn64tab", laid_math_bits_deBruijn64tab)], narrowed := true }
def FnExactIsTreeUptoSaid : Prop := fnExactIsTreeUptoRow.holds Tryd.pinned (OpenSpec.upto fnExactIsTreeSpec)

/-- 'laws.FnExactTreeSpace', WHERE WHAT IT READS IS OF BULK AT MOST 1048576: true; the input reads as it did. -/
def fnExactTreeSpaceUptoRow : OpenClaim := { program := "ytojejhdlfklhkaadoor", sum := "e76f6a3dace5ff428cfbea44443596fe506a13ca3cdecf5e5b3eeeb62ead48db", func := "loop.example/g01137/laws.FnExactTreeSpace", spec := "fnExactTreeSpace", unfollowed := true, recurses := true, named := ["math/bits.deBruijn32tab", "math/bits.deBruijn64tab"], apart := false, laid := [("math/bits.deBruijn32tab", laid_math_bits_deBruijn32tab), ("math/bits.deBruijn64tab", laid_math_bits_deBruijn64tab)], narrowed := true }
def FnExactTreeSpaceUptoSaid : Prop := fnExactTreeSpaceUptoRow.holds Tryd.pinned (OpenSpec.upto fnExactTreeSpaceSpec)

/-- 'laws.FnExactWayBetween', WHERE WHAT IT READS IS OF BULK AT MOST 1048576: true; the input reads as it did. -/
def fnExactWayBetweenUptoRow : OpenClaim := { program := "ytojejhdlfklhkaadoor", sum := "e76f6a3dace5ff428cfbea44443596fe506a13ca3cdecf5e5b3eeeb62ead48db", func := "loop.example/g01137/laws.FnExactWayBetween", spec := "fnExactWayBetween", unfollowed := true, recurses := true, named := ["math/bits.deBruijn32tab", "math/bits.deBruijn64tab"], apart := false, laid := [("math/bits.deBruijn32tab", laid_math_bits_deBruijn32tab), ("math/bits.deBruijn64tab", laid_math_bits_deBruijn64tab)], narrowed := true }
def FnExactWayBetweenUptoSaid : Prop := fnExactWayBetweenUptoRow.holds Tryd.pinned (OpenSpec.upto fnExactWayBetweenSpec)

/-- 'laws.FnExactSimplicialOf', WHERE WHAT IT READS IS OF BULK AT MOST 1048576: true; the input reads as it did. -/
def fnExactSimplicialOfUptoRow : OpenClaim := { program := "ytojejhdlfklhkaadoor", sum := "e76f6a3dace5ff428cfbea44443596fe506a13ca3cdecf5e5b3eeeb62ead48db", func := "loop.example/g01137/laws.FnExactSimplicialOf", spec := "fnExactSimplicialOf", unfollowed := true, recurses := true, named := ["math/bits.deBruijn32tab", "math/bits.deBruijn64tab"], apart := false, laid := [("math/bits.deBruijn32tab", laid_math_bits_deBruijn32tab), ("math/bits.deBruijn64tab", laid_math_bits_deBruijn64tab)], narrowed := true }
def FnExactSimplicialOfUptoSaid : Prop := fnExactSimplicialOfUptoRow.holds Tryd.pinned (OpenSpec.upto fnExactSimplicialOfSpec)

/-- 'laws.FnExactIsElimination', WHERE WHAT IT READS IS OF BULK AT MOST 1048576: true; the input reads as it did. -/
def fnExactIsEliminationUptoRow : OpenClaim := { program := "ytojejhdlfklhkaadoor", sum := "e76f6a3dace5ff428cfbea44443596fe506a13ca3cdecf5e5b3eeeb62ead48db", func := "loop.example/g01137/laws.FnExactIsElimination", spec := "fnExactIsElimination", unfollowed := true, recurses := true, named := ["math/bits.deBruijn32tab", "math/bits.deBruijn64tab"], apart := false, laid := [("math/bits.deBruijn32tab", laid_math_bits_deBruijn32tab), ("math/bits.deBruijn64tab", laid_math_bits_deBruijn64tab)], narrowed := true }
def FnExactIsEliminationUptoSaid : Prop := fnExactIsEliminationUptoRow.holds Tryd.pinned (OpenSpec.upto fnExactIsEliminationSpec)

/-- 'laws.FnExactEliminationOf', WHERE WHAT IT READS IS OF BULK AT MOST 1048576: true; the input reads as it did. -/
def fnExactEliminationOfUptoRow : OpenClaim := { program := "ytojejhdlfklhkaadoor", sum := "e76f6a3dace5ff428cfbea44443596fe506a13ca3cdecf5e5b3eeeb62ead48db", func := "loop.example/g01137/laws.FnExactEliminationOf", spec := "fnExactEliminationOf", unfollowed := true, recurses := true, named := ["math/bits.deBruijn32tab", "math/bits.deBruijn64tab"], apart := false, laid := [("math/bits.deBruijn32tab", laid_math_bits_deBruijn32tab), ("math/bits.deBruijn64tab", laid_math_bits_deBruijn64tab)], narrowed := true }
def FnExactEliminationOfUptoSaid : Prop := fnExactEliminationOfUptoRow.holds Tryd.pinned (OpenSpec.upto fnExactEliminationOfSpec)

/-- 'laws.FnExactChordalSpace', WHERE WHAT IT READS IS OF BULK AT MOST 1048576: true; the input reads as it did. -/
def fnExactChordalSpaceUptoRow : OpenClaim := { program := "ytojejhdlfklhkaadoor", sum := "e76f6a3dace5ff428cfbea44443596fe506a13ca3cdecf5e5b3eeeb62ead48db", func := "loop.example/g01137/laws.FnExactChordalSpace", spec := "fnExactChordalSpace", unfollowed := true, recurses := true, named := ["math/bits.deBruijn32tab", "math/bits.deBruijn64tab"], apart := false, laid := [("math/bits.deBruijn32tab", laid_math_bits_deBruijn32tab), ("math/bits.deBruijn64tab", laid_math_bits_deBruijn64tab)], narrowed := true }
def FnExactChordalSpaceUptoSaid : Prop := fnExactChordalSpaceUptoRow.holds Tryd.pinned (OpenSpec.upto fnExactChordalSpaceSpec)

/-- 'laws.FnExactCornersOf', WHERE WHAT IT READS IS OF BULK AT MOST 1048576: true; the input reads as it did. -/
def fnExactCornersOfUptoRow : OpenClaim := { program := "ytojejhdlfklhkaadoor", sum := "e76f6a3dace5ff428cfbea44443596fe506a13ca3cdecf5e5b3eeeb62ead48db", func := "loop.example/g01137/laws.FnExactCornersOf", spec := "fnExactCornersOf", unfollowed := true, recurses := true, named := ["math/bits.deBruijn32tab", "math/bits.deBruijn64tab"], apart := false, laid := [("math/bits.deBruijn32tab", laid_math_bits_deBruijn32tab), ("math/bits.deBruijn64tab", laid_math_bits_deBruijn64tab)], narrowed := true }
def FnExactCornersOfUptoSaid : Prop := fnExactCornersOfUptoRow.holds Tryd.pinned (OpenSpec.upto fnExactCornersOfSpec)

/-- 'laws.FnExactCoveredBy', WHERE WHAT IT READS IS OF BULK AT MOST 1048576: true; the input reads as it did. -/
def fnExactCoveredByUptoRow : OpenClaim := { program := "ytojejhdlfklhkaadoor", sum := "e76f6a3dace5ff428cfbea44443596fe506a13ca3cdecf5e5b3eeeb62ead48db", func := "loop.example/g01137/laws.FnExactCoveredBy", spec := "fnExactCoveredBy", unfollowed := true, recurses := true, named := ["math/bits.deBruijn32tab", "math/bits.deBruijn64tab"], apart := false, laid := [("math/bits.deBruijn32tab", laid_math_bits_deBruijn32tab), ("math/bits.deBruijn64tab", laid_math_bits_deBruijn64tab)], narrowed := true }
def FnExactCoveredByUptoSaid : Prop := fnExactCoveredByUptoRow.holds Tryd.pinned (OpenSpec.upto fnExactCoveredBySpec)

/-- 'laws.FnExactPointSpace', WHERE WHAT IT READS IS OF BULK AT MOST 1048576: true; the input reads as it did. -/
def fnExactPointSpaceUptoRow : OpenClaim := { program := "ytojejhdlfklhkaadoor", sum := "e76f6a3dace5ff428cfbea44443596fe506a13ca3cdecf5e5b3eeeb62ead48db", func := "loop.example/g01137/laws.FnExactPointSpace", spec := "fnExactPointSpace", unfollowed := true, recurses := true, named := ["math/bits.deBruijn32tab", "math/bits.deBruijn64tab"], apart := false, laid := [("math/bits.deBruijn32tab", laid_math_bits_deBruijn32tab), ("math/bits.deBruijn64tab", laid_math_bits_deBruijn64tab)], narrowed := true }
def FnExactPointSpaceUptoSaid : Prop := fnExactPointSpaceUptoRow.holds Tryd.pinned (OpenSpec.upto fnExactPointSpaceSpec)

/-- 'laws.FnExactFreeTriples', WHERE WHAT IT READS IS OF BULK AT MOST 1048576: true; the input reads as it did. -/
def fnExactFreeTriplesUptoRow : OpenClaim := { program := "ytojejhdlfklhkaadoor", sum := "e76f6a3dace5ff428cfbea44443596fe506a13ca3cdecf5e5b3eeeb62ead48db", func := "loop.example/g01137/laws.FnExactFreeTriples", spec := "fnExactFreeTriples", unfollowed := true, recurses := true, named := ["math/bits.deBruijn32tab", "math/bits.deBruijn64tab"], apart := false, laid := [("math/bits.deBruijn32tab", laid_math_bits_deBruijn32tab), ("math/bits.deBruijn64tab", laid_math_bits_deBruijn64tab)], narrowed := true }
def FnExactFreeTriplesUptoSaid : Prop := fnExactFreeTriplesUptoRow.holds Tryd.pinned (OpenSpec.upto fnExactFreeTriplesSpec)

end Rows
end Go.Proofs.YtojejhdlfklhkaaDoor
