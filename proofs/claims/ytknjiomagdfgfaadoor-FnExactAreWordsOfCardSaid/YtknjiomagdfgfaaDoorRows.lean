/-
  NARROWER THAN 'FOR EVERY INPUT', by the rows' own cells (each row's printed sentence says how): FnExactCountWords: laid · FnExactCountFrom: laid · FnExactWordWith: laid · FnExactRankWord: laid · FnExactAllWords: laid · FnExactAreWordsOf: laid · FnExactCornersOf: laid · FnExactCoveredBy: laid · FnExactPointSpace: laid · FnExactFreeTriples: laid.
  DERIVED. THE GIVEN ROWS OF THIS SEAT. 10 by the template 'for every input the law returns true; each argument reads behind the call as it read before'; 0 by the template 'total and deterministic' (their statements: YtknjiomagdfgfaaDoorTotals.lean).
  GIVEN WITH THE SEED: the statements are not yours to turn. If you find one false, say at which input.
  Laid BY PROGRAM, IN A SANDBOX (cutbox-rows.mjs): the forced cells as the released guide's own fill.sh prints them over the translation 322cdac5598b040b… (all of the seat's roots in one cut). By AI agents, Wed Nov 11 2026. No macro, syntax, notation, axiom, sorry.
-/
import Derived.Test.YtknjiomagdfgfaaDoorChecked
import GoSem.Claim
import GoSem.ClaimJoined
import GoSem.ClaimMapViews
import Derived.JoinedTies
import Derived.KernelRfl
namespace Go.Proofs.YtknjiomagdfgfaaDoor
/- THE CELL 'sum', in the pinned program and in every row, IS THE sha256 OF THE DUMP (.gsa) THAT YtknjiomagdfgfaaDoorProg.lean LOADS. Nothing in Lean hashes anything: it is a label: what it is worth is what the hold of that sum in a sandbox is worth. -/
noncomputable def Tryd.pinned : Pinned := { name := "ytknjiomagdfgfaadoor", sum := "322cdac5598b040bddad7ebcf0747f1f9415e5fba4a709ebfeba15e8a4494d87", checked := Tryd.checked }
namespace Rows
def none {H : Type} : Left H := { results := [], args := [] }

/- WHAT THE LISTED PACKAGE-LEVEL VARIABLES READ AS WHEN THE CALL BEGINS. Each datum BY PROGRAM (the guide's laid-datum.mjs) off the statement by which the dump's own 'gosem.cut.vars' lays the variable. In a bare row this is a premise. The card (YtknjiomagdfgfaaDoorCards.lean) ties it to the program's text. -/
def laid_math_bits_deBruijn32tab {H : Type} : DataW H := .agg [.lit (.int .u8 0), .lit (.int .u8 1), .lit (.int .u8 28), .lit (.int .u8 2), .lit (.int .u8 29), .lit (.int .u8 14), .lit (.int .u8 24), .lit (.int .u8 3), .lit (.int .u8 30), .lit (.int .u8 22), .lit (.int .u8 20), .lit (.int .u8 15), .lit (.int .u8 25), .lit (.int .u8 17), .lit (.int .u8 4), .lit (.int .u8 8), .lit (.int .u8 31), .lit (.int .u8 27), .lit (.int .u8 13), .lit (.int .u8 23), .lit (.int .u8 21), .lit (.int .u8 19), .lit (.int .u8 16), .lit (.int .u8 7), .lit (.int .u8 26), .lit (.int .u8 12), .lit (.int .u8 18), .lit (.int .u8 6), .lit (.int .u8 11), .lit (.int .u8 5), .lit (.int .u8 10), .lit (.int .u8 9)]
def laid_math_bits_deBruijn64tab {H : Type} : DataW H := .agg [.lit (.int .u8 0), .lit (.int .u8 1), .lit (.int .u8 56), .lit (.int .u8 2), .lit (.int .u8 57), .lit (.int .u8 49), .lit (.int .u8 28), .lit (.int .u8 3), .lit (.int .u8 61), .lit (.int .u8 58), .lit (.int .u8 42), .lit (.int .u8 50), .lit (.int .u8 38), .lit (.int .u8 29), .lit (.int .u8 17), .lit (.int .u8 4), .lit (.int .u8 62), .lit (.int .u8 47), .lit (.int .u8 59), .lit (.int .u8 36), .lit (.int .u8 45), .lit (.int .u8 43), .lit (.int .u8 51), .lit (.int .u8 22), .lit (.int .u8 53), .lit (.int .u8 39), .lit (.int .u8 33), .lit (.int .u8 30), .lit (.int .u8 24), .lit (.int .u8 18), .lit (.int .u8 12), .lit (.int .u8 5), .lit (.int .u8 63), .lit (.int .u8 55), .lit (.int .u8 48), .lit (.int .u8 27), .lit (.int .u8 60), .lit (.int .u8 41), .lit (.int .u8 37), .lit (.int .u8 16), .lit (.int .u8 46), .lit (.int .u8 35), .lit (.int .u8 44), .lit (.int .u8 21), .lit (.int .u8 52), .lit (.int .u8 32), .lit (.int .u8 23), .lit (.int .u8 11), .lit (.int .u8 54), .lit (.int .u8 26), .lit (.int .u8 40), .lit (.int .u8 15), .lit (.int .u8 34), .lit (.int .u8 20), .lit (.int .u8 31), .lit (.int .u8 10), .lit (.int .u8 25), .lit (.int .u8 14), .lit (.int .u8 19), .lit (.int .u8 9), .lit (.int .u8 13), .lit (.int .u8 8), .lit (.int .u8 7), .lit (.int .u8 6)]

/-- 'laws.FnExactCountWords': WHATEVER THE INPUT: true; the input reads as it did. -/
def fnExactCountWordsSpec : ChangeSpec := { name := "fnExactCountWords", fn := fun _ => fun
  | [d] => { results := [.lit (.bool true)], args := [d] }
  | _ => none }
def fnExactCountWordsRow : OpenClaim := { program := "ytknjiomagdfgfaadoor", sum := "322cdac5598b040bddad7ebcf0747f1f9415e5fba4a709ebfeba15e8a4494d87", func := "loop.example/g01137/laws.FnExactCountWords", spec := "fnExactCountWords", unfollowed := true, recurses := true, named := ["math/bits.deBruijn32tab", "math/bits.deBruijn64tab"], plainKeys := false, apart := false, laid := [("math/bits.deBruijn32tab", laid_math_bits_deBruijn32tab), ("math/bits.deBruijn64tab", laid_math_bits_deBruijn64tab)] }
def FnExactCountWordsSaid : Prop := fnExactCountWordsRow.holds Tryd.pinned (OpenSpec.ofChange fnExactCountWordsSpec)

/-- ITS FALSE NEIGHBOUR: 'it returns false'. Refute it at one input. -/
def fnExactCountWordsWrong : ChangeSpec := { name := "fnExactCountWords", fn := fun _ => fun
  | [d] => { results := [.lit (.bool false)], args := [d] }
  | _ => none }
def FnExactCountWordsWrongFalsely : Prop := fnExactCountWordsRow.holds Tryd.pinned (OpenSpec.ofChange fnExactCountWordsWrong)

/-- 'laws.FnExactCountFrom': WHATEVER THE INPUT: true; the input reads as it did. -/
def fnExactCountFromSpec : ChangeSpec := { name := "fnExactCountFrom", fn := fun _ => fun
  | [d1, d2] => { results := [.lit (.bool true)], args := [d1, d2] }
  | _ => none }
def fnExactCountFromRow : OpenClaim := { program := "ytknjiomagdfgfaadoor", sum := "322cdac5598b040bddad7ebcf0747f1f9415e5fba4a709ebfeba15e8a4494d87", func := "loop.example/g01137/laws.FnExactCountFrom", spec := "fnExactCountFrom", unfollowed := true, recurses := true, named := ["math/bits.deBruijn32tab", "math/bits.deBruijn64tab"], plainKeys := false, apart := false, laid := [("math/bits.deBruijn32tab", laid_math_bits_deBruijn32tab), ("math/bits.deBruijn64tab", laid_math_bits_deBruijn64tab)] }
def FnExactCountFromSaid : Prop := fnExactCountFromRow.holds Tryd.pinned (OpenSpec.ofChange fnExactCountFromSpec)

/-- ITS FALSE NEIGHBOUR: 'it returns false'. Refute it at one input. -/
def fnExactCountFromWrong : ChangeSpec := { name := "fnExactCountFrom", fn := fun _ => fun
  | [d1, d2] => { results := [.lit (.bool false)], args := [d1, d2] }
  | _ => none }
def FnExactCountFromWrongFalsely : Prop := fnExactCountFromRow.holds Tryd.pinned (OpenSpec.ofChange fnExactCountFromWrong)

/-- 'laws.FnExactWordWith': WHATEVER THE INPUT: true; the input reads as it did. -/
def fnExactWordWithSpec : ChangeSpec := { name := "fnExactWordWith", fn := fun _ => fun
  | [d1, d2] => { results := [.lit (.bool true)], args := [d1, d2] }
  | _ => none }
def fnExactWordWithRow : OpenClaim := { program := "ytknjiomagdfgfaadoor", sum := "322cdac5598b040bddad7ebcf0747f1f9415e5fba4a709ebfeba15e8a4494d87", func := "loop.example/g01137/laws.FnExactWordWith", spec := "fnExactWordWith", unfollowed := true, recurses := true, named := ["math/bits.deBruijn32tab", "math/bits.deBruijn64tab"], plainKeys := false, apart := false, laid := [("math/bits.deBruijn32tab", laid_math_bits_deBruijn32tab), ("math/bits.deBruijn64tab", laid_math_bits_deBruijn64tab)] }
def FnExactWordWithSaid : Prop := fnExactWordWithRow.holds Tryd.pinned (OpenSpec.ofChange fnExactWordWithSpec)

/-- ITS FALSE NEIGHBOUR: 'it returns false'. Refute it at one input. -/
def fnExactWordWithWrong : ChangeSpec := { name := "fnExactWordWith", fn := fun _ => fun
  | [d1, d2] => { results := [.lit (.bool false)], args := [d1, d2] }
  | _ => none }
def FnExactWordWithWrongFalsely : Prop := fnExactWordWithRow.holds Tryd.pinned (OpenSpec.ofChange fnExactWordWithWrong)

/-- 'laws.FnExactRankWord': WHATEVER THE INPUT: true; the input reads as it did. -/
def fnExactRankWordSpec : ChangeSpec := { name := "fnExactRankWord", fn := fun _ => fun
  | [d1, d2] => { results := [.lit (.bool true)], args := [d1, d2] }
  | _ => none }
def fnExactRankWordRow : OpenClaim := { program := "ytknjiomagdfgfaadoor", sum := "322cdac5598b040bddad7ebcf0747f1f9415e5fba4a709ebfeba15e8a4494d87", func := "loop.example/g01137/laws.FnExactRankWord", spec := "fnExactRankWord", unfollowed := true, recurses := true, named := ["math/bits.deBruijn32tab", "math/bits.deBruijn64tab"], plainKeys := false, apart := false, laid := [("math/bits.deBruijn32tab", laid_math_bits_deBruijn32tab), ("math/bits.deBruijn64tab", laid_math_bits_deBruijn64tab)] }
def FnExactRankWordSaid : Prop := fnExactRankWordRow.holds Tryd.pinned (OpenSpec.ofChange fnExactRankWordSpec)

/-- ITS FALSE NEIGHBOUR: 'it returns false'. Refute it at one input. -/
def fnExactRankWordWrong : ChangeSpec := { name := "fnExactRankWord", fn := fun _ => fun
  | [d1, d2] => { results := [.lit (.bool false)], args := [d1, d2] }
  | _ => none }
def FnExactRankWordWrongFalsely : Prop := fnExactRankWordRow.holds Tryd.pinned (OpenSpec.ofChange fnExactRankWordWrong)

/-- 'laws.FnExactAllWords': WHATEVER THE INPUT: true; the input reads as it did. -/
def fnExactAllWordsSpec : ChangeSpec := { name := "fnExactAllWords", fn := fun _ => fun
  | [d] => { results := [.lit (.bool true)], args := [d] }
  | _ => none }
def fnExactAllWordsRow : OpenClaim := { program := "ytknjiomagdfgfaadoor", sum := "322cdac5598b040bddad7ebcf0747f1f9415e5fba4a709ebfeba15e8a4494d87", func := "loop.example/g01137/laws.FnExactAllWords", spec := "fnExactAllWords", unfollowed := true, recurses := true, named := ["math/bits.deBruijn32tab", "math/bits.deBruijn64tab"], plainKeys := false, apart := false, laid := [("math/bits.deBruijn32tab", laid_math_bits_deBruijn32tab), ("math/bits.deBruijn64tab", laid_math_bits_deBruijn64tab)] }
def FnExactAllWordsSaid : Prop := fnExactAllWordsRow.holds Tryd.pinned (OpenSpec.ofChange fnExactAllWordsSpec)

/-- ITS FALSE NEIGHBOUR: 'it returns false'. Refute it at one input. -/
def fnExactAllWordsWrong : ChangeSpec := { name := "fnExactAllWords", fn := fun _ => fun
  | [d] => { results := [.lit (.bool false)], args := [d] }
  | _ => none }
def FnExactAllWordsWrongFalsely : Prop := fnExactAllWordsRow.holds Tryd.pinned (OpenSpec.ofChange fnExactAllWordsWrong)

/-- 'laws.FnExactAreWordsOf': WHATEVER THE INPUT: true; the input reads as it did. -/
def fnExactAreWordsOfSpec : ChangeSpec := { name := "fnExactAreWordsOf", fn := fun _ => fun
  | [d1, d2] => { results := [.lit (.bool true)], args := [d1, d2] }
  | _ => none }
def fnExactAreWordsOfRow : OpenClaim := { program := "ytknjiomagdfgfaadoor", sum := "322cdac5598b040bddad7ebcf0747f1f9415e5fba4a709ebfeba15e8a4494d87", func := "loop.example/g01137/laws.FnExactAreWordsOf", spec := "fnExactAreWordsOf", unfollowed := true, recurses := true, named := ["math/bits.deBruijn32tab", "math/bits.deBruijn64tab"], plainKeys := false, apart := false, laid := [("math/bits.deBruijn32tab", laid_math_bits_deBruijn32tab), ("math/bits.deBruijn64tab", laid_math_bits_deBruijn64tab)] }
def FnExactAreWordsOfSaid : Prop := fnExactAreWordsOfRow.holds Tryd.pinned (OpenSpec.ofChange fnExactAreWordsOfSpec)

/-- ITS FALSE NEIGHBOUR: 'it returns false'. Refute it at one input. -/
def fnExactAreWordsOfWrong : ChangeSpec := { name := "fnExactAreWordsOf", fn := fun _ => fun
  | [d1, d2] => { results := [.lit (.bool false)], args := [d1, d2] }
  | _ => none }
def FnExactAreWordsOfWrongFalsely : Prop := fnExactAreWordsOfRow.holds Tryd.pinned (OpenSpec.ofChange fnExactAreWordsOfWrong)

/-- 'laws.FnExactCornersOf': WHATEVER THE INPUT: true; the input reads as it did. -/
def fnExactCornersOfSpec : ChangeSpec := { name := "fnExactCornersOf", fn := fun _ => fun
  | [d1, d2] => { results := [.lit (.bool true)], args := [d1, d2] }
  | _ => none }
def fnExactCornersOfRow : OpenClaim := { program := "ytknjiomagdfgfaadoor", sum := "322cdac5598b040bddad7ebcf0747f1f9415e5fba4a709ebfeba15e8a4494d87", func := "loop.example/g01137/laws.FnExactCornersOf", spec := "fnExactCornersOf", unfollowed := true, recurses := true, named := ["math/bits.deBruijn32tab", "math/bits.deBruijn64tab"], plainKeys := false, apart := false, laid := [("math/bits.deBruijn32tab", laid_math_bits_deBruijn32tab), ("math/bits.deBruijn64tab", laid_math_bits_deBruijn64tab)] }
def FnExactCornersOfSaid : Prop := fnExactCornersOfRow.holds Tryd.pinned (OpenSpec.ofChange fnExactCornersOfSpec)

/-- ITS FALSE NEIGHBOUR: 'it returns false'. Refute it at one input. -/
def fnExactCornersOfWrong : ChangeSpec := { name := "fnExactCornersOf", fn := fun _ => fun
  | [d1, d2] => { results := [.lit (.bool false)], args := [d1, d2] }
  | _ => none }
def FnExactCornersOfWrongFalsely : Prop := fnExactCornersOfRow.holds Tryd.pinned (OpenSpec.ofChange fnExactCornersOfWrong)

/-- 'laws.FnExactCoveredBy': WHATEVER THE INPUT: true; the input reads as it did. -/
def fnExactCoveredBySpec : ChangeSpec := { name := "fnExactCoveredBy", fn := fun _ => fun
  | [d1, d2] => { results := [.lit (.bool true)], args := [d1, d2] }
  | _ => none }
def fnExactCoveredByRow : OpenClaim := { program := "ytknjiomagdfgfaadoor", sum := "322cdac5598b040bddad7ebcf0747f1f9415e5fba4a709ebfeba15e8a4494d87", func := "loop.example/g01137/laws.FnExactCoveredBy", spec := "fnExactCoveredBy", unfollowed := true, recurses := true, named := ["math/bits.deBruijn32tab", "math/bits.deBruijn64tab"], plainKeys := false, apart := false, laid := [("math/bits.deBruijn32tab", laid_math_bits_deBruijn32tab), ("math/bits.deBruijn64tab", laid_math_bits_deBruijn64tab)] }
def FnExactCoveredBySaid : Prop := fnExactCoveredByRow.holds Tryd.pinned (OpenSpec.ofChange fnExactCoveredBySpec)

/-- ITS FALSE NEIGHBOUR: 'it returns false'. Refute it at one input. -/
def fnExactCoveredByWrong : ChangeSpec := { name := "fnExactCoveredBy", fn := fun _ => fun
  | [d1, d2] => { results := [.lit (.bool false)], args := [d1, d2] }
  | _ => none }
def FnExactCoveredByWrongFalsely : Prop := fnExactCoveredByRow.holds Tryd.pinned (OpenSpec.ofChange fnExactCoveredByWrong)

/-- 'laws.FnExactPointSpace': WHATEVER THE INPUT: true; the input reads as it did. -/
def fnExactPointSpaceSpec : ChangeSpec := { name := "fnExactPointSpace", fn := fun _ => fun
  | [d] => { results := [.lit (.bool true)], args := [d] }
  | _ => none }
def fnExactPointSpaceRow : OpenClaim := { program := "ytknjiomagdfgfaadoor", sum := "322cdac5598b040bddad7ebcf0747f1f9415e5fba4a709ebfeba15e8a4494d87", func := "loop.example/g01137/laws.FnExactPointSpace", spec := "fnExactPointSpace", unfollowed := true, recurses := true, named := ["math/bits.deBruijn32tab", "math/bits.deBruijn64tab"], plainKeys := false, apart := false, laid := [("math/bits.deBruijn32tab", laid_math_bits_deBruijn32tab), ("math/bits.deBruijn64tab", laid_math_bits_deBruijn64tab)] }
def FnExactPointSpaceSaid : Prop := fnExactPointSpaceRow.holds Tryd.pinned (OpenSpec.ofChange fnExactPointSpaceSpec)

/-- ITS FALSE NEIGHBOUR: 'it returns false'. Refute it at one input. -/
def fnExactPointSpaceWrong : ChangeSpec := { name := "fnExactPointSpace", fn := fun _ => fun
  | [d] => { results := [.lit (.bool false)], args := [d] }
  | _ => none }
def FnExactPointSpaceWrongFalsely : Prop := fnExactPointSpaceRow.holds Tryd.pinned (OpenSpec.ofChange fnExactPointSpaceWrong)

/-- 'laws.FnExactFreeTriples': WHATEVER THE INPUT: true; the input reads as it did. -/
def fnExactFreeTriplesSpec : ChangeSpec := { name := "fnExactFreeTriples", fn := fun _ => fun
  | [d] => { results := [.lit (.bool true)], args := [d] }
  | _ => none }
def fnExactFreeTriplesRow : OpenClaim := { program := "ytknjiomagdfgfaadoor", sum := "322cdac5598b040bddad7ebcf0747f1f9415e5fba4a709ebfeba15e8a4494d87", func := "loop.example/g01137/laws.FnExactFreeTriples", spec := "fnExactFreeTriples", unfollowed := true, recurses := true, named := ["math/bits.deBruijn32tab", "math/bits.deBruijn64tab"], plainKeys := false, apart := false, laid := [("math/bits.deBruijn32tab", laid_math_bits_deBruijn32tab), ("math/bits.deBruijn64tab", laid_math_bits_deBruijn64tab)] }
def FnExactFreeTriplesSaid : Prop := fnExactFreeTriplesRow.holds Tryd.pinned (OpenSpec.ofChange fnExactFreeTriplesSpec)

/-- ITS FALSE NEIGHBOUR: 'it returns false'. Refute it at one input. -/
def fnExactFreeTriplesWrong : ChangeSpec := { name := "fnExactFreeTriples", fn := fun _ => fun
  | [d] => { results := [.lit (.bool false)], args := [d] }
  | _ => none }
def FnExactFreeTriplesWrongFalsely : Prop := fnExactFreeTriplesRow.holds Tryd.pinned (OpenSpec.ofChange fnExactFreeTriplesWrong)

/- THE SECOND FORM. 'bulk': how many values and letters a reading holds, each counted each time it is reached (what is shared counts as often as it is met; a slice's spare places count too). A statement '..UptoSaid' is the law's where the arguments, and the package variables that the reading takes, are together of bulk at most 1048576: NARROWER than '..Said'. Prove '..Said' where nothing that the law and all that it calls make is longer than what came in: it says more and counts as full. Else prove '..UptoSaid'. A law counts once. -/
mutual
def uptoBulk {H : Type} : DataW H → Nat
  | .lit (.string bytes) => bytes.length + 1
  | .lit _ => 1
  | .nil => 1
  | .ptr d => uptoBulk d + 1
  | .slice elems spare => uptoBulkAll elems + uptoBulkAll spare + 1
  | .agg parts => uptoBulkAll parts + 1
  | .iface _ d => uptoBulk d + 1
  | .map entries => uptoBulkEntries entries + 1
  | .held _ => 1
def uptoBulkAll {H : Type} : List (DataW H) → Nat
  | [] => 0
  | d :: r => uptoBulk d + uptoBulkAll r
def uptoBulkEntries {H : Type} : List (Lit × DataW H) → Nat
  | [] => 0
  | x :: r => uptoBulkEntry x + uptoBulkEntries r
def uptoBulkEntry {H : Type} : Lit × DataW H → Nat
  | (.string bytes, d) => bytes.length + uptoBulk d + 1
  | (_, d) => uptoBulk d + 1
 end
def uptoSmall : (H : Type) → List (DataW H) → Bool := fun _ ds => decide (uptoBulkAll ds ≤ 1048576)
def OpenSpec.upto (s : _root_.Go.ChangeSpec) : _root_.Go.OpenSpec := { _root_.Go.OpenSpec.ofChange s with cond := some uptoSmall }

/-- 'laws.FnExactCountWords', WHERE WHAT IT READS IS OF BULK AT MOST 1048576: true; the input reads as it did. -/
def fnExactCountWordsUptoRow : OpenClaim := { program := "ytknjiomagdfgfaadoor", sum := "322cdac5598b040bddad7ebcf0747f1f9415e5fba4a709ebfeba15e8a4494d87", func := "loop.example/g01137/laws.FnExactCountWords", spec := "fnExactCountWords", unfollowed := true, recurses := true, named := ["math/bits.deBruijn32tab", "math/bits.deBruijn64tab"], plainKeys := false, apart := false, laid := [("math/bits.deBruijn32tab", laid_math_bits_deBruijn32tab), ("math/bits.deBruijn64tab", laid_math_bits_deBruijn64tab)], narrowed := true }
def FnExactCountWordsUptoSaid : Prop := fnExactCountWordsUptoRow.holds Tryd.pinned (OpenSpec.upto fnExactCountWordsSpec)

/-- 'laws.FnExactCountFrom', WHERE WHAT IT READS IS OF BULK AT MOST 1048576: true; the input reads as it did. -/
def fnExactCountFromUptoRow : OpenClaim := { program := "ytknjiomagdfgfaadoor", sum := "322cdac5598b040bddad7ebcf0747f1f9415e5fba4a709ebfeba15e8a4494d87", func := "loop.example/g01137/laws.FnExactCountFrom", spec := "fnExactCountFrom", unfollowed := true, recurses := true, named := ["math/bits.deBruijn32tab", "math/bits.deBruijn64tab"], plainKeys := false, apart := false, laid := [("math/bits.deBruijn32tab", laid_math_bits_deBruijn32tab), ("math/bits.deBruijn64tab", laid_math_bits_deBruijn64tab)], narrowed := true }
def FnExactCountFromUptoSaid : Prop := fnExactCountFromUptoRow.holds Tryd.pinned (OpenSpec.upto fnExactCountFromSpec)

/-- 'laws.FnExactWordWith', WHERE WHAT IT READS IS OF BULK AT MOST 1048576: true; the input reads as it did. -/
def fnExactWordWithUptoRow : OpenClaim := { program := "ytknjiomagdfgfaadoor", sum := "322cdac5598b040bddad7ebcf0747f1f9415e5fba4a709ebfeba15e8a4494d87", func := "loop.example/g01137/laws.FnExactWordWith", spec := "fnExactWordWith", unfollowed := true, recurses := true, named := ["math/bits.deBruijn32tab", "math/bits.deBruijn64tab"], plainKeys := false, apart := false, laid := [("math/bits.deBruijn32tab", laid_math_bits_deBruijn32tab), ("math/bits.deBruijn64tab", laid_math_bits_deBruijn64tab)], narrowed := true }
def FnExactWordWithUptoSaid : Prop := fnExactWordWithUptoRow.holds Tryd.pinned (OpenSpec.upto fnExactWordWithSpec)

/-- 'laws.FnExactRankWord', WHERE WHAT IT READS IS OF BULK AT MOST 1048576: true; the input reads as it did. -/
def fnExactRankWordUptoRow : OpenClaim := { program := "ytknjiomagdfgfaadoor", sum := "322cdac5598b040bddad7ebcf0747f1f9415e5fba4a709ebfeba15e8a4494d87", func := "loop.example/g01137/laws.FnExactRankWord", spec := "fnExactRankWord", unfollowed := true, recurses := true, named := ["math/bits.deBruijn32tab", "math/bits.deBruijn64tab"], plainKeys := false, apart := false, laid := [("math/bits.deBruijn32tab", laid_math_bits_deBruijn32tab), ("math/bits.deBruijn64tab", laid_math_bits_deBruijn64tab)], narrowed := true }
def FnExactRankWordUptoSaid : Prop := fnExactRankWordUptoRow.holds Tryd.pinned (OpenSpec.upto fnExactRankWordSpec)

/-- 'laws.FnExactAllWords', WHERE WHAT IT READS IS OF BULK AT MOST 1048576: true; the input reads as it did. -/
def fnExactAllWordsUptoRow : OpenClaim := { program := "ytknjiomagdfgfaadoor", sum := "322cdac5598b040bddad7ebcf0747f1f9415e5fba4a709ebfeba15e8a4494d87", func := "loop.example/g01137/laws.FnExactAllWords", spec := "fnExactAllWords", unfollowed := true, recurses := true, named := ["math/bits.deBruijn32tab", "math/bits.deBruijn64tab"], plainKeys := false, apart := false, laid := [("math/bits.deBruijn32tab", laid_math_bits_deBruijn32tab), ("math/bits.deBruijn64tab", laid_math_bits_deBruijn64tab)], narrowed := true }
def FnExactAllWordsUptoSaid : Prop := fnExactAllWordsUptoRow.holds Tryd.pinned (OpenSpec.upto fnExactAllWordsSpec)

/-- 'laws.FnExactAreWordsOf', WHERE WHAT IT READS IS OF BULK AT MOST 1048576: true; the input reads as it did. -/
def fnExactAreWordsOfUptoRow : OpenClaim := { program := "ytknjiomagdfgfaadoor", sum := "322cdac5598b040bddad7ebcf0747f1f9415e5fba4a709ebfeba15e8a4494d87", func := "loop.example/g01137/laws.FnExactAreWordsOf", spec := "fnExactAreWordsOf", unfollowed := true, recurses := true, named := ["math/bits.deBruijn32tab", "math/bits.deBruijn64tab"], plainKeys := false, apart := false, laid := [("math/bits.deBruijn32tab", laid_math_bits_deBruijn32tab), ("math/bits.deBruijn64tab", laid_math_bits_deBruijn64tab)], narrowed := true }
def FnExactAreWordsOfUptoSaid : Prop := fnExactAreWordsOfUptoRow.holds Tryd.pinned (OpenSpec.upto fnExactAreWordsOfSpec)

/-- 'laws.FnExactCornersOf', WHERE WHAT IT READS IS OF BULK AT MOST 1048576: true; the input reads as it did. -/
def fnExactCornersOfUptoRow : OpenClaim := { program := "ytknjiomagdfgfaadoor", sum := "322cdac5598b040bddad7ebcf0747f1f9415e5fba4a709ebfeba15e8a4494d87", func := "loop.example/g01137/laws.FnExactCornersOf", spec := "fnExactCornersOf", unfollowed := true, recurses := true, named := ["math/bits.deBruijn32tab", "math/bits.deBruijn64tab"], plainKeys := false, apart := false, laid := [("math/bits.deBruijn32tab", laid_math_bits_deBruijn32tab), ("math/bits.deBruijn64tab", laid_math_bits_deBruijn64tab)], narrowed := true }
def FnExactCornersOfUptoSaid : Prop := fnExactCornersOfUptoRow.holds Tryd.pinned (OpenSpec.upto fnExactCornersOfSpec)

/-- 'laws.FnExactCoveredBy', WHERE WHAT IT READS IS OF BULK AT MOST 1048576: true; the input reads as it did. -/
def fnExactCoveredByUptoRow : OpenClaim := { program := "ytknjiomagdfgfaadoor", sum := "322cdac5598b040bddad7ebcf0747f1f9415e5fba4a709ebfeba15e8a4494d87", func := "loop.example/g01137/laws.FnExactCoveredBy", spec := "fnExactCoveredBy", unfollowed := true, recurses := true, named := ["math/bits.deBruijn32tab", "math/bits.deBruijn64tab"], plainKeys := false, apart := false, laid := [("math/bits.deBruijn32tab", laid_math_bits_deBruijn32tab), ("math/bits.deBruijn64tab", laid_math_bits_deBruijn64tab)], narrowed := true }
def FnExactCoveredByUptoSaid : Prop := fnExactCoveredByUptoRow.holds Tryd.pinned (OpenSpec.upto fnExactCoveredBySpec)

/-- 'laws.FnExactPointSpace', WHERE WHAT IT READS IS OF BULK AT MOST 1048576: true; the input reads as it did. -/
def fnExactPointSpaceUptoRow : OpenClaim := { program := "ytknjiomagdfgfaadoor", sum := "322cdac5598b040bddad7ebcf0747f1f9415e5fba4a709ebfeba15e8a4494d87", func := "loop.example/g01137/laws.FnExactPointSpace", spec := "fnExactPointSpace", unfollowed := true, recurses := true, named := ["math/bits.deBruijn32tab", "math/bits.deBruijn64tab"], plainKeys := false, apart := false, laid := [("math/bits.deBruijn32tab", laid_math_bits_deBruijn32tab), ("math/bits.deBruijn64tab", laid_math_bits_deBruijn64tab)], narrowed := true }
def FnExactPointSpaceUptoSaid : Prop := fnExactPointSpaceUptoRow.holds Tryd.pinned (OpenSpec.upto fnExactPointSpaceSpec)

/-- 'laws.FnExactFreeTriples', WHERE WHAT IT READS IS OF BULK AT MOST 1048576: true; the input reads as it did. -/
def fnExactFreeTriplesUptoRow : OpenClaim := { program := "ytknjiomagdfgfaadoor", sum := "322cdac5598b040bddad7ebcf0747f1f9415e5fba4a709ebfeba15e8a4494d87", func := "loop.example/g01137/laws.FnExactFreeTriples", spec := "fnExactFreeTriples", unfollowed := true, recurses := true, named := ["math/bits.deBruijn32tab", "math/bits.deBruijn64tab"], plainKeys := false, apart := false, laid := [("math/bits.deBruijn32tab", laid_math_bits_deBruijn32tab), ("math/bits.deBruijn64tab", laid_math_bits_deBruijn64tab)], narrowed := true }
def FnExactFreeTriplesUptoSaid : Prop := fnExactFreeTriplesUptoRow.holds Tryd.pinned (OpenSpec.upto fnExactFreeTriplesSpec)

end Rows
end Go.Proofs.YtknjiomagdfgfaaDoor
