/-
  NARROWER THAN 'FOR EVERY INPUT', by the rows' own cells (each row's printed sentence says how): FnExactCanMove: laid · FnExactMoveChips: laid · FnExactRunChips: laid · FnExactIsRun: laid · FnExactFinalChips: laid · FnExactMoveCounts: laid · FnExactFirstRun: laid · FnExactRunBy: laid · FnExactNeverEnds: laid.
  DERIVED. THE GIVEN ROWS OF THIS SEAT. 9 by the template 'for every input the law returns true; each argument reads behind the call as it read before'; 0 by the template 'total and deterministic' (their statements: YtjmhmmenampgbaaDoorTotals.lean).
  GIVEN WITH THE SEED: the statements are not yours to turn. If you find one false, say at which input.
  Laid BY PROGRAM, IN A SANDBOX (cutbox-rows.mjs): the forced cells as the released guide's own fill.sh prints them over the translation 7a8c4caf0aad4243… (all of the seat's roots in one cut). By AI agents, Wed Nov 11 2026. No macro, syntax, notation, axiom, sorry.
-/
import Derived.Test.YtjmhmmenampgbaaDoorChecked
import GoSem.Claim
import GoSem.ClaimJoined
import GoSem.ClaimMapViews
import Derived.JoinedTies
import Derived.KernelRfl
namespace Go.Proofs.YtjmhmmenampgbaaDoor
/- THE CELL 'sum', in the pinned program and in every row, IS THE sha256 OF THE DUMP (.gsa) THAT YtjmhmmenampgbaaDoorProg.lean LOADS. Nothing in Lean hashes anything: it is a label: what it is worth is what the hold of that sum in a sandbox is worth. -/
noncomputable def Tryd.pinned : Pinned := { name := "ytjmhmmenampgbaadoor", sum := "7a8c4caf0aad424316a9cefd1285100300658afd9302d54d3f0e8b66f01fd803", checked := Tryd.checked }
namespace Rows
def none {H : Type} : Left H := { results := [], args := [] }

/- WHAT THE LISTED PACKAGE-LEVEL VARIABLES READ AS WHEN THE CALL BEGINS. Each datum BY PROGRAM (the guide's laid-datum.mjs) off the statement by which the dump's own 'gosem.cut.vars' lays the variable. In a bare row this is a premise. The card (YtjmhmmenampgbaaDoorCards.lean) ties it to the program's text. -/
def laid_math_bits_deBruijn32tab {H : Type} : DataW H := .agg [.lit (.int .u8 0), .lit (.int .u8 1), .lit (.int .u8 28), .lit (.int .u8 2), .lit (.int .u8 29), .lit (.int .u8 14), .lit (.int .u8 24), .lit (.int .u8 3), .lit (.int .u8 30), .lit (.int .u8 22), .lit (.int .u8 20), .lit (.int .u8 15), .lit (.int .u8 25), .lit (.int .u8 17), .lit (.int .u8 4), .lit (.int .u8 8), .lit (.int .u8 31), .lit (.int .u8 27), .lit (.int .u8 13), .lit (.int .u8 23), .lit (.int .u8 21), .lit (.int .u8 19), .lit (.int .u8 16), .lit (.int .u8 7), .lit (.int .u8 26), .lit (.int .u8 12), .lit (.int .u8 18), .lit (.int .u8 6), .lit (.int .u8 11), .lit (.int .u8 5), .lit (.int .u8 10), .lit (.int .u8 9)]
def laid_math_bits_deBruijn64tab {H : Type} : DataW H := .agg [.lit (.int .u8 0), .lit (.int .u8 1), .lit (.int .u8 56), .lit (.int .u8 2), .lit (.int .u8 57), .lit (.int .u8 49), .lit (.int .u8 28), .lit (.int .u8 3), .lit (.int .u8 61), .lit (.int .u8 58), .lit (.int .u8 42), .lit (.int .u8 50), .lit (.int .u8 38), .lit (.int .u8 29), .lit (.int .u8 17), .lit (.int .u8 4), .lit (.int .u8 62), .lit (.int .u8 47), .lit (.int .u8 59), .lit (.int .u8 36), .lit (.int .u8 45), .lit (.int .u8 43), .lit (.int .u8 51), .lit (.int .u8 22), .lit (.int .u8 53), .lit (.int .u8 39), .lit (.int .u8 33), .lit (.int .u8 30), .lit (.int .u8 24), .lit (.int .u8 18), .lit (.int .u8 12), .lit (.int .u8 5), .lit (.int .u8 63), .lit (.int .u8 55), .lit (.int .u8 48), .lit (.int .u8 27), .lit (.int .u8 60), .lit (.int .u8 41), .lit (.int .u8 37), .lit (.int .u8 16), .lit (.int .u8 46), .lit (.int .u8 35), .lit (.int .u8 44), .lit (.int .u8 21), .lit (.int .u8 52), .lit (.int .u8 32), .lit (.int .u8 23), .lit (.int .u8 11), .lit (.int .u8 54), .lit (.int .u8 26), .lit (.int .u8 40), .lit (.int .u8 15), .lit (.int .u8 34), .lit (.int .u8 20), .lit (.int .u8 31), .lit (.int .u8 10), .lit (.int .u8 25), .lit (.int .u8 14), .lit (.int .u8 19), .lit (.int .u8 9), .lit (.int .u8 13), .lit (.int .u8 8), .lit (.int .u8 7), .lit (.int .u8 6)]

/-- 'laws.FnExactCanMove': WHATEVER THE INPUT: true; the input reads as it did. -/
def fnExactCanMoveSpec : ChangeSpec := { name := "fnExactCanMove", fn := fun _ => fun
  | [d] => { results := [.lit (.bool true)], args := [d] }
  | _ => none }
def fnExactCanMoveRow : OpenClaim := { program := "ytjmhmmenampgbaadoor", sum := "7a8c4caf0aad424316a9cefd1285100300658afd9302d54d3f0e8b66f01fd803", func := "loop.example/g01137/laws.FnExactCanMove", spec := "fnExactCanMove", unfollowed := true, recurses := true, named := ["math/bits.deBruijn32tab", "math/bits.deBruijn64tab"], apart := false, laid := [("math/bits.deBruijn32tab", laid_math_bits_deBruijn32tab), ("math/bits.deBruijn64tab", laid_math_bits_deBruijn64tab)] }
def FnExactCanMoveSaid : Prop := fnExactCanMoveRow.holds Tryd.pinned (OpenSpec.ofChange fnExactCanMoveSpec)

/-- ITS FALSE NEIGHBOUR: 'it returns false'. Refute it at one input. -/
def fnExactCanMoveWrong : ChangeSpec := { name := "fnExactCanMove", fn := fun _ => fun
  | [d] => { results := [.lit (.bool false)], args := [d] }
  | _ => none }
def FnExactCanMoveWrongFalsely : Prop := fnExactCanMoveRow.holds Tryd.pinned (OpenSpec.ofChange fnExactCanMoveWrong)

/-- 'laws.FnExactMoveChips': WHATEVER THE INPUT: true; the input reads as it did. -/
def fnExactMoveChipsSpec : ChangeSpec := { name := "fnExactMoveChips", fn := fun _ => fun
  | [d1, d2] => { results := [.lit (.bool true)], args := [d1, d2] }
  | _ => none }
def fnExactMoveChipsRow : OpenClaim := { program := "ytjmhmmenampgbaadoor", sum := "7a8c4caf0aad424316a9cefd1285100300658afd9302d54d3f0e8b66f01fd803", func := "loop.example/g01137/laws.FnExactMoveChips", spec := "fnExactMoveChips", unfollowed := true, recurses := true, named := ["math/bits.deBruijn32tab", "math/bits.deBruijn64tab"], apart := false, laid := [("math/bits.deBruijn32tab", laid_math_bits_deBruijn32tab), ("math/bits.deBruijn64tab", laid_math_bits_deBruijn64tab)] }
def FnExactMoveChipsSaid : Prop := fnExactMoveChipsRow.holds Tryd.pinned (OpenSpec.ofChange fnExactMoveChipsSpec)

/-- ITS FALSE NEIGHBOUR: 'it returns false'. Refute it at one input. -/
def fnExactMoveChipsWrong : ChangeSpec := { name := "fnExactMoveChips", fn := fun _ => fun
  | [d1, d2] => { results := [.lit (.bool false)], args := [d1, d2] }
  | _ => none }
def FnExactMoveChipsWrongFalsely : Prop := fnExactMoveChipsRow.holds Tryd.pinned (OpenSpec.ofChange fnExactMoveChipsWrong)

/-- 'laws.FnExactRunChips': WHATEVER THE INPUT: true; the input reads as it did. -/
def fnExactRunChipsSpec : ChangeSpec := { name := "fnExactRunChips", fn := fun _ => fun
  | [d1, d2] => { results := [.lit (.bool true)], args := [d1, d2] }
  | _ => none }
def fnExactRunChipsRow : OpenClaim := { program := "ytjmhmmenampgbaadoor", sum := "7a8c4caf0aad424316a9cefd1285100300658afd9302d54d3f0e8b66f01fd803", func := "loop.example/g01137/laws.FnExactRunChips", spec := "fnExactRunChips", unfollowed := true, recurses := true, named := ["math/bits.deBruijn32tab", "math/bits.deBruijn64tab"], apart := false, laid := [("math/bits.deBruijn32tab", laid_math_bits_deBruijn32tab), ("math/bits.deBruijn64tab", laid_math_bits_deBruijn64tab)] }
def FnExactRunChipsSaid : Prop := fnExactRunChipsRow.holds Tryd.pinned (OpenSpec.ofChange fnExactRunChipsSpec)

/-- ITS FALSE NEIGHBOUR: 'it returns false'. Refute it at one input. -/
def fnExactRunChipsWrong : ChangeSpec := { name := "fnExactRunChips", fn := fun _ => fun
  | [d1, d2] => { results := [.lit (.bool false)], args := [d1, d2] }
  | _ => none }
def FnExactRunChipsWrongFalsely : Prop := fnExactRunChipsRow.holds Tryd.pinned (OpenSpec.ofChange fnExactRunChipsWrong)

/-- 'laws.FnExactIsRun': WHATEVER THE INPUT: true; the input reads as it did. -/
def fnExactIsRunSpec : ChangeSpec := { name := "fnExactIsRun", fn := fun _ => fun
  | [d1, d2] => { results := [.lit (.bool true)], args := [d1, d2] }
  | _ => none }
def fnExactIsRunRow : OpenClaim := { program := "ytjmhmmenampgbaadoor", sum := "7a8c4caf0aad424316a9cefd1285100300658afd9302d54d3f0e8b66f01fd803", func := "loop.example/g01137/laws.FnExactIsRun", spec := "fnExactIsRun", unfollowed := true, recurses := true, named := ["math/bits.deBruijn32tab", "math/bits.deBruijn64tab"], apart := false, laid := [("math/bits.deBruijn32tab", laid_math_bits_deBruijn32tab), ("math/bits.deBruijn64tab", laid_math_bits_deBruijn64tab)] }
def FnExactIsRunSaid : Prop := fnExactIsRunRow.holds Tryd.pinned (OpenSpec.ofChange fnExactIsRunSpec)

/-- ITS FALSE NEIGHBOUR: 'it returns false'. Refute it at one input. -/
def fnExactIsRunWrong : ChangeSpec := { name := "fnExactIsRun", fn := fun _ => fun
  | [d1, d2] => { results := [.lit (.bool false)], args := [d1, d2] }
  | _ => none }
def FnExactIsRunWrongFalsely : Prop := fnExactIsRunRow.holds Tryd.pinned (OpenSpec.ofChange fnExactIsRunWrong)

/-- 'laws.FnExactFinalChips': WHATEVER THE INPUT: true; the input reads as it did. -/
def fnExactFinalChipsSpec : ChangeSpec := { name := "fnExactFinalChips", fn := fun _ => fun
  | [d] => { results := [.lit (.bool true)], args := [d] }
  | _ => none }
def fnExactFinalChipsRow : OpenClaim := { program := "ytjmhmmenampgbaadoor", sum := "7a8c4caf0aad424316a9cefd1285100300658afd9302d54d3f0e8b66f01fd803", func := "loop.example/g01137/laws.FnExactFinalChips", spec := "fnExactFinalChips", unfollowed := true, recurses := true, named := ["math/bits.deBruijn32tab", "math/bits.deBruijn64tab"], apart := false, laid := [("math/bits.deBruijn32tab", laid_math_bits_deBruijn32tab), ("math/bits.deBruijn64tab", laid_math_bits_deBruijn64tab)] }
def FnExactFinalChipsSaid : Prop := fnExactFinalChipsRow.holds Tryd.pinned (OpenSpec.ofChange fnExactFinalChipsSpec)

/-- ITS FALSE NEIGHBOUR: 'it returns false'. Refute it at one input. -/
def fnExactFinalChipsWrong : ChangeSpec := { name := "fnExactFinalChips", fn := fun _ => fun
  | [d] => { results := [.lit (.bool false)], args := [d] }
  | _ => none }
def FnExactFinalChipsWrongFalsely : Prop := fnExactFinalChipsRow.holds Tryd.pinned (OpenSpec.ofChange fnExactFinalChipsWrong)

/-- 'laws.FnExactMoveCounts': WHATEVER THE INPUT: true; the input reads as it did. -/
def fnExactMoveCountsSpec : ChangeSpec := { name := "fnExactMoveCounts", fn := fun _ => fun
  | [d] => { results := [.lit (.bool true)], args := [d] }
  | _ => none }
def fnExactMoveCountsRow : OpenClaim := { program := "ytjmhmmenampgbaadoor", sum := "7a8c4caf0aad424316a9cefd1285100300658afd9302d54d3f0e8b66f01fd803", func := "loop.example/g01137/laws.FnExactMoveCounts", spec := "fnExactMoveCounts", unfollowed := true, recurses := true, named := ["math/bits.deBruijn32tab", "math/bits.deBruijn64tab"], apart := false, laid := [("math/bits.deBruijn32tab", laid_math_bits_deBruijn32tab), ("math/bits.deBruijn64tab", laid_math_bits_deBruijn64tab)] }
def FnExactMoveCountsSaid : Prop := fnExactMoveCountsRow.holds Tryd.pinned (OpenSpec.ofChange fnExactMoveCountsSpec)

/-- ITS FALSE NEIGHBOUR: 'it returns false'. Refute it at one input. -/
def fnExactMoveCountsWrong : ChangeSpec := { name := "fnExactMoveCounts", fn := fun _ => fun
  | [d] => { results := [.lit (.bool false)], args := [d] }
  | _ => none }
def FnExactMoveCountsWrongFalsely : Prop := fnExactMoveCountsRow.holds Tryd.pinned (OpenSpec.ofChange fnExactMoveCountsWrong)

/-- 'laws.FnExactFirstRun': WHATEVER THE INPUT: true; the input reads as it did. -/
def fnExactFirstRunSpec : ChangeSpec := { name := "fnExactFirstRun", fn := fun _ => fun
  | [d] => { results := [.lit (.bool true)], args := [d] }
  | _ => none }
def fnExactFirstRunRow : OpenClaim := { program := "ytjmhmmenampgbaadoor", sum := "7a8c4caf0aad424316a9cefd1285100300658afd9302d54d3f0e8b66f01fd803", func := "loop.example/g01137/laws.FnExactFirstRun", spec := "fnExactFirstRun", unfollowed := true, recurses := true, named := ["math/bits.deBruijn32tab", "math/bits.deBruijn64tab"], apart := false, laid := [("math/bits.deBruijn32tab", laid_math_bits_deBruijn32tab), ("math/bits.deBruijn64tab", laid_math_bits_deBruijn64tab)] }
def FnExactFirstRunSaid : Prop := fnExactFirstRunRow.holds Tryd.pinned (OpenSpec.ofChange fnExactFirstRunSpec)

/-- ITS FALSE NEIGHBOUR: 'it returns false'. Refute it at one input. -/
def fnExactFirstRunWrong : ChangeSpec := { name := "fnExactFirstRun", fn := fun _ => fun
  | [d] => { results := [.lit (.bool false)], args := [d] }
  | _ => none }
def FnExactFirstRunWrongFalsely : Prop := fnExactFirstRunRow.holds Tryd.pinned (OpenSpec.ofChange fnExactFirstRunWrong)

/-- 'laws.FnExactRunBy': WHATEVER THE INPUT: true; the input reads as it did. -/
def fnExactRunBySpec : ChangeSpec := { name := "fnExactRunBy", fn := fun _ => fun
  | [d1, d2] => { results := [.lit (.bool true)], args := [d1, d2] }
  | _ => none }
def fnExactRunByRow : OpenClaim := { program := "ytjmhmmenampgbaadoor", sum := "7a8c4caf0aad424316a9cefd1285100300658afd9302d54d3f0e8b66f01fd803", func := "loop.example/g01137/laws.FnExactRunBy", spec := "fnExactRunBy", unfollowed := true, recurses := true, named := ["math/bits.deBruijn32tab", "math/bits.deBruijn64tab"], apart := false, laid := [("math/bits.deBruijn32tab", laid_math_bits_deBruijn32tab), ("math/bits.deBruijn64tab", laid_math_bits_deBruijn64tab)] }
def FnExactRunBySaid : Prop := fnExactRunByRow.holds Tryd.pinned (OpenSpec.ofChange fnExactRunBySpec)

/-- ITS FALSE NEIGHBOUR: 'it returns false'. Refute it at one input. -/
def fnExactRunByWrong : ChangeSpec := { name := "fnExactRunBy", fn := fun _ => fun
  | [d1, d2] => { results := [.lit (.bool false)], args := [d1, d2] }
  | _ => none }
def FnExactRunByWrongFalsely : Prop := fnExactRunByRow.holds Tryd.pinned (OpenSpec.ofChange fnExactRunByWrong)

/-- 'laws.FnExactNeverEnds': WHATEVER THE INPUT: true; the input reads as it did. -/
def fnExactNeverEndsSpec : ChangeSpec := { name := "fnExactNeverEnds", fn := fun _ => fun
  | [d] => { results := [.lit (.bool true)], args := [d] }
  | _ => none }
def fnExactNeverEndsRow : OpenClaim := { program := "ytjmhmmenampgbaadoor", sum := "7a8c4caf0aad424316a9cefd1285100300658afd9302d54d3f0e8b66f01fd803", func := "loop.example/g01137/laws.FnExactNeverEnds", spec := "fnExactNeverEnds", unfollowed := true, recurses := true, named := ["math/bits.deBruijn32tab", "math/bits.deBruijn64tab"], apart := false, laid := [("math/bits.deBruijn32tab", laid_math_bits_deBruijn32tab), ("math/bits.deBruijn64tab", laid_math_bits_deBruijn64tab)] }
def FnExactNeverEndsSaid : Prop := fnExactNeverEndsRow.holds Tryd.pinned (OpenSpec.ofChange fnExactNeverEndsSpec)

/-- ITS FALSE NEIGHBOUR: 'it returns false'. Refute it at one input. -/
def fnExactNeverEndsWrong : ChangeSpec := { name := "fnExactNeverEnds", fn := fun _ => fun
  | [d] => { results := [.lit (.bool false)], args := [d] }
  | _ => none }
def FnExactNeverEndsWrongFalsely : Prop := fnExactNeverEndsRow.holds Tryd.pinned (OpenSpec.ofChange fnExactNeverEndsWrong)

/- THE SECOND FORM. 'bulk': how many values and letters a reading holds, each counted each time it is reached (what is shared counts as often as it is met; a slice's spare places count too). A statement '..UptoSaid' is the law's where the arguments, and the package variables that the reading takes, are together of bulk at most 1048576: NARROWER than '..Said'. Prove '..Said' where nothing that the law and all that it calls make is longer than what came in: it says more and counts as full. Else prove '..UptoSaid'. A law counts once. -/
mutual
def uptoBulk {H : Type} : DataW H → Nat
  | .lit (.string bytes) => bytes.length + 1
  | .lit _ => 1
  | .nil => 1
  | .ptr d => uptoBulk d + 1
  | .slice elems spare => uptoBulkAll elems + uptoBulkAll spare + 1
  | .agg parts => uptoBulkAll parts + 1
  | .iface _ d => uptoBulk d + 1
  | .map entries => uptoBulkEntries entries + 1
  | .held _ => 1
def uptoBulkAll {H : Type} : List (DataW H) → Nat
  | [] => 0
  | d :: r => uptoBulk d + uptoBulkAll r
def uptoBulkEntries {H : Type} : List (Lit × DataW H) → Nat
  | [] => 0
  | x :: r => uptoBulkEntry x + uptoBulkEntries r
def uptoBulkEntry {H : Type} : Lit × DataW H → Nat
  | (.string bytes, d) => bytes.length + uptoBulk d + 1
  | (_, d) => uptoBulk d + 1
 end
def uptoSmall : (H : Type) → List (DataW H) → Bool := fun _ ds => decide (uptoBulkAll ds ≤ 1048576)
def OpenSpec.upto (s : _root_.Go.ChangeSpec) : _root_.Go.OpenSpec := { _root_.Go.OpenSpec.ofChange s with cond := some uptoSmall }

/-- 'laws.FnExactCanMove', WHERE WHAT IT READS IS OF BULK AT MOST 1048576: true; the input reads as it did. -/
def fnExactCanMoveUptoRow : OpenClaim := { program := "ytjmhmmenampgbaadoor", sum := "7a8c4caf0aad424316a9cefd1285100300658afd9302d54d3f0e8b66f01fd803", func := "loop.example/g01137/laws.FnExactCanMove", spec := "fnExactCanMove", unfollowed := true, recurses := true, named := ["math/bits.deBruijn32tab", "math/bits.deBruijn64tab"], apart := false, laid := [("math/bits.deBruijn32tab", laid_math_bits_deBruijn32tab), ("math/bits.deBruijn64tab", laid_math_bits_deBruijn64tab)], narrowed := true }
def FnExactCanMoveUptoSaid : Prop := fnExactCanMoveUptoRow.holds Tryd.pinned (OpenSpec.upto fnExactCanMoveSpec)

/-- 'laws.FnExactMoveChips', WHERE WHAT IT READS IS OF BULK AT MOST 1048576: true; the input reads as it did. -/
def fnExactMoveChipsUptoRow : OpenClaim := { program := "ytjmhmmenampgbaadoor", sum := "7a8c4caf0aad424316a9cefd1285100300658afd9302d54d3f0e8b66f01fd803", func := "loop.example/g01137/laws.FnExactMoveChips", spec := "fnExactMoveChips", unfollowed := true, recurses := true, named := ["math/bits.deBruijn32tab", "math/bits.deBruijn64tab"], apart := false, laid := [("math/bits.deBruijn32tab", laid_math_bits_deBruijn32tab), ("math/bits.deBruijn64tab", laid_math_bits_deBruijn64tab)], narrowed := true }
def FnExactMoveChipsUptoSaid : Prop := fnExactMoveChipsUptoRow.holds Tryd.pinned (OpenSpec.upto fnExactMoveChipsSpec)

/-- 'laws.FnExactRunChips', WHERE WHAT IT READS IS OF BULK AT MOST 1048576: true; the input reads as it did. -/
def fnExactRunChipsUptoRow : OpenClaim := { program := "ytjmhmmenampgbaadoor", sum := "7a8c4caf0aad424316a9cefd1285100300658afd9302d54d3f0e8b66f01fd803", func := "loop.example/g01137/laws.FnExactRunChips", spec := "fnExactRunChips", unfollowed := true, recurses := true, named := ["math/bits.deBruijn32tab", "math/bits.deBruijn64tab"], apart := false, laid := [("math/bits.deBruijn32tab", laid_math_bits_deBruijn32tab), ("math/bits.deBruijn64tab", laid_math_bits_deBruijn64tab)], narrowed := true }
def FnExactRunChipsUptoSaid : Prop := fnExactRunChipsUptoRow.holds Tryd.pinned (OpenSpec.upto fnExactRunChipsSpec)

/-- 'laws.FnExactIsRun', WHERE WHAT IT READS IS OF BULK AT MOST 1048576: true; the input reads as it did. -/
def fnExactIsRunUptoRow : OpenClaim := { program := "ytjmhmmenampgbaadoor", sum := "7a8c4caf0aad424316a9cefd1285100300658afd9302d54d3f0e8b66f01fd803", func := "loop.example/g01137/laws.FnExactIsRun", spec := "fnExactIsRun", unfollowed := true, recurses := true, named := ["math/bits.deBruijn32tab", "math/bits.deBruijn64tab"], apart := false, laid := [("math/bits.deBruijn32tab", laid_math_bits_deBruijn32tab), ("math/bits.deBruijn64tab", laid_math_bits_deBruijn64tab)], narrowed := true }
def FnExactIsRunUptoSaid : Prop := fnExactIsRunUptoRow.holds Tryd.pinned (OpenSpec.upto fnExactIsRunSpec)

/-- 'laws.FnExactFinalChips', WHERE WHAT IT READS IS OF BULK AT MOST 1048576: true; the input reads as it did. -/
def fnExactFinalChipsUptoRow : OpenClaim := { program := "ytjmhmmenampgbaadoor", sum := "7a8c4caf0aad424316a9cefd1285100300658afd9302d54d3f0e8b66f01fd803", func := "loop.example/g01137/laws.FnExactFinalChips", spec := "fnExactFinalChips", unfollowed := true, recurses := true, named := ["math/bits.deBruijn32tab", "math/bits.deBruijn64tab"], apart := false, laid := [("math/bits.deBruijn32tab", laid_math_bits_deBruijn32tab), ("math/bits.deBruijn64tab", laid_math_bits_deBruijn64tab)], narrowed := true }
def FnExactFinalChipsUptoSaid : Prop := fnExactFinalChipsUptoRow.holds Tryd.pinned (OpenSpec.upto fnExactFinalChipsSpec)

/-- 'laws.FnExactMoveCounts', WHERE WHAT IT READS IS OF BULK AT MOST 1048576: true; the input reads as it did. -/
def fnExactMoveCountsUptoRow : OpenClaim := { program := "ytjmhmmenampgbaadoor", sum := "7a8c4caf0aad424316a9cefd1285100300658afd9302d54d3f0e8b66f01fd803", func := "loop.example/g01137/laws.FnExactMoveCounts", spec := "fnExactMoveCounts", unfollowed := true, recurses := true, named := ["math/bits.deBruijn32tab", "math/bits.deBruijn64tab"], apart := false, laid := [("math/bits.deBruijn32tab", laid_math_bits_deBruijn32tab), ("math/bits.deBruijn64tab", laid_math_bits_deBruijn64tab)], narrowed := true }
def FnExactMoveCountsUptoSaid : Prop := fnExactMoveCountsUptoRow.holds Tryd.pinned (OpenSpec.upto fnExactMoveCountsSpec)

/-- 'laws.FnExactFirstRun', WHERE WHAT IT READS IS OF BULK AT MOST 1048576: true; the input reads as it did. -/
def fnExactFirstRunUptoRow : OpenClaim := { program := "ytjmhmmenampgbaadoor", sum := "7a8c4caf0aad424316a9cefd1285100300658afd9302d54d3f0e8b66f01fd803", func := "loop.example/g01137/laws.FnExactFirstRun", spec := "fnExactFirstRun", unfollowed := true, recurses := true, named := ["math/bits.deBruijn32tab", "math/bits.deBruijn64tab"], apart := false, laid := [("math/bits.deBruijn32tab", laid_math_bits_deBruijn32tab), ("math/bits.deBruijn64tab", laid_math_bits_deBruijn64tab)], narrowed := true }
def FnExactFirstRunUptoSaid : Prop := fnExactFirstRunUptoRow.holds Tryd.pinned (OpenSpec.upto fnExactFirstRunSpec)

/-- 'laws.FnExactRunBy', WHERE WHAT IT READS IS OF BULK AT MOST 1048576: true; the input reads as it did. -/
def fnExactRunByUptoRow : OpenClaim := { program := "ytjmhmmenampgbaadoor", sum := "7a8c4caf0aad424316a9cefd1285100300658afd9302d54d3f0e8b66f01fd803", func := "loop.example/g01137/laws.FnExactRunBy", spec := "fnExactRunBy", unfollowed := true, recurses := true, named := ["math/bits.deBruijn32tab", "math/bits.deBruijn64tab"], apart := false, laid := [("math/bits.deBruijn32tab", laid_math_bits_deBruijn32tab), ("math/bits.deBruijn64tab", laid_math_bits_deBruijn64tab)], narrowed := true }
def FnExactRunByUptoSaid : Prop := fnExactRunByUptoRow.holds Tryd.pinned (OpenSpec.upto fnExactRunBySpec)

/-- 'laws.FnExactNeverEnds', WHERE WHAT IT READS IS OF BULK AT MOST 1048576: true; the input reads as it did. -/
def fnExactNeverEndsUptoRow : OpenClaim := { program := "ytjmhmmenampgbaadoor", sum := "7a8c4caf0aad424316a9cefd1285100300658afd9302d54d3f0e8b66f01fd803", func := "loop.example/g01137/laws.FnExactNeverEnds", spec := "fnExactNeverEnds", unfollowed := true, recurses := true, named := ["math/bits.deBruijn32tab", "math/bits.deBruijn64tab"], apart := false, laid := [("math/bits.deBruijn32tab", laid_math_bits_deBruijn32tab), ("math/bits.deBruijn64tab", laid_math_bits_deBruijn64tab)], narrowed := true }
def FnExactNeverEndsUptoSaid : Prop := fnExactNeverEndsUptoRow.holds Tryd.pinned (OpenSpec.upto fnExactNeverEndsSpec)

end Rows
end Go.Proofs.YtjmhmmenampgbaaDoor
