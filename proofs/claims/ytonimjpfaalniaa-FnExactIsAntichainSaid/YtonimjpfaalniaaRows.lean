/-
  No cell of these rows narrows 'for every input' (looked for: loops, veiled, ifaces, maps, wideKeys, modest, calm, conditions, laid).
  DERIVED. THE GIVEN ROWS OF THIS SEAT. 12 by the template 'for every input the law returns true; each argument reads behind the call as it read before'; 0 by the template 'total and deterministic' (their statements: YtonimjpfaalniaaTotals.lean).
  GIVEN WITH THE SEED: the statements are not yours to turn. If you find one false, say at which input.
  Laid BY PROGRAM, IN A SANDBOX (cutbox-rows.mjs): the forced cells as the released guide's own fill.sh prints them over the translation 182160417f91812f… (all of the seat's roots in one cut). By AI agents, Wed Nov 11 2026. No macro, syntax, notation, axiom, sorry.
-/
import Derived.Test.YtonimjpfaalniaaChecked
import GoSem.Claim
import GoSem.ClaimJoined
import GoSem.ClaimMapViews
import Derived.JoinedTies
import Derived.KernelRfl
namespace Go.Proofs.Ytonimjpfaalniaa
/- THE CELL 'sum', in the pinned program and in every row, IS THE sha256 OF THE DUMP (.gsa) THAT YtonimjpfaalniaaProg.lean LOADS. Nothing in Lean hashes anything: it is a label: what it is worth is what the hold of that sum in a sandbox is worth. -/
noncomputable def Try.pinned : Pinned := { name := "ytonimjpfaalniaa", sum := "182160417f91812f766d39f5b52f7f85d00cb94f0d6c39d365bce2abd8a068a1", checked := Try.checked }
namespace Rows
def none {H : Type} : Left H := { results := [], args := [] }

/-- 'laws.FnExactIsAntichain': WHATEVER THE INPUT: true; the input reads as it did. -/
def fnExactIsAntichainSpec : ChangeSpec := { name := "fnExactIsAntichain", fn := fun _ => fun
  | [d1, d2] => { results := [.lit (.bool true)], args := [d1, d2] }
  | _ => none }
def fnExactIsAntichainRow : OpenClaim := { program := "ytonimjpfaalniaa", sum := "182160417f91812f766d39f5b52f7f85d00cb94f0d6c39d365bce2abd8a068a1", func := "loop.example/g01137/laws.FnExactIsAntichain", spec := "fnExactIsAntichain", unfollowed := true, recurses := true, apart := false }
def FnExactIsAntichainSaid : Prop := fnExactIsAntichainRow.holds Try.pinned (OpenSpec.ofChange fnExactIsAntichainSpec)

/-- ITS FALSE NEIGHBOUR: 'it returns false'. Refute it at one input. -/
def fnExactIsAntichainWrong : ChangeSpec := { name := "fnExactIsAntichain", fn := fun _ => fun
  | [d1, d2] => { results := [.lit (.bool false)], args := [d1, d2] }
  | _ => none }
def FnExactIsAntichainWrongFalsely : Prop := fnExactIsAntichainRow.holds Try.pinned (OpenSpec.ofChange fnExactIsAntichainWrong)

/-- 'laws.FnExactWidthOf': WHATEVER THE INPUT: true; the input reads as it did. -/
def fnExactWidthOfSpec : ChangeSpec := { name := "fnExactWidthOf", fn := fun _ => fun
  | [d] => { results := [.lit (.bool true)], args := [d] }
  | _ => none }
def fnExactWidthOfRow : OpenClaim := { program := "ytonimjpfaalniaa", sum := "182160417f91812f766d39f5b52f7f85d00cb94f0d6c39d365bce2abd8a068a1", func := "loop.example/g01137/laws.FnExactWidthOf", spec := "fnExactWidthOf", unfollowed := true, recurses := true, apart := false }
def FnExactWidthOfSaid : Prop := fnExactWidthOfRow.holds Try.pinned (OpenSpec.ofChange fnExactWidthOfSpec)

/-- ITS FALSE NEIGHBOUR: 'it returns false'. Refute it at one input. -/
def fnExactWidthOfWrong : ChangeSpec := { name := "fnExactWidthOf", fn := fun _ => fun
  | [d] => { results := [.lit (.bool false)], args := [d] }
  | _ => none }
def FnExactWidthOfWrongFalsely : Prop := fnExactWidthOfRow.holds Try.pinned (OpenSpec.ofChange fnExactWidthOfWrong)

/-- 'laws.FnExactGreatestAntichain': WHATEVER THE INPUT: true; the input reads as it did. -/
def fnExactGreatestAntichainSpec : ChangeSpec := { name := "fnExactGreatestAntichain", fn := fun _ => fun
  | [d] => { results := [.lit (.bool true)], args := [d] }
  | _ => none }
def fnExactGreatestAntichainRow : OpenClaim := { program := "ytonimjpfaalniaa", sum := "182160417f91812f766d39f5b52f7f85d00cb94f0d6c39d365bce2abd8a068a1", func := "loop.example/g01137/laws.FnExactGreatestAntichain", spec := "fnExactGreatestAntichain", unfollowed := true, recurses := true, apart := false }
def FnExactGreatestAntichainSaid : Prop := fnExactGreatestAntichainRow.holds Try.pinned (OpenSpec.ofChange fnExactGreatestAntichainSpec)

/-- ITS FALSE NEIGHBOUR: 'it returns false'. Refute it at one input. -/
def fnExactGreatestAntichainWrong : ChangeSpec := { name := "fnExactGreatestAntichain", fn := fun _ => fun
  | [d] => { results := [.lit (.bool false)], args := [d] }
  | _ => none }
def FnExactGreatestAntichainWrongFalsely : Prop := fnExactGreatestAntichainRow.holds Try.pinned (OpenSpec.ofChange fnExactGreatestAntichainWrong)

/-- 'laws.FnExactChainsThrough': WHATEVER THE INPUT: true; the input reads as it did. -/
def fnExactChainsThroughSpec : ChangeSpec := { name := "fnExactChainsThrough", fn := fun _ => fun
  | [d] => { results := [.lit (.bool true)], args := [d] }
  | _ => none }
def fnExactChainsThroughRow : OpenClaim := { program := "ytonimjpfaalniaa", sum := "182160417f91812f766d39f5b52f7f85d00cb94f0d6c39d365bce2abd8a068a1", func := "loop.example/g01137/laws.FnExactChainsThrough", spec := "fnExactChainsThrough", unfollowed := true, recurses := true, apart := false }
def FnExactChainsThroughSaid : Prop := fnExactChainsThroughRow.holds Try.pinned (OpenSpec.ofChange fnExactChainsThroughSpec)

/-- ITS FALSE NEIGHBOUR: 'it returns false'. Refute it at one input. -/
def fnExactChainsThroughWrong : ChangeSpec := { name := "fnExactChainsThrough", fn := fun _ => fun
  | [d] => { results := [.lit (.bool false)], args := [d] }
  | _ => none }
def FnExactChainsThroughWrongFalsely : Prop := fnExactChainsThroughRow.holds Try.pinned (OpenSpec.ofChange fnExactChainsThroughWrong)

/-- 'laws.FnExactFewestWords': WHATEVER THE INPUT: true; the input reads as it did. -/
def fnExactFewestWordsSpec : ChangeSpec := { name := "fnExactFewestWords", fn := fun _ => fun
  | [d] => { results := [.lit (.bool true)], args := [d] }
  | _ => none }
def fnExactFewestWordsRow : OpenClaim := { program := "ytonimjpfaalniaa", sum := "182160417f91812f766d39f5b52f7f85d00cb94f0d6c39d365bce2abd8a068a1", func := "loop.example/g01137/laws.FnExactFewestWords", spec := "fnExactFewestWords", unfollowed := true, recurses := true, apart := false }
def FnExactFewestWordsSaid : Prop := fnExactFewestWordsRow.holds Try.pinned (OpenSpec.ofChange fnExactFewestWordsSpec)

/-- ITS FALSE NEIGHBOUR: 'it returns false'. Refute it at one input. -/
def fnExactFewestWordsWrong : ChangeSpec := { name := "fnExactFewestWords", fn := fun _ => fun
  | [d] => { results := [.lit (.bool false)], args := [d] }
  | _ => none }
def FnExactFewestWordsWrongFalsely : Prop := fnExactFewestWordsRow.holds Try.pinned (OpenSpec.ofChange fnExactFewestWordsWrong)

/-- 'laws.FnExactPrefixSets': WHATEVER THE INPUT: true; the input reads as it did. -/
def fnExactPrefixSetsSpec : ChangeSpec := { name := "fnExactPrefixSets", fn := fun _ => fun
  | [d] => { results := [.lit (.bool true)], args := [d] }
  | _ => none }
def fnExactPrefixSetsRow : OpenClaim := { program := "ytonimjpfaalniaa", sum := "182160417f91812f766d39f5b52f7f85d00cb94f0d6c39d365bce2abd8a068a1", func := "loop.example/g01137/laws.FnExactPrefixSets", spec := "fnExactPrefixSets", apart := false }
def FnExactPrefixSetsSaid : Prop := fnExactPrefixSetsRow.holds Try.pinned (OpenSpec.ofChange fnExactPrefixSetsSpec)

/-- ITS FALSE NEIGHBOUR: 'it returns false'. Refute it at one input. -/
def fnExactPrefixSetsWrong : ChangeSpec := { name := "fnExactPrefixSets", fn := fun _ => fun
  | [d] => { results := [.lit (.bool false)], args := [d] }
  | _ => none }
def FnExactPrefixSetsWrongFalsely : Prop := fnExactPrefixSetsRow.holds Try.pinned (OpenSpec.ofChange fnExactPrefixSetsWrong)

/-- 'laws.FnExactIsPartOf': WHATEVER THE INPUT: true; the input reads as it did. -/
def fnExactIsPartOfSpec : ChangeSpec := { name := "fnExactIsPartOf", fn := fun _ => fun
  | [d1, d2] => { results := [.lit (.bool true)], args := [d1, d2] }
  | _ => none }
def fnExactIsPartOfRow : OpenClaim := { program := "ytonimjpfaalniaa", sum := "182160417f91812f766d39f5b52f7f85d00cb94f0d6c39d365bce2abd8a068a1", func := "loop.example/g01137/laws.FnExactIsPartOf", spec := "fnExactIsPartOf", unfollowed := true, recurses := true, apart := false }
def FnExactIsPartOfSaid : Prop := fnExactIsPartOfRow.holds Try.pinned (OpenSpec.ofChange fnExactIsPartOfSpec)

/-- ITS FALSE NEIGHBOUR: 'it returns false'. Refute it at one input. -/
def fnExactIsPartOfWrong : ChangeSpec := { name := "fnExactIsPartOf", fn := fun _ => fun
  | [d1, d2] => { results := [.lit (.bool false)], args := [d1, d2] }
  | _ => none }
def FnExactIsPartOfWrongFalsely : Prop := fnExactIsPartOfRow.holds Try.pinned (OpenSpec.ofChange fnExactIsPartOfWrong)

/-- 'laws.FnExactAreMaking': WHATEVER THE INPUT: true; the input reads as it did. -/
def fnExactAreMakingSpec : ChangeSpec := { name := "fnExactAreMaking", fn := fun _ => fun
  | [d1, d2] => { results := [.lit (.bool true)], args := [d1, d2] }
  | _ => none }
def fnExactAreMakingRow : OpenClaim := { program := "ytonimjpfaalniaa", sum := "182160417f91812f766d39f5b52f7f85d00cb94f0d6c39d365bce2abd8a068a1", func := "loop.example/g01137/laws.FnExactAreMaking", spec := "fnExactAreMaking", unfollowed := true, recurses := true, apart := false }
def FnExactAreMakingSaid : Prop := fnExactAreMakingRow.holds Try.pinned (OpenSpec.ofChange fnExactAreMakingSpec)

/-- ITS FALSE NEIGHBOUR: 'it returns false'. Refute it at one input. -/
def fnExactAreMakingWrong : ChangeSpec := { name := "fnExactAreMaking", fn := fun _ => fun
  | [d1, d2] => { results := [.lit (.bool false)], args := [d1, d2] }
  | _ => none }
def FnExactAreMakingWrongFalsely : Prop := fnExactAreMakingRow.holds Try.pinned (OpenSpec.ofChange fnExactAreMakingWrong)

/-- 'laws.FnExactOrderSpace': WHATEVER THE INPUT: true; the input reads as it did. -/
def fnExactOrderSpaceSpec : ChangeSpec := { name := "fnExactOrderSpace", fn := fun _ => fun
  | [d1, d2] => { results := [.lit (.bool true)], args := [d1, d2] }
  | _ => none }
def fnExactOrderSpaceRow : OpenClaim := { program := "ytonimjpfaalniaa", sum := "182160417f91812f766d39f5b52f7f85d00cb94f0d6c39d365bce2abd8a068a1", func := "loop.example/g01137/laws.FnExactOrderSpace", spec := "fnExactOrderSpace", unfollowed := true, recurses := true, apart := false }
def FnExactOrderSpaceSaid : Prop := fnExactOrderSpaceRow.holds Try.pinned (OpenSpec.ofChange fnExactOrderSpaceSpec)

/-- ITS FALSE NEIGHBOUR: 'it returns false'. Refute it at one input. -/
def fnExactOrderSpaceWrong : ChangeSpec := { name := "fnExactOrderSpace", fn := fun _ => fun
  | [d1, d2] => { results := [.lit (.bool false)], args := [d1, d2] }
  | _ => none }
def FnExactOrderSpaceWrongFalsely : Prop := fnExactOrderSpaceRow.holds Try.pinned (OpenSpec.ofChange fnExactOrderSpaceWrong)

/-- 'laws.FnExactFreeSpace': WHATEVER THE INPUT: true; the input reads as it did. -/
def fnExactFreeSpaceSpec : ChangeSpec := { name := "fnExactFreeSpace", fn := fun _ => fun
  | [d] => { results := [.lit (.bool true)], args := [d] }
  | _ => none }
def fnExactFreeSpaceRow : OpenClaim := { program := "ytonimjpfaalniaa", sum := "182160417f91812f766d39f5b52f7f85d00cb94f0d6c39d365bce2abd8a068a1", func := "loop.example/g01137/laws.FnExactFreeSpace", spec := "fnExactFreeSpace", unfollowed := true, recurses := true, apart := false }
def FnExactFreeSpaceSaid : Prop := fnExactFreeSpaceRow.holds Try.pinned (OpenSpec.ofChange fnExactFreeSpaceSpec)

/-- ITS FALSE NEIGHBOUR: 'it returns false'. Refute it at one input. -/
def fnExactFreeSpaceWrong : ChangeSpec := { name := "fnExactFreeSpace", fn := fun _ => fun
  | [d] => { results := [.lit (.bool false)], args := [d] }
  | _ => none }
def FnExactFreeSpaceWrongFalsely : Prop := fnExactFreeSpaceRow.holds Try.pinned (OpenSpec.ofChange fnExactFreeSpaceWrong)

/-- 'laws.FnExactUnionSpaces': WHATEVER THE INPUT: true; the input reads as it did. -/
def fnExactUnionSpacesSpec : ChangeSpec := { name := "fnExactUnionSpaces", fn := fun _ => fun
  | [d1, d2] => { results := [.lit (.bool true)], args := [d1, d2] }
  | _ => none }
def fnExactUnionSpacesRow : OpenClaim := { program := "ytonimjpfaalniaa", sum := "182160417f91812f766d39f5b52f7f85d00cb94f0d6c39d365bce2abd8a068a1", func := "loop.example/g01137/laws.FnExactUnionSpaces", spec := "fnExactUnionSpaces", unfollowed := true, recurses := true, apart := false }
def FnExactUnionSpacesSaid : Prop := fnExactUnionSpacesRow.holds Try.pinned (OpenSpec.ofChange fnExactUnionSpacesSpec)

/-- ITS FALSE NEIGHBOUR: 'it returns false'. Refute it at one input. -/
def fnExactUnionSpacesWrong : ChangeSpec := { name := "fnExactUnionSpaces", fn := fun _ => fun
  | [d1, d2] => { results := [.lit (.bool false)], args := [d1, d2] }
  | _ => none }
def FnExactUnionSpacesWrongFalsely : Prop := fnExactUnionSpacesRow.holds Try.pinned (OpenSpec.ofChange fnExactUnionSpacesWrong)

/-- 'laws.FnExactEndsSpace': WHATEVER THE INPUT: true; the input reads as it did. -/
def fnExactEndsSpaceSpec : ChangeSpec := { name := "fnExactEndsSpace", fn := fun _ => fun
  | [d1, d2] => { results := [.lit (.bool true)], args := [d1, d2] }
  | _ => none }
def fnExactEndsSpaceRow : OpenClaim := { program := "ytonimjpfaalniaa", sum := "182160417f91812f766d39f5b52f7f85d00cb94f0d6c39d365bce2abd8a068a1", func := "loop.example/g01137/laws.FnExactEndsSpace", spec := "fnExactEndsSpace", unfollowed := true, recurses := true, apart := false }
def FnExactEndsSpaceSaid : Prop := fnExactEndsSpaceRow.holds Try.pinned (OpenSpec.ofChange fnExactEndsSpaceSpec)

/-- ITS FALSE NEIGHBOUR: 'it returns false'. Refute it at one input. -/
def fnExactEndsSpaceWrong : ChangeSpec := { name := "fnExactEndsSpace", fn := fun _ => fun
  | [d1, d2] => { results := [.lit (.bool false)], args := [d1, d2] }
  | _ => none }
def FnExactEndsSpaceWrongFalsely : Prop := fnExactEndsSpaceRow.holds Try.pinned (OpenSpec.ofChange fnExactEndsSpaceWrong)

/- THE SECOND FORM. 'bulk': how many values and letters a reading holds, each counted each time it is reached (what is shared counts as often as it is met; a slice's spare places count too). A statement '..UptoSaid' is the law's where the arguments, and the package variables that the reading takes, are together of bulk at most 1048576: NARROWER than '..Said'. Prove '..Said' where nothing that the law and all that it calls make is longer than what came in: it says more and counts as full. Else prove '..UptoSaid'. A law counts once. -/
mutual
def uptoBulk {H : Type} : DataW H → Nat
  | .lit (.string bytes) => bytes.length + 1
  | .lit _ => 1
  | .nil => 1
  | .ptr d => uptoBulk d + 1
  | .slice elems spare => uptoBulkAll elems + uptoBulkAll spare + 1
  | .agg parts => uptoBulkAll parts + 1
  | .iface _ d => uptoBulk d + 1
  | .map entries => uptoBulkEntries entries + 1
  | .held _ => 1
def uptoBulkAll {H : Type} : List (DataW H) → Nat
  | [] => 0
  | d :: r => uptoBulk d + uptoBulkAll r
def uptoBulkEntries {H : Type} : List (Lit × DataW H) → Nat
  | [] => 0
  | x :: r => uptoBulkEntry x + uptoBulkEntries r
def uptoBulkEntry {H : Type} : Lit × DataW H → Nat
  | (.string bytes, d) => bytes.length + uptoBulk d + 1
  | (_, d) => uptoBulk d + 1
 end
def uptoSmall : (H : Type) → List (DataW H) → Bool := fun _ ds => decide (uptoBulkAll ds ≤ 1048576)
def OpenSpec.upto (s : _root_.Go.ChangeSpec) : _root_.Go.OpenSpec := { _root_.Go.OpenSpec.ofChange s with cond := some uptoSmall }

/-- 'laws.FnExactIsAntichain', WHERE WHAT IT READS IS OF BULK AT MOST 1048576: true; the input reads as it did. -/
def fnExactIsAntichainUptoRow : OpenClaim := { program := "ytonimjpfaalniaa", sum := "182160417f91812f766d39f5b52f7f85d00cb94f0d6c39d365bce2abd8a068a1", func := "loop.example/g01137/laws.FnExactIsAntichain", spec := "fnExactIsAntichain", unfollowed := true, recurses := true, apart := false, narrowed := true }
def FnExactIsAntichainUptoSaid : Prop := fnExactIsAntichainUptoRow.holds Try.pinned (OpenSpec.upto fnExactIsAntichainSpec)

/-- 'laws.FnExactWidthOf', WHERE WHAT IT READS IS OF BULK AT MOST 1048576: true; the input reads as it did. -/
def fnExactWidthOfUptoRow : OpenClaim := { program := "ytonimjpfaalniaa", sum := "182160417f91812f766d39f5b52f7f85d00cb94f0d6c39d365bce2abd8a068a1", func := "loop.example/g01137/laws.FnExactWidthOf", spec := "fnExactWidthOf", unfollowed := true, recurses := true, apart := false, narrowed := true }
def FnExactWidthOfUptoSaid : Prop := fnExactWidthOfUptoRow.holds Try.pinned (OpenSpec.upto fnExactWidthOfSpec)

/-- 'laws.FnExactGreatestAntichain', WHERE WHAT IT READS IS OF BULK AT MOST 1048576: true; the input reads as it did. -/
def fnExactGreatestAntichainUptoRow : OpenClaim := { program := "ytonimjpfaalniaa", sum := "182160417f91812f766d39f5b52f7f85d00cb94f0d6c39d365bce2abd8a068a1", func := "loop.example/g01137/laws.FnExactGreatestAntichain", spec := "fnExactGreatestAntichain", unfollowed := true, recurses := true, apart := false, narrowed := true }
def FnExactGreatestAntichainUptoSaid : Prop := fnExactGreatestAntichainUptoRow.holds Try.pinned (OpenSpec.upto fnExactGreatestAntichainSpec)

/-- 'laws.FnExactChainsThrough', WHERE WHAT IT READS IS OF BULK AT MOST 1048576: true; the input reads as it did. -/
def fnExactChainsThroughUptoRow : OpenClaim := { program := "ytonimjpfaalniaa", sum := "182160417f91812f766d39f5b52f7f85d00cb94f0d6c39d365bce2abd8a068a1", func := "loop.example/g01137/laws.FnExactChainsThrough", spec := "fnExactChainsThrough", unfollowed := true, recurses := true, apart := false, narrowed := true }
def FnExactChainsThroughUptoSaid : Prop := fnExactChainsThroughUptoRow.holds Try.pinned (OpenSpec.upto fnExactChainsThroughSpec)

/-- 'laws.FnExactFewestWords', WHERE WHAT IT READS IS OF BULK AT MOST 1048576: true; the input reads as it did. -/
def fnExactFewestWordsUptoRow : OpenClaim := { program := "ytonimjpfaalniaa", sum := "182160417f91812f766d39f5b52f7f85d00cb94f0d6c39d365bce2abd8a068a1", func := "loop.example/g01137/laws.FnExactFewestWords", spec := "fnExactFewestWords", unfollowed := true, recurses := true, apart := false, narrowed := true }
def FnExactFewestWordsUptoSaid : Prop := fnExactFewestWordsUptoRow.holds Try.pinned (OpenSpec.upto fnExactFewestWordsSpec)

/-- 'laws.FnExactPrefixSets', WHERE WHAT IT READS IS OF BULK AT MOST 1048576: true; the input reads as it did. -/
def fnExactPrefixSetsUptoRow : OpenClaim := { program := "ytonimjpfaalniaa", sum := "182160417f91812f766d39f5b52f7f85d00cb94f0d6c39d365bce2abd8a068a1", func := "loop.example/g01137/laws.FnExactPrefixSets", spec := "fnExactPrefixSets", apart := false, narrowed := true }
def FnExactPrefixSetsUptoSaid : Prop := fnExactPrefixSetsUptoRow.holds Try.pinned (OpenSpec.upto fnExactPrefixSetsSpec)

/-- 'laws.FnExactIsPartOf', WHERE WHAT IT READS IS OF BULK AT MOST 1048576: true; the input reads as it did. -/
def fnExactIsPartOfUptoRow : OpenClaim := { program := "ytonimjpfaalniaa", sum := "182160417f91812f766d39f5b52f7f85d00cb94f0d6c39d365bce2abd8a068a1", func := "loop.example/g01137/laws.FnExactIsPartOf", spec := "fnExactIsPartOf", unfollowed := true, recurses := true, apart := false, narrowed := true }
def FnExactIsPartOfUptoSaid : Prop := fnExactIsPartOfUptoRow.holds Try.pinned (OpenSpec.upto fnExactIsPartOfSpec)

/-- 'laws.FnExactAreMaking', WHERE WHAT IT READS IS OF BULK AT MOST 1048576: true; the input reads as it did. -/
def fnExactAreMakingUptoRow : OpenClaim := { program := "ytonimjpfaalniaa", sum := "182160417f91812f766d39f5b52f7f85d00cb94f0d6c39d365bce2abd8a068a1", func := "loop.example/g01137/laws.FnExactAreMaking", spec := "fnExactAreMaking", unfollowed := true, recurses := true, apart := false, narrowed := true }
def FnExactAreMakingUptoSaid : Prop := fnExactAreMakingUptoRow.holds Try.pinned (OpenSpec.upto fnExactAreMakingSpec)

/-- 'laws.FnExactOrderSpace', WHERE WHAT IT READS IS OF BULK AT MOST 1048576: true; the input reads as it did. -/
def fnExactOrderSpaceUptoRow : OpenClaim := { program := "ytonimjpfaalniaa", sum := "182160417f91812f766d39f5b52f7f85d00cb94f0d6c39d365bce2abd8a068a1", func := "loop.example/g01137/laws.FnExactOrderSpace", spec := "fnExactOrderSpace", unfollowed := true, recurses := true, apart := false, narrowed := true }
def FnExactOrderSpaceUptoSaid : Prop := fnExactOrderSpaceUptoRow.holds Try.pinned (OpenSpec.upto fnExactOrderSpaceSpec)

/-- 'laws.FnExactFreeSpace', WHERE WHAT IT READS IS OF BULK AT MOST 1048576: true; the input reads as it did. -/
def fnExactFreeSpaceUptoRow : OpenClaim := { program := "ytonimjpfaalniaa", sum := "182160417f91812f766d39f5b52f7f85d00cb94f0d6c39d365bce2abd8a068a1", func := "loop.example/g01137/laws.FnExactFreeSpace", spec := "fnExactFreeSpace", unfollowed := true, recurses := true, apart := false, narrowed := true }
def FnExactFreeSpaceUptoSaid : Prop := fnExactFreeSpaceUptoRow.holds Try.pinned (OpenSpec.upto fnExactFreeSpaceSpec)

/-- 'laws.FnExactUnionSpaces', WHERE WHAT IT READS IS OF BULK AT MOST 1048576: true; the input reads as it did. -/
def fnExactUnionSpacesUptoRow : OpenClaim := { program := "ytonimjpfaalniaa", sum := "182160417f91812f766d39f5b52f7f85d00cb94f0d6c39d365bce2abd8a068a1", func := "loop.example/g01137/laws.FnExactUnionSpaces", spec := "fnExactUnionSpaces", unfollowed := true, recurses := true, apart := false, narrowed := true }
def FnExactUnionSpacesUptoSaid : Prop := fnExactUnionSpacesUptoRow.holds Try.pinned (OpenSpec.upto fnExactUnionSpacesSpec)

/-- 'laws.FnExactEndsSpace', WHERE WHAT IT READS IS OF BULK AT MOST 1048576: true; the input reads as it did. -/
def fnExactEndsSpaceUptoRow : OpenClaim := { program := "ytonimjpfaalniaa", sum := "182160417f91812f766d39f5b52f7f85d00cb94f0d6c39d365bce2abd8a068a1", func := "loop.example/g01137/laws.FnExactEndsSpace", spec := "fnExactEndsSpace", unfollowed := true, recurses := true, apart := false, narrowed := true }
def FnExactEndsSpaceUptoSaid : Prop := fnExactEndsSpaceUptoRow.holds Try.pinned (OpenSpec.upto fnExactEndsSpaceSpec)

end Rows
end Go.Proofs.Ytonimjpfaalniaa
