/-
  No cell of these rows narrows 'for every input' (looked for: loops, veiled, ifaces, maps, wideKeys, modest, calm, conditions, laid).
  DERIVED. THE GIVEN ROWS OF THIS SEAT. 10 by the template 'for every input the law returns true; each argument reads behind the call as it read before'; 0 by the template 'total and deterministic' (their statements: YtceofjlhbomcaaaTotals.lean).
  GIVEN WITH THE SEED: the statements are not yours to turn. If you find one false, say at which input.
  Laid BY PROGRAM, IN A SANDBOX (cutbox-rows.mjs): the forced cells as the released guide's own fill.sh prints them over the translation ab3f25078f3e10c9… (all of the seat's roots in one cut). By AI agents, Wed Nov 11 2026. No macro, syntax, notation, axiom, sorry.
-/
import Derived.Test.YtceofjlhbomcaaaChecked
import GoSem.Claim
import GoSem.ClaimJoined
import GoSem.ClaimMapViews
import Derived.JoinedTies
import Derived.KernelRfl
namespace Go.Proofs.Ytceofjlhbomcaaa
/- THE CELL 'sum', in the pinned program and in every row, IS THE sha256 OF THE DUMP (.gsa) THAT YtceofjlhbomcaaaProg.lean LOADS. Nothing in Lean hashes anything: it is a label: what it is worth is what the hold of that sum in a sandbox is worth. -/
noncomputable def Try.pinned : Pinned := { name := "ytceofjlhbomcaaa", sum := "ab3f25078f3e10c97ed6e461ce8c8da2b386e74f0b2115df7bf5bfedda46e9cd", checked := Try.checked }
namespace Rows
def none {H : Type} : Left H := { results := [], args := [] }

/-- 'laws.FnExactSpaceWith': WHATEVER THE INPUT: true; the input reads as it did. -/
def fnExactSpaceWithSpec : ChangeSpec := { name := "fnExactSpaceWith", fn := fun _ => fun
  | [d1, d2] => { results := [.lit (.bool true)], args := [d1, d2] }
  | _ => none }
def fnExactSpaceWithRow : OpenClaim := { program := "ytceofjlhbomcaaa", sum := "ab3f25078f3e10c97ed6e461ce8c8da2b386e74f0b2115df7bf5bfedda46e9cd", func := "loop.example/g01137/laws.FnExactSpaceWith", spec := "fnExactSpaceWith", unfollowed := true, recurses := true, apart := false }
def FnExactSpaceWithSaid : Prop := fnExactSpaceWithRow.holds Try.pinned (OpenSpec.ofChange fnExactSpaceWithSpec)

/-- ITS FALSE NEIGHBOUR: 'it returns false'. Refute it at one input. -/
def fnExactSpaceWithWrong : ChangeSpec := { name := "fnExactSpaceWith", fn := fun _ => fun
  | [d1, d2] => { results := [.lit (.bool false)], args := [d1, d2] }
  | _ => none }
def FnExactSpaceWithWrongFalsely : Prop := fnExactSpaceWithRow.holds Try.pinned (OpenSpec.ofChange fnExactSpaceWithWrong)

/-- 'laws.FnExactOrderSpace': WHATEVER THE INPUT: true; the input reads as it did. -/
def fnExactOrderSpaceSpec : ChangeSpec := { name := "fnExactOrderSpace", fn := fun _ => fun
  | [d1, d2] => { results := [.lit (.bool true)], args := [d1, d2] }
  | _ => none }
def fnExactOrderSpaceRow : OpenClaim := { program := "ytceofjlhbomcaaa", sum := "ab3f25078f3e10c97ed6e461ce8c8da2b386e74f0b2115df7bf5bfedda46e9cd", func := "loop.example/g01137/laws.FnExactOrderSpace", spec := "fnExactOrderSpace", unfollowed := true, recurses := true, apart := false }
def FnExactOrderSpaceSaid : Prop := fnExactOrderSpaceRow.holds Try.pinned (OpenSpec.ofChange fnExactOrderSpaceSpec)

/-- ITS FALSE NEIGHBOUR: 'it returns false'. Refute it at one input. -/
def fnExactOrderSpaceWrong : ChangeSpec := { name := "fnExactOrderSpace", fn := fun _ => fun
  | [d1, d2] => { results := [.lit (.bool false)], args := [d1, d2] }
  | _ => none }
def FnExactOrderSpaceWrongFalsely : Prop := fnExactOrderSpaceRow.holds Try.pinned (OpenSpec.ofChange fnExactOrderSpaceWrong)

/-- 'laws.FnExactUnionSpaces': WHATEVER THE INPUT: true; the input reads as it did. -/
def fnExactUnionSpacesSpec : ChangeSpec := { name := "fnExactUnionSpaces", fn := fun _ => fun
  | [d1, d2] => { results := [.lit (.bool true)], args := [d1, d2] }
  | _ => none }
def fnExactUnionSpacesRow : OpenClaim := { program := "ytceofjlhbomcaaa", sum := "ab3f25078f3e10c97ed6e461ce8c8da2b386e74f0b2115df7bf5bfedda46e9cd", func := "loop.example/g01137/laws.FnExactUnionSpaces", spec := "fnExactUnionSpaces", unfollowed := true, recurses := true, apart := false }
def FnExactUnionSpacesSaid : Prop := fnExactUnionSpacesRow.holds Try.pinned (OpenSpec.ofChange fnExactUnionSpacesSpec)

/-- ITS FALSE NEIGHBOUR: 'it returns false'. Refute it at one input. -/
def fnExactUnionSpacesWrong : ChangeSpec := { name := "fnExactUnionSpaces", fn := fun _ => fun
  | [d1, d2] => { results := [.lit (.bool false)], args := [d1, d2] }
  | _ => none }
def FnExactUnionSpacesWrongFalsely : Prop := fnExactUnionSpacesRow.holds Try.pinned (OpenSpec.ofChange fnExactUnionSpacesWrong)

/-- 'laws.FnExactRestrictTo': WHATEVER THE INPUT: true; the input reads as it did. -/
def fnExactRestrictToSpec : ChangeSpec := { name := "fnExactRestrictTo", fn := fun _ => fun
  | [d1, d2] => { results := [.lit (.bool true)], args := [d1, d2] }
  | _ => none }
def fnExactRestrictToRow : OpenClaim := { program := "ytceofjlhbomcaaa", sum := "ab3f25078f3e10c97ed6e461ce8c8da2b386e74f0b2115df7bf5bfedda46e9cd", func := "loop.example/g01137/laws.FnExactRestrictTo", spec := "fnExactRestrictTo", unfollowed := true, recurses := true, apart := false }
def FnExactRestrictToSaid : Prop := fnExactRestrictToRow.holds Try.pinned (OpenSpec.ofChange fnExactRestrictToSpec)

/-- ITS FALSE NEIGHBOUR: 'it returns false'. Refute it at one input. -/
def fnExactRestrictToWrong : ChangeSpec := { name := "fnExactRestrictTo", fn := fun _ => fun
  | [d1, d2] => { results := [.lit (.bool false)], args := [d1, d2] }
  | _ => none }
def FnExactRestrictToWrongFalsely : Prop := fnExactRestrictToRow.holds Try.pinned (OpenSpec.ofChange fnExactRestrictToWrong)

/-- 'laws.FnExactBehindSet': WHATEVER THE INPUT: true; the input reads as it did. -/
def fnExactBehindSetSpec : ChangeSpec := { name := "fnExactBehindSet", fn := fun _ => fun
  | [d1, d2] => { results := [.lit (.bool true)], args := [d1, d2] }
  | _ => none }
def fnExactBehindSetRow : OpenClaim := { program := "ytceofjlhbomcaaa", sum := "ab3f25078f3e10c97ed6e461ce8c8da2b386e74f0b2115df7bf5bfedda46e9cd", func := "loop.example/g01137/laws.FnExactBehindSet", spec := "fnExactBehindSet", unfollowed := true, recurses := true, apart := false }
def FnExactBehindSetSaid : Prop := fnExactBehindSetRow.holds Try.pinned (OpenSpec.ofChange fnExactBehindSetSpec)

/-- ITS FALSE NEIGHBOUR: 'it returns false'. Refute it at one input. -/
def fnExactBehindSetWrong : ChangeSpec := { name := "fnExactBehindSet", fn := fun _ => fun
  | [d1, d2] => { results := [.lit (.bool false)], args := [d1, d2] }
  | _ => none }
def FnExactBehindSetWrongFalsely : Prop := fnExactBehindSetRow.holds Try.pinned (OpenSpec.ofChange fnExactBehindSetWrong)

/-- 'laws.FnExactRenameItems': WHATEVER THE INPUT: true; the input reads as it did. -/
def fnExactRenameItemsSpec : ChangeSpec := { name := "fnExactRenameItems", fn := fun _ => fun
  | [d1, d2] => { results := [.lit (.bool true)], args := [d1, d2] }
  | _ => none }
def fnExactRenameItemsRow : OpenClaim := { program := "ytceofjlhbomcaaa", sum := "ab3f25078f3e10c97ed6e461ce8c8da2b386e74f0b2115df7bf5bfedda46e9cd", func := "loop.example/g01137/laws.FnExactRenameItems", spec := "fnExactRenameItems", unfollowed := true, recurses := true, apart := false }
def FnExactRenameItemsSaid : Prop := fnExactRenameItemsRow.holds Try.pinned (OpenSpec.ofChange fnExactRenameItemsSpec)

/-- ITS FALSE NEIGHBOUR: 'it returns false'. Refute it at one input. -/
def fnExactRenameItemsWrong : ChangeSpec := { name := "fnExactRenameItems", fn := fun _ => fun
  | [d1, d2] => { results := [.lit (.bool false)], args := [d1, d2] }
  | _ => none }
def FnExactRenameItemsWrongFalsely : Prop := fnExactRenameItemsRow.holds Try.pinned (OpenSpec.ofChange fnExactRenameItemsWrong)

/-- 'laws.FnExactSwapWord': WHATEVER THE INPUT: true; the input reads as it did. -/
def fnExactSwapWordSpec : ChangeSpec := { name := "fnExactSwapWord", fn := fun _ => fun
  | [d1, d2, d3] => { results := [.lit (.bool true)], args := [d1, d2, d3] }
  | _ => none }
def fnExactSwapWordRow : OpenClaim := { program := "ytceofjlhbomcaaa", sum := "ab3f25078f3e10c97ed6e461ce8c8da2b386e74f0b2115df7bf5bfedda46e9cd", func := "loop.example/g01137/laws.FnExactSwapWord", spec := "fnExactSwapWord", unfollowed := true, recurses := true, apart := false }
def FnExactSwapWordSaid : Prop := fnExactSwapWordRow.holds Try.pinned (OpenSpec.ofChange fnExactSwapWordSpec)

/-- ITS FALSE NEIGHBOUR: 'it returns false'. Refute it at one input. -/
def fnExactSwapWordWrong : ChangeSpec := { name := "fnExactSwapWord", fn := fun _ => fun
  | [d1, d2, d3] => { results := [.lit (.bool false)], args := [d1, d2, d3] }
  | _ => none }
def FnExactSwapWordWrongFalsely : Prop := fnExactSwapWordRow.holds Try.pinned (OpenSpec.ofChange fnExactSwapWordWrong)

/-- 'laws.FnExactSwapWay': WHATEVER THE INPUT: true; the input reads as it did. -/
def fnExactSwapWaySpec : ChangeSpec := { name := "fnExactSwapWay", fn := fun _ => fun
  | [d1, d2, d3] => { results := [.lit (.bool true)], args := [d1, d2, d3] }
  | _ => none }
def fnExactSwapWayRow : OpenClaim := { program := "ytceofjlhbomcaaa", sum := "ab3f25078f3e10c97ed6e461ce8c8da2b386e74f0b2115df7bf5bfedda46e9cd", func := "loop.example/g01137/laws.FnExactSwapWay", spec := "fnExactSwapWay", unfollowed := true, recurses := true, apart := false }
def FnExactSwapWaySaid : Prop := fnExactSwapWayRow.holds Try.pinned (OpenSpec.ofChange fnExactSwapWaySpec)

/-- ITS FALSE NEIGHBOUR: 'it returns false'. Refute it at one input. -/
def fnExactSwapWayWrong : ChangeSpec := { name := "fnExactSwapWay", fn := fun _ => fun
  | [d1, d2, d3] => { results := [.lit (.bool false)], args := [d1, d2, d3] }
  | _ => none }
def FnExactSwapWayWrongFalsely : Prop := fnExactSwapWayRow.holds Try.pinned (OpenSpec.ofChange fnExactSwapWayWrong)

/-- 'laws.FnExactSpaceOfWords': WHATEVER THE INPUT: true; the input reads as it did. -/
def fnExactSpaceOfWordsSpec : ChangeSpec := { name := "fnExactSpaceOfWords", fn := fun _ => fun
  | [d] => { results := [.lit (.bool true)], args := [d] }
  | _ => none }
def fnExactSpaceOfWordsRow : OpenClaim := { program := "ytceofjlhbomcaaa", sum := "ab3f25078f3e10c97ed6e461ce8c8da2b386e74f0b2115df7bf5bfedda46e9cd", func := "loop.example/g01137/laws.FnExactSpaceOfWords", spec := "fnExactSpaceOfWords", apart := false }
def FnExactSpaceOfWordsSaid : Prop := fnExactSpaceOfWordsRow.holds Try.pinned (OpenSpec.ofChange fnExactSpaceOfWordsSpec)

/-- ITS FALSE NEIGHBOUR: 'it returns false'. Refute it at one input. -/
def fnExactSpaceOfWordsWrong : ChangeSpec := { name := "fnExactSpaceOfWords", fn := fun _ => fun
  | [d] => { results := [.lit (.bool false)], args := [d] }
  | _ => none }
def FnExactSpaceOfWordsWrongFalsely : Prop := fnExactSpaceOfWordsRow.holds Try.pinned (OpenSpec.ofChange fnExactSpaceOfWordsWrong)

/-- 'laws.FnExactWordText': WHATEVER THE INPUT: true; the input reads as it did. -/
def fnExactWordTextSpec : ChangeSpec := { name := "fnExactWordText", fn := fun _ => fun
  | [d] => { results := [.lit (.bool true)], args := [d] }
  | _ => none }
def fnExactWordTextRow : OpenClaim := { program := "ytceofjlhbomcaaa", sum := "ab3f25078f3e10c97ed6e461ce8c8da2b386e74f0b2115df7bf5bfedda46e9cd", func := "loop.example/g01137/laws.FnExactWordText", spec := "fnExactWordText", recurses := true, apart := false }
def FnExactWordTextSaid : Prop := fnExactWordTextRow.holds Try.pinned (OpenSpec.ofChange fnExactWordTextSpec)

/-- ITS FALSE NEIGHBOUR: 'it returns false'. Refute it at one input. -/
def fnExactWordTextWrong : ChangeSpec := { name := "fnExactWordText", fn := fun _ => fun
  | [d] => { results := [.lit (.bool false)], args := [d] }
  | _ => none }
def FnExactWordTextWrongFalsely : Prop := fnExactWordTextRow.holds Try.pinned (OpenSpec.ofChange fnExactWordTextWrong)

/- THE SECOND FORM. 'bulk': how many values and letters a reading holds, each counted each time it is reached (what is shared counts as often as it is met; a slice's spare places count too). A statement '..UptoSaid' is the law's where the arguments, and the package variables that the reading takes, are together of bulk at most 1048576: NARROWER than '..Said'. Prove '..Said' where nothing that the law and all that it calls make is longer than what came in: it says more and counts as full. Else prove '..UptoSaid'. A law counts once. -/
mutual
def uptoBulk {H : Type} : DataW H → Nat
  | .lit (.string bytes) => bytes.length + 1
  | .lit _ => 1
  | .nil => 1
  | .ptr d => uptoBulk d + 1
  | .slice elems spare => uptoBulkAll elems + uptoBulkAll spare + 1
  | .agg parts => uptoBulkAll parts + 1
  | .iface _ d => uptoBulk d + 1
  | .map entries => uptoBulkEntries entries + 1
  | .held _ => 1
def uptoBulkAll {H : Type} : List (DataW H) → Nat
  | [] => 0
  | d :: r => uptoBulk d + uptoBulkAll r
def uptoBulkEntries {H : Type} : List (Lit × DataW H) → Nat
  | [] => 0
  | x :: r => uptoBulkEntry x + uptoBulkEntries r
def uptoBulkEntry {H : Type} : Lit × DataW H → Nat
  | (.string bytes, d) => bytes.length + uptoBulk d + 1
  | (_, d) => uptoBulk d + 1
 end
def uptoSmall : (H : Type) → List (DataW H) → Bool := fun _ ds => decide (uptoBulkAll ds ≤ 1048576)
def OpenSpec.upto (s : _root_.Go.ChangeSpec) : _root_.Go.OpenSpec := { _root_.Go.OpenSpec.ofChange s with cond := some uptoSmall }

/-- 'laws.FnExactSpaceWith', WHERE WHAT IT READS IS OF BULK AT MOST 1048576: true; the input reads as it did. -/
def fnExactSpaceWithUptoRow : OpenClaim := { program := "ytceofjlhbomcaaa", sum := "ab3f25078f3e10c97ed6e461ce8c8da2b386e74f0b2115df7bf5bfedda46e9cd", func := "loop.example/g01137/laws.FnExactSpaceWith", spec := "fnExactSpaceWith", unfollowed := true, recurses := true, apart := false, narrowed := true }
def FnExactSpaceWithUptoSaid : Prop := fnExactSpaceWithUptoRow.holds Try.pinned (OpenSpec.upto fnExactSpaceWithSpec)

/-- 'laws.FnExactOrderSpace', WHERE WHAT IT READS IS OF BULK AT MOST 1048576: true; the input reads as it did. -/
def fnExactOrderSpaceUptoRow : OpenClaim := { program := "ytceofjlhbomcaaa", sum := "ab3f25078f3e10c97ed6e461ce8c8da2b386e74f0b2115df7bf5bfedda46e9cd", func := "loop.example/g01137/laws.FnExactOrderSpace", spec := "fnExactOrderSpace", unfollowed := true, recurses := true, apart := false, narrowed := true }
def FnExactOrderSpaceUptoSaid : Prop := fnExactOrderSpaceUptoRow.holds Try.pinned (OpenSpec.upto fnExactOrderSpaceSpec)

/-- 'laws.FnExactUnionSpaces', WHERE WHAT IT READS IS OF BULK AT MOST 1048576: true; the input reads as it did. -/
def fnExactUnionSpacesUptoRow : OpenClaim := { program := "ytceofjlhbomcaaa", sum := "ab3f25078f3e10c97ed6e461ce8c8da2b386e74f0b2115df7bf5bfedda46e9cd", func := "loop.example/g01137/laws.FnExactUnionSpaces", spec := "fnExactUnionSpaces", unfollowed := true, recurses := true, apart := false, narrowed := true }
def FnExactUnionSpacesUptoSaid : Prop := fnExactUnionSpacesUptoRow.holds Try.pinned (OpenSpec.upto fnExactUnionSpacesSpec)

/-- 'laws.FnExactRestrictTo', WHERE WHAT IT READS IS OF BULK AT MOST 1048576: true; the input reads as it did. -/
def fnExactRestrictToUptoRow : OpenClaim := { program := "ytceofjlhbomcaaa", sum := "ab3f25078f3e10c97ed6e461ce8c8da2b386e74f0b2115df7bf5bfedda46e9cd", func := "loop.example/g01137/laws.FnExactRestrictTo", spec := "fnExactRestrictTo", unfollowed := true, recurses := true, apart := false, narrowed := true }
def FnExactRestrictToUptoSaid : Prop := fnExactRestrictToUptoRow.holds Try.pinned (OpenSpec.upto fnExactRestrictToSpec)

/-- 'laws.FnExactBehindSet', WHERE WHAT IT READS IS OF BULK AT MOST 1048576: true; the input reads as it did. -/
def fnExactBehindSetUptoRow : OpenClaim := { program := "ytceofjlhbomcaaa", sum := "ab3f25078f3e10c97ed6e461ce8c8da2b386e74f0b2115df7bf5bfedda46e9cd", func := "loop.example/g01137/laws.FnExactBehindSet", spec := "fnExactBehindSet", unfollowed := true, recurses := true, apart := false, narrowed := true }
def FnExactBehindSetUptoSaid : Prop := fnExactBehindSetUptoRow.holds Try.pinned (OpenSpec.upto fnExactBehindSetSpec)

/-- 'laws.FnExactRenameItems', WHERE WHAT IT READS IS OF BULK AT MOST 1048576: true; the input reads as it did. -/
def fnExactRenameItemsUptoRow : OpenClaim := { program := "ytceofjlhbomcaaa", sum := "ab3f25078f3e10c97ed6e461ce8c8da2b386e74f0b2115df7bf5bfedda46e9cd", func := "loop.example/g01137/laws.FnExactRenameItems", spec := "fnExactRenameItems", unfollowed := true, recurses := true, apart := false, narrowed := true }
def FnExactRenameItemsUptoSaid : Prop := fnExactRenameItemsUptoRow.holds Try.pinned (OpenSpec.upto fnExactRenameItemsSpec)

/-- 'laws.FnExactSwapWord', WHERE WHAT IT READS IS OF BULK AT MOST 1048576: true; the input reads as it did. -/
def fnExactSwapWordUptoRow : OpenClaim := { program := "ytceofjlhbomcaaa", sum := "ab3f25078f3e10c97ed6e461ce8c8da2b386e74f0b2115df7bf5bfedda46e9cd", func := "loop.example/g01137/laws.FnExactSwapWord", spec := "fnExactSwapWord", unfollowed := true, recurses := true, apart := false, narrowed := true }
def FnExactSwapWordUptoSaid : Prop := fnExactSwapWordUptoRow.holds Try.pinned (OpenSpec.upto fnExactSwapWordSpec)

/-- 'laws.FnExactSwapWay', WHERE WHAT IT READS IS OF BULK AT MOST 1048576: true; the input reads as it did. -/
def fnExactSwapWayUptoRow : OpenClaim := { program := "ytceofjlhbomcaaa", sum := "ab3f25078f3e10c97ed6e461ce8c8da2b386e74f0b2115df7bf5bfedda46e9cd", func := "loop.example/g01137/laws.FnExactSwapWay", spec := "fnExactSwapWay", unfollowed := true, recurses := true, apart := false, narrowed := true }
def FnExactSwapWayUptoSaid : Prop := fnExactSwapWayUptoRow.holds Try.pinned (OpenSpec.upto fnExactSwapWaySpec)

/-- 'laws.FnExactSpaceOfWords', WHERE WHAT IT READS IS OF BULK AT MOST 1048576: true; the input reads as it did. -/
def fnExactSpaceOfWordsUptoRow : OpenClaim := { program := "ytceofjlhbomcaaa", sum := "ab3f25078f3e10c97ed6e461ce8c8da2b386e74f0b2115df7bf5bfedda46e9cd", func := "loop.example/g01137/laws.FnExactSpaceOfWords", spec := "fnExactSpaceOfWords", apart := false, narrowed := true }
def FnExactSpaceOfWordsUptoSaid : Prop := fnExactSpaceOfWordsUptoRow.holds Try.pinned (OpenSpec.upto fnExactSpaceOfWordsSpec)

/-- 'laws.FnExactWordText', WHERE WHAT IT READS IS OF BULK AT MOST 1048576: true; the input reads as it did. -/
def fnExactWordTextUptoRow : OpenClaim := { program := "ytceofjlhbomcaaa", sum := "ab3f25078f3e10c97ed6e461ce8c8da2b386e74f0b2115df7bf5bfedda46e9cd", func := "loop.example/g01137/laws.FnExactWordText", spec := "fnExactWordText", recurses := true, apart := false, narrowed := true }
def FnExactWordTextUptoSaid : Prop := fnExactWordTextUptoRow.holds Try.pinned (OpenSpec.upto fnExactWordTextSpec)

end Rows
end Go.Proofs.Ytceofjlhbomcaaa
