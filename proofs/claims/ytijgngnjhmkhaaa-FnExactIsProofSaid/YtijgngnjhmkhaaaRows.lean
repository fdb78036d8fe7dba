/-
  No cell of these rows narrows 'for every input' (looked for: loops, veiled, ifaces, maps, wideKeys, modest, calm, conditions, laid).
  DERIVED. THE GIVEN ROWS OF THIS SEAT. 10 by the template 'for every input the law returns true; each argument reads behind the call as it read before'; 0 by the template 'total and deterministic' (their statements: YtijgngnjhmkhaaaTotals.lean).
  GIVEN WITH THE SEED: the statements are not yours to turn. If you find one false, say at which input.
  Laid BY PROGRAM, IN A SANDBOX (cutbox-rows.mjs): the forced cells as the released guide's own fill.sh prints them over the translation 0ca3b912a4e0c16c… (all of the seat's roots in one cut). By AI agents, Wed Nov 11 2026. No macro, syntax, notation, axiom, sorry.
-/
import Derived.Test.YtijgngnjhmkhaaaChecked
import GoSem.Claim
import GoSem.ClaimJoined
import GoSem.ClaimMapViews
import Derived.JoinedTies
import Derived.KernelRfl
namespace Go.Proofs.Ytijgngnjhmkhaaa
/- THE CELL 'sum', in the pinned program and in every row, IS THE sha256 OF THE DUMP (.gsa) THAT YtijgngnjhmkhaaaProg.lean LOADS. Nothing in Lean hashes anything: it is a label: what it is worth is what the hold of that sum in a sandbox is worth. -/
noncomputable def Try.pinned : Pinned := { name := "ytijgngnjhmkhaaa", sum := "0ca3b912a4e0c16c9e7fd127dc1e7ce2c274abd6efd365c6c48968e7f9b28cba", checked := Try.checked }
namespace Rows
def none {H : Type} : Left H := { results := [], args := [] }

/-- 'laws.FnExactSetsLeft': WHATEVER THE INPUT: true; the input reads as it did. -/
def fnExactSetsLeftSpec : ChangeSpec := { name := "fnExactSetsLeft", fn := fun _ => fun
  | [d1, d2, d3] => { results := [.lit (.bool true)], args := [d1, d2, d3] }
  | _ => none }
def fnExactSetsLeftRow : OpenClaim := { program := "ytijgngnjhmkhaaa", sum := "0ca3b912a4e0c16c9e7fd127dc1e7ce2c274abd6efd365c6c48968e7f9b28cba", func := "loop.example/g01137/laws.FnExactSetsLeft", spec := "fnExactSetsLeft", unfollowed := true, recurses := true, apart := false }
def FnExactSetsLeftSaid : Prop := fnExactSetsLeftRow.holds Try.pinned (OpenSpec.ofChange fnExactSetsLeftSpec)

/-- ITS FALSE NEIGHBOUR: 'it returns false'. Refute it at one input. -/
def fnExactSetsLeftWrong : ChangeSpec := { name := "fnExactSetsLeft", fn := fun _ => fun
  | [d1, d2, d3] => { results := [.lit (.bool false)], args := [d1, d2, d3] }
  | _ => none }
def FnExactSetsLeftWrongFalsely : Prop := fnExactSetsLeftRow.holds Try.pinned (OpenSpec.ofChange fnExactSetsLeftWrong)

/-- 'laws.FnExactCountLeft': WHATEVER THE INPUT: true; the input reads as it did. -/
def fnExactCountLeftSpec : ChangeSpec := { name := "fnExactCountLeft", fn := fun _ => fun
  | [d1, d2, d3] => { results := [.lit (.bool true)], args := [d1, d2, d3] }
  | _ => none }
def fnExactCountLeftRow : OpenClaim := { program := "ytijgngnjhmkhaaa", sum := "0ca3b912a4e0c16c9e7fd127dc1e7ce2c274abd6efd365c6c48968e7f9b28cba", func := "loop.example/g01137/laws.FnExactCountLeft", spec := "fnExactCountLeft", unfollowed := true, recurses := true, apart := false }
def FnExactCountLeftSaid : Prop := fnExactCountLeftRow.holds Try.pinned (OpenSpec.ofChange fnExactCountLeftSpec)

/-- ITS FALSE NEIGHBOUR: 'it returns false'. Refute it at one input. -/
def fnExactCountLeftWrong : ChangeSpec := { name := "fnExactCountLeft", fn := fun _ => fun
  | [d1, d2, d3] => { results := [.lit (.bool false)], args := [d1, d2, d3] }
  | _ => none }
def FnExactCountLeftWrongFalsely : Prop := fnExactCountLeftRow.holds Try.pinned (OpenSpec.ofChange fnExactCountLeftWrong)

/-- 'laws.FnExactKnownOf': WHATEVER THE INPUT: true; the input reads as it did. -/
def fnExactKnownOfSpec : ChangeSpec := { name := "fnExactKnownOf", fn := fun _ => fun
  | [d1, d2, d3] => { results := [.lit (.bool true)], args := [d1, d2, d3] }
  | _ => none }
def fnExactKnownOfRow : OpenClaim := { program := "ytijgngnjhmkhaaa", sum := "0ca3b912a4e0c16c9e7fd127dc1e7ce2c274abd6efd365c6c48968e7f9b28cba", func := "loop.example/g01137/laws.FnExactKnownOf", spec := "fnExactKnownOf", unfollowed := true, recurses := true, apart := false }
def FnExactKnownOfSaid : Prop := fnExactKnownOfRow.holds Try.pinned (OpenSpec.ofChange fnExactKnownOfSpec)

/-- ITS FALSE NEIGHBOUR: 'it returns false'. Refute it at one input. -/
def fnExactKnownOfWrong : ChangeSpec := { name := "fnExactKnownOf", fn := fun _ => fun
  | [d1, d2, d3] => { results := [.lit (.bool false)], args := [d1, d2, d3] }
  | _ => none }
def FnExactKnownOfWrongFalsely : Prop := fnExactKnownOfRow.holds Try.pinned (OpenSpec.ofChange fnExactKnownOfWrong)

/-- 'laws.FnExactHalvingBound': WHATEVER THE INPUT: true; the input reads as it did. -/
def fnExactHalvingBoundSpec : ChangeSpec := { name := "fnExactHalvingBound", fn := fun _ => fun
  | [d] => { results := [.lit (.bool true)], args := [d] }
  | _ => none }
def fnExactHalvingBoundRow : OpenClaim := { program := "ytijgngnjhmkhaaa", sum := "0ca3b912a4e0c16c9e7fd127dc1e7ce2c274abd6efd365c6c48968e7f9b28cba", func := "loop.example/g01137/laws.FnExactHalvingBound", spec := "fnExactHalvingBound", unfollowed := true, recurses := true, apart := false }
def FnExactHalvingBoundSaid : Prop := fnExactHalvingBoundRow.holds Try.pinned (OpenSpec.ofChange fnExactHalvingBoundSpec)

/-- ITS FALSE NEIGHBOUR: 'it returns false'. Refute it at one input. -/
def fnExactHalvingBoundWrong : ChangeSpec := { name := "fnExactHalvingBound", fn := fun _ => fun
  | [d] => { results := [.lit (.bool false)], args := [d] }
  | _ => none }
def FnExactHalvingBoundWrongFalsely : Prop := fnExactHalvingBoundRow.holds Try.pinned (OpenSpec.ofChange fnExactHalvingBoundWrong)

/-- 'laws.FnExactProofOf': WHATEVER THE INPUT: true; the input reads as it did. -/
def fnExactProofOfSpec : ChangeSpec := { name := "fnExactProofOf", fn := fun _ => fun
  | [d1, d2] => { results := [.lit (.bool true)], args := [d1, d2] }
  | _ => none }
def fnExactProofOfRow : OpenClaim := { program := "ytijgngnjhmkhaaa", sum := "0ca3b912a4e0c16c9e7fd127dc1e7ce2c274abd6efd365c6c48968e7f9b28cba", func := "loop.example/g01137/laws.FnExactProofOf", spec := "fnExactProofOf", unfollowed := true, recurses := true, apart := false }
def FnExactProofOfSaid : Prop := fnExactProofOfRow.holds Try.pinned (OpenSpec.ofChange fnExactProofOfSpec)

/-- ITS FALSE NEIGHBOUR: 'it returns false'. Refute it at one input. -/
def fnExactProofOfWrong : ChangeSpec := { name := "fnExactProofOf", fn := fun _ => fun
  | [d1, d2] => { results := [.lit (.bool false)], args := [d1, d2] }
  | _ => none }
def FnExactProofOfWrongFalsely : Prop := fnExactProofOfRow.holds Try.pinned (OpenSpec.ofChange fnExactProofOfWrong)

/-- 'laws.FnExactIsProof': WHATEVER THE INPUT: true; the input reads as it did. -/
def fnExactIsProofSpec : ChangeSpec := { name := "fnExactIsProof", fn := fun _ => fun
  | [d1, d2, d3, d4] => { results := [.lit (.bool true)], args := [d1, d2, d3, d4] }
  | _ => none }
def fnExactIsProofRow : OpenClaim := { program := "ytijgngnjhmkhaaa", sum := "0ca3b912a4e0c16c9e7fd127dc1e7ce2c274abd6efd365c6c48968e7f9b28cba", func := "loop.example/g01137/laws.FnExactIsProof", spec := "fnExactIsProof", unfollowed := true, recurses := true, apart := false }
def FnExactIsProofSaid : Prop := fnExactIsProofRow.holds Try.pinned (OpenSpec.ofChange fnExactIsProofSpec)

/-- ITS FALSE NEIGHBOUR: 'it returns false'. Refute it at one input. -/
def fnExactIsProofWrong : ChangeSpec := { name := "fnExactIsProof", fn := fun _ => fun
  | [d1, d2, d3, d4] => { results := [.lit (.bool false)], args := [d1, d2, d3, d4] }
  | _ => none }
def FnExactIsProofWrongFalsely : Prop := fnExactIsProofRow.holds Try.pinned (OpenSpec.ofChange fnExactIsProofWrong)

/-- 'laws.FnExactSetOfFringes': WHATEVER THE INPUT: true; the input reads as it did. -/
def fnExactSetOfFringesSpec : ChangeSpec := { name := "fnExactSetOfFringes", fn := fun _ => fun
  | [d1, d2, d3] => { results := [.lit (.bool true)], args := [d1, d2, d3] }
  | _ => none }
def fnExactSetOfFringesRow : OpenClaim := { program := "ytijgngnjhmkhaaa", sum := "0ca3b912a4e0c16c9e7fd127dc1e7ce2c274abd6efd365c6c48968e7f9b28cba", func := "loop.example/g01137/laws.FnExactSetOfFringes", spec := "fnExactSetOfFringes", unfollowed := true, recurses := true, apart := false }
def FnExactSetOfFringesSaid : Prop := fnExactSetOfFringesRow.holds Try.pinned (OpenSpec.ofChange fnExactSetOfFringesSpec)

/-- ITS FALSE NEIGHBOUR: 'it returns false'. Refute it at one input. -/
def fnExactSetOfFringesWrong : ChangeSpec := { name := "fnExactSetOfFringes", fn := fun _ => fun
  | [d1, d2, d3] => { results := [.lit (.bool false)], args := [d1, d2, d3] }
  | _ => none }
def FnExactSetOfFringesWrongFalsely : Prop := fnExactSetOfFringesRow.holds Try.pinned (OpenSpec.ofChange fnExactSetOfFringesWrong)

/-- 'laws.FnExactLongestProof': WHATEVER THE INPUT: true; the input reads as it did. -/
def fnExactLongestProofSpec : ChangeSpec := { name := "fnExactLongestProof", fn := fun _ => fun
  | [d] => { results := [.lit (.bool true)], args := [d] }
  | _ => none }
def fnExactLongestProofRow : OpenClaim := { program := "ytijgngnjhmkhaaa", sum := "0ca3b912a4e0c16c9e7fd127dc1e7ce2c274abd6efd365c6c48968e7f9b28cba", func := "loop.example/g01137/laws.FnExactLongestProof", spec := "fnExactLongestProof", unfollowed := true, recurses := true, apart := false }
def FnExactLongestProofSaid : Prop := fnExactLongestProofRow.holds Try.pinned (OpenSpec.ofChange fnExactLongestProofSpec)

/-- ITS FALSE NEIGHBOUR: 'it returns false'. Refute it at one input. -/
def fnExactLongestProofWrong : ChangeSpec := { name := "fnExactLongestProof", fn := fun _ => fun
  | [d] => { results := [.lit (.bool false)], args := [d] }
  | _ => none }
def FnExactLongestProofWrongFalsely : Prop := fnExactLongestProofRow.holds Try.pinned (OpenSpec.ofChange fnExactLongestProofWrong)

/-- 'laws.FnExactWidthOf': WHATEVER THE INPUT: true; the input reads as it did. -/
def fnExactWidthOfSpec : ChangeSpec := { name := "fnExactWidthOf", fn := fun _ => fun
  | [d] => { results := [.lit (.bool true)], args := [d] }
  | _ => none }
def fnExactWidthOfRow : OpenClaim := { program := "ytijgngnjhmkhaaa", sum := "0ca3b912a4e0c16c9e7fd127dc1e7ce2c274abd6efd365c6c48968e7f9b28cba", func := "loop.example/g01137/laws.FnExactWidthOf", spec := "fnExactWidthOf", unfollowed := true, recurses := true, apart := false }
def FnExactWidthOfSaid : Prop := fnExactWidthOfRow.holds Try.pinned (OpenSpec.ofChange fnExactWidthOfSpec)

/-- ITS FALSE NEIGHBOUR: 'it returns false'. Refute it at one input. -/
def fnExactWidthOfWrong : ChangeSpec := { name := "fnExactWidthOf", fn := fun _ => fun
  | [d] => { results := [.lit (.bool false)], args := [d] }
  | _ => none }
def FnExactWidthOfWrongFalsely : Prop := fnExactWidthOfRow.holds Try.pinned (OpenSpec.ofChange fnExactWidthOfWrong)

/-- 'laws.FnExactChainsThrough': WHATEVER THE INPUT: true; the input reads as it did. -/
def fnExactChainsThroughSpec : ChangeSpec := { name := "fnExactChainsThrough", fn := fun _ => fun
  | [d] => { results := [.lit (.bool true)], args := [d] }
  | _ => none }
def fnExactChainsThroughRow : OpenClaim := { program := "ytijgngnjhmkhaaa", sum := "0ca3b912a4e0c16c9e7fd127dc1e7ce2c274abd6efd365c6c48968e7f9b28cba", func := "loop.example/g01137/laws.FnExactChainsThrough", spec := "fnExactChainsThrough", unfollowed := true, recurses := true, apart := false }
def FnExactChainsThroughSaid : Prop := fnExactChainsThroughRow.holds Try.pinned (OpenSpec.ofChange fnExactChainsThroughSpec)

/-- ITS FALSE NEIGHBOUR: 'it returns false'. Refute it at one input. -/
def fnExactChainsThroughWrong : ChangeSpec := { name := "fnExactChainsThrough", fn := fun _ => fun
  | [d] => { results := [.lit (.bool false)], args := [d] }
  | _ => none }
def FnExactChainsThroughWrongFalsely : Prop := fnExactChainsThroughRow.holds Try.pinned (OpenSpec.ofChange fnExactChainsThroughWrong)

/- THE SECOND FORM. 'bulk': how many values and letters a reading holds, each counted each time it is reached (what is shared counts as often as it is met; a slice's spare places count too). A statement '..UptoSaid' is the law's where the arguments, and the package variables that the reading takes, are together of bulk at most 1048576: NARROWER than '..Said'. Prove '..Said' where nothing that the law and all that it calls make is longer than what came in: it says more and counts as full. Else prove '..UptoSaid'. A law counts once. -/
mutual
def uptoBulk {H : Type} : DataW H → Nat
  | .lit (.string bytes) => bytes.length + 1
  | .lit _ => 1
  | .nil => 1
  | .ptr d => uptoBulk d + 1
  | .slice elems spare => uptoBulkAll elems + uptoBulkAll spare + 1
  | .agg parts => uptoBulkAll parts + 1
  | .iface _ d => uptoBulk d + 1
  | .map entries => uptoBulkEntries entries + 1
  | .held _ => 1
def uptoBulkAll {H : Type} : List (DataW H) → Nat
  | [] => 0
  | d :: r => uptoBulk d + uptoBulkAll r
def uptoBulkEntries {H : Type} : List (Lit × DataW H) → Nat
  | [] => 0
  | x :: r => uptoBulkEntry x + uptoBulkEntries r
def uptoBulkEntry {H : Type} : Lit × DataW H → Nat
  | (.string bytes, d) => bytes.length + uptoBulk d + 1
  | (_, d) => uptoBulk d + 1
 end
def uptoSmall : (H : Type) → List (DataW H) → Bool := fun _ ds => decide (uptoBulkAll ds ≤ 1048576)
def OpenSpec.upto (s : _root_.Go.ChangeSpec) : _root_.Go.OpenSpec := { _root_.Go.OpenSpec.ofChange s with cond := some uptoSmall }

/-- 'laws.FnExactSetsLeft', WHERE WHAT IT READS IS OF BULK AT MOST 1048576: true; the input reads as it did. -/
def fnExactSetsLeftUptoRow : OpenClaim := { program := "ytijgngnjhmkhaaa", sum := "0ca3b912a4e0c16c9e7fd127dc1e7ce2c274abd6efd365c6c48968e7f9b28cba", func := "loop.example/g01137/laws.FnExactSetsLeft", spec := "fnExactSetsLeft", unfollowed := true, recurses := true, apart := false, narrowed := true }
def FnExactSetsLeftUptoSaid : Prop := fnExactSetsLeftUptoRow.holds Try.pinned (OpenSpec.upto fnExactSetsLeftSpec)

/-- 'laws.FnExactCountLeft', WHERE WHAT IT READS IS OF BULK AT MOST 1048576: true; the input reads as it did. -/
def fnExactCountLeftUptoRow : OpenClaim := { program := "ytijgngnjhmkhaaa", sum := "0ca3b912a4e0c16c9e7fd127dc1e7ce2c274abd6efd365c6c48968e7f9b28cba", func := "loop.example/g01137/laws.FnExactCountLeft", spec := "fnExactCountLeft", unfollowed := true, recurses := true, apart := false, narrowed := true }
def FnExactCountLeftUptoSaid : Prop := fnExactCountLeftUptoRow.holds Try.pinned (OpenSpec.upto fnExactCountLeftSpec)

/-- 'laws.FnExactKnownOf', WHERE WHAT IT READS IS OF BULK AT MOST 1048576: true; the input reads as it did. -/
def fnExactKnownOfUptoRow : OpenClaim := { program := "ytijgngnjhmkhaaa", sum := "0ca3b912a4e0c16c9e7fd127dc1e7ce2c274abd6efd365c6c48968e7f9b28cba", func := "loop.example/g01137/laws.FnExactKnownOf", spec := "fnExactKnownOf", unfollowed := true, recurses := true, apart := false, narrowed := true }
def FnExactKnownOfUptoSaid : Prop := fnExactKnownOfUptoRow.holds Try.pinned (OpenSpec.upto fnExactKnownOfSpec)

/-- 'laws.FnExactHalvingBound', WHERE WHAT IT READS IS OF BULK AT MOST 1048576: true; the input reads as it did. -/
def fnExactHalvingBoundUptoRow : OpenClaim := { program := "ytijgngnjhmkhaaa", sum := "0ca3b912a4e0c16c9e7fd127dc1e7ce2c274abd6efd365c6c48968e7f9b28cba", func := "loop.example/g01137/laws.FnExactHalvingBound", spec := "fnExactHalvingBound", unfollowed := true, recurses := true, apart := false, narrowed := true }
def FnExactHalvingBoundUptoSaid : Prop := fnExactHalvingBoundUptoRow.holds Try.pinned (OpenSpec.upto fnExactHalvingBoundSpec)

/-- 'laws.FnExactProofOf', WHERE WHAT IT READS IS OF BULK AT MOST 1048576: true; the input reads as it did. -/
def fnExactProofOfUptoRow : OpenClaim := { program := "ytijgngnjhmkhaaa", sum := "0ca3b912a4e0c16c9e7fd127dc1e7ce2c274abd6efd365c6c48968e7f9b28cba", func := "loop.example/g01137/laws.FnExactProofOf", spec := "fnExactProofOf", unfollowed := true, recurses := true, apart := false, narrowed := true }
def FnExactProofOfUptoSaid : Prop := fnExactProofOfUptoRow.holds Try.pinned (OpenSpec.upto fnExactProofOfSpec)

/-- 'laws.FnExactIsProof', WHERE WHAT IT READS IS OF BULK AT MOST 1048576: true; the input reads as it did. -/
def fnExactIsProofUptoRow : OpenClaim := { program := "ytijgngnjhmkhaaa", sum := "0ca3b912a4e0c16c9e7fd127dc1e7ce2c274abd6efd365c6c48968e7f9b28cba", func := "loop.example/g01137/laws.FnExactIsProof", spec := "fnExactIsProof", unfollowed := true, recurses := true, apart := false, narrowed := true }
def FnExactIsProofUptoSaid : Prop := fnExactIsProofUptoRow.holds Try.pinned (OpenSpec.upto fnExactIsProofSpec)

/-- 'laws.FnExactSetOfFringes', WHERE WHAT IT READS IS OF BULK AT MOST 1048576: true; the input reads as it did. -/
def fnExactSetOfFringesUptoRow : OpenClaim := { program := "ytijgngnjhmkhaaa", sum := "0ca3b912a4e0c16c9e7fd127dc1e7ce2c274abd6efd365c6c48968e7f9b28cba", func := "loop.example/g01137/laws.FnExactSetOfFringes", spec := "fnExactSetOfFringes", unfollowed := true, recurses := true, apart := false, narrowed := true }
def FnExactSetOfFringesUptoSaid : Prop := fnExactSetOfFringesUptoRow.holds Try.pinned (OpenSpec.upto fnExactSetOfFringesSpec)

/-- 'laws.FnExactLongestProof', WHERE WHAT IT READS IS OF BULK AT MOST 1048576: true; the input reads as it did. -/
def fnExactLongestProofUptoRow : OpenClaim := { program := "ytijgngnjhmkhaaa", sum := "0ca3b912a4e0c16c9e7fd127dc1e7ce2c274abd6efd365c6c48968e7f9b28cba", func := "loop.example/g01137/laws.FnExactLongestProof", spec := "fnExactLongestProof", unfollowed := true, recurses := true, apart := false, narrowed := true }
def FnExactLongestProofUptoSaid : Prop := fnExactLongestProofUptoRow.holds Try.pinned (OpenSpec.upto fnExactLongestProofSpec)

/-- 'laws.FnExactWidthOf', WHERE WHAT IT READS IS OF BULK AT MOST 1048576: true; the input reads as it did. -/
def fnExactWidthOfUptoRow : OpenClaim := { program := "ytijgngnjhmkhaaa", sum := "0ca3b912a4e0c16c9e7fd127dc1e7ce2c274abd6efd365c6c48968e7f9b28cba", func := "loop.example/g01137/laws.FnExactWidthOf", spec := "fnExactWidthOf", unfollowed := true, recurses := true, apart := false, narrowed := true }
def FnExactWidthOfUptoSaid : Prop := fnExactWidthOfUptoRow.holds Try.pinned (OpenSpec.upto fnExactWidthOfSpec)

/-- 'laws.FnExactChainsThrough', WHERE WHAT IT READS IS OF BULK AT MOST 1048576: true; the input reads as it did. -/
def fnExactChainsThroughUptoRow : OpenClaim := { program := "ytijgngnjhmkhaaa", sum := "0ca3b912a4e0c16c9e7fd127dc1e7ce2c274abd6efd365c6c48968e7f9b28cba", func := "loop.example/g01137/laws.FnExactChainsThrough", spec := "fnExactChainsThrough", unfollowed := true, recurses := true, apart := false, narrowed := true }
def FnExactChainsThroughUptoSaid : Prop := fnExactChainsThroughUptoRow.holds Try.pinned (OpenSpec.upto fnExactChainsThroughSpec)

end Rows
end Go.Proofs.Ytijgngnjhmkhaaa
