/-
  No cell of these rows narrows 'for every input' (looked for: loops, veiled, ifaces, maps, wideKeys, modest, calm, conditions, laid).
  DERIVED. THE GIVEN ROWS OF THIS SEAT. 10 by the template 'for every input the law returns true; each argument reads behind the call as it read before'; 0 by the template 'total and deterministic' (their statements: YtcokdhmccokkiaaTotals.lean).
  GIVEN WITH THE SEED: the statements are not yours to turn. If you find one false, say at which input.
  Laid BY PROGRAM, IN A SANDBOX (cutbox-rows.mjs): the forced cells as the released guide's own fill.sh prints them over the translation 0037e3524c4f9f73… (all of the seat's roots in one cut). By AI agents, Wed Nov 11 2026. No macro, syntax, notation, axiom, sorry.
-/
import Derived.Test.YtcokdhmccokkiaaChecked
import GoSem.Claim
import GoSem.ClaimJoined
import GoSem.ClaimMapViews
import Derived.JoinedTies
import Derived.KernelRfl
namespace Go.Proofs.Ytcokdhmccokkiaa
/- THE CELL 'sum', in the pinned program and in every row, IS THE sha256 OF THE DUMP (.gsa) THAT YtcokdhmccokkiaaProg.lean LOADS. Nothing in Lean hashes anything: it is a label: what it is worth is what the hold of that sum in a sandbox is worth. -/
noncomputable def Try.pinned : Pinned := { name := "ytcokdhmccokkiaa", sum := "0037e3524c4f9f73373930b8d801ad2454cef848a9e503c208015f8c397e59f5", checked := Try.checked }
namespace Rows
def none {H : Type} : Left H := { results := [], args := [] }

/-- 'laws.FnExactAllSpaces': WHATEVER THE INPUT: true; the input reads as it did. -/
def fnExactAllSpacesSpec : ChangeSpec := { name := "fnExactAllSpaces", fn := fun _ => fun
  | [d] => { results := [.lit (.bool true)], args := [d] }
  | _ => none }
def fnExactAllSpacesRow : OpenClaim := { program := "ytcokdhmccokkiaa", sum := "0037e3524c4f9f73373930b8d801ad2454cef848a9e503c208015f8c397e59f5", func := "loop.example/g01137/laws.FnExactAllSpaces", spec := "fnExactAllSpaces", unfollowed := true, recurses := true, apart := false }
def FnExactAllSpacesSaid : Prop := fnExactAllSpacesRow.holds Try.pinned (OpenSpec.ofChange fnExactAllSpacesSpec)

/-- ITS FALSE NEIGHBOUR: 'it returns false'. Refute it at one input. -/
def fnExactAllSpacesWrong : ChangeSpec := { name := "fnExactAllSpaces", fn := fun _ => fun
  | [d] => { results := [.lit (.bool false)], args := [d] }
  | _ => none }
def FnExactAllSpacesWrongFalsely : Prop := fnExactAllSpacesRow.holds Try.pinned (OpenSpec.ofChange fnExactAllSpacesWrong)

/-- 'laws.FnExactCountSpaces': WHATEVER THE INPUT: true; the input reads as it did. -/
def fnExactCountSpacesSpec : ChangeSpec := { name := "fnExactCountSpaces", fn := fun _ => fun
  | [d] => { results := [.lit (.bool true)], args := [d] }
  | _ => none }
def fnExactCountSpacesRow : OpenClaim := { program := "ytcokdhmccokkiaa", sum := "0037e3524c4f9f73373930b8d801ad2454cef848a9e503c208015f8c397e59f5", func := "loop.example/g01137/laws.FnExactCountSpaces", spec := "fnExactCountSpaces", unfollowed := true, recurses := true, apart := false }
def FnExactCountSpacesSaid : Prop := fnExactCountSpacesRow.holds Try.pinned (OpenSpec.ofChange fnExactCountSpacesSpec)

/-- ITS FALSE NEIGHBOUR: 'it returns false'. Refute it at one input. -/
def fnExactCountSpacesWrong : ChangeSpec := { name := "fnExactCountSpaces", fn := fun _ => fun
  | [d] => { results := [.lit (.bool false)], args := [d] }
  | _ => none }
def FnExactCountSpacesWrongFalsely : Prop := fnExactCountSpacesRow.holds Try.pinned (OpenSpec.ofChange fnExactCountSpacesWrong)

/-- 'laws.FnExactSpaceAt': WHATEVER THE INPUT: true; the input reads as it did. -/
def fnExactSpaceAtSpec : ChangeSpec := { name := "fnExactSpaceAt", fn := fun _ => fun
  | [d1, d2] => { results := [.lit (.bool true)], args := [d1, d2] }
  | _ => none }
def fnExactSpaceAtRow : OpenClaim := { program := "ytcokdhmccokkiaa", sum := "0037e3524c4f9f73373930b8d801ad2454cef848a9e503c208015f8c397e59f5", func := "loop.example/g01137/laws.FnExactSpaceAt", spec := "fnExactSpaceAt", unfollowed := true, recurses := true, apart := false }
def FnExactSpaceAtSaid : Prop := fnExactSpaceAtRow.holds Try.pinned (OpenSpec.ofChange fnExactSpaceAtSpec)

/-- ITS FALSE NEIGHBOUR: 'it returns false'. Refute it at one input. -/
def fnExactSpaceAtWrong : ChangeSpec := { name := "fnExactSpaceAt", fn := fun _ => fun
  | [d1, d2] => { results := [.lit (.bool false)], args := [d1, d2] }
  | _ => none }
def FnExactSpaceAtWrongFalsely : Prop := fnExactSpaceAtRow.holds Try.pinned (OpenSpec.ofChange fnExactSpaceAtWrong)

/-- 'laws.FnExactRankSpace': WHATEVER THE INPUT: true; the input reads as it did. -/
def fnExactRankSpaceSpec : ChangeSpec := { name := "fnExactRankSpace", fn := fun _ => fun
  | [d] => { results := [.lit (.bool true)], args := [d] }
  | _ => none }
def fnExactRankSpaceRow : OpenClaim := { program := "ytcokdhmccokkiaa", sum := "0037e3524c4f9f73373930b8d801ad2454cef848a9e503c208015f8c397e59f5", func := "loop.example/g01137/laws.FnExactRankSpace", spec := "fnExactRankSpace", unfollowed := true, recurses := true, apart := false }
def FnExactRankSpaceSaid : Prop := fnExactRankSpaceRow.holds Try.pinned (OpenSpec.ofChange fnExactRankSpaceSpec)

/-- ITS FALSE NEIGHBOUR: 'it returns false'. Refute it at one input. -/
def fnExactRankSpaceWrong : ChangeSpec := { name := "fnExactRankSpace", fn := fun _ => fun
  | [d] => { results := [.lit (.bool false)], args := [d] }
  | _ => none }
def FnExactRankSpaceWrongFalsely : Prop := fnExactRankSpaceRow.holds Try.pinned (OpenSpec.ofChange fnExactRankSpaceWrong)

/-- 'laws.FnExactSizesOf': WHATEVER THE INPUT: true; the input reads as it did. -/
def fnExactSizesOfSpec : ChangeSpec := { name := "fnExactSizesOf", fn := fun _ => fun
  | [d] => { results := [.lit (.bool true)], args := [d] }
  | _ => none }
def fnExactSizesOfRow : OpenClaim := { program := "ytcokdhmccokkiaa", sum := "0037e3524c4f9f73373930b8d801ad2454cef848a9e503c208015f8c397e59f5", func := "loop.example/g01137/laws.FnExactSizesOf", spec := "fnExactSizesOf", unfollowed := true, recurses := true, apart := false }
def FnExactSizesOfSaid : Prop := fnExactSizesOfRow.holds Try.pinned (OpenSpec.ofChange fnExactSizesOfSpec)

/-- ITS FALSE NEIGHBOUR: 'it returns false'. Refute it at one input. -/
def fnExactSizesOfWrong : ChangeSpec := { name := "fnExactSizesOf", fn := fun _ => fun
  | [d] => { results := [.lit (.bool false)], args := [d] }
  | _ => none }
def FnExactSizesOfWrongFalsely : Prop := fnExactSizesOfRow.holds Try.pinned (OpenSpec.ofChange fnExactSizesOfWrong)

/-- 'laws.FnExactFreeSets': WHATEVER THE INPUT: true; the input reads as it did. -/
def fnExactFreeSetsSpec : ChangeSpec := { name := "fnExactFreeSets", fn := fun _ => fun
  | [d] => { results := [.lit (.bool true)], args := [d] }
  | _ => none }
def fnExactFreeSetsRow : OpenClaim := { program := "ytcokdhmccokkiaa", sum := "0037e3524c4f9f73373930b8d801ad2454cef848a9e503c208015f8c397e59f5", func := "loop.example/g01137/laws.FnExactFreeSets", spec := "fnExactFreeSets", unfollowed := true, recurses := true, apart := false }
def FnExactFreeSetsSaid : Prop := fnExactFreeSetsRow.holds Try.pinned (OpenSpec.ofChange fnExactFreeSetsSpec)

/-- ITS FALSE NEIGHBOUR: 'it returns false'. Refute it at one input. -/
def fnExactFreeSetsWrong : ChangeSpec := { name := "fnExactFreeSets", fn := fun _ => fun
  | [d] => { results := [.lit (.bool false)], args := [d] }
  | _ => none }
def FnExactFreeSetsWrongFalsely : Prop := fnExactFreeSetsRow.holds Try.pinned (OpenSpec.ofChange fnExactFreeSetsWrong)

/-- 'laws.FnExactFreeBySize': WHATEVER THE INPUT: true; the input reads as it did. -/
def fnExactFreeBySizeSpec : ChangeSpec := { name := "fnExactFreeBySize", fn := fun _ => fun
  | [d] => { results := [.lit (.bool true)], args := [d] }
  | _ => none }
def fnExactFreeBySizeRow : OpenClaim := { program := "ytcokdhmccokkiaa", sum := "0037e3524c4f9f73373930b8d801ad2454cef848a9e503c208015f8c397e59f5", func := "loop.example/g01137/laws.FnExactFreeBySize", spec := "fnExactFreeBySize", unfollowed := true, recurses := true, apart := false }
def FnExactFreeBySizeSaid : Prop := fnExactFreeBySizeRow.holds Try.pinned (OpenSpec.ofChange fnExactFreeBySizeSpec)

/-- ITS FALSE NEIGHBOUR: 'it returns false'. Refute it at one input. -/
def fnExactFreeBySizeWrong : ChangeSpec := { name := "fnExactFreeBySize", fn := fun _ => fun
  | [d] => { results := [.lit (.bool false)], args := [d] }
  | _ => none }
def FnExactFreeBySizeWrongFalsely : Prop := fnExactFreeBySizeRow.holds Try.pinned (OpenSpec.ofChange fnExactFreeBySizeWrong)

/-- 'laws.FnExactAlternatingSum': WHATEVER THE INPUT: true; the input reads as it did. -/
def fnExactAlternatingSumSpec : ChangeSpec := { name := "fnExactAlternatingSum", fn := fun _ => fun
  | [d] => { results := [.lit (.bool true)], args := [d] }
  | _ => none }
def fnExactAlternatingSumRow : OpenClaim := { program := "ytcokdhmccokkiaa", sum := "0037e3524c4f9f73373930b8d801ad2454cef848a9e503c208015f8c397e59f5", func := "loop.example/g01137/laws.FnExactAlternatingSum", spec := "fnExactAlternatingSum", unfollowed := true, recurses := true, apart := false }
def FnExactAlternatingSumSaid : Prop := fnExactAlternatingSumRow.holds Try.pinned (OpenSpec.ofChange fnExactAlternatingSumSpec)

/-- ITS FALSE NEIGHBOUR: 'it returns false'. Refute it at one input. -/
def fnExactAlternatingSumWrong : ChangeSpec := { name := "fnExactAlternatingSum", fn := fun _ => fun
  | [d] => { results := [.lit (.bool false)], args := [d] }
  | _ => none }
def FnExactAlternatingSumWrongFalsely : Prop := fnExactAlternatingSumRow.holds Try.pinned (OpenSpec.ofChange fnExactAlternatingSumWrong)

/-- 'laws.FnExactIsFreeSpace': WHATEVER THE INPUT: true; the input reads as it did. -/
def fnExactIsFreeSpaceSpec : ChangeSpec := { name := "fnExactIsFreeSpace", fn := fun _ => fun
  | [d] => { results := [.lit (.bool true)], args := [d] }
  | _ => none }
def fnExactIsFreeSpaceRow : OpenClaim := { program := "ytcokdhmccokkiaa", sum := "0037e3524c4f9f73373930b8d801ad2454cef848a9e503c208015f8c397e59f5", func := "loop.example/g01137/laws.FnExactIsFreeSpace", spec := "fnExactIsFreeSpace", unfollowed := true, recurses := true, apart := false }
def FnExactIsFreeSpaceSaid : Prop := fnExactIsFreeSpaceRow.holds Try.pinned (OpenSpec.ofChange fnExactIsFreeSpaceSpec)

/-- ITS FALSE NEIGHBOUR: 'it returns false'. Refute it at one input. -/
def fnExactIsFreeSpaceWrong : ChangeSpec := { name := "fnExactIsFreeSpace", fn := fun _ => fun
  | [d] => { results := [.lit (.bool false)], args := [d] }
  | _ => none }
def FnExactIsFreeSpaceWrongFalsely : Prop := fnExactIsFreeSpaceRow.holds Try.pinned (OpenSpec.ofChange fnExactIsFreeSpaceWrong)

/-- 'laws.FnExactRenameItems': WHATEVER THE INPUT: true; the input reads as it did. -/
def fnExactRenameItemsSpec : ChangeSpec := { name := "fnExactRenameItems", fn := fun _ => fun
  | [d1, d2] => { results := [.lit (.bool true)], args := [d1, d2] }
  | _ => none }
def fnExactRenameItemsRow : OpenClaim := { program := "ytcokdhmccokkiaa", sum := "0037e3524c4f9f73373930b8d801ad2454cef848a9e503c208015f8c397e59f5", func := "loop.example/g01137/laws.FnExactRenameItems", spec := "fnExactRenameItems", unfollowed := true, recurses := true, apart := false }
def FnExactRenameItemsSaid : Prop := fnExactRenameItemsRow.holds Try.pinned (OpenSpec.ofChange fnExactRenameItemsSpec)

/-- ITS FALSE NEIGHBOUR: 'it returns false'. Refute it at one input. -/
def fnExactRenameItemsWrong : ChangeSpec := { name := "fnExactRenameItems", fn := fun _ => fun
  | [d1, d2] => { results := [.lit (.bool false)], args := [d1, d2] }
  | _ => none }
def FnExactRenameItemsWrongFalsely : Prop := fnExactRenameItemsRow.holds Try.pinned (OpenSpec.ofChange fnExactRenameItemsWrong)

/- THE SECOND FORM. 'bulk': how many values and letters a reading holds, each counted each time it is reached (what is shared counts as often as it is met; a slice's spare places count too). A statement '..UptoSaid' is the law's where the arguments, and the package variables that the reading takes, are together of bulk at most 1048576: NARROWER than '..Said'. Prove '..Said' where nothing that the law and all that it calls make is longer than what came in: it says more and counts as full. Else prove '..UptoSaid'. A law counts once. -/
mutual
def uptoBulk {H : Type} : DataW H → Nat
  | .lit (.string bytes) => bytes.length + 1
  | .lit _ => 1
  | .nil => 1
  | .ptr d => uptoBulk d + 1
  | .slice elems spare => uptoBulkAll elems + uptoBulkAll spare + 1
  | .agg parts => uptoBulkAll parts + 1
  | .iface _ d => uptoBulk d + 1
  | .map entries => uptoBulkEntries entries + 1
  | .held _ => 1
def uptoBulkAll {H : Type} : List (DataW H) → Nat
  | [] => 0
  | d :: r => uptoBulk d + uptoBulkAll r
def uptoBulkEntries {H : Type} : List (Lit × DataW H) → Nat
  | [] => 0
  | x :: r => uptoBulkEntry x + uptoBulkEntries r
def uptoBulkEntry {H : Type} : Lit × DataW H → Nat
  | (.string bytes, d) => bytes.length + uptoBulk d + 1
  | (_, d) => uptoBulk d + 1
 end
def uptoSmall : (H : Type) → List (DataW H) → Bool := fun _ ds => decide (uptoBulkAll ds ≤ 1048576)
def OpenSpec.upto (s : _root_.Go.ChangeSpec) : _root_.Go.OpenSpec := { _root_.Go.OpenSpec.ofChange s with cond := some uptoSmall }

/-- 'laws.FnExactAllSpaces', WHERE WHAT IT READS IS OF BULK AT MOST 1048576: true; the input reads as it did. -/
def fnExactAllSpacesUptoRow : OpenClaim := { program := "ytcokdhmccokkiaa", sum := "0037e3524c4f9f73373930b8d801ad2454cef848a9e503c208015f8c397e59f5", func := "loop.example/g01137/laws.FnExactAllSpaces", spec := "fnExactAllSpaces", unfollowed := true, recurses := true, apart := false, narrowed := true }
def FnExactAllSpacesUptoSaid : Prop := fnExactAllSpacesUptoRow.holds Try.pinned (OpenSpec.upto fnExactAllSpacesSpec)

/-- 'laws.FnExactCountSpaces', WHERE WHAT IT READS IS OF BULK AT MOST 1048576: true; the input reads as it did. -/
def fnExactCountSpacesUptoRow : OpenClaim := { program := "ytcokdhmccokkiaa", sum := "0037e3524c4f9f73373930b8d801ad2454cef848a9e503c208015f8c397e59f5", func := "loop.example/g01137/laws.FnExactCountSpaces", spec := "fnExactCountSpaces", unfollowed := true, recurses := true, apart := false, narrowed := true }
def FnExactCountSpacesUptoSaid : Prop := fnExactCountSpacesUptoRow.holds Try.pinned (OpenSpec.upto fnExactCountSpacesSpec)

/-- 'laws.FnExactSpaceAt', WHERE WHAT IT READS IS OF BULK AT MOST 1048576: true; the input reads as it did. -/
def fnExactSpaceAtUptoRow : OpenClaim := { program := "ytcokdhmccokkiaa", sum := "0037e3524c4f9f73373930b8d801ad2454cef848a9e503c208015f8c397e59f5", func := "loop.example/g01137/laws.FnExactSpaceAt", spec := "fnExactSpaceAt", unfollowed := true, recurses := true, apart := false, narrowed := true }
def FnExactSpaceAtUptoSaid : Prop := fnExactSpaceAtUptoRow.holds Try.pinned (OpenSpec.upto fnExactSpaceAtSpec)

/-- 'laws.FnExactRankSpace', WHERE WHAT IT READS IS OF BULK AT MOST 1048576: true; the input reads as it did. -/
def fnExactRankSpaceUptoRow : OpenClaim := { program := "ytcokdhmccokkiaa", sum := "0037e3524c4f9f73373930b8d801ad2454cef848a9e503c208015f8c397e59f5", func := "loop.example/g01137/laws.FnExactRankSpace", spec := "fnExactRankSpace", unfollowed := true, recurses := true, apart := false, narrowed := true }
def FnExactRankSpaceUptoSaid : Prop := fnExactRankSpaceUptoRow.holds Try.pinned (OpenSpec.upto fnExactRankSpaceSpec)

/-- 'laws.FnExactSizesOf', WHERE WHAT IT READS IS OF BULK AT MOST 1048576: true; the input reads as it did. -/
def fnExactSizesOfUptoRow : OpenClaim := { program := "ytcokdhmccokkiaa", sum := "0037e3524c4f9f73373930b8d801ad2454cef848a9e503c208015f8c397e59f5", func := "loop.example/g01137/laws.FnExactSizesOf", spec := "fnExactSizesOf", unfollowed := true, recurses := true, apart := false, narrowed := true }
def FnExactSizesOfUptoSaid : Prop := fnExactSizesOfUptoRow.holds Try.pinned (OpenSpec.upto fnExactSizesOfSpec)

/-- 'laws.FnExactFreeSets', WHERE WHAT IT READS IS OF BULK AT MOST 1048576: true; the input reads as it did. -/
def fnExactFreeSetsUptoRow : OpenClaim := { program := "ytcokdhmccokkiaa", sum := "0037e3524c4f9f73373930b8d801ad2454cef848a9e503c208015f8c397e59f5", func := "loop.example/g01137/laws.FnExactFreeSets", spec := "fnExactFreeSets", unfollowed := true, recurses := true, apart := false, narrowed := true }
def FnExactFreeSetsUptoSaid : Prop := fnExactFreeSetsUptoRow.holds Try.pinned (OpenSpec.upto fnExactFreeSetsSpec)

/-- 'laws.FnExactFreeBySize', WHERE WHAT IT READS IS OF BULK AT MOST 1048576: true; the input reads as it did. -/
def fnExactFreeBySizeUptoRow : OpenClaim := { program := "ytcokdhmccokkiaa", sum := "0037e3524c4f9f73373930b8d801ad2454cef848a9e503c208015f8c397e59f5", func := "loop.example/g01137/laws.FnExactFreeBySize", spec := "fnExactFreeBySize", unfollowed := true, recurses := true, apart := false, narrowed := true }
def FnExactFreeBySizeUptoSaid : Prop := fnExactFreeBySizeUptoRow.holds Try.pinned (OpenSpec.upto fnExactFreeBySizeSpec)

/-- 'laws.FnExactAlternatingSum', WHERE WHAT IT READS IS OF BULK AT MOST 1048576: true; the input reads as it did. -/
def fnExactAlternatingSumUptoRow : OpenClaim := { program := "ytcokdhmccokkiaa", sum := "0037e3524c4f9f73373930b8d801ad2454cef848a9e503c208015f8c397e59f5", func := "loop.example/g01137/laws.FnExactAlternatingSum", spec := "fnExactAlternatingSum", unfollowed := true, recurses := true, apart := false, narrowed := true }
def FnExactAlternatingSumUptoSaid : Prop := fnExactAlternatingSumUptoRow.holds Try.pinned (OpenSpec.upto fnExactAlternatingSumSpec)

/-- 'laws.FnExactIsFreeSpace', WHERE WHAT IT READS IS OF BULK AT MOST 1048576: true; the input reads as it did. -/
def fnExactIsFreeSpaceUptoRow : OpenClaim := { program := "ytcokdhmccokkiaa", sum := "0037e3524c4f9f73373930b8d801ad2454cef848a9e503c208015f8c397e59f5", func := "loop.example/g01137/laws.FnExactIsFreeSpace", spec := "fnExactIsFreeSpace", unfollowed := true, recurses := true, apart := false, narrowed := true }
def FnExactIsFreeSpaceUptoSaid : Prop := fnExactIsFreeSpaceUptoRow.holds Try.pinned (OpenSpec.upto fnExactIsFreeSpaceSpec)

/-- 'laws.FnExactRenameItems', WHERE WHAT IT READS IS OF BULK AT MOST 1048576: true; the input reads as it did. -/
def fnExactRenameItemsUptoRow : OpenClaim := { program := "ytcokdhmccokkiaa", sum := "0037e3524c4f9f73373930b8d801ad2454cef848a9e503c208015f8c397e59f5", func := "loop.example/g01137/laws.FnExactRenameItems", spec := "fnExactRenameItems", unfollowed := true, recurses := true, apart := false, narrowed := true }
def FnExactRenameItemsUptoSaid : Prop := fnExactRenameItemsUptoRow.holds Try.pinned (OpenSpec.upto fnExactRenameItemsSpec)

end Rows
end Go.Proofs.Ytcokdhmccokkiaa
