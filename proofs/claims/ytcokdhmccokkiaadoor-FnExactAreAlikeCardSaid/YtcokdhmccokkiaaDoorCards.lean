/-
  DERIVED. GIVEN WITH THE SEED: THE CARDS: each row of YtcokdhmccokkiaaDoorRows.lean that lists a variable, with what it lists TIED to the program's text (the seventh form; the later family's looks); each row that meets fmt, with fmt's text TOLD by the authors' own Lean function (tested against real Go, not proved from fmt's source: count such statements apart). THE CARD IS WHAT COUNTS. Prove the row's statement (the work); the ties are given (YtcokdhmccokkiaaDoorTie.lean); close each card by the builder's one call (the guide's Derived/Test/ToyasCard.lean, 'card_holds'). Laid BY PROGRAM, IN A SANDBOX (cutbox-door.mjs). By AI agents, Wed Nov 11 2026. No macro, syntax, notation, axiom, sorry.
-/
import Derived.Test.YtcokdhmccokkiaaDoorRows
import GoSem.ClaimSeven
namespace Go.Proofs.YtcokdhmccokkiaaDoor
namespace Rows

/-- THE TIED CARD OF 'laws.FnExactCountUpToNames'. -/
def fnExactCountUpToNamesCard : Claim7 := { stood := { row := fnExactCountUpToNamesRow, standIns := [], harness := (true, "a0e73178d3e07b2c9cf00834ae536942a846d77f2bedfdc8cca472c7fadeaa36"), looks := false }, kinds := [], alts := [], laidByText := true, laidKinds := [.data, .data], laidTests := true, laidLooks := .later }
def FnExactCountUpToNamesCardSaid : Prop := Claim7.holds Tryd.pinned (.plain (OpenSpec.ofChange fnExactCountUpToNamesSpec)) fnExactCountUpToNamesCard

/-- THE TIED CARD OF 'laws.FnExactLeastNamed'. -/
def fnExactLeastNamedCard : Claim7 := { stood := { row := fnExactLeastNamedRow, standIns := [], harness := (true, "a0e73178d3e07b2c9cf00834ae536942a846d77f2bedfdc8cca472c7fadeaa36"), looks := false }, kinds := [], alts := [], laidByText := true, laidKinds := [.data, .data], laidTests := true, laidLooks := .later }
def FnExactLeastNamedCardSaid : Prop := Claim7.holds Tryd.pinned (.plain (OpenSpec.ofChange fnExactLeastNamedSpec)) fnExactLeastNamedCard

/-- THE TIED CARD OF 'laws.FnExactAreAlike'. -/
def fnExactAreAlikeCard : Claim7 := { stood := { row := fnExactAreAlikeRow, standIns := [], harness := (true, "a0e73178d3e07b2c9cf00834ae536942a846d77f2bedfdc8cca472c7fadeaa36"), looks := false }, kinds := [], alts := [], laidByText := true, laidKinds := [.data, .data], laidTests := true, laidLooks := .later }
def FnExactAreAlikeCardSaid : Prop := Claim7.holds Tryd.pinned (.plain (OpenSpec.ofChange fnExactAreAlikeSpec)) fnExactAreAlikeCard

/-- THE TIED CARD OF 'laws.FnExactNamesKept'. -/
def fnExactNamesKeptCard : Claim7 := { stood := { row := fnExactNamesKeptRow, standIns := [], harness := (true, "a0e73178d3e07b2c9cf00834ae536942a846d77f2bedfdc8cca472c7fadeaa36"), looks := false }, kinds := [], alts := [], laidByText := true, laidKinds := [.data, .data], laidTests := true, laidLooks := .later }
def FnExactNamesKeptCardSaid : Prop := Claim7.holds Tryd.pinned (.plain (OpenSpec.ofChange fnExactNamesKeptSpec)) fnExactNamesKeptCard

/-- THE TIED CARD OF 'laws.FnExactRandomWalk'. -/
def fnExactRandomWalkCard : Claim7 := { stood := { row := fnExactRandomWalkRow, standIns := [], harness := (true, "a0e73178d3e07b2c9cf00834ae536942a846d77f2bedfdc8cca472c7fadeaa36"), looks := false }, kinds := [], alts := [], laidByText := true, laidKinds := [.data, .data], laidTests := true, laidLooks := .later }
def FnExactRandomWalkCardSaid : Prop := Claim7.holds Tryd.pinned (.plain (OpenSpec.ofChange fnExactRandomWalkSpec)) fnExactRandomWalkCard

/-- THE SECOND FORM's CARD OF 'laws.FnExactCountUpToNames'. -/
def fnExactCountUpToNamesUptoCard : Claim7 := { stood := { row := fnExactCountUpToNamesUptoRow, standIns := [], harness := (true, "a0e73178d3e07b2c9cf00834ae536942a846d77f2bedfdc8cca472c7fadeaa36"), looks := false }, kinds := [], alts := [], laidByText := true, laidKinds := [.data, .data], laidTests := true, laidLooks := .later }
def FnExactCountUpToNamesUptoCardSaid : Prop := Claim7.holds Tryd.pinned (.plain (OpenSpec.upto fnExactCountUpToNamesSpec)) fnExactCountUpToNamesUptoCard

/-- THE SECOND FORM's CARD OF 'laws.FnExactLeastNamed'. -/
def fnExactLeastNamedUptoCard : Claim7 := { stood := { row := fnExactLeastNamedUptoRow, standIns := [], harness := (true, "a0e73178d3e07b2c9cf00834ae536942a846d77f2bedfdc8cca472c7fadeaa36"), looks := false }, kinds := [], alts := [], laidByText := true, laidKinds := [.data, .data], laidTests := true, laidLooks := .later }
def FnExactLeastNamedUptoCardSaid : Prop := Claim7.holds Tryd.pinned (.plain (OpenSpec.upto fnExactLeastNamedSpec)) fnExactLeastNamedUptoCard

/-- THE SECOND FORM's CARD OF 'laws.FnExactAreAlike'. -/
def fnExactAreAlikeUptoCard : Claim7 := { stood := { row := fnExactAreAlikeUptoRow, standIns := [], harness := (true, "a0e73178d3e07b2c9cf00834ae536942a846d77f2bedfdc8cca472c7fadeaa36"), looks := false }, kinds := [], alts := [], laidByText := true, laidKinds := [.data, .data], laidTests := true, laidLooks := .later }
def FnExactAreAlikeUptoCardSaid : Prop := Claim7.holds Tryd.pinned (.plain (OpenSpec.upto fnExactAreAlikeSpec)) fnExactAreAlikeUptoCard

/-- THE SECOND FORM's CARD OF 'laws.FnExactNamesKept'. -/
def fnExactNamesKeptUptoCard : Claim7 := { stood := { row := fnExactNamesKeptUptoRow, standIns := [], harness := (true, "a0e73178d3e07b2c9cf00834ae536942a846d77f2bedfdc8cca472c7fadeaa36"), looks := false }, kinds := [], alts := [], laidByText := true, laidKinds := [.data, .data], laidTests := true, laidLooks := .later }
def FnExactNamesKeptUptoCardSaid : Prop := Claim7.holds Tryd.pinned (.plain (OpenSpec.upto fnExactNamesKeptSpec)) fnExactNamesKeptUptoCard

/-- THE SECOND FORM's CARD OF 'laws.FnExactRandomWalk'. -/
def fnExactRandomWalkUptoCard : Claim7 := { stood := { row := fnExactRandomWalkUptoRow, standIns := [], harness := (true, "a0e73178d3e07b2c9cf00834ae536942a846d77f2bedfdc8cca472c7fadeaa36"), looks := false }, kinds := [], alts := [], laidByText := true, laidKinds := [.data, .data], laidTests := true, laidLooks := .later }
def FnExactRandomWalkUptoCardSaid : Prop := Claim7.holds Tryd.pinned (.plain (OpenSpec.upto fnExactRandomWalkSpec)) fnExactRandomWalkUptoCard
end Rows
end Go.Proofs.YtcokdhmccokkiaaDoor
