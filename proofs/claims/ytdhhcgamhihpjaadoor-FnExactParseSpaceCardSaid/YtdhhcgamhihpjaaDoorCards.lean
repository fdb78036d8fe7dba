/-
  DERIVED. GIVEN WITH THE SEED: THE CARDS: each row of YtdhhcgamhihpjaaDoorRows.lean that lists a variable, with what it lists TIED to the program's text (the seventh form; the later family's looks); each row that meets fmt, with fmt's text TOLD by the authors' own Lean function (tested against real Go, not proved from fmt's source: count such statements apart). THE CARD IS WHAT COUNTS. Prove the row's statement (the work); the ties are given (YtdhhcgamhihpjaaDoorTie.lean); close each card by the builder's one call (the guide's Derived/Test/ToyasCard.lean, 'card_holds'). Laid BY PROGRAM, IN A SANDBOX (cutbox-door.mjs). By AI agents, Wed Nov 11 2026. No macro, syntax, notation, axiom, sorry.
-/
import Derived.Test.YtdhhcgamhihpjaaDoorRows
import GoSem.ClaimSeven
namespace Go.Proofs.YtdhhcgamhihpjaaDoor
namespace Rows

/-- THE TIED CARD OF 'laws.FnExactParseSpace'. -/
def fnExactParseSpaceCard : Claim7 := { stood := { row := fnExactParseSpaceRow, standIns := [], harness := (true, "5c0a8f37bc069b6139994a4c0bf2c09e718fbecbb2e8fd04ec32964f063f66bb"), looks := true }, kinds := [], alts := [], laidByText := true, laidKinds := [.data, .data, .data, .data, .sentinel, .sentinel, .pinned], laidTests := true, laidLooks := .later }
def FnExactParseSpaceCardSaid : Prop := Claim7.holds Tryd.pinned (.plain (OpenSpec.ofChange fnExactParseSpaceSpec)) fnExactParseSpaceCard

/-- THE TIED CARD OF 'laws.FnExactAreWordsOf'. -/
def fnExactAreWordsOfCard : Claim7 := { stood := { row := fnExactAreWordsOfRow, standIns := [], harness := (true, "5c0a8f37bc069b6139994a4c0bf2c09e718fbecbb2e8fd04ec32964f063f66bb"), looks := true }, kinds := [], alts := [], laidByText := true, laidKinds := [.data, .data], laidTests := true, laidLooks := .later }
def FnExactAreWordsOfCardSaid : Prop := Claim7.holds Tryd.pinned (.plain (OpenSpec.ofChange fnExactAreWordsOfSpec)) fnExactAreWordsOfCard

/-- THE SECOND FORM's CARD OF 'laws.FnExactParseSpace'. -/
def fnExactParseSpaceUptoCard : Claim7 := { stood := { row := fnExactParseSpaceUptoRow, standIns := [], harness := (true, "5c0a8f37bc069b6139994a4c0bf2c09e718fbecbb2e8fd04ec32964f063f66bb"), looks := true }, kinds := [], alts := [], laidByText := true, laidKinds := [.data, .data, .data, .data, .sentinel, .sentinel, .pinned], laidTests := true, laidLooks := .later }
def FnExactParseSpaceUptoCardSaid : Prop := Claim7.holds Tryd.pinned (.plain (OpenSpec.upto fnExactParseSpaceSpec)) fnExactParseSpaceUptoCard

/-- THE SECOND FORM's CARD OF 'laws.FnExactAreWordsOf'. -/
def fnExactAreWordsOfUptoCard : Claim7 := { stood := { row := fnExactAreWordsOfUptoRow, standIns := [], harness := (true, "5c0a8f37bc069b6139994a4c0bf2c09e718fbecbb2e8fd04ec32964f063f66bb"), looks := true }, kinds := [], alts := [], laidByText := true, laidKinds := [.data, .data], laidTests := true, laidLooks := .later }
def FnExactAreWordsOfUptoCardSaid : Prop := Claim7.holds Tryd.pinned (.plain (OpenSpec.upto fnExactAreWordsOfSpec)) fnExactAreWordsOfUptoCard
end Rows
end Go.Proofs.YtdhhcgamhihpjaaDoor
