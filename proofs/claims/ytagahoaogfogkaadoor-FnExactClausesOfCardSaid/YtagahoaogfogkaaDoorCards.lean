/-
  DERIVED. GIVEN WITH THE SEED: THE CARDS: each row of YtagahoaogfogkaaDoorRows.lean that lists a variable, with what it lists TIED to the program's text (the seventh form; the later family's looks); each row that meets fmt, with fmt's text TOLD by the authors' own Lean function (tested against real Go, not proved from fmt's source: count such statements apart). THE CARD IS WHAT COUNTS. Prove the row's statement (the work); the ties are given (YtagahoaogfogkaaDoorTie.lean); close each card by the builder's one call (the guide's Derived/Test/ToyasCard.lean, 'card_holds'). Laid BY PROGRAM, IN A SANDBOX (cutbox-door.mjs). By AI agents, Wed Nov 11 2026. No macro, syntax, notation, axiom, sorry.
-/
import Derived.Test.YtagahoaogfogkaaDoorRows
import GoSem.ClaimSeven
namespace Go.Proofs.YtagahoaogfogkaaDoor
namespace Rows

/-- THE TIED CARD OF 'laws.FnExactAllWords'. -/
def fnExactAllWordsCard : Claim7 := { stood := { row := fnExactAllWordsRow, standIns := [], harness := (true, "b8bd5cc364b90df67a5dd304aeb483a452a3500d1b68cf66b5dc31d2158acdda"), looks := true }, kinds := [], alts := [], laidByText := true, laidKinds := [.data, .data], laidTests := true, laidLooks := .later }
def FnExactAllWordsCardSaid : Prop := Claim7.holds Tryd.pinned (.plain (OpenSpec.ofChange fnExactAllWordsSpec)) fnExactAllWordsCard

/-- THE TIED CARD OF 'laws.FnExactAreWordsOf'. -/
def fnExactAreWordsOfCard : Claim7 := { stood := { row := fnExactAreWordsOfRow, standIns := [], harness := (true, "b8bd5cc364b90df67a5dd304aeb483a452a3500d1b68cf66b5dc31d2158acdda"), looks := true }, kinds := [], alts := [], laidByText := true, laidKinds := [.data, .data], laidTests := true, laidLooks := .later }
def FnExactAreWordsOfCardSaid : Prop := Claim7.holds Tryd.pinned (.plain (OpenSpec.ofChange fnExactAreWordsOfSpec)) fnExactAreWordsOfCard

/-- THE TIED CARD OF 'laws.FnExactEndOf'. -/
def fnExactEndOfCard : Claim7 := { stood := { row := fnExactEndOfRow, standIns := [], harness := (true, "b8bd5cc364b90df67a5dd304aeb483a452a3500d1b68cf66b5dc31d2158acdda"), looks := true }, kinds := [], alts := [], laidByText := true, laidKinds := [.data, .data], laidTests := true, laidLooks := .later }
def FnExactEndOfCardSaid : Prop := Claim7.holds Tryd.pinned (.plain (OpenSpec.ofChange fnExactEndOfSpec)) fnExactEndOfCard

/-- THE TIED CARD OF 'laws.FnExactPathsTo'. -/
def fnExactPathsToCard : Claim7 := { stood := { row := fnExactPathsToRow, standIns := [], harness := (true, "b8bd5cc364b90df67a5dd304aeb483a452a3500d1b68cf66b5dc31d2158acdda"), looks := true }, kinds := [], alts := [], laidByText := true, laidKinds := [.data, .data], laidTests := true, laidLooks := .later }
def FnExactPathsToCardSaid : Prop := Claim7.holds Tryd.pinned (.plain (OpenSpec.ofChange fnExactPathsToSpec)) fnExactPathsToCard

/-- THE TIED CARD OF 'laws.FnExactClausesOf'. -/
def fnExactClausesOfCard : Claim7 := { stood := { row := fnExactClausesOfRow, standIns := [], harness := (true, "b8bd5cc364b90df67a5dd304aeb483a452a3500d1b68cf66b5dc31d2158acdda"), looks := true }, kinds := [], alts := [], laidByText := true, laidKinds := [.data, .data], laidTests := true, laidLooks := .later }
def FnExactClausesOfCardSaid : Prop := Claim7.holds Tryd.pinned (.plain (OpenSpec.ofChange fnExactClausesOfSpec)) fnExactClausesOfCard

/-- THE TIED CARD OF 'laws.FnExactIsOrderSpace'. -/
def fnExactIsOrderSpaceCard : Claim7 := { stood := { row := fnExactIsOrderSpaceRow, standIns := [], harness := (true, "b8bd5cc364b90df67a5dd304aeb483a452a3500d1b68cf66b5dc31d2158acdda"), looks := true }, kinds := [], alts := [], laidByText := true, laidKinds := [.data, .data], laidTests := true, laidLooks := .later }
def FnExactIsOrderSpaceCardSaid : Prop := Claim7.holds Tryd.pinned (.plain (OpenSpec.ofChange fnExactIsOrderSpaceSpec)) fnExactIsOrderSpaceCard

/-- THE TIED CARD OF 'laws.FnExactCoversOf'. -/
def fnExactCoversOfCard : Claim7 := { stood := { row := fnExactCoversOfRow, standIns := [], harness := (true, "b8bd5cc364b90df67a5dd304aeb483a452a3500d1b68cf66b5dc31d2158acdda"), looks := true }, kinds := [], alts := [], laidByText := true, laidKinds := [.data, .data], laidTests := true, laidLooks := .later }
def FnExactCoversOfCardSaid : Prop := Claim7.holds Tryd.pinned (.plain (OpenSpec.ofChange fnExactCoversOfSpec)) fnExactCoversOfCard

/-- THE TIED CARD OF 'laws.FnExactCriticalOf'. -/
def fnExactCriticalOfCard : Claim7 := { stood := { row := fnExactCriticalOfRow, standIns := [], harness := (true, "b8bd5cc364b90df67a5dd304aeb483a452a3500d1b68cf66b5dc31d2158acdda"), looks := true }, kinds := [], alts := [], laidByText := true, laidKinds := [.data, .data], laidTests := true, laidLooks := .later }
def FnExactCriticalOfCardSaid : Prop := Claim7.holds Tryd.pinned (.plain (OpenSpec.ofChange fnExactCriticalOfSpec)) fnExactCriticalOfCard

/-- THE TIED CARD OF 'laws.FnExactDifferentEnds'. -/
def fnExactDifferentEndsCard : Claim7 := { stood := { row := fnExactDifferentEndsRow, standIns := [], harness := (true, "b8bd5cc364b90df67a5dd304aeb483a452a3500d1b68cf66b5dc31d2158acdda"), looks := true }, kinds := [], alts := [], laidByText := true, laidKinds := [.data, .data], laidTests := true, laidLooks := .later }
def FnExactDifferentEndsCardSaid : Prop := Claim7.holds Tryd.pinned (.plain (OpenSpec.ofChange fnExactDifferentEndsSpec)) fnExactDifferentEndsCard

/-- THE SECOND FORM's CARD OF 'laws.FnExactAllWords'. -/
def fnExactAllWordsUptoCard : Claim7 := { stood := { row := fnExactAllWordsUptoRow, standIns := [], harness := (true, "b8bd5cc364b90df67a5dd304aeb483a452a3500d1b68cf66b5dc31d2158acdda"), looks := true }, kinds := [], alts := [], laidByText := true, laidKinds := [.data, .data], laidTests := true, laidLooks := .later }
def FnExactAllWordsUptoCardSaid : Prop := Claim7.holds Tryd.pinned (.plain (OpenSpec.upto fnExactAllWordsSpec)) fnExactAllWordsUptoCard

/-- THE SECOND FORM's CARD OF 'laws.FnExactAreWordsOf'. -/
def fnExactAreWordsOfUptoCard : Claim7 := { stood := { row := fnExactAreWordsOfUptoRow, standIns := [], harness := (true, "b8bd5cc364b90df67a5dd304aeb483a452a3500d1b68cf66b5dc31d2158acdda"), looks := true }, kinds := [], alts := [], laidByText := true, laidKinds := [.data, .data], laidTests := true, laidLooks := .later }
def FnExactAreWordsOfUptoCardSaid : Prop := Claim7.holds Tryd.pinned (.plain (OpenSpec.upto fnExactAreWordsOfSpec)) fnExactAreWordsOfUptoCard

/-- THE SECOND FORM's CARD OF 'laws.FnExactEndOf'. -/
def fnExactEndOfUptoCard : Claim7 := { stood := { row := fnExactEndOfUptoRow, standIns := [], harness := (true, "b8bd5cc364b90df67a5dd304aeb483a452a3500d1b68cf66b5dc31d2158acdda"), looks := true }, kinds := [], alts := [], laidByText := true, laidKinds := [.data, .data], laidTests := true, laidLooks := .later }
def FnExactEndOfUptoCardSaid : Prop := Claim7.holds Tryd.pinned (.plain (OpenSpec.upto fnExactEndOfSpec)) fnExactEndOfUptoCard

/-- THE SECOND FORM's CARD OF 'laws.FnExactPathsTo'. -/
def fnExactPathsToUptoCard : Claim7 := { stood := { row := fnExactPathsToUptoRow, standIns := [], harness := (true, "b8bd5cc364b90df67a5dd304aeb483a452a3500d1b68cf66b5dc31d2158acdda"), looks := true }, kinds := [], alts := [], laidByText := true, laidKinds := [.data, .data], laidTests := true, laidLooks := .later }
def FnExactPathsToUptoCardSaid : Prop := Claim7.holds Tryd.pinned (.plain (OpenSpec.upto fnExactPathsToSpec)) fnExactPathsToUptoCard

/-- THE SECOND FORM's CARD OF 'laws.FnExactClausesOf'. -/
def fnExactClausesOfUptoCard : Claim7 := { stood := { row := fnExactClausesOfUptoRow, standIns := [], harness := (true, "b8bd5cc364b90df67a5dd304aeb483a452a3500d1b68cf66b5dc31d2158acdda"), looks := true }, kinds := [], alts := [], laidByText := true, laidKinds := [.data, .data], laidTests := true, laidLooks := .later }
def FnExactClausesOfUptoCardSaid : Prop := Claim7.holds Tryd.pinned (.plain (OpenSpec.upto fnExactClausesOfSpec)) fnExactClausesOfUptoCard

/-- THE SECOND FORM's CARD OF 'laws.FnExactIsOrderSpace'. -/
def fnExactIsOrderSpaceUptoCard : Claim7 := { stood := { row := fnExactIsOrderSpaceUptoRow, standIns := [], harness := (true, "b8bd5cc364b90df67a5dd304aeb483a452a3500d1b68cf66b5dc31d2158acdda"), looks := true }, kinds := [], alts := [], laidByText := true, laidKinds := [.data, .data], laidTests := true, laidLooks := .later }
def FnExactIsOrderSpaceUptoCardSaid : Prop := Claim7.holds Tryd.pinned (.plain (OpenSpec.upto fnExactIsOrderSpaceSpec)) fnExactIsOrderSpaceUptoCard

/-- THE SECOND FORM's CARD OF 'laws.FnExactCoversOf'. -/
def fnExactCoversOfUptoCard : Claim7 := { stood := { row := fnExactCoversOfUptoRow, standIns := [], harness := (true, "b8bd5cc364b90df67a5dd304aeb483a452a3500d1b68cf66b5dc31d2158acdda"), looks := true }, kinds := [], alts := [], laidByText := true, laidKinds := [.data, .data], laidTests := true, laidLooks := .later }
def FnExactCoversOfUptoCardSaid : Prop := Claim7.holds Tryd.pinned (.plain (OpenSpec.upto fnExactCoversOfSpec)) fnExactCoversOfUptoCard

/-- THE SECOND FORM's CARD OF 'laws.FnExactCriticalOf'. -/
def fnExactCriticalOfUptoCard : Claim7 := { stood := { row := fnExactCriticalOfUptoRow, standIns := [], harness := (true, "b8bd5cc364b90df67a5dd304aeb483a452a3500d1b68cf66b5dc31d2158acdda"), looks := true }, kinds := [], alts := [], laidByText := true, laidKinds := [.data, .data], laidTests := true, laidLooks := .later }
def FnExactCriticalOfUptoCardSaid : Prop := Claim7.holds Tryd.pinned (.plain (OpenSpec.upto fnExactCriticalOfSpec)) fnExactCriticalOfUptoCard

/-- THE SECOND FORM's CARD OF 'laws.FnExactDifferentEnds'. -/
def fnExactDifferentEndsUptoCard : Claim7 := { stood := { row := fnExactDifferentEndsUptoRow, standIns := [], harness := (true, "b8bd5cc364b90df67a5dd304aeb483a452a3500d1b68cf66b5dc31d2158acdda"), looks := true }, kinds := [], alts := [], laidByText := true, laidKinds := [.data, .data], laidTests := true, laidLooks := .later }
def FnExactDifferentEndsUptoCardSaid : Prop := Claim7.holds Tryd.pinned (.plain (OpenSpec.upto fnExactDifferentEndsSpec)) fnExactDifferentEndsUptoCard
end Rows
end Go.Proofs.YtagahoaogfogkaaDoor
