/-
  DERIVED. GIVEN WITH THE SEED: THE CARDS: each row of YtlgcnablhkmdaaaDoorRows.lean that lists a variable, with what it lists TIED to the program's text (the seventh form; the later family's looks); each row that meets fmt, with fmt's text TOLD by the authors' own Lean function (tested against real Go, not proved from fmt's source: count such statements apart). THE CARD IS WHAT COUNTS. Prove the row's statement (the work); the ties are given (YtlgcnablhkmdaaaDoorTie.lean); close each card by the builder's one call (the guide's Derived/Test/ToyasCard.lean, 'card_holds'). Laid BY PROGRAM, IN A SANDBOX (cutbox-door.mjs). By AI agents, Wed Nov 11 2026. No macro, syntax, notation, axiom, sorry.
-/
import Derived.Test.YtlgcnablhkmdaaaDoorRows
import GoSem.ClaimSeven
namespace Go.Proofs.YtlgcnablhkmdaaaDoor
namespace Rows

/-- THE TIED CARD OF 'laws.FnExactAllWords'. -/
def fnExactAllWordsCard : Claim7 := { stood := { row := fnExactAllWordsRow, standIns := [], harness := (true, "d2e910dfa57d37cddd25eccabb869dd2c9e93716b6a1270ca582af989ecc3270"), looks := true }, kinds := [], alts := [], laidByText := true, laidKinds := [.data, .data], laidTests := true, laidLooks := .later }
def FnExactAllWordsCardSaid : Prop := Claim7.holds Tryd.pinned (.plain (OpenSpec.ofChange fnExactAllWordsSpec)) fnExactAllWordsCard

/-- THE TIED CARD OF 'laws.FnExactAreWordsOf'. -/
def fnExactAreWordsOfCard : Claim7 := { stood := { row := fnExactAreWordsOfRow, standIns := [], harness := (true, "d2e910dfa57d37cddd25eccabb869dd2c9e93716b6a1270ca582af989ecc3270"), looks := true }, kinds := [], alts := [], laidByText := true, laidKinds := [.data, .data], laidTests := true, laidLooks := .later }
def FnExactAreWordsOfCardSaid : Prop := Claim7.holds Tryd.pinned (.plain (OpenSpec.ofChange fnExactAreWordsOfSpec)) fnExactAreWordsOfCard

/-- THE TIED CARD OF 'laws.FnExactSpaceText'. -/
def fnExactSpaceTextCard : Claim7 := { stood := { row := fnExactSpaceTextRow, standIns := [], harness := (true, "d2e910dfa57d37cddd25eccabb869dd2c9e93716b6a1270ca582af989ecc3270"), looks := true }, kinds := [], alts := [], laidByText := true, laidKinds := [.data, .data, .data], laidTests := true, laidLooks := .later }
def FnExactSpaceTextCardSaid : Prop := Claim7.holds Tryd.pinned (.plain (OpenSpec.ofChange fnExactSpaceTextSpec)) fnExactSpaceTextCard

/-- THE TIED CARD OF 'laws.FnExactParseSpace'. -/
def fnExactParseSpaceCard : Claim7 := { stood := { row := fnExactParseSpaceRow, standIns := [], harness := (true, "d2e910dfa57d37cddd25eccabb869dd2c9e93716b6a1270ca582af989ecc3270"), looks := true }, kinds := [], alts := [], laidByText := true, laidKinds := [.data, .data, .data, .data, .sentinel, .sentinel, .pinned], laidTests := true, laidLooks := .later }
def FnExactParseSpaceCardSaid : Prop := Claim7.holds Tryd.pinned (.plain (OpenSpec.ofChange fnExactParseSpaceSpec)) fnExactParseSpaceCard

/-- THE SECOND FORM's CARD OF 'laws.FnExactAllWords'. -/
def fnExactAllWordsUptoCard : Claim7 := { stood := { row := fnExactAllWordsUptoRow, standIns := [], harness := (true, "d2e910dfa57d37cddd25eccabb869dd2c9e93716b6a1270ca582af989ecc3270"), looks := true }, kinds := [], alts := [], laidByText := true, laidKinds := [.data, .data], laidTests := true, laidLooks := .later }
def FnExactAllWordsUptoCardSaid : Prop := Claim7.holds Tryd.pinned (.plain (OpenSpec.upto fnExactAllWordsSpec)) fnExactAllWordsUptoCard

/-- THE SECOND FORM's CARD OF 'laws.FnExactAreWordsOf'. -/
def fnExactAreWordsOfUptoCard : Claim7 := { stood := { row := fnExactAreWordsOfUptoRow, standIns := [], harness := (true, "d2e910dfa57d37cddd25eccabb869dd2c9e93716b6a1270ca582af989ecc3270"), looks := true }, kinds := [], alts := [], laidByText := true, laidKinds := [.data, .data], laidTests := true, laidLooks := .later }
def FnExactAreWordsOfUptoCardSaid : Prop := Claim7.holds Tryd.pinned (.plain (OpenSpec.upto fnExactAreWordsOfSpec)) fnExactAreWordsOfUptoCard

/-- THE SECOND FORM's CARD OF 'laws.FnExactSpaceText'. -/
def fnExactSpaceTextUptoCard : Claim7 := { stood := { row := fnExactSpaceTextUptoRow, standIns := [], harness := (true, "d2e910dfa57d37cddd25eccabb869dd2c9e93716b6a1270ca582af989ecc3270"), looks := true }, kinds := [], alts := [], laidByText := true, laidKinds := [.data, .data, .data], laidTests := true, laidLooks := .later }
def FnExactSpaceTextUptoCardSaid : Prop := Claim7.holds Tryd.pinned (.plain (OpenSpec.upto fnExactSpaceTextSpec)) fnExactSpaceTextUptoCard

/-- THE SECOND FORM's CARD OF 'laws.FnExactParseSpace'. -/
def fnExactParseSpaceUptoCard : Claim7 := { stood := { row := fnExactParseSpaceUptoRow, standIns := [], harness := (true, "d2e910dfa57d37cddd25eccabb869dd2c9e93716b6a1270ca582af989ecc3270"), looks := true }, kinds := [], alts := [], laidByText := true, laidKinds := [.data, .data, .data, .data, .sentinel, .sentinel, .pinned], laidTests := true, laidLooks := .later }
def FnExactParseSpaceUptoCardSaid : Prop := Claim7.holds Tryd.pinned (.plain (OpenSpec.upto fnExactParseSpaceSpec)) fnExactParseSpaceUptoCard
end Rows
end Go.Proofs.YtlgcnablhkmdaaaDoor
