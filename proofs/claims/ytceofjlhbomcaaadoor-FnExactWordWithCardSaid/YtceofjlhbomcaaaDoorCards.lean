/-
  DERIVED. GIVEN WITH THE SEED: THE CARDS: each row of YtceofjlhbomcaaaDoorRows.lean that lists a variable, with what it lists TIED to the program's text (the seventh form; the later family's looks); each row that meets fmt, with fmt's text TOLD by the authors' own Lean function (tested against real Go, not proved from fmt's source: count such statements apart). THE CARD IS WHAT COUNTS. Prove the row's statement (the work); the ties are given (YtceofjlhbomcaaaDoorTie.lean); close each card by the builder's one call (the guide's Derived/Test/ToyasCard.lean, 'card_holds'). Laid BY PROGRAM, IN A SANDBOX (cutbox-door.mjs). By AI agents, Wed Nov 11 2026. No macro, syntax, notation, axiom, sorry.
-/
import Derived.Test.YtceofjlhbomcaaaDoorRows
import GoSem.ClaimSeven
namespace Go.Proofs.YtceofjlhbomcaaaDoor
namespace Rows

/-- THE TIED CARD OF 'laws.FnExactSpaceText'. -/
def fnExactSpaceTextCard : Claim7 := { stood := { row := fnExactSpaceTextRow, standIns := [], harness := (true, "56e510677c471a1ea93f0d47ca501da852f093beeaca5eab669bb1968c5bdd8b"), looks := true }, kinds := [], alts := [], laidByText := true, laidKinds := [.data, .data, .data], laidTests := true, laidLooks := .later }
def FnExactSpaceTextCardSaid : Prop := Claim7.holds Tryd.pinned (.plain (OpenSpec.ofChange fnExactSpaceTextSpec)) fnExactSpaceTextCard

/-- THE TIED CARD OF 'laws.FnExactParseSpace'. -/
def fnExactParseSpaceCard : Claim7 := { stood := { row := fnExactParseSpaceRow, standIns := [], harness := (true, "56e510677c471a1ea93f0d47ca501da852f093beeaca5eab669bb1968c5bdd8b"), looks := true }, kinds := [], alts := [], laidByText := true, laidKinds := [.data, .data, .data, .data, .sentinel, .sentinel, .pinned], laidTests := true, laidLooks := .later }
def FnExactParseSpaceCardSaid : Prop := Claim7.holds Tryd.pinned (.plain (OpenSpec.ofChange fnExactParseSpaceSpec)) fnExactParseSpaceCard

/-- THE TIED CARD OF 'laws.FnExactCountWords'. -/
def fnExactCountWordsCard : Claim7 := { stood := { row := fnExactCountWordsRow, standIns := [], harness := (true, "56e510677c471a1ea93f0d47ca501da852f093beeaca5eab669bb1968c5bdd8b"), looks := true }, kinds := [], alts := [], laidByText := true, laidKinds := [.data, .data], laidTests := true, laidLooks := .later }
def FnExactCountWordsCardSaid : Prop := Claim7.holds Tryd.pinned (.plain (OpenSpec.ofChange fnExactCountWordsSpec)) fnExactCountWordsCard

/-- THE TIED CARD OF 'laws.FnExactCountFrom'. -/
def fnExactCountFromCard : Claim7 := { stood := { row := fnExactCountFromRow, standIns := [], harness := (true, "56e510677c471a1ea93f0d47ca501da852f093beeaca5eab669bb1968c5bdd8b"), looks := true }, kinds := [], alts := [], laidByText := true, laidKinds := [.data, .data], laidTests := true, laidLooks := .later }
def FnExactCountFromCardSaid : Prop := Claim7.holds Tryd.pinned (.plain (OpenSpec.ofChange fnExactCountFromSpec)) fnExactCountFromCard

/-- THE TIED CARD OF 'laws.FnExactWordWith'. -/
def fnExactWordWithCard : Claim7 := { stood := { row := fnExactWordWithRow, standIns := [], harness := (true, "56e510677c471a1ea93f0d47ca501da852f093beeaca5eab669bb1968c5bdd8b"), looks := true }, kinds := [], alts := [], laidByText := true, laidKinds := [.data, .data], laidTests := true, laidLooks := .later }
def FnExactWordWithCardSaid : Prop := Claim7.holds Tryd.pinned (.plain (OpenSpec.ofChange fnExactWordWithSpec)) fnExactWordWithCard

/-- THE TIED CARD OF 'laws.FnExactRankWord'. -/
def fnExactRankWordCard : Claim7 := { stood := { row := fnExactRankWordRow, standIns := [], harness := (true, "56e510677c471a1ea93f0d47ca501da852f093beeaca5eab669bb1968c5bdd8b"), looks := true }, kinds := [], alts := [], laidByText := true, laidKinds := [.data, .data], laidTests := true, laidLooks := .later }
def FnExactRankWordCardSaid : Prop := Claim7.holds Tryd.pinned (.plain (OpenSpec.ofChange fnExactRankWordSpec)) fnExactRankWordCard

/-- THE TIED CARD OF 'laws.FnExactAllWords'. -/
def fnExactAllWordsCard : Claim7 := { stood := { row := fnExactAllWordsRow, standIns := [], harness := (true, "56e510677c471a1ea93f0d47ca501da852f093beeaca5eab669bb1968c5bdd8b"), looks := true }, kinds := [], alts := [], laidByText := true, laidKinds := [.data, .data], laidTests := true, laidLooks := .later }
def FnExactAllWordsCardSaid : Prop := Claim7.holds Tryd.pinned (.plain (OpenSpec.ofChange fnExactAllWordsSpec)) fnExactAllWordsCard

/-- THE TIED CARD OF 'laws.FnExactFinishWord'. -/
def fnExactFinishWordCard : Claim7 := { stood := { row := fnExactFinishWordRow, standIns := [], harness := (true, "56e510677c471a1ea93f0d47ca501da852f093beeaca5eab669bb1968c5bdd8b"), looks := true }, kinds := [], alts := [], laidByText := true, laidKinds := [.data, .data], laidTests := true, laidLooks := .later }
def FnExactFinishWordCardSaid : Prop := Claim7.holds Tryd.pinned (.plain (OpenSpec.ofChange fnExactFinishWordSpec)) fnExactFinishWordCard

/-- THE TIED CARD OF 'laws.FnExactSortWord'. -/
def fnExactSortWordCard : Claim7 := { stood := { row := fnExactSortWordRow, standIns := [], harness := (true, "56e510677c471a1ea93f0d47ca501da852f093beeaca5eab669bb1968c5bdd8b"), looks := true }, kinds := [], alts := [], laidByText := true, laidKinds := [.data, .data], laidTests := true, laidLooks := .later }
def FnExactSortWordCardSaid : Prop := Claim7.holds Tryd.pinned (.plain (OpenSpec.ofChange fnExactSortWordSpec)) fnExactSortWordCard

/-- THE TIED CARD OF 'laws.FnExactAreWordsOf'. -/
def fnExactAreWordsOfCard : Claim7 := { stood := { row := fnExactAreWordsOfRow, standIns := [], harness := (true, "56e510677c471a1ea93f0d47ca501da852f093beeaca5eab669bb1968c5bdd8b"), looks := true }, kinds := [], alts := [], laidByText := true, laidKinds := [.data, .data], laidTests := true, laidLooks := .later }
def FnExactAreWordsOfCardSaid : Prop := Claim7.holds Tryd.pinned (.plain (OpenSpec.ofChange fnExactAreWordsOfSpec)) fnExactAreWordsOfCard

/-- THE SECOND FORM's CARD OF 'laws.FnExactSpaceText'. -/
def fnExactSpaceTextUptoCard : Claim7 := { stood := { row := fnExactSpaceTextUptoRow, standIns := [], harness := (true, "56e510677c471a1ea93f0d47ca501da852f093beeaca5eab669bb1968c5bdd8b"), looks := true }, kinds := [], alts := [], laidByText := true, laidKinds := [.data, .data, .data], laidTests := true, laidLooks := .later }
def FnExactSpaceTextUptoCardSaid : Prop := Claim7.holds Tryd.pinned (.plain (OpenSpec.upto fnExactSpaceTextSpec)) fnExactSpaceTextUptoCard

/-- THE SECOND FORM's CARD OF 'laws.FnExactParseSpace'. -/
def fnExactParseSpaceUptoCard : Claim7 := { stood := { row := fnExactParseSpaceUptoRow, standIns := [], harness := (true, "56e510677c471a1ea93f0d47ca501da852f093beeaca5eab669bb1968c5bdd8b"), looks := true }, kinds := [], alts := [], laidByText := true, laidKinds := [.data, .data, .data, .data, .sentinel, .sentinel, .pinned], laidTests := true, laidLooks := .later }
def FnExactParseSpaceUptoCardSaid : Prop := Claim7.holds Tryd.pinned (.plain (OpenSpec.upto fnExactParseSpaceSpec)) fnExactParseSpaceUptoCard

/-- THE SECOND FORM's CARD OF 'laws.FnExactCountWords'. -/
def fnExactCountWordsUptoCard : Claim7 := { stood := { row := fnExactCountWordsUptoRow, standIns := [], harness := (true, "56e510677c471a1ea93f0d47ca501da852f093beeaca5eab669bb1968c5bdd8b"), looks := true }, kinds := [], alts := [], laidByText := true, laidKinds := [.data, .data], laidTests := true, laidLooks := .later }
def FnExactCountWordsUptoCardSaid : Prop := Claim7.holds Tryd.pinned (.plain (OpenSpec.upto fnExactCountWordsSpec)) fnExactCountWordsUptoCard

/-- THE SECOND FORM's CARD OF 'laws.FnExactCountFrom'. -/
def fnExactCountFromUptoCard : Claim7 := { stood := { row := fnExactCountFromUptoRow, standIns := [], harness := (true, "56e510677c471a1ea93f0d47ca501da852f093beeaca5eab669bb1968c5bdd8b"), looks := true }, kinds := [], alts := [], laidByText := true, laidKinds := [.data, .data], laidTests := true, laidLooks := .later }
def FnExactCountFromUptoCardSaid : Prop := Claim7.holds Tryd.pinned (.plain (OpenSpec.upto fnExactCountFromSpec)) fnExactCountFromUptoCard

/-- THE SECOND FORM's CARD OF 'laws.FnExactWordWith'. -/
def fnExactWordWithUptoCard : Claim7 := { stood := { row := fnExactWordWithUptoRow, standIns := [], harness := (true, "56e510677c471a1ea93f0d47ca501da852f093beeaca5eab669bb1968c5bdd8b"), looks := true }, kinds := [], alts := [], laidByText := true, laidKinds := [.data, .data], laidTests := true, laidLooks := .later }
def FnExactWordWithUptoCardSaid : Prop := Claim7.holds Tryd.pinned (.plain (OpenSpec.upto fnExactWordWithSpec)) fnExactWordWithUptoCard

/-- THE SECOND FORM's CARD OF 'laws.FnExactRankWord'. -/
def fnExactRankWordUptoCard : Claim7 := { stood := { row := fnExactRankWordUptoRow, standIns := [], harness := (true, "56e510677c471a1ea93f0d47ca501da852f093beeaca5eab669bb1968c5bdd8b"), looks := true }, kinds := [], alts := [], laidByText := true, laidKinds := [.data, .data], laidTests := true, laidLooks := .later }
def FnExactRankWordUptoCardSaid : Prop := Claim7.holds Tryd.pinned (.plain (OpenSpec.upto fnExactRankWordSpec)) fnExactRankWordUptoCard

/-- THE SECOND FORM's CARD OF 'laws.FnExactAllWords'. -/
def fnExactAllWordsUptoCard : Claim7 := { stood := { row := fnExactAllWordsUptoRow, standIns := [], harness := (true, "56e510677c471a1ea93f0d47ca501da852f093beeaca5eab669bb1968c5bdd8b"), looks := true }, kinds := [], alts := [], laidByText := true, laidKinds := [.data, .data], laidTests := true, laidLooks := .later }
def FnExactAllWordsUptoCardSaid : Prop := Claim7.holds Tryd.pinned (.plain (OpenSpec.upto fnExactAllWordsSpec)) fnExactAllWordsUptoCard

/-- THE SECOND FORM's CARD OF 'laws.FnExactFinishWord'. -/
def fnExactFinishWordUptoCard : Claim7 := { stood := { row := fnExactFinishWordUptoRow, standIns := [], harness := (true, "56e510677c471a1ea93f0d47ca501da852f093beeaca5eab669bb1968c5bdd8b"), looks := true }, kinds := [], alts := [], laidByText := true, laidKinds := [.data, .data], laidTests := true, laidLooks := .later }
def FnExactFinishWordUptoCardSaid : Prop := Claim7.holds Tryd.pinned (.plain (OpenSpec.upto fnExactFinishWordSpec)) fnExactFinishWordUptoCard

/-- THE SECOND FORM's CARD OF 'laws.FnExactSortWord'. -/
def fnExactSortWordUptoCard : Claim7 := { stood := { row := fnExactSortWordUptoRow, standIns := [], harness := (true, "56e510677c471a1ea93f0d47ca501da852f093beeaca5eab669bb1968c5bdd8b"), looks := true }, kinds := [], alts := [], laidByText := true, laidKinds := [.data, .data], laidTests := true, laidLooks := .later }
def FnExactSortWordUptoCardSaid : Prop := Claim7.holds Tryd.pinned (.plain (OpenSpec.upto fnExactSortWordSpec)) fnExactSortWordUptoCard

/-- THE SECOND FORM's CARD OF 'laws.FnExactAreWordsOf'. -/
def fnExactAreWordsOfUptoCard : Claim7 := { stood := { row := fnExactAreWordsOfUptoRow, standIns := [], harness := (true, "56e510677c471a1ea93f0d47ca501da852f093beeaca5eab669bb1968c5bdd8b"), looks := true }, kinds := [], alts := [], laidByText := true, laidKinds := [.data, .data], laidTests := true, laidLooks := .later }
def FnExactAreWordsOfUptoCardSaid : Prop := Claim7.holds Tryd.pinned (.plain (OpenSpec.upto fnExactAreWordsOfSpec)) fnExactAreWordsOfUptoCard
end Rows
end Go.Proofs.YtceofjlhbomcaaaDoor
