/-
  DERIVED. GIVEN WITH THE SEED: THE CARDS: each row of YtknjiomagdfgfaaDoorRows.lean that lists a variable, with what it lists TIED to the program's text (the seventh form; the later family's looks); each row that meets fmt, with fmt's text TOLD by the authors' own Lean function (tested against real Go, not proved from fmt's source: count such statements apart). THE CARD IS WHAT COUNTS. Prove the row's statement (the work); the ties are given (YtknjiomagdfgfaaDoorTie.lean); close each card by the builder's one call (the guide's Derived/Test/ToyasCard.lean, 'card_holds'). Laid BY PROGRAM, IN A SANDBOX (cutbox-door.mjs). By AI agents, Wed Nov 11 2026. No macro, syntax, notation, axiom, sorry.
-/
import Derived.Test.YtknjiomagdfgfaaDoorRows
import GoSem.ClaimSeven
namespace Go.Proofs.YtknjiomagdfgfaaDoor
namespace Rows

/-- THE TIED CARD OF 'laws.FnExactCountWords'. -/
def fnExactCountWordsCard : Claim7 := { stood := { row := fnExactCountWordsRow, standIns := [], harness := (true, "673af10540ae71c695518a5ef6a702a9d4afdfcaf02f0a13a9a8bfd2192747b2"), looks := false }, kinds := [], alts := [], laidByText := true, laidKinds := [.data, .data], laidTests := true, laidLooks := .later }
def FnExactCountWordsCardSaid : Prop := Claim7.holds Tryd.pinned (.plain (OpenSpec.ofChange fnExactCountWordsSpec)) fnExactCountWordsCard

/-- THE TIED CARD OF 'laws.FnExactCountFrom'. -/
def fnExactCountFromCard : Claim7 := { stood := { row := fnExactCountFromRow, standIns := [], harness := (true, "673af10540ae71c695518a5ef6a702a9d4afdfcaf02f0a13a9a8bfd2192747b2"), looks := false }, kinds := [], alts := [], laidByText := true, laidKinds := [.data, .data], laidTests := true, laidLooks := .later }
def FnExactCountFromCardSaid : Prop := Claim7.holds Tryd.pinned (.plain (OpenSpec.ofChange fnExactCountFromSpec)) fnExactCountFromCard

/-- THE TIED CARD OF 'laws.FnExactWordWith'. -/
def fnExactWordWithCard : Claim7 := { stood := { row := fnExactWordWithRow, standIns := [], harness := (true, "673af10540ae71c695518a5ef6a702a9d4afdfcaf02f0a13a9a8bfd2192747b2"), looks := false }, kinds := [], alts := [], laidByText := true, laidKinds := [.data, .data], laidTests := true, laidLooks := .later }
def FnExactWordWithCardSaid : Prop := Claim7.holds Tryd.pinned (.plain (OpenSpec.ofChange fnExactWordWithSpec)) fnExactWordWithCard

/-- THE TIED CARD OF 'laws.FnExactRankWord'. -/
def fnExactRankWordCard : Claim7 := { stood := { row := fnExactRankWordRow, standIns := [], harness := (true, "673af10540ae71c695518a5ef6a702a9d4afdfcaf02f0a13a9a8bfd2192747b2"), looks := false }, kinds := [], alts := [], laidByText := true, laidKinds := [.data, .data], laidTests := true, laidLooks := .later }
def FnExactRankWordCardSaid : Prop := Claim7.holds Tryd.pinned (.plain (OpenSpec.ofChange fnExactRankWordSpec)) fnExactRankWordCard

/-- THE TIED CARD OF 'laws.FnExactAllWords'. -/
def fnExactAllWordsCard : Claim7 := { stood := { row := fnExactAllWordsRow, standIns := [], harness := (true, "673af10540ae71c695518a5ef6a702a9d4afdfcaf02f0a13a9a8bfd2192747b2"), looks := false }, kinds := [], alts := [], laidByText := true, laidKinds := [.data, .data], laidTests := true, laidLooks := .later }
def FnExactAllWordsCardSaid : Prop := Claim7.holds Tryd.pinned (.plain (OpenSpec.ofChange fnExactAllWordsSpec)) fnExactAllWordsCard

/-- THE TIED CARD OF 'laws.FnExactAreWordsOf'. -/
def fnExactAreWordsOfCard : Claim7 := { stood := { row := fnExactAreWordsOfRow, standIns := [], harness := (true, "673af10540ae71c695518a5ef6a702a9d4afdfcaf02f0a13a9a8bfd2192747b2"), looks := false }, kinds := [], alts := [], laidByText := true, laidKinds := [.data, .data], laidTests := true, laidLooks := .later }
def FnExactAreWordsOfCardSaid : Prop := Claim7.holds Tryd.pinned (.plain (OpenSpec.ofChange fnExactAreWordsOfSpec)) fnExactAreWordsOfCard

/-- THE TIED CARD OF 'laws.FnExactCornersOf'. -/
def fnExactCornersOfCard : Claim7 := { stood := { row := fnExactCornersOfRow, standIns := [], harness := (true, "673af10540ae71c695518a5ef6a702a9d4afdfcaf02f0a13a9a8bfd2192747b2"), looks := false }, kinds := [], alts := [], laidByText := true, laidKinds := [.data, .data], laidTests := true, laidLooks := .later }
def FnExactCornersOfCardSaid : Prop := Claim7.holds Tryd.pinned (.plain (OpenSpec.ofChange fnExactCornersOfSpec)) fnExactCornersOfCard

/-- THE TIED CARD OF 'laws.FnExactCoveredBy'. -/
def fnExactCoveredByCard : Claim7 := { stood := { row := fnExactCoveredByRow, standIns := [], harness := (true, "673af10540ae71c695518a5ef6a702a9d4afdfcaf02f0a13a9a8bfd2192747b2"), looks := false }, kinds := [], alts := [], laidByText := true, laidKinds := [.data, .data], laidTests := true, laidLooks := .later }
def FnExactCoveredByCardSaid : Prop := Claim7.holds Tryd.pinned (.plain (OpenSpec.ofChange fnExactCoveredBySpec)) fnExactCoveredByCard

/-- THE TIED CARD OF 'laws.FnExactPointSpace'. -/
def fnExactPointSpaceCard : Claim7 := { stood := { row := fnExactPointSpaceRow, standIns := [], harness := (true, "673af10540ae71c695518a5ef6a702a9d4afdfcaf02f0a13a9a8bfd2192747b2"), looks := false }, kinds := [], alts := [], laidByText := true, laidKinds := [.data, .data], laidTests := true, laidLooks := .later }
def FnExactPointSpaceCardSaid : Prop := Claim7.holds Tryd.pinned (.plain (OpenSpec.ofChange fnExactPointSpaceSpec)) fnExactPointSpaceCard

/-- THE TIED CARD OF 'laws.FnExactFreeTriples'. -/
def fnExactFreeTriplesCard : Claim7 := { stood := { row := fnExactFreeTriplesRow, standIns := [], harness := (true, "673af10540ae71c695518a5ef6a702a9d4afdfcaf02f0a13a9a8bfd2192747b2"), looks := false }, kinds := [], alts := [], laidByText := true, laidKinds := [.data, .data], laidTests := true, laidLooks := .later }
def FnExactFreeTriplesCardSaid : Prop := Claim7.holds Tryd.pinned (.plain (OpenSpec.ofChange fnExactFreeTriplesSpec)) fnExactFreeTriplesCard

/-- THE SECOND FORM's CARD OF 'laws.FnExactCountWords'. -/
def fnExactCountWordsUptoCard : Claim7 := { stood := { row := fnExactCountWordsUptoRow, standIns := [], harness := (true, "673af10540ae71c695518a5ef6a702a9d4afdfcaf02f0a13a9a8bfd2192747b2"), looks := false }, kinds := [], alts := [], laidByText := true, laidKinds := [.data, .data], laidTests := true, laidLooks := .later }
def FnExactCountWordsUptoCardSaid : Prop := Claim7.holds Tryd.pinned (.plain (OpenSpec.upto fnExactCountWordsSpec)) fnExactCountWordsUptoCard

/-- THE SECOND FORM's CARD OF 'laws.FnExactCountFrom'. -/
def fnExactCountFromUptoCard : Claim7 := { stood := { row := fnExactCountFromUptoRow, standIns := [], harness := (true, "673af10540ae71c695518a5ef6a702a9d4afdfcaf02f0a13a9a8bfd2192747b2"), looks := false }, kinds := [], alts := [], laidByText := true, laidKinds := [.data, .data], laidTests := true, laidLooks := .later }
def FnExactCountFromUptoCardSaid : Prop := Claim7.holds Tryd.pinned (.plain (OpenSpec.upto fnExactCountFromSpec)) fnExactCountFromUptoCard

/-- THE SECOND FORM's CARD OF 'laws.FnExactWordWith'. -/
def fnExactWordWithUptoCard : Claim7 := { stood := { row := fnExactWordWithUptoRow, standIns := [], harness := (true, "673af10540ae71c695518a5ef6a702a9d4afdfcaf02f0a13a9a8bfd2192747b2"), looks := false }, kinds := [], alts := [], laidByText := true, laidKinds := [.data, .data], laidTests := true, laidLooks := .later }
def FnExactWordWithUptoCardSaid : Prop := Claim7.holds Tryd.pinned (.plain (OpenSpec.upto fnExactWordWithSpec)) fnExactWordWithUptoCard

/-- THE SECOND FORM's CARD OF 'laws.FnExactRankWord'. -/
def fnExactRankWordUptoCard : Claim7 := { stood := { row := fnExactRankWordUptoRow, standIns := [], harness := (true, "673af10540ae71c695518a5ef6a702a9d4afdfcaf02f0a13a9a8bfd2192747b2"), looks := false }, kinds := [], alts := [], laidByText := true, laidKinds := [.data, .data], laidTests := true, laidLooks := .later }
def FnExactRankWordUptoCardSaid : Prop := Claim7.holds Tryd.pinned (.plain (OpenSpec.upto fnExactRankWordSpec)) fnExactRankWordUptoCard

/-- THE SECOND FORM's CARD OF 'laws.FnExactAllWords'. -/
def fnExactAllWordsUptoCard : Claim7 := { stood := { row := fnExactAllWordsUptoRow, standIns := [], harness := (true, "673af10540ae71c695518a5ef6a702a9d4afdfcaf02f0a13a9a8bfd2192747b2"), looks := false }, kinds := [], alts := [], laidByText := true, laidKinds := [.data, .data], laidTests := true, laidLooks := .later }
def FnExactAllWordsUptoCardSaid : Prop := Claim7.holds Tryd.pinned (.plain (OpenSpec.upto fnExactAllWordsSpec)) fnExactAllWordsUptoCard

/-- THE SECOND FORM's CARD OF 'laws.FnExactAreWordsOf'. -/
def fnExactAreWordsOfUptoCard : Claim7 := { stood := { row := fnExactAreWordsOfUptoRow, standIns := [], harness := (true, "673af10540ae71c695518a5ef6a702a9d4afdfcaf02f0a13a9a8bfd2192747b2"), looks := false }, kinds := [], alts := [], laidByText := true, laidKinds := [.data, .data], laidTests := true, laidLooks := .later }
def FnExactAreWordsOfUptoCardSaid : Prop := Claim7.holds Tryd.pinned (.plain (OpenSpec.upto fnExactAreWordsOfSpec)) fnExactAreWordsOfUptoCard

/-- THE SECOND FORM's CARD OF 'laws.FnExactCornersOf'. -/
def fnExactCornersOfUptoCard : Claim7 := { stood := { row := fnExactCornersOfUptoRow, standIns := [], harness := (true, "673af10540ae71c695518a5ef6a702a9d4afdfcaf02f0a13a9a8bfd2192747b2"), looks := false }, kinds := [], alts := [], laidByText := true, laidKinds := [.data, .data], laidTests := true, laidLooks := .later }
def FnExactCornersOfUptoCardSaid : Prop := Claim7.holds Tryd.pinned (.plain (OpenSpec.upto fnExactCornersOfSpec)) fnExactCornersOfUptoCard

/-- THE SECOND FORM's CARD OF 'laws.FnExactCoveredBy'. -/
def fnExactCoveredByUptoCard : Claim7 := { stood := { row := fnExactCoveredByUptoRow, standIns := [], harness := (true, "673af10540ae71c695518a5ef6a702a9d4afdfcaf02f0a13a9a8bfd2192747b2"), looks := false }, kinds := [], alts := [], laidByText := true, laidKinds := [.data, .data], laidTests := true, laidLooks := .later }
def FnExactCoveredByUptoCardSaid : Prop := Claim7.holds Tryd.pinned (.plain (OpenSpec.upto fnExactCoveredBySpec)) fnExactCoveredByUptoCard

/-- THE SECOND FORM's CARD OF 'laws.FnExactPointSpace'. -/
def fnExactPointSpaceUptoCard : Claim7 := { stood := { row := fnExactPointSpaceUptoRow, standIns := [], harness := (true, "673af10540ae71c695518a5ef6a702a9d4afdfcaf02f0a13a9a8bfd2192747b2"), looks := false }, kinds := [], alts := [], laidByText := true, laidKinds := [.data, .data], laidTests := true, laidLooks := .later }
def FnExactPointSpaceUptoCardSaid : Prop := Claim7.holds Tryd.pinned (.plain (OpenSpec.upto fnExactPointSpaceSpec)) fnExactPointSpaceUptoCard

/-- THE SECOND FORM's CARD OF 'laws.FnExactFreeTriples'. -/
def fnExactFreeTriplesUptoCard : Claim7 := { stood := { row := fnExactFreeTriplesUptoRow, standIns := [], harness := (true, "673af10540ae71c695518a5ef6a702a9d4afdfcaf02f0a13a9a8bfd2192747b2"), looks := false }, kinds := [], alts := [], laidByText := true, laidKinds := [.data, .data], laidTests := true, laidLooks := .later }
def FnExactFreeTriplesUptoCardSaid : Prop := Claim7.holds Tryd.pinned (.plain (OpenSpec.upto fnExactFreeTriplesSpec)) fnExactFreeTriplesUptoCard
end Rows
end Go.Proofs.YtknjiomagdfgfaaDoor
