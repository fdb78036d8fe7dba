/-
  DERIVED. GIVEN WITH THE SEED: THE CARDS: each row of YtonimjpfaalniaaDoorRows.lean that lists a variable, with what it lists TIED to the program's text (the seventh form; the later family's looks); each row that meets fmt, with fmt's text TOLD by the authors' own Lean function (tested against real Go, not proved from fmt's source: count such statements apart). THE CARD IS WHAT COUNTS. Prove the row's statement (the work); the ties are given (YtonimjpfaalniaaDoorTie.lean); close each card by the builder's one call (the guide's Derived/Test/ToyasCard.lean, 'card_holds'). Laid BY PROGRAM, IN A SANDBOX (cutbox-door.mjs). By AI agents, Wed Nov 11 2026. No macro, syntax, notation, axiom, sorry.
-/
import Derived.Test.YtonimjpfaalniaaDoorRows
import GoSem.ClaimSeven
namespace Go.Proofs.YtonimjpfaalniaaDoor
namespace Rows

/-- THE TIED CARD OF 'laws.FnExactBestCostPlain'. -/
def fnExactBestCostPlainCard : Claim7 := { stood := { row := fnExactBestCostPlainRow, standIns := [], harness := (true, "edefa09dce4d71b32339f014e3faaf0041bc0188f8580ffb84e037c78bb0014c"), looks := false }, kinds := [], alts := [], laidByText := true, laidKinds := [.data, .data], laidTests := true, laidLooks := .later }
def FnExactBestCostPlainCardSaid : Prop := Claim7.holds Tryd.pinned (.plain (OpenSpec.ofChange fnExactBestCostPlainSpec)) fnExactBestCostPlainCard

/-- THE TIED CARD OF 'laws.FnExactCountBest'. -/
def fnExactCountBestCard : Claim7 := { stood := { row := fnExactCountBestRow, standIns := [], harness := (true, "edefa09dce4d71b32339f014e3faaf0041bc0188f8580ffb84e037c78bb0014c"), looks := false }, kinds := [], alts := [], laidByText := true, laidKinds := [.data, .data], laidTests := true, laidLooks := .later }
def FnExactCountBestCardSaid : Prop := Claim7.holds Tryd.pinned (.plain (OpenSpec.ofChange fnExactCountBestSpec)) fnExactCountBestCard

/-- THE TIED CARD OF 'laws.FnExactLateWord'. -/
def fnExactLateWordCard : Claim7 := { stood := { row := fnExactLateWordRow, standIns := [], harness := (true, "edefa09dce4d71b32339f014e3faaf0041bc0188f8580ffb84e037c78bb0014c"), looks := false }, kinds := [], alts := [], laidByText := true, laidKinds := [.data, .data], laidTests := true, laidLooks := .later }
def FnExactLateWordCardSaid : Prop := Claim7.holds Tryd.pinned (.plain (OpenSpec.ofChange fnExactLateWordSpec)) fnExactLateWordCard

/-- THE TIED CARD OF 'laws.FnExactWordThrough'. -/
def fnExactWordThroughCard : Claim7 := { stood := { row := fnExactWordThroughRow, standIns := [], harness := (true, "edefa09dce4d71b32339f014e3faaf0041bc0188f8580ffb84e037c78bb0014c"), looks := false }, kinds := [], alts := [], laidByText := true, laidKinds := [.data, .data], laidTests := true, laidLooks := .later }
def FnExactWordThroughCardSaid : Prop := Claim7.holds Tryd.pinned (.plain (OpenSpec.ofChange fnExactWordThroughSpec)) fnExactWordThroughCard

/-- THE TIED CARD OF 'laws.FnExactMakingWords'. -/
def fnExactMakingWordsCard : Claim7 := { stood := { row := fnExactMakingWordsRow, standIns := [], harness := (true, "edefa09dce4d71b32339f014e3faaf0041bc0188f8580ffb84e037c78bb0014c"), looks := false }, kinds := [], alts := [], laidByText := true, laidKinds := [.data, .data], laidTests := true, laidLooks := .later }
def FnExactMakingWordsCardSaid : Prop := Claim7.holds Tryd.pinned (.plain (OpenSpec.ofChange fnExactMakingWordsSpec)) fnExactMakingWordsCard

/-- THE TIED CARD OF 'laws.FnExactMeetOfSpaces'. -/
def fnExactMeetOfSpacesCard : Claim7 := { stood := { row := fnExactMeetOfSpacesRow, standIns := [], harness := (true, "edefa09dce4d71b32339f014e3faaf0041bc0188f8580ffb84e037c78bb0014c"), looks := false }, kinds := [], alts := [], laidByText := true, laidKinds := [.data, .data], laidTests := true, laidLooks := .later }
def FnExactMeetOfSpacesCardSaid : Prop := Claim7.holds Tryd.pinned (.plain (OpenSpec.ofChange fnExactMeetOfSpacesSpec)) fnExactMeetOfSpacesCard

/-- THE TIED CARD OF 'laws.FnExactSpaceOfClauses'. -/
def fnExactSpaceOfClausesCard : Claim7 := { stood := { row := fnExactSpaceOfClausesRow, standIns := [], harness := (true, "edefa09dce4d71b32339f014e3faaf0041bc0188f8580ffb84e037c78bb0014c"), looks := false }, kinds := [], alts := [], laidByText := true, laidKinds := [.data, .data], laidTests := true, laidLooks := .later }
def FnExactSpaceOfClausesCardSaid : Prop := Claim7.holds Tryd.pinned (.plain (OpenSpec.ofChange fnExactSpaceOfClausesSpec)) fnExactSpaceOfClausesCard

/-- THE TIED CARD OF 'laws.FnExactTreeSpace'. -/
def fnExactTreeSpaceCard : Claim7 := { stood := { row := fnExactTreeSpaceRow, standIns := [], harness := (true, "edefa09dce4d71b32339f014e3faaf0041bc0188f8580ffb84e037c78bb0014c"), looks := false }, kinds := [], alts := [], laidByText := true, laidKinds := [.data, .data], laidTests := true, laidLooks := .later }
def FnExactTreeSpaceCardSaid : Prop := Claim7.holds Tryd.pinned (.plain (OpenSpec.ofChange fnExactTreeSpaceSpec)) fnExactTreeSpaceCard

/-- THE TIED CARD OF 'laws.FnExactWayBetween'. -/
def fnExactWayBetweenCard : Claim7 := { stood := { row := fnExactWayBetweenRow, standIns := [], harness := (true, "edefa09dce4d71b32339f014e3faaf0041bc0188f8580ffb84e037c78bb0014c"), looks := false }, kinds := [], alts := [], laidByText := true, laidKinds := [.data, .data], laidTests := true, laidLooks := .later }
def FnExactWayBetweenCardSaid : Prop := Claim7.holds Tryd.pinned (.plain (OpenSpec.ofChange fnExactWayBetweenSpec)) fnExactWayBetweenCard

/-- THE TIED CARD OF 'laws.FnExactEliminationOf'. -/
def fnExactEliminationOfCard : Claim7 := { stood := { row := fnExactEliminationOfRow, standIns := [], harness := (true, "edefa09dce4d71b32339f014e3faaf0041bc0188f8580ffb84e037c78bb0014c"), looks := false }, kinds := [], alts := [], laidByText := true, laidKinds := [.data, .data], laidTests := true, laidLooks := .later }
def FnExactEliminationOfCardSaid : Prop := Claim7.holds Tryd.pinned (.plain (OpenSpec.ofChange fnExactEliminationOfSpec)) fnExactEliminationOfCard

/-- THE TIED CARD OF 'laws.FnExactChordalSpace'. -/
def fnExactChordalSpaceCard : Claim7 := { stood := { row := fnExactChordalSpaceRow, standIns := [], harness := (true, "edefa09dce4d71b32339f014e3faaf0041bc0188f8580ffb84e037c78bb0014c"), looks := false }, kinds := [], alts := [], laidByText := true, laidKinds := [.data, .data], laidTests := true, laidLooks := .later }
def FnExactChordalSpaceCardSaid : Prop := Claim7.holds Tryd.pinned (.plain (OpenSpec.ofChange fnExactChordalSpaceSpec)) fnExactChordalSpaceCard

/-- THE TIED CARD OF 'laws.FnExactPointSpace'. -/
def fnExactPointSpaceCard : Claim7 := { stood := { row := fnExactPointSpaceRow, standIns := [], harness := (true, "edefa09dce4d71b32339f014e3faaf0041bc0188f8580ffb84e037c78bb0014c"), looks := false }, kinds := [], alts := [], laidByText := true, laidKinds := [.data, .data], laidTests := true, laidLooks := .later }
def FnExactPointSpaceCardSaid : Prop := Claim7.holds Tryd.pinned (.plain (OpenSpec.ofChange fnExactPointSpaceSpec)) fnExactPointSpaceCard

/-- THE SECOND FORM's CARD OF 'laws.FnExactBestCostPlain'. -/
def fnExactBestCostPlainUptoCard : Claim7 := { stood := { row := fnExactBestCostPlainUptoRow, standIns := [], harness := (true, "edefa09dce4d71b32339f014e3faaf0041bc0188f8580ffb84e037c78bb0014c"), looks := false }, kinds := [], alts := [], laidByText := true, laidKinds := [.data, .data], laidTests := true, laidLooks := .later }
def FnExactBestCostPlainUptoCardSaid : Prop := Claim7.holds Tryd.pinned (.plain (OpenSpec.upto fnExactBestCostPlainSpec)) fnExactBestCostPlainUptoCard

/-- THE SECOND FORM's CARD OF 'laws.FnExactCountBest'. -/
def fnExactCountBestUptoCard : Claim7 := { stood := { row := fnExactCountBestUptoRow, standIns := [], harness := (true, "edefa09dce4d71b32339f014e3faaf0041bc0188f8580ffb84e037c78bb0014c"), looks := false }, kinds := [], alts := [], laidByText := true, laidKinds := [.data, .data], laidTests := true, laidLooks := .later }
def FnExactCountBestUptoCardSaid : Prop := Claim7.holds Tryd.pinned (.plain (OpenSpec.upto fnExactCountBestSpec)) fnExactCountBestUptoCard

/-- THE SECOND FORM's CARD OF 'laws.FnExactLateWord'. -/
def fnExactLateWordUptoCard : Claim7 := { stood := { row := fnExactLateWordUptoRow, standIns := [], harness := (true, "edefa09dce4d71b32339f014e3faaf0041bc0188f8580ffb84e037c78bb0014c"), looks := false }, kinds := [], alts := [], laidByText := true, laidKinds := [.data, .data], laidTests := true, laidLooks := .later }
def FnExactLateWordUptoCardSaid : Prop := Claim7.holds Tryd.pinned (.plain (OpenSpec.upto fnExactLateWordSpec)) fnExactLateWordUptoCard

/-- THE SECOND FORM's CARD OF 'laws.FnExactWordThrough'. -/
def fnExactWordThroughUptoCard : Claim7 := { stood := { row := fnExactWordThroughUptoRow, standIns := [], harness := (true, "edefa09dce4d71b32339f014e3faaf0041bc0188f8580ffb84e037c78bb0014c"), looks := false }, kinds := [], alts := [], laidByText := true, laidKinds := [.data, .data], laidTests := true, laidLooks := .later }
def FnExactWordThroughUptoCardSaid : Prop := Claim7.holds Tryd.pinned (.plain (OpenSpec.upto fnExactWordThroughSpec)) fnExactWordThroughUptoCard

/-- THE SECOND FORM's CARD OF 'laws.FnExactMakingWords'. -/
def fnExactMakingWordsUptoCard : Claim7 := { stood := { row := fnExactMakingWordsUptoRow, standIns := [], harness := (true, "edefa09dce4d71b32339f014e3faaf0041bc0188f8580ffb84e037c78bb0014c"), looks := false }, kinds := [], alts := [], laidByText := true, laidKinds := [.data, .data], laidTests := true, laidLooks := .later }
def FnExactMakingWordsUptoCardSaid : Prop := Claim7.holds Tryd.pinned (.plain (OpenSpec.upto fnExactMakingWordsSpec)) fnExactMakingWordsUptoCard

/-- THE SECOND FORM's CARD OF 'laws.FnExactMeetOfSpaces'. -/
def fnExactMeetOfSpacesUptoCard : Claim7 := { stood := { row := fnExactMeetOfSpacesUptoRow, standIns := [], harness := (true, "edefa09dce4d71b32339f014e3faaf0041bc0188f8580ffb84e037c78bb0014c"), looks := false }, kinds := [], alts := [], laidByText := true, laidKinds := [.data, .data], laidTests := true, laidLooks := .later }
def FnExactMeetOfSpacesUptoCardSaid : Prop := Claim7.holds Tryd.pinned (.plain (OpenSpec.upto fnExactMeetOfSpacesSpec)) fnExactMeetOfSpacesUptoCard

/-- THE SECOND FORM's CARD OF 'laws.FnExactSpaceOfClauses'. -/
def fnExactSpaceOfClausesUptoCard : Claim7 := { stood := { row := fnExactSpaceOfClausesUptoRow, standIns := [], harness := (true, "edefa09dce4d71b32339f014e3faaf0041bc0188f8580ffb84e037c78bb0014c"), looks := false }, kinds := [], alts := [], laidByText := true, laidKinds := [.data, .data], laidTests := true, laidLooks := .later }
def FnExactSpaceOfClausesUptoCardSaid : Prop := Claim7.holds Tryd.pinned (.plain (OpenSpec.upto fnExactSpaceOfClausesSpec)) fnExactSpaceOfClausesUptoCard

/-- THE SECOND FORM's CARD OF 'laws.FnExactTreeSpace'. -/
def fnExactTreeSpaceUptoCard : Claim7 := { stood := { row := fnExactTreeSpaceUptoRow, standIns := [], harness := (true, "edefa09dce4d71b32339f014e3faaf0041bc0188f8580ffb84e037c78bb0014c"), looks := false }, kinds := [], alts := [], laidByText := true, laidKinds := [.data, .data], laidTests := true, laidLooks := .later }
def FnExactTreeSpaceUptoCardSaid : Prop := Claim7.holds Tryd.pinned (.plain (OpenSpec.upto fnExactTreeSpaceSpec)) fnExactTreeSpaceUptoCard

/-- THE SECOND FORM's CARD OF 'laws.FnExactWayBetween'. -/
def fnExactWayBetweenUptoCard : Claim7 := { stood := { row := fnExactWayBetweenUptoRow, standIns := [], harness := (true, "edefa09dce4d71b32339f014e3faaf0041bc0188f8580ffb84e037c78bb0014c"), looks := false }, kinds := [], alts := [], laidByText := true, laidKinds := [.data, .data], laidTests := true, laidLooks := .later }
def FnExactWayBetweenUptoCardSaid : Prop := Claim7.holds Tryd.pinned (.plain (OpenSpec.upto fnExactWayBetweenSpec)) fnExactWayBetweenUptoCard

/-- THE SECOND FORM's CARD OF 'laws.FnExactEliminationOf'. -/
def fnExactEliminationOfUptoCard : Claim7 := { stood := { row := fnExactEliminationOfUptoRow, standIns := [], harness := (true, "edefa09dce4d71b32339f014e3faaf0041bc0188f8580ffb84e037c78bb0014c"), looks := false }, kinds := [], alts := [], laidByText := true, laidKinds := [.data, .data], laidTests := true, laidLooks := .later }
def FnExactEliminationOfUptoCardSaid : Prop := Claim7.holds Tryd.pinned (.plain (OpenSpec.upto fnExactEliminationOfSpec)) fnExactEliminationOfUptoCard

/-- THE SECOND FORM's CARD OF 'laws.FnExactChordalSpace'. -/
def fnExactChordalSpaceUptoCard : Claim7 := { stood := { row := fnExactChordalSpaceUptoRow, standIns := [], harness := (true, "edefa09dce4d71b32339f014e3faaf0041bc0188f8580ffb84e037c78bb0014c"), looks := false }, kinds := [], alts := [], laidByText := true, laidKinds := [.data, .data], laidTests := true, laidLooks := .later }
def FnExactChordalSpaceUptoCardSaid : Prop := Claim7.holds Tryd.pinned (.plain (OpenSpec.upto fnExactChordalSpaceSpec)) fnExactChordalSpaceUptoCard

/-- THE SECOND FORM's CARD OF 'laws.FnExactPointSpace'. -/
def fnExactPointSpaceUptoCard : Claim7 := { stood := { row := fnExactPointSpaceUptoRow, standIns := [], harness := (true, "edefa09dce4d71b32339f014e3faaf0041bc0188f8580ffb84e037c78bb0014c"), looks := false }, kinds := [], alts := [], laidByText := true, laidKinds := [.data, .data], laidTests := true, laidLooks := .later }
def FnExactPointSpaceUptoCardSaid : Prop := Claim7.holds Tryd.pinned (.plain (OpenSpec.upto fnExactPointSpaceSpec)) fnExactPointSpaceUptoCard
end Rows
end Go.Proofs.YtonimjpfaalniaaDoor
