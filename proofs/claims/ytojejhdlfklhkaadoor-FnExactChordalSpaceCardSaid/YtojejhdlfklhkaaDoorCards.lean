/-
  DERIVED. GIVEN WITH THE SEED: THE CARDS: each row of YtojejhdlfklhkaaDoorRows.lean that lists a variable, with what it lists TIED to the program's text (the seventh form; the later family's looks); each row that meets fmt, with fmt's text TOLD by the authors' own Lean function (tested against real Go, not proved from fmt's source: count such statements apart). THE CARD IS WHAT COUNTS. Prove the row's statement (the work); the ties are given (YtojejhdlfklhkaaDoorTie.lean); close each card by the builder's one call (the guide's Derived/Test/ToyasCard.lean, 'card_holds'). Laid BY PROGRAM, IN A SANDBOX (cutbox-door.mjs). By AI agents, Wed Nov 11 2026. No macro, syntax, notation, axiom, sorry.
-/
import Derived.Test.YtojejhdlfklhkaaDoorRows
import GoSem.ClaimSeven
namespace Go.Proofs.YtojejhdlfklhkaaDoor
namespace Rows

/-- THE TIED CARD OF 'laws.FnExactIsNet'. -/
def fnExactIsNetCard : Claim7 := { stood := { row := fnExactIsNetRow, standIns := [], harness := (true, "650013d76793df0b2ce692acbf62a641f5c16a718be84957ed75c78a295ec758"), looks := false }, kinds := [], alts := [], laidByText := true, laidKinds := [.data, .data], laidTests := true, laidLooks := .later }
def FnExactIsNetCardSaid : Prop := Claim7.holds Tryd.pinned (.plain (OpenSpec.ofChange fnExactIsNetSpec)) fnExactIsNetCard

/-- THE TIED CARD OF 'laws.FnExactIsTree'. -/
def fnExactIsTreeCard : Claim7 := { stood := { row := fnExactIsTreeRow, standIns := [], harness := (true, "650013d76793df0b2ce692acbf62a641f5c16a718be84957ed75c78a295ec758"), looks := false }, kinds := [], alts := [], laidByText := true, laidKinds := [.data, .data], laidTests := true, laidLooks := .later }
def FnExactIsTreeCardSaid : Prop := Claim7.holds Tryd.pinned (.plain (OpenSpec.ofChange fnExactIsTreeSpec)) fnExactIsTreeCard

/-- THE TIED CARD OF 'laws.FnExactTreeSpace'. -/
def fnExactTreeSpaceCard : Claim7 := { stood := { row := fnExactTreeSpaceRow, standIns := [], harness := (true, "650013d76793df0b2ce692acbf62a641f5c16a718be84957ed75c78a295ec758"), looks := false }, kinds := [], alts := [], laidByText := true, laidKinds := [.data, .data], laidTests := true, laidLooks := .later }
def FnExactTreeSpaceCardSaid : Prop := Claim7.holds Tryd.pinned (.plain (OpenSpec.ofChange fnExactTreeSpaceSpec)) fnExactTreeSpaceCard

/-- THE TIED CARD OF 'laws.FnExactWayBetween'. -/
def fnExactWayBetweenCard : Claim7 := { stood := { row := fnExactWayBetweenRow, standIns := [], harness := (true, "650013d76793df0b2ce692acbf62a641f5c16a718be84957ed75c78a295ec758"), looks := false }, kinds := [], alts := [], laidByText := true, laidKinds := [.data, .data], laidTests := true, laidLooks := .later }
def FnExactWayBetweenCardSaid : Prop := Claim7.holds Tryd.pinned (.plain (OpenSpec.ofChange fnExactWayBetweenSpec)) fnExactWayBetweenCard

/-- THE TIED CARD OF 'laws.FnExactSimplicialOf'. -/
def fnExactSimplicialOfCard : Claim7 := { stood := { row := fnExactSimplicialOfRow, standIns := [], harness := (true, "650013d76793df0b2ce692acbf62a641f5c16a718be84957ed75c78a295ec758"), looks := false }, kinds := [], alts := [], laidByText := true, laidKinds := [.data, .data], laidTests := true, laidLooks := .later }
def FnExactSimplicialOfCardSaid : Prop := Claim7.holds Tryd.pinned (.plain (OpenSpec.ofChange fnExactSimplicialOfSpec)) fnExactSimplicialOfCard

/-- THE TIED CARD OF 'laws.FnExactIsElimination'. -/
def fnExactIsEliminationCard : Claim7 := { stood := { row := fnExactIsEliminationRow, standIns := [], harness := (true, "650013d76793df0b2ce692acbf62a641f5c16a718be84957ed75c78a295ec758"), looks := false }, kinds := [], alts := [], laidByText := true, laidKinds := [.data, .data], laidTests := true, laidLooks := .later }
def FnExactIsEliminationCardSaid : Prop := Claim7.holds Tryd.pinned (.plain (OpenSpec.ofChange fnExactIsEliminationSpec)) fnExactIsEliminationCard

/-- THE TIED CARD OF 'laws.FnExactEliminationOf'. -/
def fnExactEliminationOfCard : Claim7 := { stood := { row := fnExactEliminationOfRow, standIns := [], harness := (true, "650013d76793df0b2ce692acbf62a641f5c16a718be84957ed75c78a295ec758"), looks := false }, kinds := [], alts := [], laidByText := true, laidKinds := [.data, .data], laidTests := true, laidLooks := .later }
def FnExactEliminationOfCardSaid : Prop := Claim7.holds Tryd.pinned (.plain (OpenSpec.ofChange fnExactEliminationOfSpec)) fnExactEliminationOfCard

/-- THE TIED CARD OF 'laws.FnExactChordalSpace'. -/
def fnExactChordalSpaceCard : Claim7 := { stood := { row := fnExactChordalSpaceRow, standIns := [], harness := (true, "650013d76793df0b2ce692acbf62a641f5c16a718be84957ed75c78a295ec758"), looks := false }, kinds := [], alts := [], laidByText := true, laidKinds := [.data, .data], laidTests := true, laidLooks := .later }
def FnExactChordalSpaceCardSaid : Prop := Claim7.holds Tryd.pinned (.plain (OpenSpec.ofChange fnExactChordalSpaceSpec)) fnExactChordalSpaceCard

/-- THE TIED CARD OF 'laws.FnExactCornersOf'. -/
def fnExactCornersOfCard : Claim7 := { stood := { row := fnExactCornersOfRow, standIns := [], harness := (true, "650013d76793df0b2ce692acbf62a641f5c16a718be84957ed75c78a295ec758"), looks := false }, kinds := [], alts := [], laidByText := true, laidKinds := [.data, .data], laidTests := true, laidLooks := .later }
def FnExactCornersOfCardSaid : Prop := Claim7.holds Tryd.pinned (.plain (OpenSpec.ofChange fnExactCornersOfSpec)) fnExactCornersOfCard

/-- THE TIED CARD OF 'laws.FnExactCoveredBy'. -/
def fnExactCoveredByCard : Claim7 := { stood := { row := fnExactCoveredByRow, standIns := [], harness := (true, "650013d76793df0b2ce692acbf62a641f5c16a718be84957ed75c78a295ec758"), looks := false }, kinds := [], alts := [], laidByText := true, laidKinds := [.data, .data], laidTests := true, laidLooks := .later }
def FnExactCoveredByCardSaid : Prop := Claim7.holds Tryd.pinned (.plain (OpenSpec.ofChange fnExactCoveredBySpec)) fnExactCoveredByCard

/-- THE TIED CARD OF 'laws.FnExactPointSpace'. -/
def fnExactPointSpaceCard : Claim7 := { stood := { row := fnExactPointSpaceRow, standIns := [], harness := (true, "650013d76793df0b2ce692acbf62a641f5c16a718be84957ed75c78a295ec758"), looks := false }, kinds := [], alts := [], laidByText := true, laidKinds := [.data, .data], laidTests := true, laidLooks := .later }
def FnExactPointSpaceCardSaid : Prop := Claim7.holds Tryd.pinned (.plain (OpenSpec.ofChange fnExactPointSpaceSpec)) fnExactPointSpaceCard

/-- THE TIED CARD OF 'laws.FnExactFreeTriples'. -/
def fnExactFreeTriplesCard : Claim7 := { stood := { row := fnExactFreeTriplesRow, standIns := [], harness := (true, "650013d76793df0b2ce692acbf62a641f5c16a718be84957ed75c78a295ec758"), looks := false }, kinds := [], alts := [], laidByText := true, laidKinds := [.data, .data], laidTests := true, laidLooks := .later }
def FnExactFreeTriplesCardSaid : Prop := Claim7.holds Tryd.pinned (.plain (OpenSpec.ofChange fnExactFreeTriplesSpec)) fnExactFreeTriplesCard

/-- THE SECOND FORM's CARD OF 'laws.FnExactIsNet'. -/
def fnExactIsNetUptoCard : Claim7 := { stood := { row := fnExactIsNetUptoRow, standIns := [], harness := (true, "650013d76793df0b2ce692acbf62a641f5c16a718be84957ed75c78a295ec758"), looks := false }, kinds := [], alts := [], laidByText := true, laidKinds := [.data, .data], laidTests := true, laidLooks := .later }
def FnExactIsNetUptoCardSaid : Prop := Claim7.holds Tryd.pinned (.plain (OpenSpec.upto fnExactIsNetSpec)) fnExactIsNetUptoCard

/-- THE SECOND FORM's CARD OF 'laws.FnExactIsTree'. -/
def fnExactIsTreeUptoCard : Claim7 := { stood := { row := fnExactIsTreeUptoRow, standIns := [], harness := (true, "650013d76793df0b2ce692acbf62a641f5c16a718be84957ed75c78a295ec758"), looks := false }, kinds := [], alts := [], laidByText := true, laidKinds := [.data, .data], laidTests := true, laidLooks := .later }
def FnExactIsTreeUptoCardSaid : Prop := Claim7.holds Tryd.pinned (.plain (OpenSpec.upto fnExactIsTreeSpec)) fnExactIsTreeUptoCard

/-- THE SECOND FORM's CARD OF 'laws.FnExactTreeSpace'. -/
def fnExactTreeSpaceUptoCard : Claim7 := { stood := { row := fnExactTreeSpaceUptoRow, standIns := [], harness := (true, "650013d76793df0b2ce692acbf62a641f5c16a718be84957ed75c78a295ec758"), looks := false }, kinds := [], alts := [], laidByText := true, laidKinds := [.data, .data], laidTests := true, laidLooks := .later }
def FnExactTreeSpaceUptoCardSaid : Prop := Claim7.holds Tryd.pinned (.plain (OpenSpec.upto fnExactTreeSpaceSpec)) fnExactTreeSpaceUptoCard

/-- THE SECOND FORM's CARD OF 'laws.FnExactWayBetween'. -/
def fnExactWayBetweenUptoCard : Claim7 := { stood := { row := fnExactWayBetweenUptoRow, standIns := [], harness := (true, "650013d76793df0b2ce692acbf62a641f5c16a718be84957ed75c78a295ec758"), looks := false }, kinds := [], alts := [], laidByText := true, laidKinds := [.data, .data], laidTests := true, laidLooks := .later }
def FnExactWayBetweenUptoCardSaid : Prop := Claim7.holds Tryd.pinned (.plain (OpenSpec.upto fnExactWayBetweenSpec)) fnExactWayBetweenUptoCard

/-- THE SECOND FORM's CARD OF 'laws.FnExactSimplicialOf'. -/
def fnExactSimplicialOfUptoCard : Claim7 := { stood := { row := fnExactSimplicialOfUptoRow, standIns := [], harness := (true, "650013d76793df0b2ce692acbf62a641f5c16a718be84957ed75c78a295ec758"), looks := false }, kinds := [], alts := [], laidByText := true, laidKinds := [.data, .data], laidTests := true, laidLooks := .later }
def FnExactSimplicialOfUptoCardSaid : Prop := Claim7.holds Tryd.pinned (.plain (OpenSpec.upto fnExactSimplicialOfSpec)) fnExactSimplicialOfUptoCard

/-- THE SECOND FORM's CARD OF 'laws.FnExactIsElimination'. -/
def fnExactIsEliminationUptoCard : Claim7 := { stood := { row := fnExactIsEliminationUptoRow, standIns := [], harness := (true, "650013d76793df0b2ce692acbf62a641f5c16a718be84957ed75c78a295ec758"), looks := false }, kinds := [], alts := [], laidByText := true, laidKinds := [.data, .data], laidTests := true, laidLooks := .later }
def FnExactIsEliminationUptoCardSaid : Prop := Claim7.holds Tryd.pinned (.plain (OpenSpec.upto fnExactIsEliminationSpec)) fnExactIsEliminationUptoCard

/-- THE SECOND FORM's CARD OF 'laws.FnExactEliminationOf'. -/
def fnExactEliminationOfUptoCard : Claim7 := { stood := { row := fnExactEliminationOfUptoRow, standIns := [], harness := (true, "650013d76793df0b2ce692acbf62a641f5c16a718be84957ed75c78a295ec758"), looks := false }, kinds := [], alts := [], laidByText := true, laidKinds := [.data, .data], laidTests := true, laidLooks := .later }
def FnExactEliminationOfUptoCardSaid : Prop := Claim7.holds Tryd.pinned (.plain (OpenSpec.upto fnExactEliminationOfSpec)) fnExactEliminationOfUptoCard

/-- THE SECOND FORM's CARD OF 'laws.FnExactChordalSpace'. -/
def fnExactChordalSpaceUptoCard : Claim7 := { stood := { row := fnExactChordalSpaceUptoRow, standIns := [], harness := (true, "650013d76793df0b2ce692acbf62a641f5c16a718be84957ed75c78a295ec758"), looks := false }, kinds := [], alts := [], laidByText := true, laidKinds := [.data, .data], laidTests := true, laidLooks := .later }
def FnExactChordalSpaceUptoCardSaid : Prop := Claim7.holds Tryd.pinned (.plain (OpenSpec.upto fnExactChordalSpaceSpec)) fnExactChordalSpaceUptoCard

/-- THE SECOND FORM's CARD OF 'laws.FnExactCornersOf'. -/
def fnExactCornersOfUptoCard : Claim7 := { stood := { row := fnExactCornersOfUptoRow, standIns := [], harness := (true, "650013d76793df0b2ce692acbf62a641f5c16a718be84957ed75c78a295ec758"), looks := false }, kinds := [], alts := [], laidByText := true, laidKinds := [.data, .data], laidTests := true, laidLooks := .later }
def FnExactCornersOfUptoCardSaid : Prop := Claim7.holds Tryd.pinned (.plain (OpenSpec.upto fnExactCornersOfSpec)) fnExactCornersOfUptoCard

/-- THE SECOND FORM's CARD OF 'laws.FnExactCoveredBy'. -/
def fnExactCoveredByUptoCard : Claim7 := { stood := { row := fnExactCoveredByUptoRow, standIns := [], harness := (true, "650013d76793df0b2ce692acbf62a641f5c16a718be84957ed75c78a295ec758"), looks := false }, kinds := [], alts := [], laidByText := true, laidKinds := [.data, .data], laidTests := true, laidLooks := .later }
def FnExactCoveredByUptoCardSaid : Prop := Claim7.holds Tryd.pinned (.plain (OpenSpec.upto fnExactCoveredBySpec)) fnExactCoveredByUptoCard

/-- THE SECOND FORM's CARD OF 'laws.FnExactPointSpace'. -/
def fnExactPointSpaceUptoCard : Claim7 := { stood := { row := fnExactPointSpaceUptoRow, standIns := [], harness := (true, "650013d76793df0b2ce692acbf62a641f5c16a718be84957ed75c78a295ec758"), looks := false }, kinds := [], alts := [], laidByText := true, laidKinds := [.data, .data], laidTests := true, laidLooks := .later }
def FnExactPointSpaceUptoCardSaid : Prop := Claim7.holds Tryd.pinned (.plain (OpenSpec.upto fnExactPointSpaceSpec)) fnExactPointSpaceUptoCard

/-- THE SECOND FORM's CARD OF 'laws.FnExactFreeTriples'. -/
def fnExactFreeTriplesUptoCard : Claim7 := { stood := { row := fnExactFreeTriplesUptoRow, standIns := [], harness := (true, "650013d76793df0b2ce692acbf62a641f5c16a718be84957ed75c78a295ec758"), looks := false }, kinds := [], alts := [], laidByText := true, laidKinds := [.data, .data], laidTests := true, laidLooks := .later }
def FnExactFreeTriplesUptoCardSaid : Prop := Claim7.holds Tryd.pinned (.plain (OpenSpec.upto fnExactFreeTriplesSpec)) fnExactFreeTriplesUptoCard
end Rows
end Go.Proofs.YtojejhdlfklhkaaDoor
