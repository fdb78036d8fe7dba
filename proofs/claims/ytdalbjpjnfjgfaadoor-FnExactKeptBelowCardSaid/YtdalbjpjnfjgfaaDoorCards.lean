/-
  DERIVED. GIVEN WITH THE SEED: THE CARDS: each row of YtdalbjpjnfjgfaaDoorRows.lean that lists a variable, with what it lists TIED to the program's text (the seventh form; the later family's looks); each row that meets fmt, with fmt's text TOLD by the authors' own Lean function (tested against real Go, not proved from fmt's source: count such statements apart). THE CARD IS WHAT COUNTS. Prove the row's statement (the work); the ties are given (YtdalbjpjnfjgfaaDoorTie.lean); close each card by the builder's one call (the guide's Derived/Test/ToyasCard.lean, 'card_holds'). Laid BY PROGRAM, IN A SANDBOX (cutbox-door.mjs). By AI agents, Wed Nov 11 2026. No macro, syntax, notation, axiom, sorry.
-/
import Derived.Test.YtdalbjpjnfjgfaaDoorRows
import GoSem.ClaimSeven
namespace Go.Proofs.YtdalbjpjnfjgfaaDoor
namespace Rows

/-- THE TIED CARD OF 'laws.FnExactCountRuns'. -/
def fnExactCountRunsCard : Claim7 := { stood := { row := fnExactCountRunsRow, standIns := [], harness := (true, "33199b2800231981040acd3603a5478213444460b33e205d29994c56997424aa"), looks := false }, kinds := [], alts := [], laidByText := true, laidKinds := [.data, .data], laidTests := true, laidLooks := .later }
def FnExactCountRunsCardSaid : Prop := Claim7.holds Tryd.pinned (.plain (OpenSpec.ofChange fnExactCountRunsSpec)) fnExactCountRunsCard

/-- THE TIED CARD OF 'laws.FnExactSpaceOfRuns'. -/
def fnExactSpaceOfRunsCard : Claim7 := { stood := { row := fnExactSpaceOfRunsRow, standIns := [], harness := (true, "33199b2800231981040acd3603a5478213444460b33e205d29994c56997424aa"), looks := false }, kinds := [], alts := [], laidByText := true, laidKinds := [.data, .data], laidTests := true, laidLooks := .later }
def FnExactSpaceOfRunsCardSaid : Prop := Claim7.holds Tryd.pinned (.plain (OpenSpec.ofChange fnExactSpaceOfRunsSpec)) fnExactSpaceOfRunsCard

/-- THE TIED CARD OF 'laws.FnExactReachedBy'. -/
def fnExactReachedByCard : Claim7 := { stood := { row := fnExactReachedByRow, standIns := [], harness := (true, "33199b2800231981040acd3603a5478213444460b33e205d29994c56997424aa"), looks := false }, kinds := [], alts := [], laidByText := true, laidKinds := [.data, .data], laidTests := true, laidLooks := .later }
def FnExactReachedByCardSaid : Prop := Claim7.holds Tryd.pinned (.plain (OpenSpec.ofChange fnExactReachedBySpec)) fnExactReachedByCard

/-- THE TIED CARD OF 'laws.FnExactKeptBelow'. -/
def fnExactKeptBelowCard : Claim7 := { stood := { row := fnExactKeptBelowRow, standIns := [], harness := (true, "33199b2800231981040acd3603a5478213444460b33e205d29994c56997424aa"), looks := false }, kinds := [], alts := [], laidByText := true, laidKinds := [.data, .data], laidTests := true, laidLooks := .later }
def FnExactKeptBelowCardSaid : Prop := Claim7.holds Tryd.pinned (.plain (OpenSpec.ofChange fnExactKeptBelowSpec)) fnExactKeptBelowCard

/-- THE TIED CARD OF 'laws.FnExactRunBelow'. -/
def fnExactRunBelowCard : Claim7 := { stood := { row := fnExactRunBelowRow, standIns := [], harness := (true, "33199b2800231981040acd3603a5478213444460b33e205d29994c56997424aa"), looks := false }, kinds := [], alts := [], laidByText := true, laidKinds := [.data, .data], laidTests := true, laidLooks := .later }
def FnExactRunBelowCardSaid : Prop := Claim7.holds Tryd.pinned (.plain (OpenSpec.ofChange fnExactRunBelowSpec)) fnExactRunBelowCard

/-- THE TIED CARD OF 'laws.FnExactAskRun'. -/
def fnExactAskRunCard : Claim7 := { stood := { row := fnExactAskRunRow, standIns := [], harness := (true, "33199b2800231981040acd3603a5478213444460b33e205d29994c56997424aa"), looks := false }, kinds := [], alts := [], laidByText := true, laidKinds := [.data, .data], laidTests := true, laidLooks := .later }
def FnExactAskRunCardSaid : Prop := Claim7.holds Tryd.pinned (.plain (OpenSpec.ofChange fnExactAskRunSpec)) fnExactAskRunCard

/-- THE TIED CARD OF 'laws.FnExactWorstSet'. -/
def fnExactWorstSetCard : Claim7 := { stood := { row := fnExactWorstSetRow, standIns := [], harness := (true, "33199b2800231981040acd3603a5478213444460b33e205d29994c56997424aa"), looks := false }, kinds := [], alts := [], laidByText := true, laidKinds := [.data, .data], laidTests := true, laidLooks := .later }
def FnExactWorstSetCardSaid : Prop := Claim7.holds Tryd.pinned (.plain (OpenSpec.ofChange fnExactWorstSetSpec)) fnExactWorstSetCard

/-- THE SECOND FORM's CARD OF 'laws.FnExactCountRuns'. -/
def fnExactCountRunsUptoCard : Claim7 := { stood := { row := fnExactCountRunsUptoRow, standIns := [], harness := (true, "33199b2800231981040acd3603a5478213444460b33e205d29994c56997424aa"), looks := false }, kinds := [], alts := [], laidByText := true, laidKinds := [.data, .data], laidTests := true, laidLooks := .later }
def FnExactCountRunsUptoCardSaid : Prop := Claim7.holds Tryd.pinned (.plain (OpenSpec.upto fnExactCountRunsSpec)) fnExactCountRunsUptoCard

/-- THE SECOND FORM's CARD OF 'laws.FnExactSpaceOfRuns'. -/
def fnExactSpaceOfRunsUptoCard : Claim7 := { stood := { row := fnExactSpaceOfRunsUptoRow, standIns := [], harness := (true, "33199b2800231981040acd3603a5478213444460b33e205d29994c56997424aa"), looks := false }, kinds := [], alts := [], laidByText := true, laidKinds := [.data, .data], laidTests := true, laidLooks := .later }
def FnExactSpaceOfRunsUptoCardSaid : Prop := Claim7.holds Tryd.pinned (.plain (OpenSpec.upto fnExactSpaceOfRunsSpec)) fnExactSpaceOfRunsUptoCard

/-- THE SECOND FORM's CARD OF 'laws.FnExactReachedBy'. -/
def fnExactReachedByUptoCard : Claim7 := { stood := { row := fnExactReachedByUptoRow, standIns := [], harness := (true, "33199b2800231981040acd3603a5478213444460b33e205d29994c56997424aa"), looks := false }, kinds := [], alts := [], laidByText := true, laidKinds := [.data, .data], laidTests := true, laidLooks := .later }
def FnExactReachedByUptoCardSaid : Prop := Claim7.holds Tryd.pinned (.plain (OpenSpec.upto fnExactReachedBySpec)) fnExactReachedByUptoCard

/-- THE SECOND FORM's CARD OF 'laws.FnExactKeptBelow'. -/
def fnExactKeptBelowUptoCard : Claim7 := { stood := { row := fnExactKeptBelowUptoRow, standIns := [], harness := (true, "33199b2800231981040acd3603a5478213444460b33e205d29994c56997424aa"), looks := false }, kinds := [], alts := [], laidByText := true, laidKinds := [.data, .data], laidTests := true, laidLooks := .later }
def FnExactKeptBelowUptoCardSaid : Prop := Claim7.holds Tryd.pinned (.plain (OpenSpec.upto fnExactKeptBelowSpec)) fnExactKeptBelowUptoCard

/-- THE SECOND FORM's CARD OF 'laws.FnExactRunBelow'. -/
def fnExactRunBelowUptoCard : Claim7 := { stood := { row := fnExactRunBelowUptoRow, standIns := [], harness := (true, "33199b2800231981040acd3603a5478213444460b33e205d29994c56997424aa"), looks := false }, kinds := [], alts := [], laidByText := true, laidKinds := [.data, .data], laidTests := true, laidLooks := .later }
def FnExactRunBelowUptoCardSaid : Prop := Claim7.holds Tryd.pinned (.plain (OpenSpec.upto fnExactRunBelowSpec)) fnExactRunBelowUptoCard

/-- THE SECOND FORM's CARD OF 'laws.FnExactAskRun'. -/
def fnExactAskRunUptoCard : Claim7 := { stood := { row := fnExactAskRunUptoRow, standIns := [], harness := (true, "33199b2800231981040acd3603a5478213444460b33e205d29994c56997424aa"), looks := false }, kinds := [], alts := [], laidByText := true, laidKinds := [.data, .data], laidTests := true, laidLooks := .later }
def FnExactAskRunUptoCardSaid : Prop := Claim7.holds Tryd.pinned (.plain (OpenSpec.upto fnExactAskRunSpec)) fnExactAskRunUptoCard

/-- THE SECOND FORM's CARD OF 'laws.FnExactWorstSet'. -/
def fnExactWorstSetUptoCard : Claim7 := { stood := { row := fnExactWorstSetUptoRow, standIns := [], harness := (true, "33199b2800231981040acd3603a5478213444460b33e205d29994c56997424aa"), looks := false }, kinds := [], alts := [], laidByText := true, laidKinds := [.data, .data], laidTests := true, laidLooks := .later }
def FnExactWorstSetUptoCardSaid : Prop := Claim7.holds Tryd.pinned (.plain (OpenSpec.upto fnExactWorstSetSpec)) fnExactWorstSetUptoCard
end Rows
end Go.Proofs.YtdalbjpjnfjgfaaDoor
