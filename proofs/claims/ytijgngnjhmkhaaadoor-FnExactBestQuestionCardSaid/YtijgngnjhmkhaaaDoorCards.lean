/-
  DERIVED. GIVEN WITH THE SEED: THE CARDS: each row of YtijgngnjhmkhaaaDoorRows.lean that lists a variable, with what it lists TIED to the program's text (the seventh form; the later family's looks); each row that meets fmt, with fmt's text TOLD by the authors' own Lean function (tested against real Go, not proved from fmt's source: count such statements apart). THE CARD IS WHAT COUNTS. Prove the row's statement (the work); the ties are given (YtijgngnjhmkhaaaDoorTie.lean); close each card by the builder's one call (the guide's Derived/Test/ToyasCard.lean, 'card_holds'). Laid BY PROGRAM, IN A SANDBOX (cutbox-door.mjs). By AI agents, Wed Nov 11 2026. No macro, syntax, notation, axiom, sorry.
-/
import Derived.Test.YtijgngnjhmkhaaaDoorRows
import GoSem.ClaimSeven
namespace Go.Proofs.YtijgngnjhmkhaaaDoor
namespace Rows

/-- THE TIED CARD OF 'laws.FnExactHalfQuestion'. -/
def fnExactHalfQuestionCard : Claim7 := { stood := { row := fnExactHalfQuestionRow, standIns := [], harness := (true, "ce37762b2754e9eb1239c351e22afa5d6d5efb77b20288babe922a4545f54f0c"), looks := false }, kinds := [], alts := [], laidByText := true, laidKinds := [.data, .data], laidTests := true, laidLooks := .later }
def FnExactHalfQuestionCardSaid : Prop := Claim7.holds Tryd.pinned (.plain (OpenSpec.ofChange fnExactHalfQuestionSpec)) fnExactHalfQuestionCard

/-- THE TIED CARD OF 'laws.FnExactHalfRun'. -/
def fnExactHalfRunCard : Claim7 := { stood := { row := fnExactHalfRunRow, standIns := [], harness := (true, "ce37762b2754e9eb1239c351e22afa5d6d5efb77b20288babe922a4545f54f0c"), looks := false }, kinds := [], alts := [], laidByText := true, laidKinds := [.data, .data], laidTests := true, laidLooks := .later }
def FnExactHalfRunCardSaid : Prop := Claim7.holds Tryd.pinned (.plain (OpenSpec.ofChange fnExactHalfRunSpec)) fnExactHalfRunCard

/-- THE TIED CARD OF 'laws.FnExactHalfWorst'. -/
def fnExactHalfWorstCard : Claim7 := { stood := { row := fnExactHalfWorstRow, standIns := [], harness := (true, "ce37762b2754e9eb1239c351e22afa5d6d5efb77b20288babe922a4545f54f0c"), looks := false }, kinds := [], alts := [], laidByText := true, laidKinds := [.data, .data], laidTests := true, laidLooks := .later }
def FnExactHalfWorstCardSaid : Prop := Claim7.holds Tryd.pinned (.plain (OpenSpec.ofChange fnExactHalfWorstSpec)) fnExactHalfWorstCard

/-- THE TIED CARD OF 'laws.FnExactLeastWorst'. -/
def fnExactLeastWorstCard : Claim7 := { stood := { row := fnExactLeastWorstRow, standIns := [], harness := (true, "ce37762b2754e9eb1239c351e22afa5d6d5efb77b20288babe922a4545f54f0c"), looks := false }, kinds := [], alts := [], laidByText := true, laidKinds := [.data, .data], laidTests := true, laidLooks := .later }
def FnExactLeastWorstCardSaid : Prop := Claim7.holds Tryd.pinned (.plain (OpenSpec.ofChange fnExactLeastWorstSpec)) fnExactLeastWorstCard

/-- THE TIED CARD OF 'laws.FnExactBestQuestion'. -/
def fnExactBestQuestionCard : Claim7 := { stood := { row := fnExactBestQuestionRow, standIns := [], harness := (true, "ce37762b2754e9eb1239c351e22afa5d6d5efb77b20288babe922a4545f54f0c"), looks := false }, kinds := [], alts := [], laidByText := true, laidKinds := [.data, .data], laidTests := true, laidLooks := .later }
def FnExactBestQuestionCardSaid : Prop := Claim7.holds Tryd.pinned (.plain (OpenSpec.ofChange fnExactBestQuestionSpec)) fnExactBestQuestionCard

/-- THE TIED CARD OF 'laws.FnExactAskRun'. -/
def fnExactAskRunCard : Claim7 := { stood := { row := fnExactAskRunRow, standIns := [], harness := (true, "ce37762b2754e9eb1239c351e22afa5d6d5efb77b20288babe922a4545f54f0c"), looks := false }, kinds := [], alts := [], laidByText := true, laidKinds := [.data, .data], laidTests := true, laidLooks := .later }
def FnExactAskRunCardSaid : Prop := Claim7.holds Tryd.pinned (.plain (OpenSpec.ofChange fnExactAskRunSpec)) fnExactAskRunCard

/-- THE TIED CARD OF 'laws.FnExactWorstSet'. -/
def fnExactWorstSetCard : Claim7 := { stood := { row := fnExactWorstSetRow, standIns := [], harness := (true, "ce37762b2754e9eb1239c351e22afa5d6d5efb77b20288babe922a4545f54f0c"), looks := false }, kinds := [], alts := [], laidByText := true, laidKinds := [.data, .data], laidTests := true, laidLooks := .later }
def FnExactWorstSetCardSaid : Prop := Claim7.holds Tryd.pinned (.plain (OpenSpec.ofChange fnExactWorstSetSpec)) fnExactWorstSetCard

/-- THE TIED CARD OF 'laws.FnExactLeastTotal'. -/
def fnExactLeastTotalCard : Claim7 := { stood := { row := fnExactLeastTotalRow, standIns := [], harness := (true, "ce37762b2754e9eb1239c351e22afa5d6d5efb77b20288babe922a4545f54f0c"), looks := false }, kinds := [], alts := [], laidByText := true, laidKinds := [.data, .data], laidTests := true, laidLooks := .later }
def FnExactLeastTotalCardSaid : Prop := Claim7.holds Tryd.pinned (.plain (OpenSpec.ofChange fnExactLeastTotalSpec)) fnExactLeastTotalCard

/-- THE SECOND FORM's CARD OF 'laws.FnExactHalfQuestion'. -/
def fnExactHalfQuestionUptoCard : Claim7 := { stood := { row := fnExactHalfQuestionUptoRow, standIns := [], harness := (true, "ce37762b2754e9eb1239c351e22afa5d6d5efb77b20288babe922a4545f54f0c"), looks := false }, kinds := [], alts := [], laidByText := true, laidKinds := [.data, .data], laidTests := true, laidLooks := .later }
def FnExactHalfQuestionUptoCardSaid : Prop := Claim7.holds Tryd.pinned (.plain (OpenSpec.upto fnExactHalfQuestionSpec)) fnExactHalfQuestionUptoCard

/-- THE SECOND FORM's CARD OF 'laws.FnExactHalfRun'. -/
def fnExactHalfRunUptoCard : Claim7 := { stood := { row := fnExactHalfRunUptoRow, standIns := [], harness := (true, "ce37762b2754e9eb1239c351e22afa5d6d5efb77b20288babe922a4545f54f0c"), looks := false }, kinds := [], alts := [], laidByText := true, laidKinds := [.data, .data], laidTests := true, laidLooks := .later }
def FnExactHalfRunUptoCardSaid : Prop := Claim7.holds Tryd.pinned (.plain (OpenSpec.upto fnExactHalfRunSpec)) fnExactHalfRunUptoCard

/-- THE SECOND FORM's CARD OF 'laws.FnExactHalfWorst'. -/
def fnExactHalfWorstUptoCard : Claim7 := { stood := { row := fnExactHalfWorstUptoRow, standIns := [], harness := (true, "ce37762b2754e9eb1239c351e22afa5d6d5efb77b20288babe922a4545f54f0c"), looks := false }, kinds := [], alts := [], laidByText := true, laidKinds := [.data, .data], laidTests := true, laidLooks := .later }
def FnExactHalfWorstUptoCardSaid : Prop := Claim7.holds Tryd.pinned (.plain (OpenSpec.upto fnExactHalfWorstSpec)) fnExactHalfWorstUptoCard

/-- THE SECOND FORM's CARD OF 'laws.FnExactLeastWorst'. -/
def fnExactLeastWorstUptoCard : Claim7 := { stood := { row := fnExactLeastWorstUptoRow, standIns := [], harness := (true, "ce37762b2754e9eb1239c351e22afa5d6d5efb77b20288babe922a4545f54f0c"), looks := false }, kinds := [], alts := [], laidByText := true, laidKinds := [.data, .data], laidTests := true, laidLooks := .later }
def FnExactLeastWorstUptoCardSaid : Prop := Claim7.holds Tryd.pinned (.plain (OpenSpec.upto fnExactLeastWorstSpec)) fnExactLeastWorstUptoCard

/-- THE SECOND FORM's CARD OF 'laws.FnExactBestQuestion'. -/
def fnExactBestQuestionUptoCard : Claim7 := { stood := { row := fnExactBestQuestionUptoRow, standIns := [], harness := (true, "ce37762b2754e9eb1239c351e22afa5d6d5efb77b20288babe922a4545f54f0c"), looks := false }, kinds := [], alts := [], laidByText := true, laidKinds := [.data, .data], laidTests := true, laidLooks := .later }
def FnExactBestQuestionUptoCardSaid : Prop := Claim7.holds Tryd.pinned (.plain (OpenSpec.upto fnExactBestQuestionSpec)) fnExactBestQuestionUptoCard

/-- THE SECOND FORM's CARD OF 'laws.FnExactAskRun'. -/
def fnExactAskRunUptoCard : Claim7 := { stood := { row := fnExactAskRunUptoRow, standIns := [], harness := (true, "ce37762b2754e9eb1239c351e22afa5d6d5efb77b20288babe922a4545f54f0c"), looks := false }, kinds := [], alts := [], laidByText := true, laidKinds := [.data, .data], laidTests := true, laidLooks := .later }
def FnExactAskRunUptoCardSaid : Prop := Claim7.holds Tryd.pinned (.plain (OpenSpec.upto fnExactAskRunSpec)) fnExactAskRunUptoCard

/-- THE SECOND FORM's CARD OF 'laws.FnExactWorstSet'. -/
def fnExactWorstSetUptoCard : Claim7 := { stood := { row := fnExactWorstSetUptoRow, standIns := [], harness := (true, "ce37762b2754e9eb1239c351e22afa5d6d5efb77b20288babe922a4545f54f0c"), looks := false }, kinds := [], alts := [], laidByText := true, laidKinds := [.data, .data], laidTests := true, laidLooks := .later }
def FnExactWorstSetUptoCardSaid : Prop := Claim7.holds Tryd.pinned (.plain (OpenSpec.upto fnExactWorstSetSpec)) fnExactWorstSetUptoCard

/-- THE SECOND FORM's CARD OF 'laws.FnExactLeastTotal'. -/
def fnExactLeastTotalUptoCard : Claim7 := { stood := { row := fnExactLeastTotalUptoRow, standIns := [], harness := (true, "ce37762b2754e9eb1239c351e22afa5d6d5efb77b20288babe922a4545f54f0c"), looks := false }, kinds := [], alts := [], laidByText := true, laidKinds := [.data, .data], laidTests := true, laidLooks := .later }
def FnExactLeastTotalUptoCardSaid : Prop := Claim7.holds Tryd.pinned (.plain (OpenSpec.upto fnExactLeastTotalSpec)) fnExactLeastTotalUptoCard
end Rows
end Go.Proofs.YtijgngnjhmkhaaaDoor
