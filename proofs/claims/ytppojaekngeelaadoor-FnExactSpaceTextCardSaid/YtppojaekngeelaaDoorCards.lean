/-
  DERIVED. GIVEN WITH THE SEED: THE CARDS: each row of YtppojaekngeelaaDoorRows.lean that lists a variable, with what it lists TIED to the program's text (the seventh form; the later family's looks); each row that meets fmt, with fmt's text TOLD by the authors' own Lean function (tested against real Go, not proved from fmt's source: count such statements apart). THE CARD IS WHAT COUNTS. Prove the row's statement (the work); the ties are given (YtppojaekngeelaaDoorTie.lean); close each card by the builder's one call (the guide's Derived/Test/ToyasCard.lean, 'card_holds'). Laid BY PROGRAM, IN A SANDBOX (cutbox-door.mjs). By AI agents, Wed Nov 11 2026. No macro, syntax, notation, axiom, sorry.
-/
import Derived.Test.YtppojaekngeelaaDoorRows
import GoSem.ClaimSeven
namespace Go.Proofs.YtppojaekngeelaaDoor
namespace Rows

/-- THE TIED CARD OF 'laws.FnExactSpaceText'. -/
def fnExactSpaceTextCard : Claim7 := { stood := { row := fnExactSpaceTextRow, standIns := [], harness := (true, "e30056312730b366c11a9181307f9f458dab2357f1d1961960fad043c8da3102"), looks := false }, kinds := [], alts := [], laidByText := true, laidKinds := [.data, .data, .data], laidTests := true, laidLooks := .later }
def FnExactSpaceTextCardSaid : Prop := Claim7.holds Tryd.pinned (.plain (OpenSpec.ofChange fnExactSpaceTextSpec)) fnExactSpaceTextCard

/-- THE TIED CARD OF 'laws.FnExactAskRun'. -/
def fnExactAskRunCard : Claim7 := { stood := { row := fnExactAskRunRow, standIns := [], harness := (true, "e30056312730b366c11a9181307f9f458dab2357f1d1961960fad043c8da3102"), looks := false }, kinds := [], alts := [], laidByText := true, laidKinds := [.data, .data], laidTests := true, laidLooks := .later }
def FnExactAskRunCardSaid : Prop := Claim7.holds Tryd.pinned (.plain (OpenSpec.ofChange fnExactAskRunSpec)) fnExactAskRunCard

/-- THE TIED CARD OF 'laws.FnExactWorstSet'. -/
def fnExactWorstSetCard : Claim7 := { stood := { row := fnExactWorstSetRow, standIns := [], harness := (true, "e30056312730b366c11a9181307f9f458dab2357f1d1961960fad043c8da3102"), looks := false }, kinds := [], alts := [], laidByText := true, laidKinds := [.data, .data], laidTests := true, laidLooks := .later }
def FnExactWorstSetCardSaid : Prop := Claim7.holds Tryd.pinned (.plain (OpenSpec.ofChange fnExactWorstSetSpec)) fnExactWorstSetCard

/-- THE SECOND FORM's CARD OF 'laws.FnExactSpaceText'. -/
def fnExactSpaceTextUptoCard : Claim7 := { stood := { row := fnExactSpaceTextUptoRow, standIns := [], harness := (true, "e30056312730b366c11a9181307f9f458dab2357f1d1961960fad043c8da3102"), looks := false }, kinds := [], alts := [], laidByText := true, laidKinds := [.data, .data, .data], laidTests := true, laidLooks := .later }
def FnExactSpaceTextUptoCardSaid : Prop := Claim7.holds Tryd.pinned (.plain (OpenSpec.upto fnExactSpaceTextSpec)) fnExactSpaceTextUptoCard

/-- THE SECOND FORM's CARD OF 'laws.FnExactAskRun'. -/
def fnExactAskRunUptoCard : Claim7 := { stood := { row := fnExactAskRunUptoRow, standIns := [], harness := (true, "e30056312730b366c11a9181307f9f458dab2357f1d1961960fad043c8da3102"), looks := false }, kinds := [], alts := [], laidByText := true, laidKinds := [.data, .data], laidTests := true, laidLooks := .later }
def FnExactAskRunUptoCardSaid : Prop := Claim7.holds Tryd.pinned (.plain (OpenSpec.upto fnExactAskRunSpec)) fnExactAskRunUptoCard

/-- THE SECOND FORM's CARD OF 'laws.FnExactWorstSet'. -/
def fnExactWorstSetUptoCard : Claim7 := { stood := { row := fnExactWorstSetUptoRow, standIns := [], harness := (true, "e30056312730b366c11a9181307f9f458dab2357f1d1961960fad043c8da3102"), looks := false }, kinds := [], alts := [], laidByText := true, laidKinds := [.data, .data], laidTests := true, laidLooks := .later }
def FnExactWorstSetUptoCardSaid : Prop := Claim7.holds Tryd.pinned (.plain (OpenSpec.upto fnExactWorstSetSpec)) fnExactWorstSetUptoCard
end Rows
end Go.Proofs.YtppojaekngeelaaDoor
