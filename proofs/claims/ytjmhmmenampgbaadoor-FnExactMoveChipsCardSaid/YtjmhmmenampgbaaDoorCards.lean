/-
  DERIVED. GIVEN WITH THE SEED: THE CARDS: each row of YtjmhmmenampgbaaDoorRows.lean that lists a variable, with what it lists TIED to the program's text (the seventh form; the later family's looks); each row that meets fmt, with fmt's text TOLD by the authors' own Lean function (tested against real Go, not proved from fmt's source: count such statements apart). THE CARD IS WHAT COUNTS. Prove the row's statement (the work); the ties are given (YtjmhmmenampgbaaDoorTie.lean); close each card by the builder's one call (the guide's Derived/Test/ToyasCard.lean, 'card_holds'). Laid BY PROGRAM, IN A SANDBOX (cutbox-door.mjs). By AI agents, Wed Nov 11 2026. No macro, syntax, notation, axiom, sorry.
-/
import Derived.Test.YtjmhmmenampgbaaDoorRows
import GoSem.ClaimSeven
namespace Go.Proofs.YtjmhmmenampgbaaDoor
namespace Rows

/-- THE TIED CARD OF 'laws.FnExactCanMove'. -/
def fnExactCanMoveCard : Claim7 := { stood := { row := fnExactCanMoveRow, standIns := [], harness := (true, "a828cddab9a8e9c8b54d852b481fc9bc9d6a00a2b051a380859279f19c0ae7a6"), looks := false }, kinds := [], alts := [], laidByText := true, laidKinds := [.data, .data], laidTests := true, laidLooks := .later }
def FnExactCanMoveCardSaid : Prop := Claim7.holds Tryd.pinned (.plain (OpenSpec.ofChange fnExactCanMoveSpec)) fnExactCanMoveCard

/-- THE TIED CARD OF 'laws.FnExactMoveChips'. -/
def fnExactMoveChipsCard : Claim7 := { stood := { row := fnExactMoveChipsRow, standIns := [], harness := (true, "a828cddab9a8e9c8b54d852b481fc9bc9d6a00a2b051a380859279f19c0ae7a6"), looks := false }, kinds := [], alts := [], laidByText := true, laidKinds := [.data, .data], laidTests := true, laidLooks := .later }
def FnExactMoveChipsCardSaid : Prop := Claim7.holds Tryd.pinned (.plain (OpenSpec.ofChange fnExactMoveChipsSpec)) fnExactMoveChipsCard

/-- THE TIED CARD OF 'laws.FnExactRunChips'. -/
def fnExactRunChipsCard : Claim7 := { stood := { row := fnExactRunChipsRow, standIns := [], harness := (true, "a828cddab9a8e9c8b54d852b481fc9bc9d6a00a2b051a380859279f19c0ae7a6"), looks := false }, kinds := [], alts := [], laidByText := true, laidKinds := [.data, .data], laidTests := true, laidLooks := .later }
def FnExactRunChipsCardSaid : Prop := Claim7.holds Tryd.pinned (.plain (OpenSpec.ofChange fnExactRunChipsSpec)) fnExactRunChipsCard

/-- THE TIED CARD OF 'laws.FnExactIsRun'. -/
def fnExactIsRunCard : Claim7 := { stood := { row := fnExactIsRunRow, standIns := [], harness := (true, "a828cddab9a8e9c8b54d852b481fc9bc9d6a00a2b051a380859279f19c0ae7a6"), looks := false }, kinds := [], alts := [], laidByText := true, laidKinds := [.data, .data], laidTests := true, laidLooks := .later }
def FnExactIsRunCardSaid : Prop := Claim7.holds Tryd.pinned (.plain (OpenSpec.ofChange fnExactIsRunSpec)) fnExactIsRunCard

/-- THE TIED CARD OF 'laws.FnExactFinalChips'. -/
def fnExactFinalChipsCard : Claim7 := { stood := { row := fnExactFinalChipsRow, standIns := [], harness := (true, "a828cddab9a8e9c8b54d852b481fc9bc9d6a00a2b051a380859279f19c0ae7a6"), looks := false }, kinds := [], alts := [], laidByText := true, laidKinds := [.data, .data], laidTests := true, laidLooks := .later }
def FnExactFinalChipsCardSaid : Prop := Claim7.holds Tryd.pinned (.plain (OpenSpec.ofChange fnExactFinalChipsSpec)) fnExactFinalChipsCard

/-- THE TIED CARD OF 'laws.FnExactMoveCounts'. -/
def fnExactMoveCountsCard : Claim7 := { stood := { row := fnExactMoveCountsRow, standIns := [], harness := (true, "a828cddab9a8e9c8b54d852b481fc9bc9d6a00a2b051a380859279f19c0ae7a6"), looks := false }, kinds := [], alts := [], laidByText := true, laidKinds := [.data, .data], laidTests := true, laidLooks := .later }
def FnExactMoveCountsCardSaid : Prop := Claim7.holds Tryd.pinned (.plain (OpenSpec.ofChange fnExactMoveCountsSpec)) fnExactMoveCountsCard

/-- THE TIED CARD OF 'laws.FnExactFirstRun'. -/
def fnExactFirstRunCard : Claim7 := { stood := { row := fnExactFirstRunRow, standIns := [], harness := (true, "a828cddab9a8e9c8b54d852b481fc9bc9d6a00a2b051a380859279f19c0ae7a6"), looks := false }, kinds := [], alts := [], laidByText := true, laidKinds := [.data, .data], laidTests := true, laidLooks := .later }
def FnExactFirstRunCardSaid : Prop := Claim7.holds Tryd.pinned (.plain (OpenSpec.ofChange fnExactFirstRunSpec)) fnExactFirstRunCard

/-- THE TIED CARD OF 'laws.FnExactRunBy'. -/
def fnExactRunByCard : Claim7 := { stood := { row := fnExactRunByRow, standIns := [], harness := (true, "a828cddab9a8e9c8b54d852b481fc9bc9d6a00a2b051a380859279f19c0ae7a6"), looks := false }, kinds := [], alts := [], laidByText := true, laidKinds := [.data, .data], laidTests := true, laidLooks := .later }
def FnExactRunByCardSaid : Prop := Claim7.holds Tryd.pinned (.plain (OpenSpec.ofChange fnExactRunBySpec)) fnExactRunByCard

/-- THE TIED CARD OF 'laws.FnExactNeverEnds'. -/
def fnExactNeverEndsCard : Claim7 := { stood := { row := fnExactNeverEndsRow, standIns := [], harness := (true, "a828cddab9a8e9c8b54d852b481fc9bc9d6a00a2b051a380859279f19c0ae7a6"), looks := false }, kinds := [], alts := [], laidByText := true, laidKinds := [.data, .data], laidTests := true, laidLooks := .later }
def FnExactNeverEndsCardSaid : Prop := Claim7.holds Tryd.pinned (.plain (OpenSpec.ofChange fnExactNeverEndsSpec)) fnExactNeverEndsCard

/-- THE SECOND FORM's CARD OF 'laws.FnExactCanMove'. -/
def fnExactCanMoveUptoCard : Claim7 := { stood := { row := fnExactCanMoveUptoRow, standIns := [], harness := (true, "a828cddab9a8e9c8b54d852b481fc9bc9d6a00a2b051a380859279f19c0ae7a6"), looks := false }, kinds := [], alts := [], laidByText := true, laidKinds := [.data, .data], laidTests := true, laidLooks := .later }
def FnExactCanMoveUptoCardSaid : Prop := Claim7.holds Tryd.pinned (.plain (OpenSpec.upto fnExactCanMoveSpec)) fnExactCanMoveUptoCard

/-- THE SECOND FORM's CARD OF 'laws.FnExactMoveChips'. -/
def fnExactMoveChipsUptoCard : Claim7 := { stood := { row := fnExactMoveChipsUptoRow, standIns := [], harness := (true, "a828cddab9a8e9c8b54d852b481fc9bc9d6a00a2b051a380859279f19c0ae7a6"), looks := false }, kinds := [], alts := [], laidByText := true, laidKinds := [.data, .data], laidTests := true, laidLooks := .later }
def FnExactMoveChipsUptoCardSaid : Prop := Claim7.holds Tryd.pinned (.plain (OpenSpec.upto fnExactMoveChipsSpec)) fnExactMoveChipsUptoCard

/-- THE SECOND FORM's CARD OF 'laws.FnExactRunChips'. -/
def fnExactRunChipsUptoCard : Claim7 := { stood := { row := fnExactRunChipsUptoRow, standIns := [], harness := (true, "a828cddab9a8e9c8b54d852b481fc9bc9d6a00a2b051a380859279f19c0ae7a6"), looks := false }, kinds := [], alts := [], laidByText := true, laidKinds := [.data, .data], laidTests := true, laidLooks := .later }
def FnExactRunChipsUptoCardSaid : Prop := Claim7.holds Tryd.pinned (.plain (OpenSpec.upto fnExactRunChipsSpec)) fnExactRunChipsUptoCard

/-- THE SECOND FORM's CARD OF 'laws.FnExactIsRun'. -/
def fnExactIsRunUptoCard : Claim7 := { stood := { row := fnExactIsRunUptoRow, standIns := [], harness := (true, "a828cddab9a8e9c8b54d852b481fc9bc9d6a00a2b051a380859279f19c0ae7a6"), looks := false }, kinds := [], alts := [], laidByText := true, laidKinds := [.data, .data], laidTests := true, laidLooks := .later }
def FnExactIsRunUptoCardSaid : Prop := Claim7.holds Tryd.pinned (.plain (OpenSpec.upto fnExactIsRunSpec)) fnExactIsRunUptoCard

/-- THE SECOND FORM's CARD OF 'laws.FnExactFinalChips'. -/
def fnExactFinalChipsUptoCard : Claim7 := { stood := { row := fnExactFinalChipsUptoRow, standIns := [], harness := (true, "a828cddab9a8e9c8b54d852b481fc9bc9d6a00a2b051a380859279f19c0ae7a6"), looks := false }, kinds := [], alts := [], laidByText := true, laidKinds := [.data, .data], laidTests := true, laidLooks := .later }
def FnExactFinalChipsUptoCardSaid : Prop := Claim7.holds Tryd.pinned (.plain (OpenSpec.upto fnExactFinalChipsSpec)) fnExactFinalChipsUptoCard

/-- THE SECOND FORM's CARD OF 'laws.FnExactMoveCounts'. -/
def fnExactMoveCountsUptoCard : Claim7 := { stood := { row := fnExactMoveCountsUptoRow, standIns := [], harness := (true, "a828cddab9a8e9c8b54d852b481fc9bc9d6a00a2b051a380859279f19c0ae7a6"), looks := false }, kinds := [], alts := [], laidByText := true, laidKinds := [.data, .data], laidTests := true, laidLooks := .later }
def FnExactMoveCountsUptoCardSaid : Prop := Claim7.holds Tryd.pinned (.plain (OpenSpec.upto fnExactMoveCountsSpec)) fnExactMoveCountsUptoCard

/-- THE SECOND FORM's CARD OF 'laws.FnExactFirstRun'. -/
def fnExactFirstRunUptoCard : Claim7 := { stood := { row := fnExactFirstRunUptoRow, standIns := [], harness := (true, "a828cddab9a8e9c8b54d852b481fc9bc9d6a00a2b051a380859279f19c0ae7a6"), looks := false }, kinds := [], alts := [], laidByText := true, laidKinds := [.data, .data], laidTests := true, laidLooks := .later }
def FnExactFirstRunUptoCardSaid : Prop := Claim7.holds Tryd.pinned (.plain (OpenSpec.upto fnExactFirstRunSpec)) fnExactFirstRunUptoCard

/-- THE SECOND FORM's CARD OF 'laws.FnExactRunBy'. -/
def fnExactRunByUptoCard : Claim7 := { stood := { row := fnExactRunByUptoRow, standIns := [], harness := (true, "a828cddab9a8e9c8b54d852b481fc9bc9d6a00a2b051a380859279f19c0ae7a6"), looks := false }, kinds := [], alts := [], laidByText := true, laidKinds := [.data, .data], laidTests := true, laidLooks := .later }
def FnExactRunByUptoCardSaid : Prop := Claim7.holds Tryd.pinned (.plain (OpenSpec.upto fnExactRunBySpec)) fnExactRunByUptoCard

/-- THE SECOND FORM's CARD OF 'laws.FnExactNeverEnds'. -/
def fnExactNeverEndsUptoCard : Claim7 := { stood := { row := fnExactNeverEndsUptoRow, standIns := [], harness := (true, "a828cddab9a8e9c8b54d852b481fc9bc9d6a00a2b051a380859279f19c0ae7a6"), looks := false }, kinds := [], alts := [], laidByText := true, laidKinds := [.data, .data], laidTests := true, laidLooks := .later }
def FnExactNeverEndsUptoCardSaid : Prop := Claim7.holds Tryd.pinned (.plain (OpenSpec.upto fnExactNeverEndsSpec)) fnExactNeverEndsUptoCard
end Rows
end Go.Proofs.YtjmhmmenampgbaaDoor
