/-
  DERIVED. GIVEN WITH THE SEED: THE CARDS: each row of YtblglkgmnaklbaaDoorRows.lean that lists a variable, with what it lists TIED to the program's text (the seventh form; the later family's looks); each row that meets fmt, with fmt's text TOLD by the authors' own Lean function (tested against real Go, not proved from fmt's source: count such statements apart). THE CARD IS WHAT COUNTS. Prove the row's statement (the work); the ties are given (YtblglkgmnaklbaaDoorTie.lean); close each card by the builder's one call (the guide's Derived/Test/ToyasCard.lean, 'card_holds'). Laid BY PROGRAM, IN A SANDBOX (cutbox-door.mjs). By AI agents, Wed Nov 11 2026. No macro, syntax, notation, axiom, sorry.
-/
import Derived.Test.YtblglkgmnaklbaaDoorRows
import GoSem.ClaimSeven
namespace Go.Proofs.YtblglkgmnaklbaaDoor
namespace Rows

/-- THE TIED CARD OF 'laws.FnExactMakingWords'. -/
def fnExactMakingWordsCard : Claim7 := { stood := { row := fnExactMakingWordsRow, standIns := [], harness := (true, "4c7315a827377f01be1b41c16aa59dbacda8426db0cddb543fa554caed36aa51"), looks := false }, kinds := [], alts := [], laidByText := true, laidKinds := [.data, .data], laidTests := true, laidLooks := .later }
def FnExactMakingWordsCardSaid : Prop := Claim7.holds Tryd.pinned (.plain (OpenSpec.ofChange fnExactMakingWordsSpec)) fnExactMakingWordsCard

/-- THE TIED CARD OF 'laws.FnExactBestCostPlain'. -/
def fnExactBestCostPlainCard : Claim7 := { stood := { row := fnExactBestCostPlainRow, standIns := [], harness := (true, "4c7315a827377f01be1b41c16aa59dbacda8426db0cddb543fa554caed36aa51"), looks := false }, kinds := [], alts := [], laidByText := true, laidKinds := [.data, .data], laidTests := true, laidLooks := .later }
def FnExactBestCostPlainCardSaid : Prop := Claim7.holds Tryd.pinned (.plain (OpenSpec.ofChange fnExactBestCostPlainSpec)) fnExactBestCostPlainCard

/-- THE TIED CARD OF 'laws.FnExactCountBest'. -/
def fnExactCountBestCard : Claim7 := { stood := { row := fnExactCountBestRow, standIns := [], harness := (true, "4c7315a827377f01be1b41c16aa59dbacda8426db0cddb543fa554caed36aa51"), looks := false }, kinds := [], alts := [], laidByText := true, laidKinds := [.data, .data], laidTests := true, laidLooks := .later }
def FnExactCountBestCardSaid : Prop := Claim7.holds Tryd.pinned (.plain (OpenSpec.ofChange fnExactCountBestSpec)) fnExactCountBestCard

/-- THE TIED CARD OF 'laws.FnExactLateWord'. -/
def fnExactLateWordCard : Claim7 := { stood := { row := fnExactLateWordRow, standIns := [], harness := (true, "4c7315a827377f01be1b41c16aa59dbacda8426db0cddb543fa554caed36aa51"), looks := false }, kinds := [], alts := [], laidByText := true, laidKinds := [.data, .data], laidTests := true, laidLooks := .later }
def FnExactLateWordCardSaid : Prop := Claim7.holds Tryd.pinned (.plain (OpenSpec.ofChange fnExactLateWordSpec)) fnExactLateWordCard

/-- THE SECOND FORM's CARD OF 'laws.FnExactMakingWords'. -/
def fnExactMakingWordsUptoCard : Claim7 := { stood := { row := fnExactMakingWordsUptoRow, standIns := [], harness := (true, "4c7315a827377f01be1b41c16aa59dbacda8426db0cddb543fa554caed36aa51"), looks := false }, kinds := [], alts := [], laidByText := true, laidKinds := [.data, .data], laidTests := true, laidLooks := .later }
def FnExactMakingWordsUptoCardSaid : Prop := Claim7.holds Tryd.pinned (.plain (OpenSpec.upto fnExactMakingWordsSpec)) fnExactMakingWordsUptoCard

/-- THE SECOND FORM's CARD OF 'laws.FnExactBestCostPlain'. -/
def fnExactBestCostPlainUptoCard : Claim7 := { stood := { row := fnExactBestCostPlainUptoRow, standIns := [], harness := (true, "4c7315a827377f01be1b41c16aa59dbacda8426db0cddb543fa554caed36aa51"), looks := false }, kinds := [], alts := [], laidByText := true, laidKinds := [.data, .data], laidTests := true, laidLooks := .later }
def FnExactBestCostPlainUptoCardSaid : Prop := Claim7.holds Tryd.pinned (.plain (OpenSpec.upto fnExactBestCostPlainSpec)) fnExactBestCostPlainUptoCard

/-- THE SECOND FORM's CARD OF 'laws.FnExactCountBest'. -/
def fnExactCountBestUptoCard : Claim7 := { stood := { row := fnExactCountBestUptoRow, standIns := [], harness := (true, "4c7315a827377f01be1b41c16aa59dbacda8426db0cddb543fa554caed36aa51"), looks := false }, kinds := [], alts := [], laidByText := true, laidKinds := [.data, .data], laidTests := true, laidLooks := .later }
def FnExactCountBestUptoCardSaid : Prop := Claim7.holds Tryd.pinned (.plain (OpenSpec.upto fnExactCountBestSpec)) fnExactCountBestUptoCard

/-- THE SECOND FORM's CARD OF 'laws.FnExactLateWord'. -/
def fnExactLateWordUptoCard : Claim7 := { stood := { row := fnExactLateWordUptoRow, standIns := [], harness := (true, "4c7315a827377f01be1b41c16aa59dbacda8426db0cddb543fa554caed36aa51"), looks := false }, kinds := [], alts := [], laidByText := true, laidKinds := [.data, .data], laidTests := true, laidLooks := .later }
def FnExactLateWordUptoCardSaid : Prop := Claim7.holds Tryd.pinned (.plain (OpenSpec.upto fnExactLateWordSpec)) fnExactLateWordUptoCard
end Rows
end Go.Proofs.YtblglkgmnaklbaaDoor
