/-
  DERIVED. GIVEN WITH THE SEED: THE CARDS: each row of YtndnkefbilhgnaaDoorRows.lean that lists a variable, with what it lists TIED to the program's text (the seventh form; the later family's looks); each row that meets fmt, with fmt's text TOLD by the authors' own Lean function (tested against real Go, not proved from fmt's source: count such statements apart). THE CARD IS WHAT COUNTS. Prove the row's statement (the work); the ties are given (YtndnkefbilhgnaaDoorTie.lean); close each card by the builder's one call (the guide's Derived/Test/ToyasCard.lean, 'card_holds'). Laid BY PROGRAM, IN A SANDBOX (cutbox-door.mjs). By AI agents, Wed Nov 11 2026. No macro, syntax, notation, axiom, sorry.
-/
import Derived.Test.YtndnkefbilhgnaaDoorRows
import GoSem.ClaimSeven
namespace Go.Proofs.YtndnkefbilhgnaaDoor
namespace Rows

/-- THE TIED CARD OF 'laws.FnExactCostAt'. -/
def fnExactCostAtCard : Claim7 := { stood := { row := fnExactCostAtRow, standIns := [], harness := (true, "1cfc978f6eb806d30149f122f1102957a295392d5d9e68f4932dc81344bbf77e"), looks := false }, kinds := [], alts := [], laidByText := true, laidKinds := [.data, .data], laidTests := true, laidLooks := .later }
def FnExactCostAtCardSaid : Prop := Claim7.holds Tryd.pinned (.plain (OpenSpec.ofChange fnExactCostAtSpec)) fnExactCostAtCard

/-- THE TIED CARD OF 'laws.FnExactCostOfWord'. -/
def fnExactCostOfWordCard : Claim7 := { stood := { row := fnExactCostOfWordRow, standIns := [], harness := (true, "1cfc978f6eb806d30149f122f1102957a295392d5d9e68f4932dc81344bbf77e"), looks := false }, kinds := [], alts := [], laidByText := true, laidKinds := [.data, .data], laidTests := true, laidLooks := .later }
def FnExactCostOfWordCardSaid : Prop := Claim7.holds Tryd.pinned (.plain (OpenSpec.ofChange fnExactCostOfWordSpec)) fnExactCostOfWordCard

/-- THE TIED CARD OF 'laws.FnExactGreedyWord'. -/
def fnExactGreedyWordCard : Claim7 := { stood := { row := fnExactGreedyWordRow, standIns := [], harness := (true, "1cfc978f6eb806d30149f122f1102957a295392d5d9e68f4932dc81344bbf77e"), looks := false }, kinds := [], alts := [], laidByText := true, laidKinds := [.data, .data], laidTests := true, laidLooks := .later }
def FnExactGreedyWordCardSaid : Prop := Claim7.holds Tryd.pinned (.plain (OpenSpec.ofChange fnExactGreedyWordSpec)) fnExactGreedyWordCard

/-- THE TIED CARD OF 'laws.FnExactBestCost'. -/
def fnExactBestCostCard : Claim7 := { stood := { row := fnExactBestCostRow, standIns := [], harness := (true, "1cfc978f6eb806d30149f122f1102957a295392d5d9e68f4932dc81344bbf77e"), looks := false }, kinds := [], alts := [], laidByText := true, laidKinds := [.data, .data], laidTests := true, laidLooks := .later }
def FnExactBestCostCardSaid : Prop := Claim7.holds Tryd.pinned (.plain (OpenSpec.ofChange fnExactBestCostSpec)) fnExactBestCostCard

/-- THE TIED CARD OF 'laws.FnExactBestCostPlain'. -/
def fnExactBestCostPlainCard : Claim7 := { stood := { row := fnExactBestCostPlainRow, standIns := [], harness := (true, "1cfc978f6eb806d30149f122f1102957a295392d5d9e68f4932dc81344bbf77e"), looks := false }, kinds := [], alts := [], laidByText := true, laidKinds := [.data, .data], laidTests := true, laidLooks := .later }
def FnExactBestCostPlainCardSaid : Prop := Claim7.holds Tryd.pinned (.plain (OpenSpec.ofChange fnExactBestCostPlainSpec)) fnExactBestCostPlainCard

/-- THE TIED CARD OF 'laws.FnExactCountBest'. -/
def fnExactCountBestCard : Claim7 := { stood := { row := fnExactCountBestRow, standIns := [], harness := (true, "1cfc978f6eb806d30149f122f1102957a295392d5d9e68f4932dc81344bbf77e"), looks := false }, kinds := [], alts := [], laidByText := true, laidKinds := [.data, .data], laidTests := true, laidLooks := .later }
def FnExactCountBestCardSaid : Prop := Claim7.holds Tryd.pinned (.plain (OpenSpec.ofChange fnExactCountBestSpec)) fnExactCountBestCard

/-- THE TIED CARD OF 'laws.FnExactCriticalItem'. -/
def fnExactCriticalItemCard : Claim7 := { stood := { row := fnExactCriticalItemRow, standIns := [], harness := (true, "1cfc978f6eb806d30149f122f1102957a295392d5d9e68f4932dc81344bbf77e"), looks := false }, kinds := [], alts := [], laidByText := true, laidKinds := [.data, .data], laidTests := true, laidLooks := .later }
def FnExactCriticalItemCardSaid : Prop := Claim7.holds Tryd.pinned (.plain (OpenSpec.ofChange fnExactCriticalItemSpec)) fnExactCriticalItemCard

/-- THE TIED CARD OF 'laws.FnExactKeptBelow'. -/
def fnExactKeptBelowCard : Claim7 := { stood := { row := fnExactKeptBelowRow, standIns := [], harness := (true, "1cfc978f6eb806d30149f122f1102957a295392d5d9e68f4932dc81344bbf77e"), looks := false }, kinds := [], alts := [], laidByText := true, laidKinds := [.data, .data], laidTests := true, laidLooks := .later }
def FnExactKeptBelowCardSaid : Prop := Claim7.holds Tryd.pinned (.plain (OpenSpec.ofChange fnExactKeptBelowSpec)) fnExactKeptBelowCard

/-- THE TIED CARD OF 'laws.FnExactRunBelow'. -/
def fnExactRunBelowCard : Claim7 := { stood := { row := fnExactRunBelowRow, standIns := [], harness := (true, "1cfc978f6eb806d30149f122f1102957a295392d5d9e68f4932dc81344bbf77e"), looks := false }, kinds := [], alts := [], laidByText := true, laidKinds := [.data, .data], laidTests := true, laidLooks := .later }
def FnExactRunBelowCardSaid : Prop := Claim7.holds Tryd.pinned (.plain (OpenSpec.ofChange fnExactRunBelowSpec)) fnExactRunBelowCard

/-- THE TIED CARD OF 'laws.FnExactFirstWord'. -/
def fnExactFirstWordCard : Claim7 := { stood := { row := fnExactFirstWordRow, standIns := [], harness := (true, "1cfc978f6eb806d30149f122f1102957a295392d5d9e68f4932dc81344bbf77e"), looks := false }, kinds := [], alts := [], laidByText := true, laidKinds := [.data, .data], laidTests := true, laidLooks := .later }
def FnExactFirstWordCardSaid : Prop := Claim7.holds Tryd.pinned (.plain (OpenSpec.ofChange fnExactFirstWordSpec)) fnExactFirstWordCard

/-- THE TIED CARD OF 'laws.FnExactLateWord'. -/
def fnExactLateWordCard : Claim7 := { stood := { row := fnExactLateWordRow, standIns := [], harness := (true, "1cfc978f6eb806d30149f122f1102957a295392d5d9e68f4932dc81344bbf77e"), looks := false }, kinds := [], alts := [], laidByText := true, laidKinds := [.data, .data], laidTests := true, laidLooks := .later }
def FnExactLateWordCardSaid : Prop := Claim7.holds Tryd.pinned (.plain (OpenSpec.ofChange fnExactLateWordSpec)) fnExactLateWordCard

/-- THE SECOND FORM's CARD OF 'laws.FnExactCostAt'. -/
def fnExactCostAtUptoCard : Claim7 := { stood := { row := fnExactCostAtUptoRow, standIns := [], harness := (true, "1cfc978f6eb806d30149f122f1102957a295392d5d9e68f4932dc81344bbf77e"), looks := false }, kinds := [], alts := [], laidByText := true, laidKinds := [.data, .data], laidTests := true, laidLooks := .later }
def FnExactCostAtUptoCardSaid : Prop := Claim7.holds Tryd.pinned (.plain (OpenSpec.upto fnExactCostAtSpec)) fnExactCostAtUptoCard

/-- THE SECOND FORM's CARD OF 'laws.FnExactCostOfWord'. -/
def fnExactCostOfWordUptoCard : Claim7 := { stood := { row := fnExactCostOfWordUptoRow, standIns := [], harness := (true, "1cfc978f6eb806d30149f122f1102957a295392d5d9e68f4932dc81344bbf77e"), looks := false }, kinds := [], alts := [], laidByText := true, laidKinds := [.data, .data], laidTests := true, laidLooks := .later }
def FnExactCostOfWordUptoCardSaid : Prop := Claim7.holds Tryd.pinned (.plain (OpenSpec.upto fnExactCostOfWordSpec)) fnExactCostOfWordUptoCard

/-- THE SECOND FORM's CARD OF 'laws.FnExactGreedyWord'. -/
def fnExactGreedyWordUptoCard : Claim7 := { stood := { row := fnExactGreedyWordUptoRow, standIns := [], harness := (true, "1cfc978f6eb806d30149f122f1102957a295392d5d9e68f4932dc81344bbf77e"), looks := false }, kinds := [], alts := [], laidByText := true, laidKinds := [.data, .data], laidTests := true, laidLooks := .later }
def FnExactGreedyWordUptoCardSaid : Prop := Claim7.holds Tryd.pinned (.plain (OpenSpec.upto fnExactGreedyWordSpec)) fnExactGreedyWordUptoCard

/-- THE SECOND FORM's CARD OF 'laws.FnExactBestCost'. -/
def fnExactBestCostUptoCard : Claim7 := { stood := { row := fnExactBestCostUptoRow, standIns := [], harness := (true, "1cfc978f6eb806d30149f122f1102957a295392d5d9e68f4932dc81344bbf77e"), looks := false }, kinds := [], alts := [], laidByText := true, laidKinds := [.data, .data], laidTests := true, laidLooks := .later }
def FnExactBestCostUptoCardSaid : Prop := Claim7.holds Tryd.pinned (.plain (OpenSpec.upto fnExactBestCostSpec)) fnExactBestCostUptoCard

/-- THE SECOND FORM's CARD OF 'laws.FnExactBestCostPlain'. -/
def fnExactBestCostPlainUptoCard : Claim7 := { stood := { row := fnExactBestCostPlainUptoRow, standIns := [], harness := (true, "1cfc978f6eb806d30149f122f1102957a295392d5d9e68f4932dc81344bbf77e"), looks := false }, kinds := [], alts := [], laidByText := true, laidKinds := [.data, .data], laidTests := true, laidLooks := .later }
def FnExactBestCostPlainUptoCardSaid : Prop := Claim7.holds Tryd.pinned (.plain (OpenSpec.upto fnExactBestCostPlainSpec)) fnExactBestCostPlainUptoCard

/-- THE SECOND FORM's CARD OF 'laws.FnExactCountBest'. -/
def fnExactCountBestUptoCard : Claim7 := { stood := { row := fnExactCountBestUptoRow, standIns := [], harness := (true, "1cfc978f6eb806d30149f122f1102957a295392d5d9e68f4932dc81344bbf77e"), looks := false }, kinds := [], alts := [], laidByText := true, laidKinds := [.data, .data], laidTests := true, laidLooks := .later }
def FnExactCountBestUptoCardSaid : Prop := Claim7.holds Tryd.pinned (.plain (OpenSpec.upto fnExactCountBestSpec)) fnExactCountBestUptoCard

/-- THE SECOND FORM's CARD OF 'laws.FnExactCriticalItem'. -/
def fnExactCriticalItemUptoCard : Claim7 := { stood := { row := fnExactCriticalItemUptoRow, standIns := [], harness := (true, "1cfc978f6eb806d30149f122f1102957a295392d5d9e68f4932dc81344bbf77e"), looks := false }, kinds := [], alts := [], laidByText := true, laidKinds := [.data, .data], laidTests := true, laidLooks := .later }
def FnExactCriticalItemUptoCardSaid : Prop := Claim7.holds Tryd.pinned (.plain (OpenSpec.upto fnExactCriticalItemSpec)) fnExactCriticalItemUptoCard

/-- THE SECOND FORM's CARD OF 'laws.FnExactKeptBelow'. -/
def fnExactKeptBelowUptoCard : Claim7 := { stood := { row := fnExactKeptBelowUptoRow, standIns := [], harness := (true, "1cfc978f6eb806d30149f122f1102957a295392d5d9e68f4932dc81344bbf77e"), looks := false }, kinds := [], alts := [], laidByText := true, laidKinds := [.data, .data], laidTests := true, laidLooks := .later }
def FnExactKeptBelowUptoCardSaid : Prop := Claim7.holds Tryd.pinned (.plain (OpenSpec.upto fnExactKeptBelowSpec)) fnExactKeptBelowUptoCard

/-- THE SECOND FORM's CARD OF 'laws.FnExactRunBelow'. -/
def fnExactRunBelowUptoCard : Claim7 := { stood := { row := fnExactRunBelowUptoRow, standIns := [], harness := (true, "1cfc978f6eb806d30149f122f1102957a295392d5d9e68f4932dc81344bbf77e"), looks := false }, kinds := [], alts := [], laidByText := true, laidKinds := [.data, .data], laidTests := true, laidLooks := .later }
def FnExactRunBelowUptoCardSaid : Prop := Claim7.holds Tryd.pinned (.plain (OpenSpec.upto fnExactRunBelowSpec)) fnExactRunBelowUptoCard

/-- THE SECOND FORM's CARD OF 'laws.FnExactFirstWord'. -/
def fnExactFirstWordUptoCard : Claim7 := { stood := { row := fnExactFirstWordUptoRow, standIns := [], harness := (true, "1cfc978f6eb806d30149f122f1102957a295392d5d9e68f4932dc81344bbf77e"), looks := false }, kinds := [], alts := [], laidByText := true, laidKinds := [.data, .data], laidTests := true, laidLooks := .later }
def FnExactFirstWordUptoCardSaid : Prop := Claim7.holds Tryd.pinned (.plain (OpenSpec.upto fnExactFirstWordSpec)) fnExactFirstWordUptoCard

/-- THE SECOND FORM's CARD OF 'laws.FnExactLateWord'. -/
def fnExactLateWordUptoCard : Claim7 := { stood := { row := fnExactLateWordUptoRow, standIns := [], harness := (true, "1cfc978f6eb806d30149f122f1102957a295392d5d9e68f4932dc81344bbf77e"), looks := false }, kinds := [], alts := [], laidByText := true, laidKinds := [.data, .data], laidTests := true, laidLooks := .later }
def FnExactLateWordUptoCardSaid : Prop := Claim7.holds Tryd.pinned (.plain (OpenSpec.upto fnExactLateWordSpec)) fnExactLateWordUptoCard
end Rows
end Go.Proofs.YtndnkefbilhgnaaDoor
