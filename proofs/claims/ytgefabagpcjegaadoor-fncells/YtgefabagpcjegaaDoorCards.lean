/-
  DERIVED. GIVEN WITH THE SEED: THE CARDS: each row of YtgefabagpcjegaaDoorRows.lean that lists a variable, with what it lists TIED to the program's text (the seventh form; the later family's looks); each row that meets fmt, with fmt's text TOLD by the authors' own Lean function (tested against real Go, not proved from fmt's source: count such statements apart). THE CARD IS WHAT COUNTS. Prove the row's statement (the work); the ties are given (YtgefabagpcjegaaDoorTie.lean); close each card by the builder's one call (the guide's Derived/Test/ToyasCard.lean, 'card_holds'). Laid BY PROGRAM, IN A SANDBOX (cutbox-door.mjs). By AI agents, Wed Nov 11 2026. No macro, syntax, notation, axiom, sorry.
-/
import Derived.Test.YtgefabagpcjegaaDoorRows
import GoSem.ClaimSeven
namespace Go.Proofs.YtgefabagpcjegaaDoor
namespace Rows

/-- THE TIED CARD OF 'laws.FnCells'. -/
def fnCellsCard : Claim7 := { stood := { row := fnCellsRow, standIns := [], harness := (true, "d4b117053442a9a207109bd08b5d2ae11293ff85e5f801d12e2f546a78b19a84"), looks := true }, kinds := [], alts := [], laidByText := true, laidKinds := [.data, .data, .data, .data], laidTests := true, laidLooks := .later }
def FnCellsCardSaid : Prop := Claim7.holds Tryd.pinned (.plain (OpenSpec.ofChange fnCellsSpec)) fnCellsCard

/-- THE TIED CARD OF 'laws.FnCellsBent'. -/
def fnCellsBentCard : Claim7 := { stood := { row := fnCellsBentRow, standIns := [], harness := (true, "d4b117053442a9a207109bd08b5d2ae11293ff85e5f801d12e2f546a78b19a84"), looks := true }, kinds := [], alts := [], laidByText := true, laidKinds := [.data, .data, .data, .data], laidTests := true, laidLooks := .later }
def FnCellsBentCardSaid : Prop := Claim7.holds Tryd.pinned (.plain (OpenSpec.ofChange fnCellsBentSpec)) fnCellsBentCard

/-- THE TIED CARD OF 'laws.FnExactCellText'. -/
def fnExactCellTextCard : Claim7 := { stood := { row := fnExactCellTextRow, standIns := [], harness := (true, "d4b117053442a9a207109bd08b5d2ae11293ff85e5f801d12e2f546a78b19a84"), looks := true }, kinds := [], alts := [], laidByText := true, laidKinds := [.data, .data, .data, .data], laidTests := true, laidLooks := .later }
def FnExactCellTextCardSaid : Prop := Claim7.holds Tryd.pinned (.plain (OpenSpec.ofChange fnExactCellTextSpec)) fnExactCellTextCard

/-- THE TIED CARD OF 'laws.FnExactCellOf'. -/
def fnExactCellOfCard : Claim7 := { stood := { row := fnExactCellOfRow, standIns := [], harness := (true, "d4b117053442a9a207109bd08b5d2ae11293ff85e5f801d12e2f546a78b19a84"), looks := true }, kinds := [], alts := [], laidByText := true, laidKinds := [.data, .data, .data, .data], laidTests := true, laidLooks := .later }
def FnExactCellOfCardSaid : Prop := Claim7.holds Tryd.pinned (.plain (OpenSpec.ofChange fnExactCellOfSpec)) fnExactCellOfCard

/-- THE TIED CARD OF 'laws.FnExactTurn'. -/
def fnExactTurnCard : Claim7 := { stood := { row := fnExactTurnRow, standIns := [], harness := (true, "d4b117053442a9a207109bd08b5d2ae11293ff85e5f801d12e2f546a78b19a84"), looks := true }, kinds := [], alts := [], laidByText := true, laidKinds := [.data, .data, .data, .data], laidTests := true, laidLooks := .later }
def FnExactTurnCardSaid : Prop := Claim7.holds Tryd.pinned (.plain (OpenSpec.ofChange fnExactTurnSpec)) fnExactTurnCard

/-- THE SECOND FORM's CARD OF 'laws.FnCells'. -/
def fnCellsUptoCard : Claim7 := { stood := { row := fnCellsUptoRow, standIns := [], harness := (true, "d4b117053442a9a207109bd08b5d2ae11293ff85e5f801d12e2f546a78b19a84"), looks := true }, kinds := [], alts := [], laidByText := true, laidKinds := [.data, .data, .data, .data], laidTests := true, laidLooks := .later }
def FnCellsUptoCardSaid : Prop := Claim7.holds Tryd.pinned (.plain (OpenSpec.upto fnCellsSpec)) fnCellsUptoCard

/-- THE SECOND FORM's CARD OF 'laws.FnCellsBent'. -/
def fnCellsBentUptoCard : Claim7 := { stood := { row := fnCellsBentUptoRow, standIns := [], harness := (true, "d4b117053442a9a207109bd08b5d2ae11293ff85e5f801d12e2f546a78b19a84"), looks := true }, kinds := [], alts := [], laidByText := true, laidKinds := [.data, .data, .data, .data], laidTests := true, laidLooks := .later }
def FnCellsBentUptoCardSaid : Prop := Claim7.holds Tryd.pinned (.plain (OpenSpec.upto fnCellsBentSpec)) fnCellsBentUptoCard

/-- THE SECOND FORM's CARD OF 'laws.FnExactCellText'. -/
def fnExactCellTextUptoCard : Claim7 := { stood := { row := fnExactCellTextUptoRow, standIns := [], harness := (true, "d4b117053442a9a207109bd08b5d2ae11293ff85e5f801d12e2f546a78b19a84"), looks := true }, kinds := [], alts := [], laidByText := true, laidKinds := [.data, .data, .data, .data], laidTests := true, laidLooks := .later }
def FnExactCellTextUptoCardSaid : Prop := Claim7.holds Tryd.pinned (.plain (OpenSpec.upto fnExactCellTextSpec)) fnExactCellTextUptoCard

/-- THE SECOND FORM's CARD OF 'laws.FnExactCellOf'. -/
def fnExactCellOfUptoCard : Claim7 := { stood := { row := fnExactCellOfUptoRow, standIns := [], harness := (true, "d4b117053442a9a207109bd08b5d2ae11293ff85e5f801d12e2f546a78b19a84"), looks := true }, kinds := [], alts := [], laidByText := true, laidKinds := [.data, .data, .data, .data], laidTests := true, laidLooks := .later }
def FnExactCellOfUptoCardSaid : Prop := Claim7.holds Tryd.pinned (.plain (OpenSpec.upto fnExactCellOfSpec)) fnExactCellOfUptoCard

/-- THE SECOND FORM's CARD OF 'laws.FnExactTurn'. -/
def fnExactTurnUptoCard : Claim7 := { stood := { row := fnExactTurnUptoRow, standIns := [], harness := (true, "d4b117053442a9a207109bd08b5d2ae11293ff85e5f801d12e2f546a78b19a84"), looks := true }, kinds := [], alts := [], laidByText := true, laidKinds := [.data, .data, .data, .data], laidTests := true, laidLooks := .later }
def FnExactTurnUptoCardSaid : Prop := Claim7.holds Tryd.pinned (.plain (OpenSpec.upto fnExactTurnSpec)) fnExactTurnUptoCard
end Rows
end Go.Proofs.YtgefabagpcjegaaDoor
