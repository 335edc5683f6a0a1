/-
  DERIVED. GIVEN WITH THE SEED: THE CARDS: each row of YtpafjehphajbhabDoorRows.lean that lists a variable, with what it lists TIED to the program's text (the seventh form; the later family's looks); each row that meets fmt, with fmt's text TOLD by the authors' own Lean function (tested against real Go, not proved from fmt's source: count such statements apart). THE CARD IS WHAT COUNTS. Prove the row's statement (the work); the ties are given (YtpafjehphajbhabDoorTie.lean); close each card by the builder's one call (the guide's Derived/Test/ToyasCard.lean, 'card_holds'). Laid BY PROGRAM, IN A SANDBOX (cutbox-door.mjs). By AI agents, Wed Nov 11 2026. No macro, syntax, notation, axiom, sorry.
-/
import Derived.Test.YtpafjehphajbhabDoorRows
import GoSem.ClaimSeven
namespace Go.Proofs.YtpafjehphajbhabDoor
namespace Rows

/-- THE TIED CARD OF 'laws.FnExactCutRow'. -/
def fnExactCutRowCard : Claim7 := { stood := { row := fnExactCutRowRow, standIns := [], harness := (true, "fc57a139db845acadae056a8e0087a280b8a93c6ec452a10ea0ec41941859449"), looks := true }, kinds := [], alts := [], laidByText := true, laidKinds := [.data, .data, .data, .data], laidTests := true, laidLooks := .later }
def FnExactCutRowCardSaid : Prop := Claim7.holds Tryd.pinned (.plain (OpenSpec.ofChange fnExactCutRowSpec)) fnExactCutRowCard

/-- THE TIED CARD OF 'laws.FnExactBackRow'. -/
def fnExactBackRowCard : Claim7 := { stood := { row := fnExactBackRowRow, standIns := [], harness := (true, "fc57a139db845acadae056a8e0087a280b8a93c6ec452a10ea0ec41941859449"), looks := true }, kinds := [], alts := [], laidByText := true, laidKinds := [.data, .data, .data, .data], laidTests := true, laidLooks := .later }
def FnExactBackRowCardSaid : Prop := Claim7.holds Tryd.pinned (.plain (OpenSpec.ofChange fnExactBackRowSpec)) fnExactBackRowCard

/-- THE TIED CARD OF 'laws.FnExactTurn'. -/
def fnExactTurnCard : Claim7 := { stood := { row := fnExactTurnRow, standIns := [], harness := (true, "fc57a139db845acadae056a8e0087a280b8a93c6ec452a10ea0ec41941859449"), looks := true }, kinds := [], alts := [], laidByText := true, laidKinds := [.data, .data, .data, .data], laidTests := true, laidLooks := .later }
def FnExactTurnCardSaid : Prop := Claim7.holds Tryd.pinned (.plain (OpenSpec.ofChange fnExactTurnSpec)) fnExactTurnCard

/-- THE TIED CARD OF 'laws.FnCells'. -/
def fnCellsCard : Claim7 := { stood := { row := fnCellsRow, standIns := [], harness := (true, "fc57a139db845acadae056a8e0087a280b8a93c6ec452a10ea0ec41941859449"), looks := true }, kinds := [], alts := [], laidByText := true, laidKinds := [.data, .data, .data, .data], laidTests := true, laidLooks := .later }
def FnCellsCardSaid : Prop := Claim7.holds Tryd.pinned (.plain (OpenSpec.ofChange fnCellsSpec)) fnCellsCard

/-- THE TIED CARD OF 'laws.FnCellsBent'. -/
def fnCellsBentCard : Claim7 := { stood := { row := fnCellsBentRow, standIns := [], harness := (true, "fc57a139db845acadae056a8e0087a280b8a93c6ec452a10ea0ec41941859449"), looks := true }, kinds := [], alts := [], laidByText := true, laidKinds := [.data, .data, .data, .data], laidTests := true, laidLooks := .later }
def FnCellsBentCardSaid : Prop := Claim7.holds Tryd.pinned (.plain (OpenSpec.ofChange fnCellsBentSpec)) fnCellsBentCard

/-- THE SECOND FORM's CARD OF 'laws.FnExactCutRow'. -/
def fnExactCutRowUptoCard : Claim7 := { stood := { row := fnExactCutRowUptoRow, standIns := [], harness := (true, "fc57a139db845acadae056a8e0087a280b8a93c6ec452a10ea0ec41941859449"), looks := true }, kinds := [], alts := [], laidByText := true, laidKinds := [.data, .data, .data, .data], laidTests := true, laidLooks := .later }
def FnExactCutRowUptoCardSaid : Prop := Claim7.holds Tryd.pinned (.plain (OpenSpec.upto fnExactCutRowSpec)) fnExactCutRowUptoCard

/-- THE SECOND FORM's CARD OF 'laws.FnExactBackRow'. -/
def fnExactBackRowUptoCard : Claim7 := { stood := { row := fnExactBackRowUptoRow, standIns := [], harness := (true, "fc57a139db845acadae056a8e0087a280b8a93c6ec452a10ea0ec41941859449"), looks := true }, kinds := [], alts := [], laidByText := true, laidKinds := [.data, .data, .data, .data], laidTests := true, laidLooks := .later }
def FnExactBackRowUptoCardSaid : Prop := Claim7.holds Tryd.pinned (.plain (OpenSpec.upto fnExactBackRowSpec)) fnExactBackRowUptoCard

/-- THE SECOND FORM's CARD OF 'laws.FnExactTurn'. -/
def fnExactTurnUptoCard : Claim7 := { stood := { row := fnExactTurnUptoRow, standIns := [], harness := (true, "fc57a139db845acadae056a8e0087a280b8a93c6ec452a10ea0ec41941859449"), looks := true }, kinds := [], alts := [], laidByText := true, laidKinds := [.data, .data, .data, .data], laidTests := true, laidLooks := .later }
def FnExactTurnUptoCardSaid : Prop := Claim7.holds Tryd.pinned (.plain (OpenSpec.upto fnExactTurnSpec)) fnExactTurnUptoCard

/-- THE SECOND FORM's CARD OF 'laws.FnCells'. -/
def fnCellsUptoCard : Claim7 := { stood := { row := fnCellsUptoRow, standIns := [], harness := (true, "fc57a139db845acadae056a8e0087a280b8a93c6ec452a10ea0ec41941859449"), looks := true }, kinds := [], alts := [], laidByText := true, laidKinds := [.data, .data, .data, .data], laidTests := true, laidLooks := .later }
def FnCellsUptoCardSaid : Prop := Claim7.holds Tryd.pinned (.plain (OpenSpec.upto fnCellsSpec)) fnCellsUptoCard

/-- THE SECOND FORM's CARD OF 'laws.FnCellsBent'. -/
def fnCellsBentUptoCard : Claim7 := { stood := { row := fnCellsBentUptoRow, standIns := [], harness := (true, "fc57a139db845acadae056a8e0087a280b8a93c6ec452a10ea0ec41941859449"), looks := true }, kinds := [], alts := [], laidByText := true, laidKinds := [.data, .data, .data, .data], laidTests := true, laidLooks := .later }
def FnCellsBentUptoCardSaid : Prop := Claim7.holds Tryd.pinned (.plain (OpenSpec.upto fnCellsBentSpec)) fnCellsBentUptoCard
end Rows
end Go.Proofs.YtpafjehphajbhabDoor
