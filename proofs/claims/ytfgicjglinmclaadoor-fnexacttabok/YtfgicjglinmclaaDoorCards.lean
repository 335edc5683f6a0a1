/-
  DERIVED. GIVEN WITH THE SEED: THE CARDS: each row of YtfgicjglinmclaaDoorRows.lean that lists a variable, with what it lists TIED to the program's text (the seventh form; the later family's looks); each row that meets fmt, with fmt's text TOLD by the authors' own Lean function (tested against real Go, not proved from fmt's source: count such statements apart). THE CARD IS WHAT COUNTS. Prove the row's statement (the work); the ties are given (YtfgicjglinmclaaDoorTie.lean); close each card by the builder's one call (the guide's Derived/Test/ToyasCard.lean, 'card_holds'). Laid BY PROGRAM, IN A SANDBOX (cutbox-door.mjs). By AI agents, Wed Nov 11 2026. No macro, syntax, notation, axiom, sorry.
-/
import Derived.Test.YtfgicjglinmclaaDoorRows
import GoSem.ClaimSeven
namespace Go.Proofs.YtfgicjglinmclaaDoor
namespace Rows

/-- THE TIED CARD OF 'laws.FnExactTabOk'. -/
def fnExactTabOkCard : Claim7 := { stood := { row := fnExactTabOkRow, standIns := [], harness := (true, "d46bc580d33ada3cf4deac237cb70e79342bd5415d8f4726195066a6261cafda"), looks := true }, kinds := [], alts := [], laidByText := true, laidKinds := [.data, .data, .data, .data], laidTests := true, laidLooks := .later }
def FnExactTabOkCardSaid : Prop := Claim7.holds Tryd.pinned (.plain (OpenSpec.ofChange fnExactTabOkSpec)) fnExactTabOkCard

/-- THE SECOND FORM's CARD OF 'laws.FnExactTabOk'. -/
def fnExactTabOkUptoCard : Claim7 := { stood := { row := fnExactTabOkUptoRow, standIns := [], harness := (true, "d46bc580d33ada3cf4deac237cb70e79342bd5415d8f4726195066a6261cafda"), looks := true }, kinds := [], alts := [], laidByText := true, laidKinds := [.data, .data, .data, .data], laidTests := true, laidLooks := .later }
def FnExactTabOkUptoCardSaid : Prop := Claim7.holds Tryd.pinned (.plain (OpenSpec.upto fnExactTabOkSpec)) fnExactTabOkUptoCard
end Rows
end Go.Proofs.YtfgicjglinmclaaDoor
