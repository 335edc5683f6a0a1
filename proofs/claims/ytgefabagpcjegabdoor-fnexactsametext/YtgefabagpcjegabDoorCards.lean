/-
  DERIVED. GIVEN WITH THE SEED: THE CARDS: each row of YtgefabagpcjegabDoorRows.lean that lists a variable, with what it lists TIED to the program's text (the seventh form; the later family's looks); each row that meets fmt, with fmt's text TOLD by the authors' own Lean function (tested against real Go, not proved from fmt's source: count such statements apart). THE CARD IS WHAT COUNTS. Prove the row's statement (the work); the ties are given (YtgefabagpcjegabDoorTie.lean); close each card by the builder's one call (the guide's Derived/Test/ToyasCard.lean, 'card_holds'). Laid BY PROGRAM, IN A SANDBOX (cutbox-door.mjs). By AI agents, Wed Nov 11 2026. No macro, syntax, notation, axiom, sorry.
-/
import Derived.Test.YtgefabagpcjegabDoorRows
import GoSem.ClaimSeven
namespace Go.Proofs.YtgefabagpcjegabDoor
namespace Rows

/-- THE TIED CARD OF 'laws.FnExactSameText'. -/
def fnExactSameTextCard : Claim7 := { stood := { row := fnExactSameTextRow, standIns := [], harness := (true, "8c99fdc28f06da5b7dd324d13ad77999685050f7ef69723e7725a733d2e5aa89"), looks := true }, kinds := [], alts := [], laidByText := true, laidKinds := [.data, .data, .data, .data], laidTests := true, laidLooks := .later }
def FnExactSameTextCardSaid : Prop := Claim7.holds Tryd.pinned (.plain (OpenSpec.ofChange fnExactSameTextSpec)) fnExactSameTextCard

/-- THE SECOND FORM's CARD OF 'laws.FnExactSameText'. -/
def fnExactSameTextUptoCard : Claim7 := { stood := { row := fnExactSameTextUptoRow, standIns := [], harness := (true, "8c99fdc28f06da5b7dd324d13ad77999685050f7ef69723e7725a733d2e5aa89"), looks := true }, kinds := [], alts := [], laidByText := true, laidKinds := [.data, .data, .data, .data], laidTests := true, laidLooks := .later }
def FnExactSameTextUptoCardSaid : Prop := Claim7.holds Tryd.pinned (.plain (OpenSpec.upto fnExactSameTextSpec)) fnExactSameTextUptoCard
end Rows
end Go.Proofs.YtgefabagpcjegabDoor
