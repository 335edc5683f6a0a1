/-
  DERIVED. GIVEN WITH THE SEED: THE CARDS: each row of YtcddjfdmodpnjabDoorRows.lean that lists a variable, with what it lists TIED to the program's text (the seventh form; the later family's looks); each row that meets fmt, with fmt's text TOLD by the authors' own Lean function (tested against real Go, not proved from fmt's source: count such statements apart). THE CARD IS WHAT COUNTS. Prove the row's statement (the work); the ties are given (YtcddjfdmodpnjabDoorTie.lean); close each card by the builder's one call (the guide's Derived/Test/ToyasCard.lean, 'card_holds'). Laid BY PROGRAM, IN A SANDBOX (cutbox-door.mjs). By AI agents, Wed Nov 11 2026. No macro, syntax, notation, axiom, sorry.
-/
import Derived.Test.YtcddjfdmodpnjabDoorRows
import GoSem.ClaimSeven
namespace Go.Proofs.YtcddjfdmodpnjabDoor
namespace Rows

/-- THE TIED CARD OF 'laws.FnExactEncodeLossy'. -/
def fnExactEncodeLossyCard : Claim7 := { stood := { row := fnExactEncodeLossyRow, standIns := [], harness := (true, "bea77ee5cb2af06893863eec7fc64cdc8e8b4617be154b8b8f50c84af2108c64"), looks := true }, kinds := [], alts := [], laidByText := true, laidKinds := [.data, .data, .data, .data], laidTests := true, laidLooks := .later }
def FnExactEncodeLossyCardSaid : Prop := Claim7.holds Tryd.pinned (.plain (OpenSpec.ofChange fnExactEncodeLossySpec)) fnExactEncodeLossyCard

/-- THE TIED CARD OF 'laws.FnExactFits'. -/
def fnExactFitsCard : Claim7 := { stood := { row := fnExactFitsRow, standIns := [], harness := (true, "bea77ee5cb2af06893863eec7fc64cdc8e8b4617be154b8b8f50c84af2108c64"), looks := true }, kinds := [], alts := [], laidByText := true, laidKinds := [.data, .data, .data, .data], laidTests := true, laidLooks := .later }
def FnExactFitsCardSaid : Prop := Claim7.holds Tryd.pinned (.plain (OpenSpec.ofChange fnExactFitsSpec)) fnExactFitsCard

/-- THE SECOND FORM's CARD OF 'laws.FnExactEncodeLossy'. -/
def fnExactEncodeLossyUptoCard : Claim7 := { stood := { row := fnExactEncodeLossyUptoRow, standIns := [], harness := (true, "bea77ee5cb2af06893863eec7fc64cdc8e8b4617be154b8b8f50c84af2108c64"), looks := true }, kinds := [], alts := [], laidByText := true, laidKinds := [.data, .data, .data, .data], laidTests := true, laidLooks := .later }
def FnExactEncodeLossyUptoCardSaid : Prop := Claim7.holds Tryd.pinned (.plain (OpenSpec.upto fnExactEncodeLossySpec)) fnExactEncodeLossyUptoCard

/-- THE SECOND FORM's CARD OF 'laws.FnExactFits'. -/
def fnExactFitsUptoCard : Claim7 := { stood := { row := fnExactFitsUptoRow, standIns := [], harness := (true, "bea77ee5cb2af06893863eec7fc64cdc8e8b4617be154b8b8f50c84af2108c64"), looks := true }, kinds := [], alts := [], laidByText := true, laidKinds := [.data, .data, .data, .data], laidTests := true, laidLooks := .later }
def FnExactFitsUptoCardSaid : Prop := Claim7.holds Tryd.pinned (.plain (OpenSpec.upto fnExactFitsSpec)) fnExactFitsUptoCard
end Rows
end Go.Proofs.YtcddjfdmodpnjabDoor
