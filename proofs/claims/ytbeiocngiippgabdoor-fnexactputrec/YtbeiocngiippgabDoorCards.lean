/-
  DERIVED. GIVEN WITH THE SEED: THE CARDS: each row of YtbeiocngiippgabDoorRows.lean that lists a variable, with what it lists TIED to the program's text (the seventh form; the later family's looks); each row that meets fmt, with fmt's text TOLD by the authors' own Lean function (tested against real Go, not proved from fmt's source: count such statements apart). THE CARD IS WHAT COUNTS. Prove the row's statement (the work); the ties are given (YtbeiocngiippgabDoorTie.lean); close each card by the builder's one call (the guide's Derived/Test/ToyasCard.lean, 'card_holds'). Laid BY PROGRAM, IN A SANDBOX (cutbox-door.mjs). By AI agents, Wed Nov 11 2026. No macro, syntax, notation, axiom, sorry.
-/
import Derived.Test.YtbeiocngiippgabDoorRows
import GoSem.ClaimSeven
namespace Go.Proofs.YtbeiocngiippgabDoor
namespace Rows

/-- THE TIED CARD OF 'laws.FnExactPutRow'. -/
def fnExactPutRowCard : Claim7 := { stood := { row := fnExactPutRowRow, standIns := [], harness := (true, "173a26728954515cbf03592d06e67ad796cb50dcee40a7ca6805d29c6a24ba88"), looks := true }, kinds := [], alts := [], laidByText := true, laidKinds := [.data, .data, .data, .data], laidTests := true, laidLooks := .later }
def FnExactPutRowCardSaid : Prop := Claim7.holds Tryd.pinned (.plain (OpenSpec.ofChange fnExactPutRowSpec)) fnExactPutRowCard

/-- THE TIED CARD OF 'laws.FnExactGetRow'. -/
def fnExactGetRowCard : Claim7 := { stood := { row := fnExactGetRowRow, standIns := [], harness := (true, "173a26728954515cbf03592d06e67ad796cb50dcee40a7ca6805d29c6a24ba88"), looks := true }, kinds := [], alts := [], laidByText := true, laidKinds := [.data, .data, .data, .data], laidTests := true, laidLooks := .later }
def FnExactGetRowCardSaid : Prop := Claim7.holds Tryd.pinned (.plain (OpenSpec.ofChange fnExactGetRowSpec)) fnExactGetRowCard

/-- THE TIED CARD OF 'laws.FnExactPutRec'. -/
def fnExactPutRecCard : Claim7 := { stood := { row := fnExactPutRecRow, standIns := [], harness := (true, "173a26728954515cbf03592d06e67ad796cb50dcee40a7ca6805d29c6a24ba88"), looks := true }, kinds := [], alts := [], laidByText := true, laidKinds := [.data, .data, .data, .data], laidTests := true, laidLooks := .later }
def FnExactPutRecCardSaid : Prop := Claim7.holds Tryd.pinned (.plain (OpenSpec.ofChange fnExactPutRecSpec)) fnExactPutRecCard

/-- THE SECOND FORM's CARD OF 'laws.FnExactPutRow'. -/
def fnExactPutRowUptoCard : Claim7 := { stood := { row := fnExactPutRowUptoRow, standIns := [], harness := (true, "173a26728954515cbf03592d06e67ad796cb50dcee40a7ca6805d29c6a24ba88"), looks := true }, kinds := [], alts := [], laidByText := true, laidKinds := [.data, .data, .data, .data], laidTests := true, laidLooks := .later }
def FnExactPutRowUptoCardSaid : Prop := Claim7.holds Tryd.pinned (.plain (OpenSpec.upto fnExactPutRowSpec)) fnExactPutRowUptoCard

/-- THE SECOND FORM's CARD OF 'laws.FnExactGetRow'. -/
def fnExactGetRowUptoCard : Claim7 := { stood := { row := fnExactGetRowUptoRow, standIns := [], harness := (true, "173a26728954515cbf03592d06e67ad796cb50dcee40a7ca6805d29c6a24ba88"), looks := true }, kinds := [], alts := [], laidByText := true, laidKinds := [.data, .data, .data, .data], laidTests := true, laidLooks := .later }
def FnExactGetRowUptoCardSaid : Prop := Claim7.holds Tryd.pinned (.plain (OpenSpec.upto fnExactGetRowSpec)) fnExactGetRowUptoCard

/-- THE SECOND FORM's CARD OF 'laws.FnExactPutRec'. -/
def fnExactPutRecUptoCard : Claim7 := { stood := { row := fnExactPutRecUptoRow, standIns := [], harness := (true, "173a26728954515cbf03592d06e67ad796cb50dcee40a7ca6805d29c6a24ba88"), looks := true }, kinds := [], alts := [], laidByText := true, laidKinds := [.data, .data, .data, .data], laidTests := true, laidLooks := .later }
def FnExactPutRecUptoCardSaid : Prop := Claim7.holds Tryd.pinned (.plain (OpenSpec.upto fnExactPutRecSpec)) fnExactPutRecUptoCard
end Rows
end Go.Proofs.YtbeiocngiippgabDoor
