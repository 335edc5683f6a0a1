/-
  DERIVED. GIVEN WITH THE SEED: THE CARDS: each row of YtjpfkjehlaepbaaDoorRows.lean that lists a variable, with what it lists TIED to the program's text (the seventh form; the later family's looks); each row that meets fmt, with fmt's text TOLD by the authors' own Lean function (tested against real Go, not proved from fmt's source: count such statements apart). THE CARD IS WHAT COUNTS. Prove the row's statement (the work); the ties are given (YtjpfkjehlaepbaaDoorTie.lean); close each card by the builder's one call (the guide's Derived/Test/ToyasCard.lean, 'card_holds'). Laid BY PROGRAM, IN A SANDBOX (cutbox-door.mjs). By AI agents, Wed Nov 11 2026. No macro, syntax, notation, axiom, sorry.
-/
import Derived.Test.YtjpfkjehlaepbaaDoorRows
import GoSem.ClaimSeven
namespace Go.Proofs.YtjpfkjehlaepbaaDoor
namespace Rows

/-- THE TIED CARD OF 'laws.FnPhases'. -/
def fnPhasesCard : Claim7 := { stood := { row := fnPhasesRow, standIns := [], harness := (true, "e1b17aa3688ea855ff1e7bdec33e554fbf9f114c7240f58c775901306fcb3d0e"), looks := false }, kinds := [], alts := [], laidByText := true, laidKinds := [.data], laidTests := true, laidLooks := .later }
def FnPhasesCardSaid : Prop := Claim7.holds Tryd.pinned (.plain (OpenSpec.ofChange fnPhasesSpec)) fnPhasesCard

/-- THE TIED CARD OF 'laws.FnExactPhaseName'. -/
def fnExactPhaseNameCard : Claim7 := { stood := { row := fnExactPhaseNameRow, standIns := [], harness := (true, "e1b17aa3688ea855ff1e7bdec33e554fbf9f114c7240f58c775901306fcb3d0e"), looks := false }, kinds := [], alts := [], laidByText := true, laidKinds := [.data], laidTests := true, laidLooks := .later }
def FnExactPhaseNameCardSaid : Prop := Claim7.holds Tryd.pinned (.plain (OpenSpec.ofChange fnExactPhaseNameSpec)) fnExactPhaseNameCard

/-- THE TIED CARD OF 'laws.FnExactPhaseOf'. -/
def fnExactPhaseOfCard : Claim7 := { stood := { row := fnExactPhaseOfRow, standIns := [], harness := (true, "e1b17aa3688ea855ff1e7bdec33e554fbf9f114c7240f58c775901306fcb3d0e"), looks := false }, kinds := [], alts := [], laidByText := true, laidKinds := [.data], laidTests := true, laidLooks := .later }
def FnExactPhaseOfCardSaid : Prop := Claim7.holds Tryd.pinned (.plain (OpenSpec.ofChange fnExactPhaseOfSpec)) fnExactPhaseOfCard

/-- THE SECOND FORM's CARD OF 'laws.FnPhases'. -/
def fnPhasesUptoCard : Claim7 := { stood := { row := fnPhasesUptoRow, standIns := [], harness := (true, "e1b17aa3688ea855ff1e7bdec33e554fbf9f114c7240f58c775901306fcb3d0e"), looks := false }, kinds := [], alts := [], laidByText := true, laidKinds := [.data], laidTests := true, laidLooks := .later }
def FnPhasesUptoCardSaid : Prop := Claim7.holds Tryd.pinned (.plain (OpenSpec.upto fnPhasesSpec)) fnPhasesUptoCard

/-- THE SECOND FORM's CARD OF 'laws.FnExactPhaseName'. -/
def fnExactPhaseNameUptoCard : Claim7 := { stood := { row := fnExactPhaseNameUptoRow, standIns := [], harness := (true, "e1b17aa3688ea855ff1e7bdec33e554fbf9f114c7240f58c775901306fcb3d0e"), looks := false }, kinds := [], alts := [], laidByText := true, laidKinds := [.data], laidTests := true, laidLooks := .later }
def FnExactPhaseNameUptoCardSaid : Prop := Claim7.holds Tryd.pinned (.plain (OpenSpec.upto fnExactPhaseNameSpec)) fnExactPhaseNameUptoCard

/-- THE SECOND FORM's CARD OF 'laws.FnExactPhaseOf'. -/
def fnExactPhaseOfUptoCard : Claim7 := { stood := { row := fnExactPhaseOfUptoRow, standIns := [], harness := (true, "e1b17aa3688ea855ff1e7bdec33e554fbf9f114c7240f58c775901306fcb3d0e"), looks := false }, kinds := [], alts := [], laidByText := true, laidKinds := [.data], laidTests := true, laidLooks := .later }
def FnExactPhaseOfUptoCardSaid : Prop := Claim7.holds Tryd.pinned (.plain (OpenSpec.upto fnExactPhaseOfSpec)) fnExactPhaseOfUptoCard
end Rows
end Go.Proofs.YtjpfkjehlaepbaaDoor
