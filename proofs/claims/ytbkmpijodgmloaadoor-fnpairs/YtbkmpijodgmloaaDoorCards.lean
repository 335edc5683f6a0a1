/-
  DERIVED. GIVEN WITH THE SEED: THE CARDS: each row of YtbkmpijodgmloaaDoorRows.lean that lists a variable, with what it lists TIED to the program's text (the seventh form; the later family's looks); each row that meets fmt, with fmt's text TOLD by the authors' own Lean function (tested against real Go, not proved from fmt's source: count such statements apart). THE CARD IS WHAT COUNTS. Prove the row's statement (the work); the ties are given (YtbkmpijodgmloaaDoorTie.lean); close each card by the builder's one call (the guide's Derived/Test/ToyasCard.lean, 'card_holds'). Laid BY PROGRAM, IN A SANDBOX (cutbox-door.mjs). By AI agents, Wed Nov 11 2026. No macro, syntax, notation, axiom, sorry.
-/
import Derived.Test.YtbkmpijodgmloaaDoorRows
import GoSem.ClaimSeven
namespace Go.Proofs.YtbkmpijodgmloaaDoor
namespace Rows

/-- THE TIED CARD OF 'laws.FnPairs'. -/
def fnPairsCard : Claim7 := { stood := { row := fnPairsRow, standIns := [], harness := (true, "55a22150ea892b1f02ccbdeb676371e6bae46a0d104d959d7b9d3bb88ab02e23"), looks := false }, kinds := [], alts := [], laidByText := true, laidKinds := [.data], laidTests := true, laidLooks := .later }
def FnPairsCardSaid : Prop := Claim7.holds Tryd.pinned (.plain (OpenSpec.ofChange fnPairsSpec)) fnPairsCard

/-- THE TIED CARD OF 'laws.FnExactPairSign'. -/
def fnExactPairSignCard : Claim7 := { stood := { row := fnExactPairSignRow, standIns := [], harness := (true, "55a22150ea892b1f02ccbdeb676371e6bae46a0d104d959d7b9d3bb88ab02e23"), looks := false }, kinds := [], alts := [], laidByText := true, laidKinds := [.data], laidTests := true, laidLooks := .later }
def FnExactPairSignCardSaid : Prop := Claim7.holds Tryd.pinned (.plain (OpenSpec.ofChange fnExactPairSignSpec)) fnExactPairSignCard

/-- THE TIED CARD OF 'laws.FnExactSignPair'. -/
def fnExactSignPairCard : Claim7 := { stood := { row := fnExactSignPairRow, standIns := [], harness := (true, "55a22150ea892b1f02ccbdeb676371e6bae46a0d104d959d7b9d3bb88ab02e23"), looks := false }, kinds := [], alts := [], laidByText := true, laidKinds := [.data], laidTests := true, laidLooks := .later }
def FnExactSignPairCardSaid : Prop := Claim7.holds Tryd.pinned (.plain (OpenSpec.ofChange fnExactSignPairSpec)) fnExactSignPairCard

/-- THE TIED CARD OF 'laws.FnExactEucSign'. -/
def fnExactEucSignCard : Claim7 := { stood := { row := fnExactEucSignRow, standIns := [], harness := (true, "55a22150ea892b1f02ccbdeb676371e6bae46a0d104d959d7b9d3bb88ab02e23"), looks := false }, kinds := [], alts := [], laidByText := true, laidKinds := [.data], laidTests := true, laidLooks := .later }
def FnExactEucSignCardSaid : Prop := Claim7.holds Tryd.pinned (.plain (OpenSpec.ofChange fnExactEucSignSpec)) fnExactEucSignCard

/-- THE TIED CARD OF 'laws.FnExactPutEuc'. -/
def fnExactPutEucCard : Claim7 := { stood := { row := fnExactPutEucRow, standIns := [], harness := (true, "55a22150ea892b1f02ccbdeb676371e6bae46a0d104d959d7b9d3bb88ab02e23"), looks := false }, kinds := [], alts := [], laidByText := true, laidKinds := [.data], laidTests := true, laidLooks := .later }
def FnExactPutEucCardSaid : Prop := Claim7.holds Tryd.pinned (.plain (OpenSpec.ofChange fnExactPutEucSpec)) fnExactPutEucCard

/-- THE SECOND FORM's CARD OF 'laws.FnPairs'. -/
def fnPairsUptoCard : Claim7 := { stood := { row := fnPairsUptoRow, standIns := [], harness := (true, "55a22150ea892b1f02ccbdeb676371e6bae46a0d104d959d7b9d3bb88ab02e23"), looks := false }, kinds := [], alts := [], laidByText := true, laidKinds := [.data], laidTests := true, laidLooks := .later }
def FnPairsUptoCardSaid : Prop := Claim7.holds Tryd.pinned (.plain (OpenSpec.upto fnPairsSpec)) fnPairsUptoCard

/-- THE SECOND FORM's CARD OF 'laws.FnExactPairSign'. -/
def fnExactPairSignUptoCard : Claim7 := { stood := { row := fnExactPairSignUptoRow, standIns := [], harness := (true, "55a22150ea892b1f02ccbdeb676371e6bae46a0d104d959d7b9d3bb88ab02e23"), looks := false }, kinds := [], alts := [], laidByText := true, laidKinds := [.data], laidTests := true, laidLooks := .later }
def FnExactPairSignUptoCardSaid : Prop := Claim7.holds Tryd.pinned (.plain (OpenSpec.upto fnExactPairSignSpec)) fnExactPairSignUptoCard

/-- THE SECOND FORM's CARD OF 'laws.FnExactSignPair'. -/
def fnExactSignPairUptoCard : Claim7 := { stood := { row := fnExactSignPairUptoRow, standIns := [], harness := (true, "55a22150ea892b1f02ccbdeb676371e6bae46a0d104d959d7b9d3bb88ab02e23"), looks := false }, kinds := [], alts := [], laidByText := true, laidKinds := [.data], laidTests := true, laidLooks := .later }
def FnExactSignPairUptoCardSaid : Prop := Claim7.holds Tryd.pinned (.plain (OpenSpec.upto fnExactSignPairSpec)) fnExactSignPairUptoCard

/-- THE SECOND FORM's CARD OF 'laws.FnExactEucSign'. -/
def fnExactEucSignUptoCard : Claim7 := { stood := { row := fnExactEucSignUptoRow, standIns := [], harness := (true, "55a22150ea892b1f02ccbdeb676371e6bae46a0d104d959d7b9d3bb88ab02e23"), looks := false }, kinds := [], alts := [], laidByText := true, laidKinds := [.data], laidTests := true, laidLooks := .later }
def FnExactEucSignUptoCardSaid : Prop := Claim7.holds Tryd.pinned (.plain (OpenSpec.upto fnExactEucSignSpec)) fnExactEucSignUptoCard

/-- THE SECOND FORM's CARD OF 'laws.FnExactPutEuc'. -/
def fnExactPutEucUptoCard : Claim7 := { stood := { row := fnExactPutEucUptoRow, standIns := [], harness := (true, "55a22150ea892b1f02ccbdeb676371e6bae46a0d104d959d7b9d3bb88ab02e23"), looks := false }, kinds := [], alts := [], laidByText := true, laidKinds := [.data], laidTests := true, laidLooks := .later }
def FnExactPutEucUptoCardSaid : Prop := Claim7.holds Tryd.pinned (.plain (OpenSpec.upto fnExactPutEucSpec)) fnExactPutEucUptoCard
end Rows
end Go.Proofs.YtbkmpijodgmloaaDoor
