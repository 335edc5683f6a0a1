/-
  DERIVED. GIVEN WITH THE SEED: THE CARDS: each row of YtejlellhoamjgaaDoorRows.lean that lists a variable, with what it lists TIED to the program's text (the seventh form; the later family's looks); each row that meets fmt, with fmt's text TOLD by the authors' own Lean function (tested against real Go, not proved from fmt's source: count such statements apart). THE CARD IS WHAT COUNTS. Prove the row's statement (the work); the ties are given (YtejlellhoamjgaaDoorTie.lean); close each card by the builder's one call (the guide's Derived/Test/ToyasCard.lean, 'card_holds'). Laid BY PROGRAM, IN A SANDBOX (cutbox-door.mjs). By AI agents, Wed Nov 11 2026. No macro, syntax, notation, axiom, sorry.
-/
import Derived.Test.YtejlellhoamjgaaDoorRows
import GoSem.ClaimSeven
namespace Go.Proofs.YtejlellhoamjgaaDoor
namespace Rows

/-- THE TIED CARD OF 'laws.FnAscii'. -/
def fnAsciiCard : Claim7 := { stood := { row := fnAsciiRow, standIns := [], harness := (true, "65d35eacbb2b86ffae8c8f6b3e710c8162a2312311930d3cfc040b4204a321d1"), looks := true }, kinds := [], alts := [], laidByText := true, laidKinds := [.data, .data, .data, .data, .data], laidTests := true, laidLooks := .later }
def FnAsciiCardSaid : Prop := Claim7.holds Tryd.pinned (.plain (OpenSpec.ofChange fnAsciiSpec)) fnAsciiCard

/-- THE TIED CARD OF 'laws.FnExactScore'. -/
def fnExactScoreCard : Claim7 := { stood := { row := fnExactScoreRow, standIns := [], harness := (true, "65d35eacbb2b86ffae8c8f6b3e710c8162a2312311930d3cfc040b4204a321d1"), looks := true }, kinds := [], alts := [], laidByText := true, laidKinds := [.data, .data, .data, .data, .data], laidTests := true, laidLooks := .later }
def FnExactScoreCardSaid : Prop := Claim7.holds Tryd.pinned (.plain (OpenSpec.ofChange fnExactScoreSpec)) fnExactScoreCard

/-- THE TIED CARD OF 'laws.FnExactDetect'. -/
def fnExactDetectCard : Claim7 := { stood := { row := fnExactDetectRow, standIns := [], harness := (true, "65d35eacbb2b86ffae8c8f6b3e710c8162a2312311930d3cfc040b4204a321d1"), looks := true }, kinds := [], alts := [], laidByText := true, laidKinds := [.data, .data, .data, .data, .data], laidTests := true, laidLooks := .later }
def FnExactDetectCardSaid : Prop := Claim7.holds Tryd.pinned (.plain (OpenSpec.ofChange fnExactDetectSpec)) fnExactDetectCard

/-- THE SECOND FORM's CARD OF 'laws.FnAscii'. -/
def fnAsciiUptoCard : Claim7 := { stood := { row := fnAsciiUptoRow, standIns := [], harness := (true, "65d35eacbb2b86ffae8c8f6b3e710c8162a2312311930d3cfc040b4204a321d1"), looks := true }, kinds := [], alts := [], laidByText := true, laidKinds := [.data, .data, .data, .data, .data], laidTests := true, laidLooks := .later }
def FnAsciiUptoCardSaid : Prop := Claim7.holds Tryd.pinned (.plain (OpenSpec.upto fnAsciiSpec)) fnAsciiUptoCard

/-- THE SECOND FORM's CARD OF 'laws.FnExactScore'. -/
def fnExactScoreUptoCard : Claim7 := { stood := { row := fnExactScoreUptoRow, standIns := [], harness := (true, "65d35eacbb2b86ffae8c8f6b3e710c8162a2312311930d3cfc040b4204a321d1"), looks := true }, kinds := [], alts := [], laidByText := true, laidKinds := [.data, .data, .data, .data, .data], laidTests := true, laidLooks := .later }
def FnExactScoreUptoCardSaid : Prop := Claim7.holds Tryd.pinned (.plain (OpenSpec.upto fnExactScoreSpec)) fnExactScoreUptoCard

/-- THE SECOND FORM's CARD OF 'laws.FnExactDetect'. -/
def fnExactDetectUptoCard : Claim7 := { stood := { row := fnExactDetectUptoRow, standIns := [], harness := (true, "65d35eacbb2b86ffae8c8f6b3e710c8162a2312311930d3cfc040b4204a321d1"), looks := true }, kinds := [], alts := [], laidByText := true, laidKinds := [.data, .data, .data, .data, .data], laidTests := true, laidLooks := .later }
def FnExactDetectUptoCardSaid : Prop := Claim7.holds Tryd.pinned (.plain (OpenSpec.upto fnExactDetectSpec)) fnExactDetectUptoCard
end Rows
end Go.Proofs.YtejlellhoamjgaaDoor
