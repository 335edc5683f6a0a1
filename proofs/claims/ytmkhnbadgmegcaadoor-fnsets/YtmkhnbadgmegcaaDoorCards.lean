/-
  DERIVED. GIVEN WITH THE SEED: THE CARDS: each row of YtmkhnbadgmegcaaDoorRows.lean that lists a variable, with what it lists TIED to the program's text (the seventh form; the later family's looks); each row that meets fmt, with fmt's text TOLD by the authors' own Lean function (tested against real Go, not proved from fmt's source: count such statements apart). THE CARD IS WHAT COUNTS. Prove the row's statement (the work); the ties are given (YtmkhnbadgmegcaaDoorTie.lean); close each card by the builder's one call (the guide's Derived/Test/ToyasCard.lean, 'card_holds'). Laid BY PROGRAM, IN A SANDBOX (cutbox-door.mjs). By AI agents, Wed Nov 11 2026. No macro, syntax, notation, axiom, sorry.
-/
import Derived.Test.YtmkhnbadgmegcaaDoorRows
import GoSem.ClaimSeven
namespace Go.Proofs.YtmkhnbadgmegcaaDoor
namespace Rows

/-- THE TIED CARD OF 'laws.FnSets'. -/
def fnSetsCard : Claim7 := { stood := { row := fnSetsRow, standIns := [], harness := (true, "9e7ccdf584a1a1e1ac9f1a74c9a637a7587dd582d9a390cbee5230b8688ef1b3"), looks := false }, kinds := [], alts := [], laidByText := true, laidKinds := [.data, .data, .data, .data], laidTests := true, laidLooks := .later }
def FnSetsCardSaid : Prop := Claim7.holds Tryd.pinned (.plain (OpenSpec.ofChange fnSetsSpec)) fnSetsCard

/-- THE TIED CARD OF 'laws.FnExactCsName'. -/
def fnExactCsNameCard : Claim7 := { stood := { row := fnExactCsNameRow, standIns := [], harness := (true, "9e7ccdf584a1a1e1ac9f1a74c9a637a7587dd582d9a390cbee5230b8688ef1b3"), looks := false }, kinds := [], alts := [], laidByText := true, laidKinds := [.data], laidTests := true, laidLooks := .later }
def FnExactCsNameCardSaid : Prop := Claim7.holds Tryd.pinned (.plain (OpenSpec.ofChange fnExactCsNameSpec)) fnExactCsNameCard

/-- THE TIED CARD OF 'laws.FnExactCsOf'. -/
def fnExactCsOfCard : Claim7 := { stood := { row := fnExactCsOfRow, standIns := [], harness := (true, "9e7ccdf584a1a1e1ac9f1a74c9a637a7587dd582d9a390cbee5230b8688ef1b3"), looks := false }, kinds := [], alts := [], laidByText := true, laidKinds := [.data], laidTests := true, laidLooks := .later }
def FnExactCsOfCardSaid : Prop := Claim7.holds Tryd.pinned (.plain (OpenSpec.ofChange fnExactCsOfSpec)) fnExactCsOfCard

/-- THE TIED CARD OF 'laws.FnExactByteSign'. -/
def fnExactByteSignCard : Claim7 := { stood := { row := fnExactByteSignRow, standIns := [], harness := (true, "9e7ccdf584a1a1e1ac9f1a74c9a637a7587dd582d9a390cbee5230b8688ef1b3"), looks := false }, kinds := [], alts := [], laidByText := true, laidKinds := [.data, .data, .data], laidTests := true, laidLooks := .later }
def FnExactByteSignCardSaid : Prop := Claim7.holds Tryd.pinned (.plain (OpenSpec.ofChange fnExactByteSignSpec)) fnExactByteSignCard

/-- THE TIED CARD OF 'laws.FnExactSignByte'. -/
def fnExactSignByteCard : Claim7 := { stood := { row := fnExactSignByteRow, standIns := [], harness := (true, "9e7ccdf584a1a1e1ac9f1a74c9a637a7587dd582d9a390cbee5230b8688ef1b3"), looks := false }, kinds := [], alts := [], laidByText := true, laidKinds := [.data, .data, .data], laidTests := true, laidLooks := .later }
def FnExactSignByteCardSaid : Prop := Claim7.holds Tryd.pinned (.plain (OpenSpec.ofChange fnExactSignByteSpec)) fnExactSignByteCard

/-- THE SECOND FORM's CARD OF 'laws.FnSets'. -/
def fnSetsUptoCard : Claim7 := { stood := { row := fnSetsUptoRow, standIns := [], harness := (true, "9e7ccdf584a1a1e1ac9f1a74c9a637a7587dd582d9a390cbee5230b8688ef1b3"), looks := false }, kinds := [], alts := [], laidByText := true, laidKinds := [.data, .data, .data, .data], laidTests := true, laidLooks := .later }
def FnSetsUptoCardSaid : Prop := Claim7.holds Tryd.pinned (.plain (OpenSpec.upto fnSetsSpec)) fnSetsUptoCard

/-- THE SECOND FORM's CARD OF 'laws.FnExactCsName'. -/
def fnExactCsNameUptoCard : Claim7 := { stood := { row := fnExactCsNameUptoRow, standIns := [], harness := (true, "9e7ccdf584a1a1e1ac9f1a74c9a637a7587dd582d9a390cbee5230b8688ef1b3"), looks := false }, kinds := [], alts := [], laidByText := true, laidKinds := [.data], laidTests := true, laidLooks := .later }
def FnExactCsNameUptoCardSaid : Prop := Claim7.holds Tryd.pinned (.plain (OpenSpec.upto fnExactCsNameSpec)) fnExactCsNameUptoCard

/-- THE SECOND FORM's CARD OF 'laws.FnExactCsOf'. -/
def fnExactCsOfUptoCard : Claim7 := { stood := { row := fnExactCsOfUptoRow, standIns := [], harness := (true, "9e7ccdf584a1a1e1ac9f1a74c9a637a7587dd582d9a390cbee5230b8688ef1b3"), looks := false }, kinds := [], alts := [], laidByText := true, laidKinds := [.data], laidTests := true, laidLooks := .later }
def FnExactCsOfUptoCardSaid : Prop := Claim7.holds Tryd.pinned (.plain (OpenSpec.upto fnExactCsOfSpec)) fnExactCsOfUptoCard

/-- THE SECOND FORM's CARD OF 'laws.FnExactByteSign'. -/
def fnExactByteSignUptoCard : Claim7 := { stood := { row := fnExactByteSignUptoRow, standIns := [], harness := (true, "9e7ccdf584a1a1e1ac9f1a74c9a637a7587dd582d9a390cbee5230b8688ef1b3"), looks := false }, kinds := [], alts := [], laidByText := true, laidKinds := [.data, .data, .data], laidTests := true, laidLooks := .later }
def FnExactByteSignUptoCardSaid : Prop := Claim7.holds Tryd.pinned (.plain (OpenSpec.upto fnExactByteSignSpec)) fnExactByteSignUptoCard

/-- THE SECOND FORM's CARD OF 'laws.FnExactSignByte'. -/
def fnExactSignByteUptoCard : Claim7 := { stood := { row := fnExactSignByteUptoRow, standIns := [], harness := (true, "9e7ccdf584a1a1e1ac9f1a74c9a637a7587dd582d9a390cbee5230b8688ef1b3"), looks := false }, kinds := [], alts := [], laidByText := true, laidKinds := [.data, .data, .data], laidTests := true, laidLooks := .later }
def FnExactSignByteUptoCardSaid : Prop := Claim7.holds Tryd.pinned (.plain (OpenSpec.upto fnExactSignByteSpec)) fnExactSignByteUptoCard
end Rows
end Go.Proofs.YtmkhnbadgmegcaaDoor
