/-
  NARROWER THAN 'FOR EVERY INPUT', by the rows' own cells (each row's printed sentence says how): FnSets: laid · FnExactCsName: laid · FnExactCsOf: laid · FnExactByteSign: laid · FnExactSignByte: laid.
  DERIVED. THE GIVEN ROWS OF THIS SEAT. 5 by the template 'for every input the law returns true; each argument reads behind the call as it read before'; 0 by the template 'total and deterministic' (their statements: YtmkhnbadgmegcaaDoorTotals.lean).
  GIVEN WITH THE SEED: the statements are not yours to turn. If you find one false, say at which input.
  Laid BY PROGRAM, IN A SANDBOX (cutbox-rows.mjs): the forced cells as the released guide's own fill.sh prints them over the translation 83d72d074f44be47… (all of the seat's roots in one cut). By AI agents, Wed Nov 11 2026. No macro, syntax, notation, axiom, sorry.
-/
import Derived.Test.YtmkhnbadgmegcaaDoorChecked
import GoSem.Claim
import GoSem.ClaimJoined
import GoSem.ClaimMapViews
import Derived.JoinedTies
import Derived.KernelRfl
namespace Go.Proofs.YtmkhnbadgmegcaaDoor
/- THE CELL 'sum', in the pinned program and in every row, IS THE sha256 OF THE DUMP (.gsa) THAT YtmkhnbadgmegcaaDoorProg.lean LOADS. Nothing in Lean hashes anything: it is a label: what it is worth is what the hold of that sum in a sandbox is worth. -/
noncomputable def Tryd.pinned : Pinned := { name := "ytmkhnbadgmegcaadoor", sum := "83d72d074f44be47ff8b0312415d1149c3ef23ab9cb5cc91f6ca89a0f563ff6a", checked := Tryd.checked }
namespace Rows
def none {H : Type} : Left H := { results := [], args := [] }

/- WHAT THE LISTED PACKAGE-LEVEL VARIABLES READ AS WHEN THE CALL BEGINS. Each datum BY PROGRAM (the guide's laid-datum.mjs) off the statement by which the dump's own 'gosem.cut.vars' lays the variable. In a bare row this is a premise. The card (YtmkhnbadgmegcaaDoorCards.lean) ties it to the program's text. -/
def laid_loop_example_g00475_impl_csNames {H : Type} : DataW H := .agg [.lit (.string [117, 116, 102, 56]), .lit (.string [108, 97, 116, 105, 110, 49]), .lit (.string [108, 97, 116, 105, 110, 57]), .lit (.string [107, 111, 105, 56]), .lit (.string [99, 112, 49, 50, 53, 50]), .lit (.string [101, 117, 99, 106, 112])]
def laid_loop_example_g00475_impl_nineSigns {H : Type} : DataW H := .agg [.lit (.int .i64 0), .lit (.int .i64 0), .lit (.int .i64 0), .lit (.int .i64 0), .lit (.int .i64 8364), .lit (.int .i64 0), .lit (.int .i64 352), .lit (.int .i64 0), .lit (.int .i64 353), .lit (.int .i64 0), .lit (.int .i64 0), .lit (.int .i64 0), .lit (.int .i64 0), .lit (.int .i64 0), .lit (.int .i64 0), .lit (.int .i64 0), .lit (.int .i64 0), .lit (.int .i64 0), .lit (.int .i64 0), .lit (.int .i64 0), .lit (.int .i64 381), .lit (.int .i64 0), .lit (.int .i64 0), .lit (.int .i64 0), .lit (.int .i64 382), .lit (.int .i64 0), .lit (.int .i64 0), .lit (.int .i64 0), .lit (.int .i64 338), .lit (.int .i64 339), .lit (.int .i64 376), .lit (.int .i64 0)]
def laid_loop_example_g00475_impl_koiSigns {H : Type} : DataW H := .agg [.lit (.int .i64 1102), .lit (.int .i64 1072), .lit (.int .i64 1073), .lit (.int .i64 1094), .lit (.int .i64 1076), .lit (.int .i64 1077), .lit (.int .i64 1092), .lit (.int .i64 1075), .lit (.int .i64 1093), .lit (.int .i64 1080), .lit (.int .i64 1081), .lit (.int .i64 1082), .lit (.int .i64 1083), .lit (.int .i64 1084), .lit (.int .i64 1085), .lit (.int .i64 1086), .lit (.int .i64 1087), .lit (.int .i64 1103), .lit (.int .i64 1088), .lit (.int .i64 1089), .lit (.int .i64 1090), .lit (.int .i64 1091), .lit (.int .i64 1078), .lit (.int .i64 1074), .lit (.int .i64 1100), .lit (.int .i64 1099), .lit (.int .i64 1079), .lit (.int .i64 1096), .lit (.int .i64 1101), .lit (.int .i64 1097), .lit (.int .i64 1095), .lit (.int .i64 1098)]
def laid_loop_example_g00475_impl_winSigns {H : Type} : DataW H := .agg [.lit (.int .i64 8364), .lit (.int .i64 0), .lit (.int .i64 8218), .lit (.int .i64 402), .lit (.int .i64 8222), .lit (.int .i64 8230), .lit (.int .i64 8224), .lit (.int .i64 8225), .lit (.int .i64 710), .lit (.int .i64 8240), .lit (.int .i64 352), .lit (.int .i64 8249), .lit (.int .i64 338), .lit (.int .i64 0), .lit (.int .i64 381), .lit (.int .i64 0), .lit (.int .i64 0), .lit (.int .i64 8216), .lit (.int .i64 8217), .lit (.int .i64 8220), .lit (.int .i64 8221), .lit (.int .i64 8226), .lit (.int .i64 8211), .lit (.int .i64 8212), .lit (.int .i64 732), .lit (.int .i64 8482), .lit (.int .i64 353), .lit (.int .i64 8250), .lit (.int .i64 339), .lit (.int .i64 0), .lit (.int .i64 382), .lit (.int .i64 376)]

/-- 'laws.FnSets': WHATEVER THE INPUT: true; the input reads as it did. -/
def fnSetsSpec : ChangeSpec := { name := "fnSets", vars := ["loop.example/g00475/impl.nineSigns", "loop.example/g00475/impl.koiSigns", "loop.example/g00475/impl.winSigns", "loop.example/g00475/impl.csNames"], fn := fun _ => fun
  | [d, g1, g2, g3, g4] => { results := [.lit (.bool true)], args := [d], vars := [g1, g2, g3, g4] }
  | _ => none }
def fnSetsRow : OpenClaim := { program := "ytmkhnbadgmegcaadoor", sum := "83d72d074f44be47ff8b0312415d1149c3ef23ab9cb5cc91f6ca89a0f563ff6a", func := "loop.example/g00475/laws.FnSets", spec := "fnSets", named := ["loop.example/g00475/impl.nineSigns", "loop.example/g00475/impl.koiSigns", "loop.example/g00475/impl.winSigns", "loop.example/g00475/impl.csNames"], apart := false, laid := [("loop.example/g00475/impl.csNames", laid_loop_example_g00475_impl_csNames), ("loop.example/g00475/impl.nineSigns", laid_loop_example_g00475_impl_nineSigns), ("loop.example/g00475/impl.koiSigns", laid_loop_example_g00475_impl_koiSigns), ("loop.example/g00475/impl.winSigns", laid_loop_example_g00475_impl_winSigns)] }
def FnSetsSaid : Prop := fnSetsRow.holds Tryd.pinned (OpenSpec.ofChange fnSetsSpec)

/-- ITS FALSE NEIGHBOUR: 'it returns false'. Refute it at one input. -/
def fnSetsWrong : ChangeSpec := { name := "fnSets", vars := ["loop.example/g00475/impl.nineSigns", "loop.example/g00475/impl.koiSigns", "loop.example/g00475/impl.winSigns", "loop.example/g00475/impl.csNames"], fn := fun _ => fun
  | [d, g1, g2, g3, g4] => { results := [.lit (.bool false)], args := [d], vars := [g1, g2, g3, g4] }
  | _ => none }
def FnSetsWrongFalsely : Prop := fnSetsRow.holds Tryd.pinned (OpenSpec.ofChange fnSetsWrong)

/-- 'laws.FnExactCsName': WHATEVER THE INPUT: true; the input reads as it did. -/
def fnExactCsNameSpec : ChangeSpec := { name := "fnExactCsName", vars := ["loop.example/g00475/impl.csNames"], fn := fun _ => fun
  | [d, g1] => { results := [.lit (.bool true)], args := [d], vars := [g1] }
  | _ => none }
def fnExactCsNameRow : OpenClaim := { program := "ytmkhnbadgmegcaadoor", sum := "83d72d074f44be47ff8b0312415d1149c3ef23ab9cb5cc91f6ca89a0f563ff6a", func := "loop.example/g00475/laws.FnExactCsName", spec := "fnExactCsName", named := ["loop.example/g00475/impl.csNames"], apart := false, laid := [("loop.example/g00475/impl.csNames", laid_loop_example_g00475_impl_csNames)] }
def FnExactCsNameSaid : Prop := fnExactCsNameRow.holds Tryd.pinned (OpenSpec.ofChange fnExactCsNameSpec)

/-- ITS FALSE NEIGHBOUR: 'it returns false'. Refute it at one input. -/
def fnExactCsNameWrong : ChangeSpec := { name := "fnExactCsName", vars := ["loop.example/g00475/impl.csNames"], fn := fun _ => fun
  | [d, g1] => { results := [.lit (.bool false)], args := [d], vars := [g1] }
  | _ => none }
def FnExactCsNameWrongFalsely : Prop := fnExactCsNameRow.holds Tryd.pinned (OpenSpec.ofChange fnExactCsNameWrong)

/-- 'laws.FnExactCsOf': WHATEVER THE INPUT: true; the input reads as it did. -/
def fnExactCsOfSpec : ChangeSpec := { name := "fnExactCsOf", vars := ["loop.example/g00475/impl.csNames"], fn := fun _ => fun
  | [d, g1] => { results := [.lit (.bool true)], args := [d], vars := [g1] }
  | _ => none }
def fnExactCsOfRow : OpenClaim := { program := "ytmkhnbadgmegcaadoor", sum := "83d72d074f44be47ff8b0312415d1149c3ef23ab9cb5cc91f6ca89a0f563ff6a", func := "loop.example/g00475/laws.FnExactCsOf", spec := "fnExactCsOf", named := ["loop.example/g00475/impl.csNames"], apart := false, laid := [("loop.example/g00475/impl.csNames", laid_loop_example_g00475_impl_csNames)] }
def FnExactCsOfSaid : Prop := fnExactCsOfRow.holds Tryd.pinned (OpenSpec.ofChange fnExactCsOfSpec)

/-- ITS FALSE NEIGHBOUR: 'it returns false'. Refute it at one input. -/
def fnExactCsOfWrong : ChangeSpec := { name := "fnExactCsOf", vars := ["loop.example/g00475/impl.csNames"], fn := fun _ => fun
  | [d, g1] => { results := [.lit (.bool false)], args := [d], vars := [g1] }
  | _ => none }
def FnExactCsOfWrongFalsely : Prop := fnExactCsOfRow.holds Tryd.pinned (OpenSpec.ofChange fnExactCsOfWrong)

/-- 'laws.FnExactByteSign': WHATEVER THE INPUT: true; the input reads as it did. -/
def fnExactByteSignSpec : ChangeSpec := { name := "fnExactByteSign", vars := ["loop.example/g00475/impl.nineSigns", "loop.example/g00475/impl.koiSigns", "loop.example/g00475/impl.winSigns"], fn := fun _ => fun
  | [d1, d2, g1, g2, g3] => { results := [.lit (.bool true)], args := [d1, d2], vars := [g1, g2, g3] }
  | _ => none }
def fnExactByteSignRow : OpenClaim := { program := "ytmkhnbadgmegcaadoor", sum := "83d72d074f44be47ff8b0312415d1149c3ef23ab9cb5cc91f6ca89a0f563ff6a", func := "loop.example/g00475/laws.FnExactByteSign", spec := "fnExactByteSign", named := ["loop.example/g00475/impl.nineSigns", "loop.example/g00475/impl.koiSigns", "loop.example/g00475/impl.winSigns"], apart := false, laid := [("loop.example/g00475/impl.nineSigns", laid_loop_example_g00475_impl_nineSigns), ("loop.example/g00475/impl.koiSigns", laid_loop_example_g00475_impl_koiSigns), ("loop.example/g00475/impl.winSigns", laid_loop_example_g00475_impl_winSigns)] }
def FnExactByteSignSaid : Prop := fnExactByteSignRow.holds Tryd.pinned (OpenSpec.ofChange fnExactByteSignSpec)

/-- ITS FALSE NEIGHBOUR: 'it returns false'. Refute it at one input. -/
def fnExactByteSignWrong : ChangeSpec := { name := "fnExactByteSign", vars := ["loop.example/g00475/impl.nineSigns", "loop.example/g00475/impl.koiSigns", "loop.example/g00475/impl.winSigns"], fn := fun _ => fun
  | [d1, d2, g1, g2, g3] => { results := [.lit (.bool false)], args := [d1, d2], vars := [g1, g2, g3] }
  | _ => none }
def FnExactByteSignWrongFalsely : Prop := fnExactByteSignRow.holds Tryd.pinned (OpenSpec.ofChange fnExactByteSignWrong)

/-- 'laws.FnExactSignByte': WHATEVER THE INPUT: true; the input reads as it did. -/
def fnExactSignByteSpec : ChangeSpec := { name := "fnExactSignByte", vars := ["loop.example/g00475/impl.nineSigns", "loop.example/g00475/impl.koiSigns", "loop.example/g00475/impl.winSigns"], fn := fun _ => fun
  | [d1, d2, g1, g2, g3] => { results := [.lit (.bool true)], args := [d1, d2], vars := [g1, g2, g3] }
  | _ => none }
def fnExactSignByteRow : OpenClaim := { program := "ytmkhnbadgmegcaadoor", sum := "83d72d074f44be47ff8b0312415d1149c3ef23ab9cb5cc91f6ca89a0f563ff6a", func := "loop.example/g00475/laws.FnExactSignByte", spec := "fnExactSignByte", named := ["loop.example/g00475/impl.nineSigns", "loop.example/g00475/impl.koiSigns", "loop.example/g00475/impl.winSigns"], apart := false, laid := [("loop.example/g00475/impl.nineSigns", laid_loop_example_g00475_impl_nineSigns), ("loop.example/g00475/impl.koiSigns", laid_loop_example_g00475_impl_koiSigns), ("loop.example/g00475/impl.winSigns", laid_loop_example_g00475_impl_winSigns)] }
def FnExactSignByteSaid : Prop := fnExactSignByteRow.holds Tryd.pinned (OpenSpec.ofChange fnExactSignByteSpec)

/-- ITS FALSE NEIGHBOUR: 'it returns false'. Refute it at one input. -/
def fnExactSignByteWrong : ChangeSpec := { name := "fnExactSignByte", vars := ["loop.example/g00475/impl.nineSigns", "loop.example/g00475/impl.koiSigns", "loop.example/g00475/impl.winSigns"], fn := fun _ => fun
  | [d1, d2, g1, g2, g3] => { results := [.lit (.bool false)], args := [d1, d2], vars := [g1, g2, g3] }
  | _ => none }
def FnExactSignByteWrongFalsely : Prop := fnExactSignByteRow.holds Tryd.pinned (OpenSpec.ofChange fnExactSignByteWrong)

/- THE SECOND FORM. 'bulk': how many values and letters a reading holds, each counted each time it is reached (what is shared counts as often as it is met; a slice's spare places count too). A statement '..UptoSaid' is the law's where the arguments, and the package variables that the reading takes, are together of bulk at most 1048576: NARROWER than '..Said'. Prove '..Said' where nothing that the law and all that it calls make is longer than what came in: it says more and counts as full. Else prove '..UptoSaid'. A law counts once. -/
mutual
def uptoBulk {H : Type} : DataW H → Nat
  | .lit (.string bytes) => bytes.length + 1
  | .lit _ => 1
  | .nil => 1
  | .ptr d => uptoBulk d + 1
  | .slice elems spare => uptoBulkAll elems + uptoBulkAll spare + 1
  | .agg parts => uptoBulkAll parts + 1
  | .iface _ d => uptoBulk d + 1
  | .map entries => uptoBulkEntries entries + 1
  | .held _ => 1
def uptoBulkAll {H : Type} : List (DataW H) → Nat
  | [] => 0
  | d :: r => uptoBulk d + uptoBulkAll r
def uptoBulkEntries {H : Type} : List (Lit × DataW H) → Nat
  | [] => 0
  | x :: r => uptoBulkEntry x + uptoBulkEntries r
def uptoBulkEntry {H : Type} : Lit × DataW H → Nat
  | (.string bytes, d) => bytes.length + uptoBulk d + 1
  | (_, d) => uptoBulk d + 1
 end
def uptoSmall : (H : Type) → List (DataW H) → Bool := fun _ ds => decide (uptoBulkAll ds ≤ 1048576)
def OpenSpec.upto (s : _root_.Go.ChangeSpec) : _root_.Go.OpenSpec := { _root_.Go.OpenSpec.ofChange s with cond := some uptoSmall }

/-- 'laws.FnSets', WHERE WHAT IT READS IS OF BULK AT MOST 1048576: true; the input reads as it did. -/
def fnSetsUptoRow : OpenClaim := { program := "ytmkhnbadgmegcaadoor", sum := "83d72d074f44be47ff8b0312415d1149c3ef23ab9cb5cc91f6ca89a0f563ff6a", func := "loop.example/g00475/laws.FnSets", spec := "fnSets", named := ["loop.example/g00475/impl.nineSigns", "loop.example/g00475/impl.koiSigns", "loop.example/g00475/impl.winSigns", "loop.example/g00475/impl.csNames"], apart := false, laid := [("loop.example/g00475/impl.csNames", laid_loop_example_g00475_impl_csNames), ("loop.example/g00475/impl.nineSigns", laid_loop_example_g00475_impl_nineSigns), ("loop.example/g00475/impl.koiSigns", laid_loop_example_g00475_impl_koiSigns), ("loop.example/g00475/impl.winSigns", laid_loop_example_g00475_impl_winSigns)], narrowed := true }
def FnSetsUptoSaid : Prop := fnSetsUptoRow.holds Tryd.pinned (OpenSpec.upto fnSetsSpec)

/-- 'laws.FnExactCsName', WHERE WHAT IT READS IS OF BULK AT MOST 1048576: true; the input reads as it did. -/
def fnExactCsNameUptoRow : OpenClaim := { program := "ytmkhnbadgmegcaadoor", sum := "83d72d074f44be47ff8b0312415d1149c3ef23ab9cb5cc91f6ca89a0f563ff6a", func := "loop.example/g00475/laws.FnExactCsName", spec := "fnExactCsName", named := ["loop.example/g00475/impl.csNames"], apart := false, laid := [("loop.example/g00475/impl.csNames", laid_loop_example_g00475_impl_csNames)], narrowed := true }
def FnExactCsNameUptoSaid : Prop := fnExactCsNameUptoRow.holds Tryd.pinned (OpenSpec.upto fnExactCsNameSpec)

/-- 'laws.FnExactCsOf', WHERE WHAT IT READS IS OF BULK AT MOST 1048576: true; the input reads as it did. -/
def fnExactCsOfUptoRow : OpenClaim := { program := "ytmkhnbadgmegcaadoor", sum := "83d72d074f44be47ff8b0312415d1149c3ef23ab9cb5cc91f6ca89a0f563ff6a", func := "loop.example/g00475/laws.FnExactCsOf", spec := "fnExactCsOf", named := ["loop.example/g00475/impl.csNames"], apart := false, laid := [("loop.example/g00475/impl.csNames", laid_loop_example_g00475_impl_csNames)], narrowed := true }
def FnExactCsOfUptoSaid : Prop := fnExactCsOfUptoRow.holds Tryd.pinned (OpenSpec.upto fnExactCsOfSpec)

/-- 'laws.FnExactByteSign', WHERE WHAT IT READS IS OF BULK AT MOST 1048576: true; the input reads as it did. -/
def fnExactByteSignUptoRow : OpenClaim := { program := "ytmkhnbadgmegcaadoor", sum := "83d72d074f44be47ff8b0312415d1149c3ef23ab9cb5cc91f6ca89a0f563ff6a", func := "loop.example/g00475/laws.FnExactByteSign", spec := "fnExactByteSign", named := ["loop.example/g00475/impl.nineSigns", "loop.example/g00475/impl.koiSigns", "loop.example/g00475/impl.winSigns"], apart := false, laid := [("loop.example/g00475/impl.nineSigns", laid_loop_example_g00475_impl_nineSigns), ("loop.example/g00475/impl.koiSigns", laid_loop_example_g00475_impl_koiSigns), ("loop.example/g00475/impl.winSigns", laid_loop_example_g00475_impl_winSigns)], narrowed := true }
def FnExactByteSignUptoSaid : Prop := fnExactByteSignUptoRow.holds Tryd.pinned (OpenSpec.upto fnExactByteSignSpec)

/-- 'laws.FnExactSignByte', WHERE WHAT IT READS IS OF BULK AT MOST 1048576: true; the input reads as it did. -/
def fnExactSignByteUptoRow : OpenClaim := { program := "ytmkhnbadgmegcaadoor", sum := "83d72d074f44be47ff8b0312415d1149c3ef23ab9cb5cc91f6ca89a0f563ff6a", func := "loop.example/g00475/laws.FnExactSignByte", spec := "fnExactSignByte", named := ["loop.example/g00475/impl.nineSigns", "loop.example/g00475/impl.koiSigns", "loop.example/g00475/impl.winSigns"], apart := false, laid := [("loop.example/g00475/impl.nineSigns", laid_loop_example_g00475_impl_nineSigns), ("loop.example/g00475/impl.koiSigns", laid_loop_example_g00475_impl_koiSigns), ("loop.example/g00475/impl.winSigns", laid_loop_example_g00475_impl_winSigns)], narrowed := true }
def FnExactSignByteUptoSaid : Prop := fnExactSignByteUptoRow.holds Tryd.pinned (OpenSpec.upto fnExactSignByteSpec)

end Rows
end Go.Proofs.YtmkhnbadgmegcaaDoor
