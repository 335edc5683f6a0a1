/-
  NARROWER THAN 'FOR EVERY INPUT', by the rows' own cells (each row's printed sentence says how): FnPhases: laid · FnExactPhaseName: laid · FnExactPhaseOf: laid.
  DERIVED. THE GIVEN ROWS OF THIS SEAT. 3 by the template 'for every input the law returns true; each argument reads behind the call as it read before'; 0 by the template 'total and deterministic' (their statements: YtjpfkjehlaepbaaDoorTotals.lean).
  GIVEN WITH THE SEED: the statements are not yours to turn. If you find one false, say at which input.
  Laid BY PROGRAM, IN A SANDBOX (cutbox-rows.mjs): the forced cells as the released guide's own fill.sh prints them over the translation a65f81c001e5a38c… (all of the seat's roots in one cut). By AI agents, Wed Nov 11 2026. No macro, syntax, notation, axiom, sorry.
-/
import Derived.Test.YtjpfkjehlaepbaaDoorChecked
import GoSem.Claim
import GoSem.ClaimJoined
import GoSem.ClaimMapViews
import Derived.JoinedTies
import Derived.KernelRfl
namespace Go.Proofs.YtjpfkjehlaepbaaDoor
/- THE CELL 'sum', in the pinned program and in every row, IS THE sha256 OF THE DUMP (.gsa) THAT YtjpfkjehlaepbaaDoorProg.lean LOADS. Nothing in Lean hashes anything: it is a label: what it is worth is what the hold of that sum in a sandbox is worth. -/
noncomputable def Tryd.pinned : Pinned := { name := "ytjpfkjehlaepbaadoor", sum := "a65f81c001e5a38c6114fd1595cc27d043672b9ee2b143e1c66256a6cee166ba", checked := Tryd.checked }
namespace Rows
def none {H : Type} : Left H := { results := [], args := [] }

/- WHAT THE LISTED PACKAGE-LEVEL VARIABLES READ AS WHEN THE CALL BEGINS. Each datum BY PROGRAM (the guide's laid-datum.mjs) off the statement by which the dump's own 'gosem.cut.vars' lays the variable. In a bare row this is a premise. The card (YtjpfkjehlaepbaaDoorCards.lean) ties it to the program's text. -/
def laid_loop_example_g00475_impl_phaseNames {H : Type} : DataW H := .agg [.lit (.string [105, 100, 108, 101]), .lit (.string [100, 117, 97, 108]), .lit (.string [102, 105, 108, 108]), .lit (.string [99, 104, 101, 99, 107]), .lit (.string [99, 117, 116]), .lit (.string [100, 111, 110, 101]), .lit (.string [98, 97, 99, 107]), .lit (.string [111, 118, 101, 114])]

/-- 'laws.FnPhases': WHATEVER THE INPUT: true; the input reads as it did. -/
def fnPhasesSpec : ChangeSpec := { name := "fnPhases", vars := ["loop.example/g00475/impl.phaseNames"], fn := fun _ => fun
  | [d, g1] => { results := [.lit (.bool true)], args := [d], vars := [g1] }
  | _ => none }
def fnPhasesRow : OpenClaim := { program := "ytjpfkjehlaepbaadoor", sum := "a65f81c001e5a38c6114fd1595cc27d043672b9ee2b143e1c66256a6cee166ba", func := "loop.example/g00475/laws.FnPhases", spec := "fnPhases", recurses := true, named := ["loop.example/g00475/impl.phaseNames"], apart := false, laid := [("loop.example/g00475/impl.phaseNames", laid_loop_example_g00475_impl_phaseNames)] }
def FnPhasesSaid : Prop := fnPhasesRow.holds Tryd.pinned (OpenSpec.ofChange fnPhasesSpec)

/-- ITS FALSE NEIGHBOUR: 'it returns false'. Refute it at one input. -/
def fnPhasesWrong : ChangeSpec := { name := "fnPhases", vars := ["loop.example/g00475/impl.phaseNames"], fn := fun _ => fun
  | [d, g1] => { results := [.lit (.bool false)], args := [d], vars := [g1] }
  | _ => none }
def FnPhasesWrongFalsely : Prop := fnPhasesRow.holds Tryd.pinned (OpenSpec.ofChange fnPhasesWrong)

/-- 'laws.FnExactPhaseName': WHATEVER THE INPUT: true; the input reads as it did. -/
def fnExactPhaseNameSpec : ChangeSpec := { name := "fnExactPhaseName", vars := ["loop.example/g00475/impl.phaseNames"], fn := fun _ => fun
  | [d, g1] => { results := [.lit (.bool true)], args := [d], vars := [g1] }
  | _ => none }
def fnExactPhaseNameRow : OpenClaim := { program := "ytjpfkjehlaepbaadoor", sum := "a65f81c001e5a38c6114fd1595cc27d043672b9ee2b143e1c66256a6cee166ba", func := "loop.example/g00475/laws.FnExactPhaseName", spec := "fnExactPhaseName", named := ["loop.example/g00475/impl.phaseNames"], apart := false, laid := [("loop.example/g00475/impl.phaseNames", laid_loop_example_g00475_impl_phaseNames)] }
def FnExactPhaseNameSaid : Prop := fnExactPhaseNameRow.holds Tryd.pinned (OpenSpec.ofChange fnExactPhaseNameSpec)

/-- ITS FALSE NEIGHBOUR: 'it returns false'. Refute it at one input. -/
def fnExactPhaseNameWrong : ChangeSpec := { name := "fnExactPhaseName", vars := ["loop.example/g00475/impl.phaseNames"], fn := fun _ => fun
  | [d, g1] => { results := [.lit (.bool false)], args := [d], vars := [g1] }
  | _ => none }
def FnExactPhaseNameWrongFalsely : Prop := fnExactPhaseNameRow.holds Tryd.pinned (OpenSpec.ofChange fnExactPhaseNameWrong)

/-- 'laws.FnExactPhaseOf': WHATEVER THE INPUT: true; the input reads as it did. -/
def fnExactPhaseOfSpec : ChangeSpec := { name := "fnExactPhaseOf", vars := ["loop.example/g00475/impl.phaseNames"], fn := fun _ => fun
  | [d, g1] => { results := [.lit (.bool true)], args := [d], vars := [g1] }
  | _ => none }
def fnExactPhaseOfRow : OpenClaim := { program := "ytjpfkjehlaepbaadoor", sum := "a65f81c001e5a38c6114fd1595cc27d043672b9ee2b143e1c66256a6cee166ba", func := "loop.example/g00475/laws.FnExactPhaseOf", spec := "fnExactPhaseOf", named := ["loop.example/g00475/impl.phaseNames"], apart := false, laid := [("loop.example/g00475/impl.phaseNames", laid_loop_example_g00475_impl_phaseNames)] }
def FnExactPhaseOfSaid : Prop := fnExactPhaseOfRow.holds Tryd.pinned (OpenSpec.ofChange fnExactPhaseOfSpec)

/-- ITS FALSE NEIGHBOUR: 'it returns false'. Refute it at one input. -/
def fnExactPhaseOfWrong : ChangeSpec := { name := "fnExactPhaseOf", vars := ["loop.example/g00475/impl.phaseNames"], fn := fun _ => fun
  | [d, g1] => { results := [.lit (.bool false)], args := [d], vars := [g1] }
  | _ => none }
def FnExactPhaseOfWrongFalsely : Prop := fnExactPhaseOfRow.holds Tryd.pinned (OpenSpec.ofChange fnExactPhaseOfWrong)

/- THE SECOND FORM. 'bulk': how many values and letters a reading holds, each counted each time it is reached (what is shared counts as often as it is met; a slice's spare places count too). A statement '..UptoSaid' is the law's where the arguments, and the package variables that the reading takes, are together of bulk at most 1048576: NARROWER than '..Said'. Prove '..Said' where nothing that the law and all that it calls make is longer than what came in: it says more and counts as full. Else prove '..UptoSaid'. A law counts once. -/
mutual
def uptoBulk {H : Type} : DataW H → Nat
  | .lit (.string bytes) => bytes.length + 1
  | .lit _ => 1
  | .nil => 1
  | .ptr d => uptoBulk d + 1
  | .slice elems spare => uptoBulkAll elems + uptoBulkAll spare + 1
  | .agg parts => uptoBulkAll parts + 1
  | .iface _ d => uptoBulk d + 1
  | .map entries => uptoBulkEntries entries + 1
  | .held _ => 1
def uptoBulkAll {H : Type} : List (DataW H) → Nat
  | [] => 0
  | d :: r => uptoBulk d + uptoBulkAll r
def uptoBulkEntries {H : Type} : List (Lit × DataW H) → Nat
  | [] => 0
  | x :: r => uptoBulkEntry x + uptoBulkEntries r
def uptoBulkEntry {H : Type} : Lit × DataW H → Nat
  | (.string bytes, d) => bytes.length + uptoBulk d + 1
  | (_, d) => uptoBulk d + 1
 end
def uptoSmall : (H : Type) → List (DataW H) → Bool := fun _ ds => decide (uptoBulkAll ds ≤ 1048576)
def OpenSpec.upto (s : _root_.Go.ChangeSpec) : _root_.Go.OpenSpec := { _root_.Go.OpenSpec.ofChange s with cond := some uptoSmall }

/-- 'laws.FnPhases', WHERE WHAT IT READS IS OF BULK AT MOST 1048576: true; the input reads as it did. -/
def fnPhasesUptoRow : OpenClaim := { program := "ytjpfkjehlaepbaadoor", sum := "a65f81c001e5a38c6114fd1595cc27d043672b9ee2b143e1c66256a6cee166ba", func := "loop.example/g00475/laws.FnPhases", spec := "fnPhases", recurses := true, named := ["loop.example/g00475/impl.phaseNames"], apart := false, laid := [("loop.example/g00475/impl.phaseNames", laid_loop_example_g00475_impl_phaseNames)], narrowed := true }
def FnPhasesUptoSaid : Prop := fnPhasesUptoRow.holds Tryd.pinned (OpenSpec.upto fnPhasesSpec)

/-- 'laws.FnExactPhaseName', WHERE WHAT IT READS IS OF BULK AT MOST 1048576: true; the input reads as it did. -/
def fnExactPhaseNameUptoRow : OpenClaim := { program := "ytjpfkjehlaepbaadoor", sum := "a65f81c001e5a38c6114fd1595cc27d043672b9ee2b143e1c66256a6cee166ba", func := "loop.example/g00475/laws.FnExactPhaseName", spec := "fnExactPhaseName", named := ["loop.example/g00475/impl.phaseNames"], apart := false, laid := [("loop.example/g00475/impl.phaseNames", laid_loop_example_g00475_impl_phaseNames)], narrowed := true }
def FnExactPhaseNameUptoSaid : Prop := fnExactPhaseNameUptoRow.holds Tryd.pinned (OpenSpec.upto fnExactPhaseNameSpec)

/-- 'laws.FnExactPhaseOf', WHERE WHAT IT READS IS OF BULK AT MOST 1048576: true; the input reads as it did. -/
def fnExactPhaseOfUptoRow : OpenClaim := { program := "ytjpfkjehlaepbaadoor", sum := "a65f81c001e5a38c6114fd1595cc27d043672b9ee2b143e1c66256a6cee166ba", func := "loop.example/g00475/laws.FnExactPhaseOf", spec := "fnExactPhaseOf", named := ["loop.example/g00475/impl.phaseNames"], apart := false, laid := [("loop.example/g00475/impl.phaseNames", laid_loop_example_g00475_impl_phaseNames)], narrowed := true }
def FnExactPhaseOfUptoSaid : Prop := fnExactPhaseOfUptoRow.holds Tryd.pinned (OpenSpec.upto fnExactPhaseOfSpec)

end Rows
end Go.Proofs.YtjpfkjehlaepbaaDoor
