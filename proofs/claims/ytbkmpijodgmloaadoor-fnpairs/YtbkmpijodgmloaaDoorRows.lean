/-
  NARROWER THAN 'FOR EVERY INPUT', by the rows' own cells (each row's printed sentence says how): FnPairs: laid · FnExactPairSign: laid · FnExactSignPair: laid · FnExactEucSign: laid · FnExactPutEuc: laid.
  DERIVED. THE GIVEN ROWS OF THIS SEAT. 5 by the template 'for every input the law returns true; each argument reads behind the call as it read before'; 0 by the template 'total and deterministic' (their statements: YtbkmpijodgmloaaDoorTotals.lean).
  GIVEN WITH THE SEED: the statements are not yours to turn. If you find one false, say at which input.
  Laid BY PROGRAM, IN A SANDBOX (cutbox-rows.mjs): the forced cells as the released guide's own fill.sh prints them over the translation b117a50082492f42… (all of the seat's roots in one cut). By AI agents, Wed Nov 11 2026. No macro, syntax, notation, axiom, sorry.
-/
import Derived.Test.YtbkmpijodgmloaaDoorChecked
import GoSem.Claim
import GoSem.ClaimJoined
import GoSem.ClaimMapViews
import Derived.JoinedTies
import Derived.KernelRfl
namespace Go.Proofs.YtbkmpijodgmloaaDoor
/- THE CELL 'sum', in the pinned program and in every row, IS THE sha256 OF THE DUMP (.gsa) THAT YtbkmpijodgmloaaDoorProg.lean LOADS. Nothing in Lean hashes anything: it is a label: what it is worth is what the hold of that sum in a sandbox is worth. -/
noncomputable def Tryd.pinned : Pinned := { name := "ytbkmpijodgmloaadoor", sum := "b117a50082492f42680afb54e600461c02547d65df2848c3d20dface368590b5", checked := Tryd.checked }
namespace Rows
def none {H : Type} : Left H := { results := [], args := [] }

/- WHAT THE LISTED PACKAGE-LEVEL VARIABLES READ AS WHEN THE CALL BEGINS. Each datum BY PROGRAM (the guide's laid-datum.mjs) off the statement by which the dump's own 'gosem.cut.vars' lays the variable. In a bare row this is a premise. The card (YtbkmpijodgmloaaDoorCards.lean) ties it to the program's text. -/
def laid_loop_example_g00475_impl_pairRows {H : Type} : DataW H := .agg [.agg [.lit (.int .i64 164), .lit (.int .i64 243), .lit (.int .i64 12353)], .agg [.lit (.int .i64 165), .lit (.int .i64 246), .lit (.int .i64 12449)]]

/-- 'laws.FnPairs': WHATEVER THE INPUT: true; the input reads as it did. -/
def fnPairsSpec : ChangeSpec := { name := "fnPairs", vars := ["loop.example/g00475/impl.pairRows"], fn := fun _ => fun
  | [d, g1] => { results := [.lit (.bool true)], args := [d], vars := [g1] }
  | _ => none }
def fnPairsRow : OpenClaim := { program := "ytbkmpijodgmloaadoor", sum := "b117a50082492f42680afb54e600461c02547d65df2848c3d20dface368590b5", func := "loop.example/g00475/laws.FnPairs", spec := "fnPairs", named := ["loop.example/g00475/impl.pairRows"], apart := false, laid := [("loop.example/g00475/impl.pairRows", laid_loop_example_g00475_impl_pairRows)] }
def FnPairsSaid : Prop := fnPairsRow.holds Tryd.pinned (OpenSpec.ofChange fnPairsSpec)

/-- ITS FALSE NEIGHBOUR: 'it returns false'. Refute it at one input. -/
def fnPairsWrong : ChangeSpec := { name := "fnPairs", vars := ["loop.example/g00475/impl.pairRows"], fn := fun _ => fun
  | [d, g1] => { results := [.lit (.bool false)], args := [d], vars := [g1] }
  | _ => none }
def FnPairsWrongFalsely : Prop := fnPairsRow.holds Tryd.pinned (OpenSpec.ofChange fnPairsWrong)

/-- 'laws.FnExactPairSign': WHATEVER THE INPUT: true; the input reads as it did. -/
def fnExactPairSignSpec : ChangeSpec := { name := "fnExactPairSign", vars := ["loop.example/g00475/impl.pairRows"], fn := fun _ => fun
  | [d1, d2, g1] => { results := [.lit (.bool true)], args := [d1, d2], vars := [g1] }
  | _ => none }
def fnExactPairSignRow : OpenClaim := { program := "ytbkmpijodgmloaadoor", sum := "b117a50082492f42680afb54e600461c02547d65df2848c3d20dface368590b5", func := "loop.example/g00475/laws.FnExactPairSign", spec := "fnExactPairSign", named := ["loop.example/g00475/impl.pairRows"], apart := false, laid := [("loop.example/g00475/impl.pairRows", laid_loop_example_g00475_impl_pairRows)] }
def FnExactPairSignSaid : Prop := fnExactPairSignRow.holds Tryd.pinned (OpenSpec.ofChange fnExactPairSignSpec)

/-- ITS FALSE NEIGHBOUR: 'it returns false'. Refute it at one input. -/
def fnExactPairSignWrong : ChangeSpec := { name := "fnExactPairSign", vars := ["loop.example/g00475/impl.pairRows"], fn := fun _ => fun
  | [d1, d2, g1] => { results := [.lit (.bool false)], args := [d1, d2], vars := [g1] }
  | _ => none }
def FnExactPairSignWrongFalsely : Prop := fnExactPairSignRow.holds Tryd.pinned (OpenSpec.ofChange fnExactPairSignWrong)

/-- 'laws.FnExactSignPair': WHATEVER THE INPUT: true; the input reads as it did. -/
def fnExactSignPairSpec : ChangeSpec := { name := "fnExactSignPair", vars := ["loop.example/g00475/impl.pairRows"], fn := fun _ => fun
  | [d, g1] => { results := [.lit (.bool true)], args := [d], vars := [g1] }
  | _ => none }
def fnExactSignPairRow : OpenClaim := { program := "ytbkmpijodgmloaadoor", sum := "b117a50082492f42680afb54e600461c02547d65df2848c3d20dface368590b5", func := "loop.example/g00475/laws.FnExactSignPair", spec := "fnExactSignPair", named := ["loop.example/g00475/impl.pairRows"], apart := false, laid := [("loop.example/g00475/impl.pairRows", laid_loop_example_g00475_impl_pairRows)] }
def FnExactSignPairSaid : Prop := fnExactSignPairRow.holds Tryd.pinned (OpenSpec.ofChange fnExactSignPairSpec)

/-- ITS FALSE NEIGHBOUR: 'it returns false'. Refute it at one input. -/
def fnExactSignPairWrong : ChangeSpec := { name := "fnExactSignPair", vars := ["loop.example/g00475/impl.pairRows"], fn := fun _ => fun
  | [d, g1] => { results := [.lit (.bool false)], args := [d], vars := [g1] }
  | _ => none }
def FnExactSignPairWrongFalsely : Prop := fnExactSignPairRow.holds Tryd.pinned (OpenSpec.ofChange fnExactSignPairWrong)

/-- 'laws.FnExactEucSign': WHATEVER THE INPUT: true; the input reads as it did. -/
def fnExactEucSignSpec : ChangeSpec := { name := "fnExactEucSign", vars := ["loop.example/g00475/impl.pairRows"], fn := fun _ => fun
  | [d1, d2, g1] => { results := [.lit (.bool true)], args := [d1, d2], vars := [g1] }
  | _ => none }
def fnExactEucSignRow : OpenClaim := { program := "ytbkmpijodgmloaadoor", sum := "b117a50082492f42680afb54e600461c02547d65df2848c3d20dface368590b5", func := "loop.example/g00475/laws.FnExactEucSign", spec := "fnExactEucSign", named := ["loop.example/g00475/impl.pairRows"], apart := false, laid := [("loop.example/g00475/impl.pairRows", laid_loop_example_g00475_impl_pairRows)] }
def FnExactEucSignSaid : Prop := fnExactEucSignRow.holds Tryd.pinned (OpenSpec.ofChange fnExactEucSignSpec)

/-- ITS FALSE NEIGHBOUR: 'it returns false'. Refute it at one input. -/
def fnExactEucSignWrong : ChangeSpec := { name := "fnExactEucSign", vars := ["loop.example/g00475/impl.pairRows"], fn := fun _ => fun
  | [d1, d2, g1] => { results := [.lit (.bool false)], args := [d1, d2], vars := [g1] }
  | _ => none }
def FnExactEucSignWrongFalsely : Prop := fnExactEucSignRow.holds Tryd.pinned (OpenSpec.ofChange fnExactEucSignWrong)

/-- 'laws.FnExactPutEuc': WHATEVER THE INPUT: true; the input reads as it did. -/
def fnExactPutEucSpec : ChangeSpec := { name := "fnExactPutEuc", vars := ["loop.example/g00475/impl.pairRows"], fn := fun _ => fun
  | [d1, d2, g1] => { results := [.lit (.bool true)], args := [d1, d2], vars := [g1] }
  | _ => none }
def fnExactPutEucRow : OpenClaim := { program := "ytbkmpijodgmloaadoor", sum := "b117a50082492f42680afb54e600461c02547d65df2848c3d20dface368590b5", func := "loop.example/g00475/laws.FnExactPutEuc", spec := "fnExactPutEuc", named := ["loop.example/g00475/impl.pairRows"], apart := false, laid := [("loop.example/g00475/impl.pairRows", laid_loop_example_g00475_impl_pairRows)] }
def FnExactPutEucSaid : Prop := fnExactPutEucRow.holds Tryd.pinned (OpenSpec.ofChange fnExactPutEucSpec)

/-- ITS FALSE NEIGHBOUR: 'it returns false'. Refute it at one input. -/
def fnExactPutEucWrong : ChangeSpec := { name := "fnExactPutEuc", vars := ["loop.example/g00475/impl.pairRows"], fn := fun _ => fun
  | [d1, d2, g1] => { results := [.lit (.bool false)], args := [d1, d2], vars := [g1] }
  | _ => none }
def FnExactPutEucWrongFalsely : Prop := fnExactPutEucRow.holds Tryd.pinned (OpenSpec.ofChange fnExactPutEucWrong)

/- THE SECOND FORM. 'bulk': how many values and letters a reading holds, each counted each time it is reached (what is shared counts as often as it is met; a slice's spare places count too). A statement '..UptoSaid' is the law's where the arguments, and the package variables that the reading takes, are together of bulk at most 1048576: NARROWER than '..Said'. Prove '..Said' where nothing that the law and all that it calls make is longer than what came in: it says more and counts as full. Else prove '..UptoSaid'. A law counts once. -/
mutual
def uptoBulk {H : Type} : DataW H → Nat
  | .lit (.string bytes) => bytes.length + 1
  | .lit _ => 1
  | .nil => 1
  | .ptr d => uptoBulk d + 1
  | .slice elems spare => uptoBulkAll elems + uptoBulkAll spare + 1
  | .agg parts => uptoBulkAll parts + 1
  | .iface _ d => uptoBulk d + 1
  | .map entries => uptoBulkEntries entries + 1
  | .held _ => 1
def uptoBulkAll {H : Type} : List (DataW H) → Nat
  | [] => 0
  | d :: r => uptoBulk d + uptoBulkAll r
def uptoBulkEntries {H : Type} : List (Lit × DataW H) → Nat
  | [] => 0
  | x :: r => uptoBulkEntry x + uptoBulkEntries r
def uptoBulkEntry {H : Type} : Lit × DataW H → Nat
  | (.string bytes, d) => bytes.length + uptoBulk d + 1
  | (_, d) => uptoBulk d + 1
 end
def uptoSmall : (H : Type) → List (DataW H) → Bool := fun _ ds => decide (uptoBulkAll ds ≤ 1048576)
def OpenSpec.upto (s : _root_.Go.ChangeSpec) : _root_.Go.OpenSpec := { _root_.Go.OpenSpec.ofChange s with cond := some uptoSmall }

/-- 'laws.FnPairs', WHERE WHAT IT READS IS OF BULK AT MOST 1048576: true; the input reads as it did. -/
def fnPairsUptoRow : OpenClaim := { program := "ytbkmpijodgmloaadoor", sum := "b117a50082492f42680afb54e600461c02547d65df2848c3d20dface368590b5", func := "loop.example/g00475/laws.FnPairs", spec := "fnPairs", named := ["loop.example/g00475/impl.pairRows"], apart := false, laid := [("loop.example/g00475/impl.pairRows", laid_loop_example_g00475_impl_pairRows)], narrowed := true }
def FnPairsUptoSaid : Prop := fnPairsUptoRow.holds Tryd.pinned (OpenSpec.upto fnPairsSpec)

/-- 'laws.FnExactPairSign', WHERE WHAT IT READS IS OF BULK AT MOST 1048576: true; the input reads as it did. -/
def fnExactPairSignUptoRow : OpenClaim := { program := "ytbkmpijodgmloaadoor", sum := "b117a50082492f42680afb54e600461c02547d65df2848c3d20dface368590b5", func := "loop.example/g00475/laws.FnExactPairSign", spec := "fnExactPairSign", named := ["loop.example/g00475/impl.pairRows"], apart := false, laid := [("loop.example/g00475/impl.pairRows", laid_loop_example_g00475_impl_pairRows)], narrowed := true }
def FnExactPairSignUptoSaid : Prop := fnExactPairSignUptoRow.holds Tryd.pinned (OpenSpec.upto fnExactPairSignSpec)

/-- 'laws.FnExactSignPair', WHERE WHAT IT READS IS OF BULK AT MOST 1048576: true; the input reads as it did. -/
def fnExactSignPairUptoRow : OpenClaim := { program := "ytbkmpijodgmloaadoor", sum := "b117a50082492f42680afb54e600461c02547d65df2848c3d20dface368590b5", func := "loop.example/g00475/laws.FnExactSignPair", spec := "fnExactSignPair", named := ["loop.example/g00475/impl.pairRows"], apart := false, laid := [("loop.example/g00475/impl.pairRows", laid_loop_example_g00475_impl_pairRows)], narrowed := true }
def FnExactSignPairUptoSaid : Prop := fnExactSignPairUptoRow.holds Tryd.pinned (OpenSpec.upto fnExactSignPairSpec)

/-- 'laws.FnExactEucSign', WHERE WHAT IT READS IS OF BULK AT MOST 1048576: true; the input reads as it did. -/
def fnExactEucSignUptoRow : OpenClaim := { program := "ytbkmpijodgmloaadoor", sum := "b117a50082492f42680afb54e600461c02547d65df2848c3d20dface368590b5", func := "loop.example/g00475/laws.FnExactEucSign", spec := "fnExactEucSign", named := ["loop.example/g00475/impl.pairRows"], apart := false, laid := [("loop.example/g00475/impl.pairRows", laid_loop_example_g00475_impl_pairRows)], narrowed := true }
def FnExactEucSignUptoSaid : Prop := fnExactEucSignUptoRow.holds Tryd.pinned (OpenSpec.upto fnExactEucSignSpec)

/-- 'laws.FnExactPutEuc', WHERE WHAT IT READS IS OF BULK AT MOST 1048576: true; the input reads as it did. -/
def fnExactPutEucUptoRow : OpenClaim := { program := "ytbkmpijodgmloaadoor", sum := "b117a50082492f42680afb54e600461c02547d65df2848c3d20dface368590b5", func := "loop.example/g00475/laws.FnExactPutEuc", spec := "fnExactPutEuc", named := ["loop.example/g00475/impl.pairRows"], apart := false, laid := [("loop.example/g00475/impl.pairRows", laid_loop_example_g00475_impl_pairRows)], narrowed := true }
def FnExactPutEucUptoSaid : Prop := fnExactPutEucUptoRow.holds Tryd.pinned (OpenSpec.upto fnExactPutEucSpec)

end Rows
end Go.Proofs.YtbkmpijodgmloaaDoor
