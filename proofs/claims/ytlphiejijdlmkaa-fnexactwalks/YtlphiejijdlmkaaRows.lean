/-
  No cell of these rows narrows 'for every input' (looked for: loops, veiled, ifaces, maps, wideKeys, modest, calm, conditions, laid).
  DERIVED. THE GIVEN ROWS OF THIS SEAT. 3 by the template 'for every input the law returns true; each argument reads behind the call as it read before'; 0 by the template 'total and deterministic' (their statements: YtlphiejijdlmkaaTotals.lean).
  GIVEN WITH THE SEED: the statements are not yours to turn. If you find one false, say at which input.
  Laid BY PROGRAM, IN A SANDBOX (cutbox-rows.mjs): the forced cells as the released guide's own fill.sh prints them over the translation e4b97f5e8def41bc… (all of the seat's roots in one cut). By AI agents, Wed Nov 11 2026. No macro, syntax, notation, axiom, sorry.
-/
import Derived.Test.YtlphiejijdlmkaaChecked
import GoSem.Claim
import GoSem.ClaimJoined
import GoSem.ClaimMapViews
import Derived.JoinedTies
import Derived.KernelRfl
namespace Go.Proofs.Ytlphiejijdlmkaa
/- THE CELL 'sum', in the pinned program and in every row, IS THE sha256 OF THE DUMP (.gsa) THAT YtlphiejijdlmkaaProg.lean LOADS. Nothing in Lean hashes anything: it is a label: what it is worth is what the hold of that sum in a sandbox is worth. -/
noncomputable def Try.pinned : Pinned := { name := "ytlphiejijdlmkaa", sum := "e4b97f5e8def41bcf6fa51c6d81d3d6b9d4546df04e9d1e5c7a8bbca86506831", checked := Try.checked }
namespace Rows
def none {H : Type} : Left H := { results := [], args := [] }

/-- 'laws.FnExactNextOk': WHATEVER THE INPUT: true; the input reads as it did. -/
def fnExactNextOkSpec : ChangeSpec := { name := "fnExactNextOk", fn := fun _ => fun
  | [d1, d2] => { results := [.lit (.bool true)], args := [d1, d2] }
  | _ => none }
def fnExactNextOkRow : OpenClaim := { program := "ytlphiejijdlmkaa", sum := "e4b97f5e8def41bcf6fa51c6d81d3d6b9d4546df04e9d1e5c7a8bbca86506831", func := "loop.example/g00475/laws.FnExactNextOk", spec := "fnExactNextOk", apart := false }
def FnExactNextOkSaid : Prop := fnExactNextOkRow.holds Try.pinned (OpenSpec.ofChange fnExactNextOkSpec)

/-- ITS FALSE NEIGHBOUR: 'it returns false'. Refute it at one input. -/
def fnExactNextOkWrong : ChangeSpec := { name := "fnExactNextOk", fn := fun _ => fun
  | [d1, d2] => { results := [.lit (.bool false)], args := [d1, d2] }
  | _ => none }
def FnExactNextOkWrongFalsely : Prop := fnExactNextOkRow.holds Try.pinned (OpenSpec.ofChange fnExactNextOkWrong)

/-- 'laws.FnExactFinal': WHATEVER THE INPUT: true; the input reads as it did. -/
def fnExactFinalSpec : ChangeSpec := { name := "fnExactFinal", fn := fun _ => fun
  | [d] => { results := [.lit (.bool true)], args := [d] }
  | _ => none }
def fnExactFinalRow : OpenClaim := { program := "ytlphiejijdlmkaa", sum := "e4b97f5e8def41bcf6fa51c6d81d3d6b9d4546df04e9d1e5c7a8bbca86506831", func := "loop.example/g00475/laws.FnExactFinal", spec := "fnExactFinal", apart := false }
def FnExactFinalSaid : Prop := fnExactFinalRow.holds Try.pinned (OpenSpec.ofChange fnExactFinalSpec)

/-- ITS FALSE NEIGHBOUR: 'it returns false'. Refute it at one input. -/
def fnExactFinalWrong : ChangeSpec := { name := "fnExactFinal", fn := fun _ => fun
  | [d] => { results := [.lit (.bool false)], args := [d] }
  | _ => none }
def FnExactFinalWrongFalsely : Prop := fnExactFinalRow.holds Try.pinned (OpenSpec.ofChange fnExactFinalWrong)

/-- 'laws.FnExactWalks': WHATEVER THE INPUT: true; the input reads as it did. -/
def fnExactWalksSpec : ChangeSpec := { name := "fnExactWalks", fn := fun _ => fun
  | [d] => { results := [.lit (.bool true)], args := [d] }
  | _ => none }
def fnExactWalksRow : OpenClaim := { program := "ytlphiejijdlmkaa", sum := "e4b97f5e8def41bcf6fa51c6d81d3d6b9d4546df04e9d1e5c7a8bbca86506831", func := "loop.example/g00475/laws.FnExactWalks", spec := "fnExactWalks", apart := false }
def FnExactWalksSaid : Prop := fnExactWalksRow.holds Try.pinned (OpenSpec.ofChange fnExactWalksSpec)

/-- ITS FALSE NEIGHBOUR: 'it returns false'. Refute it at one input. -/
def fnExactWalksWrong : ChangeSpec := { name := "fnExactWalks", fn := fun _ => fun
  | [d] => { results := [.lit (.bool false)], args := [d] }
  | _ => none }
def FnExactWalksWrongFalsely : Prop := fnExactWalksRow.holds Try.pinned (OpenSpec.ofChange fnExactWalksWrong)

/- THE SECOND FORM. 'bulk': how many values and letters a reading holds, each counted each time it is reached (what is shared counts as often as it is met; a slice's spare places count too). A statement '..UptoSaid' is the law's where the arguments, and the package variables that the reading takes, are together of bulk at most 1048576: NARROWER than '..Said'. Prove '..Said' where nothing that the law and all that it calls make is longer than what came in: it says more and counts as full. Else prove '..UptoSaid'. A law counts once. -/
mutual
def uptoBulk {H : Type} : DataW H → Nat
  | .lit (.string bytes) => bytes.length + 1
  | .lit _ => 1
  | .nil => 1
  | .ptr d => uptoBulk d + 1
  | .slice elems spare => uptoBulkAll elems + uptoBulkAll spare + 1
  | .agg parts => uptoBulkAll parts + 1
  | .iface _ d => uptoBulk d + 1
  | .map entries => uptoBulkEntries entries + 1
  | .held _ => 1
def uptoBulkAll {H : Type} : List (DataW H) → Nat
  | [] => 0
  | d :: r => uptoBulk d + uptoBulkAll r
def uptoBulkEntries {H : Type} : List (Lit × DataW H) → Nat
  | [] => 0
  | x :: r => uptoBulkEntry x + uptoBulkEntries r
def uptoBulkEntry {H : Type} : Lit × DataW H → Nat
  | (.string bytes, d) => bytes.length + uptoBulk d + 1
  | (_, d) => uptoBulk d + 1
 end
def uptoSmall : (H : Type) → List (DataW H) → Bool := fun _ ds => decide (uptoBulkAll ds ≤ 1048576)
def OpenSpec.upto (s : _root_.Go.ChangeSpec) : _root_.Go.OpenSpec := { _root_.Go.OpenSpec.ofChange s with cond := some uptoSmall }

/-- 'laws.FnExactNextOk', WHERE WHAT IT READS IS OF BULK AT MOST 1048576: true; the input reads as it did. -/
def fnExactNextOkUptoRow : OpenClaim := { program := "ytlphiejijdlmkaa", sum := "e4b97f5e8def41bcf6fa51c6d81d3d6b9d4546df04e9d1e5c7a8bbca86506831", func := "loop.example/g00475/laws.FnExactNextOk", spec := "fnExactNextOk", apart := false, narrowed := true }
def FnExactNextOkUptoSaid : Prop := fnExactNextOkUptoRow.holds Try.pinned (OpenSpec.upto fnExactNextOkSpec)

/-- 'laws.FnExactFinal', WHERE WHAT IT READS IS OF BULK AT MOST 1048576: true; the input reads as it did. -/
def fnExactFinalUptoRow : OpenClaim := { program := "ytlphiejijdlmkaa", sum := "e4b97f5e8def41bcf6fa51c6d81d3d6b9d4546df04e9d1e5c7a8bbca86506831", func := "loop.example/g00475/laws.FnExactFinal", spec := "fnExactFinal", apart := false, narrowed := true }
def FnExactFinalUptoSaid : Prop := fnExactFinalUptoRow.holds Try.pinned (OpenSpec.upto fnExactFinalSpec)

/-- 'laws.FnExactWalks', WHERE WHAT IT READS IS OF BULK AT MOST 1048576: true; the input reads as it did. -/
def fnExactWalksUptoRow : OpenClaim := { program := "ytlphiejijdlmkaa", sum := "e4b97f5e8def41bcf6fa51c6d81d3d6b9d4546df04e9d1e5c7a8bbca86506831", func := "loop.example/g00475/laws.FnExactWalks", spec := "fnExactWalks", apart := false, narrowed := true }
def FnExactWalksUptoSaid : Prop := fnExactWalksUptoRow.holds Try.pinned (OpenSpec.upto fnExactWalksSpec)

end Rows
end Go.Proofs.Ytlphiejijdlmkaa
