/- Contracts of PairSign and SignPair, in the program (over its table) and in the specification. -/
import Derived.Test.YtcddjfdmodpnjabDoorCommon
import Derived.Test.YtcddjfdmodpnjabDoorBase
import Derived.Test.YtcddjfdmodpnjabDoorPairsP
namespace Go.Proofs.YtcddjfdmodpnjabDoor
open Go.RowKit

def pairT : List Int := [164, 243, 12353, 165, 246, 12449]
/-- The program's table of pairs lies in its variable. -/
structure PairsAt (w : World) : Prop where
  out : ∀ j, j < 6 → w.cell? ⟨0, j, none⟩ = some (.int .i64 (pairT.getD j 0))
theorem PairsAt.below {w w' : World} (h : PairsAt w) (hb : Below w.heap.size w w') : PairsAt w' := ⟨fun j hj => cell_below (h.out j hj) hb⟩
/-- The cells of the table, one by one. -/
theorem PairsAt.cells {w : World} (h : PairsAt w) : w.cell? ⟨0, 0, none⟩ = some (.int .i64 164) ∧ w.cell? ⟨0, 1, none⟩ = some (.int .i64 243) ∧ w.cell? ⟨0, 2, none⟩ = some (.int .i64 12353) ∧ w.cell? ⟨0, 3, none⟩ = some (.int .i64 165) ∧ w.cell? ⟨0, 4, none⟩ = some (.int .i64 246) ∧ w.cell? ⟨0, 5, none⟩ = some (.int .i64 12449) :=
  ⟨h.out 0 (by omega), h.out 1 (by omega), h.out 2 (by omega), h.out 3 (by omega), h.out 4 (by omega), h.out 5 (by omega)⟩

theorem row_zero (w : World) : (Instr.index 63 (.agg #[.int .i64 164, .int .i64 243, .int .i64 12353, .int .i64 165, .int .i64 246, .int .i64 12449]) (.int .i64 0)).run Tryd.prog w = .ok (.agg #[.int .i64 164, .int .i64 243, .int .i64 12353]) w := by kernel_rfl

theorem row_one (w : World) : (Instr.index 63 (.agg #[.int .i64 164, .int .i64 243, .int .i64 12353, .int .i64 165, .int .i64 246, .int .i64 12449]) (.int .i64 1)).run Tryd.prog w = .ok (.agg #[.int .i64 165, .int .i64 246, .int .i64 12449]) w := by kernel_rfl

end Go.Proofs.YtcddjfdmodpnjabDoor
