/- The specification: ReadSec. -/
import Derived.Test.YtmoalbopbgfgdabDevCp
namespace Go.Proofs.Ytmoalbopbgfgdab
set_option maxRecDepth 4000
open Go.RowKit

theorem readL_take (n : Int) (s : List UInt8) {c : List WrD} {k : Nat} {a : WrD} (h : c[k]? = some a) : readL n s (c.take (k + 1)) = if a.n = n then a.b else readL n s (c.take k) := by
  rw [take_one h]
  simp [readL, readStep, List.foldl_append]
theorem emp_new (w : World) : New w.heap.size OwB (w.alloc (.cells #[] 5)) [.slice (some ⟨w.heap.size, 0, none⟩) 0 0] [] :=
  ⟨fun y => y = w.heap.size, ⟨fun y hy => by rw [hy]; simp, some ⟨w.heap.size, 0, none⟩, 0, 0, rfl, rfl, .inr ⟨w.heap.size, rfl, rfl, #[], heap_alloc_new w _, by simp, by unfold maxLen; simp, by simp⟩⟩, fun y hy => by omega⟩

end Go.Proofs.Ytmoalbopbgfgdab
