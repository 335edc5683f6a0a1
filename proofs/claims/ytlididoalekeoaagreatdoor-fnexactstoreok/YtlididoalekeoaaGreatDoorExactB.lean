/- What a law's walk carries where nothing is marked: variables in boxes that are read. -/
import Derived.Test.YtlididoalekeoaaGreatDoorDeepA
namespace Go.Proofs.YtlididoalekeoaaGreatDoor
set_option maxRecDepth 4000
open Go.RowKit

structure BR {α : Type} (T : TypeId) (R : Rd α) (b : Nat) (cs : List Value) (a : α) (w : World) : Prop where
  box : w.heap[b]? = some (.cells cs.toArray T (0, 0))
  lo : R w cs a
theorem BR.below {α : Type} {T : TypeId} {R : Rd α} {n b : Nat} {cs : List Value} {a : α} {w w' : World} (ok : RdOk n R) (h : BR T R b cs a w) (hb : Below w.heap.size w w') : BR T R b cs a w' :=
  ⟨(hb.block b (block_lt h.box)).trans h.box, ok.below h.lo hb⟩
theorem br_new {α : Type} {T : TypeId} {R : Rd α} {n : Nat} {cs : List Value} {a : α} {w : World} (ok : RdOk n R) (hR : R w cs a) : BR T R w.heap.size cs a (w.alloc (.cells cs.toArray T)) := ⟨heap_alloc_new w _, ok.below hR (below_lit w _)⟩
/-- Two answers, the first a struct. -/
structure AnsT {α : Type} (R : Rd α) (a : α) (v : Value) (w : World) (e : Ending) (w' : World) : Prop where
  out : ∃ cs, e = .returned (.tuple #[.agg cs.toArray, v]) ∧ R w' cs a
  below : Below w.heap.size w w'

end Go.Proofs.YtlididoalekeoaaGreatDoor
