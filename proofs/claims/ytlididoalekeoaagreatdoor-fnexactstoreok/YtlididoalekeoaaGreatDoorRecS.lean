/- The specification: RecOk. -/
import Derived.Test.YtlididoalekeoaaGreatDoorRecP
import Derived.Test.YtlididoalekeoaaGreatDoorDpRec
import Derived.Test.YtlididoalekeoaaGreatDoorRowA
namespace Go.Proofs.YtlididoalekeoaaGreatDoor
set_option maxRecDepth 4000
open Go.RowKit

/-- A struct that was handed in, in its box. -/
structure Bx (T : TypeId) (w : World) (A : Array Value) (X : World) : Prop where
  bel : Below w.heap.size w X
  box : X.heap[w.heap.size]? = some (.cells A T (0, 0))
theorem Bx.new (T : TypeId) (w : World) (A : Array Value) : Bx T w A (w.alloc (.cells A T)) := ⟨below_lit w _, heap_alloc_new w _⟩
theorem Bx.below {T : TypeId} {w X Y : World} {A : Array Value} (h : Bx T w A X) (hb : Below X.heap.size X Y) : Bx T w A Y := ⟨Below.next h.bel hb, (hb.block _ (lt_of_block h.box)).trans h.box⟩
theorem Bx.cell {T : TypeId} {w X : World} {A : Array Value} (h : Bx T w A X) (i : Nat) {v : Value} (hv : A[i]? = some v) : X.cell? ⟨w.heap.size, i, none⟩ = some v := cellsA h.box i hv

theorem l1Word_any (x : Int) (w : World) : Calls Tryz.prog 55 #[.int .i64 x] w fun e w' => e = .returned (.bool (inB x 0 65535)) ∧ w' = w := by
  go_enter Tryz.func55, Tryz.ntmps55
  go_wp2_with fail
  refine (l1In_any x 0 65535 _).mono ?_
  rintro e w1 ⟨rfl, hw⟩
  subst hw
  go_wp2_with fail
  go_ret
  exact ⟨rfl, rfl⟩

theorem specRowOk_rd (cs : List Value) (a : RowD) (w : World) (h : RcRow w cs a) (hw : wtRow a ≤ 1048576) :
    Calls Tryz.prog 26 #[.agg cs.toArray] w fun e w' => e = .returned (.bool (rOk a)) ∧ Below w.heap.size w w' := by
  obtain ⟨l0, l1, l2, l3, l4, l5, l6⟩ := a
  simp only [RcRow] at h
  obtain ⟨x2, m2, d2, x4, m4, d4, rfl, _, r1, r3⟩ := h
  obtain ⟨_, _, _, q1, q2⟩ := r1
  simp only [List.cons.injEq, Value.slice.injEq, and_true, true_and] at q1
  obtain ⟨rfl, rfl, rfl⟩ := q1
  obtain ⟨_, _, _, q3, q4⟩ := r3
  simp only [List.cons.injEq, Value.slice.injEq, and_true, true_and] at q3
  obtain ⟨rfl, rfl, rfl⟩ := q3
  have c2 := (rdC_parts q2).2
  have c4 := (rdC_parts q4).2
  have h2 := c2.size
  have h4 := c4.size
  dsimp only at h2 h4
  simp only [wtRow, wtCell, wtB] at hw
  exact specRowOk_any l0 l1 x2 m2 d2 l3 x4 m4 d4 l5 l6 l2 l4 w (by omega) c2 c4 (by omega) (by omega)

end Go.Proofs.YtlididoalekeoaaGreatDoor
