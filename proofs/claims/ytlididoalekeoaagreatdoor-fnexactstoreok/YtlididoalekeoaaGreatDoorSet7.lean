/- Blocks of seven cells. -/
import Derived.Test.YtlididoalekeoaaGreatDoorBoxA
namespace Go.Proofs.YtlididoalekeoaaGreatDoor
set_option maxRecDepth 4000
open Go.RowKit

/-- A block of seven cells that may be written: its cells. -/
theorem cells7 (w : World) (g : Nat) (a0 a1 a2 a3 a4 a5 a6 : Value) (T : TypeId) (hg : w.heap[g]? = some (.cells #[a0, a1, a2, a3, a4, a5, a6] T (0, 0))) :
    w.cell? ⟨g, 0, none⟩ = some a0 ∧ w.cell? ⟨g, 1, none⟩ = some a1 ∧ w.cell? ⟨g, 2, none⟩ = some a2 ∧ w.cell? ⟨g, 3, none⟩ = some a3 ∧ w.cell? ⟨g, 4, none⟩ = some a4 ∧ w.cell? ⟨g, 5, none⟩ = some a5 ∧ w.cell? ⟨g, 6, none⟩ = some a6 := by
  refine ⟨?_, ?_, ?_, ?_, ?_, ?_, ?_⟩
  · rw [cell_of_row w g 0 _ _ (0, 0) hg]; rfl
  · rw [cell_of_row w g 1 _ _ (0, 0) hg]; rfl
  · rw [cell_of_row w g 2 _ _ (0, 0) hg]; rfl
  · rw [cell_of_row w g 3 _ _ (0, 0) hg]; rfl
  · rw [cell_of_row w g 4 _ _ (0, 0) hg]; rfl
  · rw [cell_of_row w g 5 _ _ (0, 0) hg]; rfl
  · rw [cell_of_row w g 6 _ _ (0, 0) hg]; rfl
theorem free7 (w : World) (g : Nat) (a0 a1 a2 a3 a4 a5 a6 : Value) (T : TypeId) (hg : w.heap[g]? = some (.cells #[a0, a1, a2, a3, a4, a5, a6] T (0, 0))) :
    w.frozen? ⟨g, 0, none⟩ = false ∧ w.frozen? ⟨g, 1, none⟩ = false ∧ w.frozen? ⟨g, 2, none⟩ = false ∧ w.frozen? ⟨g, 3, none⟩ = false ∧ w.frozen? ⟨g, 4, none⟩ = false ∧ w.frozen? ⟨g, 5, none⟩ = false ∧ w.frozen? ⟨g, 6, none⟩ = false :=
  ⟨frozen_of_row w g 0 _ _ hg, frozen_of_row w g 1 _ _ hg, frozen_of_row w g 2 _ _ hg, frozen_of_row w g 3 _ _ hg, frozen_of_row w g 4 _ _ hg, frozen_of_row w g 5 _ _ hg, frozen_of_row w g 6 _ _ hg⟩
/-- One cell of a block, written. -/
theorem set_at {w : World} {g j : Nat} {cs : Array Value} {T : TypeId} (v : Value) (hg : w.heap[g]? = some (.cells cs T (0, 0))) : (w.setCell ⟨g, j, none⟩ v).heap[g]? = some (.cells (cs.setIfInBounds j v) T (0, 0)) := heap_setCell_same w g j _ _ _ hg
/-- A block of seven cells, all of them written. -/
theorem set7 {w : World} {g : Nat} {a0 a1 a2 a3 a4 a5 a6 : Value} {T : TypeId} (x0 x1 x2 x3 x4 x5 x6 : Value) (hg : w.heap[g]? = some (.cells #[a0, a1, a2, a3, a4, a5, a6] T (0, 0))) :
    (((((((w.setCell ⟨g, 0, none⟩ x0).setCell ⟨g, 1, none⟩ x1).setCell ⟨g, 2, none⟩ x2).setCell ⟨g, 3, none⟩ x3).setCell ⟨g, 4, none⟩ x4).setCell ⟨g, 5, none⟩ x5).setCell ⟨g, 6, none⟩ x6).heap[g]? = some (.cells #[x0, x1, x2, x3, x4, x5, x6] T (0, 0)) := by
  rw [set_at x6 (set_at x5 (set_at x4 (set_at x3 (set_at x2 (set_at x1 (set_at x0 hg))))))]
  simp
/-- A cell of another block, seven writes on. -/
theorem cell_set7 {w : World} {q : Nat} {x0 x1 x2 x3 x4 x5 x6 v : Value} {a : Addr} (h : w.cell? a = some v) (hne : a.block ≠ q) :
    (((((((w.setCell ⟨q, 0, none⟩ x0).setCell ⟨q, 1, none⟩ x1).setCell ⟨q, 2, none⟩ x2).setCell ⟨q, 3, none⟩ x3).setCell ⟨q, 4, none⟩ x4).setCell ⟨q, 5, none⟩ x5).setCell ⟨q, 6, none⟩ x6).cell? a = some v :=
  cell_set (cell_set (cell_set (cell_set (cell_set (cell_set (cell_set h hne) hne) hne) hne) hne) hne) hne
theorem bset7 {B : Nat} {a w : World} {q : Nat} {x0 x1 x2 x3 x4 x5 x6 : Value} (h : Below B a w) (hq : B ≤ q) :
    Below B a (((((((w.setCell ⟨q, 0, none⟩ x0).setCell ⟨q, 1, none⟩ x1).setCell ⟨q, 2, none⟩ x2).setCell ⟨q, 3, none⟩ x3).setCell ⟨q, 4, none⟩ x4).setCell ⟨q, 5, none⟩ x5).setCell ⟨q, 6, none⟩ x6) :=
  bset (bset (bset (bset (bset (bset (bset h _ hq) _ hq) _ hq) _ hq) _ hq) _ hq) _ hq
theorem block_set7 {w : World} {g q : Nat} {x0 x1 x2 x3 x4 x5 x6 : Value} {o : Option Obj} (h : w.heap[g]? = o) (hne : g ≠ q) :
    (((((((w.setCell ⟨q, 0, none⟩ x0).setCell ⟨q, 1, none⟩ x1).setCell ⟨q, 2, none⟩ x2).setCell ⟨q, 3, none⟩ x3).setCell ⟨q, 4, none⟩ x4).setCell ⟨q, 5, none⟩ x5).setCell ⟨q, 6, none⟩ x6).heap[g]? = o :=
  block_set (block_set (block_set (block_set (block_set (block_set (block_set h hne) hne) hne) hne) hne) hne) hne
theorem size_set7 {w : World} {q : Nat} {x0 x1 x2 x3 x4 x5 x6 : Value} :
    (((((((w.setCell ⟨q, 0, none⟩ x0).setCell ⟨q, 1, none⟩ x1).setCell ⟨q, 2, none⟩ x2).setCell ⟨q, 3, none⟩ x3).setCell ⟨q, 4, none⟩ x4).setCell ⟨q, 5, none⟩ x5).setCell ⟨q, 6, none⟩ x6).heap.size = w.heap.size := by simp

end Go.Proofs.YtlididoalekeoaaGreatDoor
