/- Blocks that a call lays one behind the other, and what they hold. -/
import Derived.Test.YtlididoalekeoaaCommon
import Derived.Test.YtlididoalekeoaaPut
import Derived.Maps.AppendAt
import Derived.Laws.ResultCell
import Derived.Laws.Rows
namespace Go.Proofs.Ytlididoalekeoaa
set_option maxRecDepth 4000
open Go.RowKit

theorem lt_of_block {w : World} {k : Nat} {o : Obj} (h : w.heap[k]? = some o) : k < w.heap.size := (Array.getElem?_eq_some_iff.1 h).1
theorem alloc_old (w : World) (o : Obj) {k : Nat} (h : k < w.heap.size) : (w.alloc o).heap[k]? = w.heap[k]? := (below_lit w o).block k h
theorem alloc_new (w : World) (o : Obj) {k : Nat} (h : k = w.heap.size) : (w.alloc o).heap[k]? = some o := by subst h; exact heap_alloc_new w o
theorem below_lit3 (w : World) (A B C : Obj) : Below w.heap.size w (((w.alloc A).alloc B).alloc C) := (below_lit2 w A B).alloc (by simp; omega) C
theorem below_lit4 (w : World) (A B C D : Obj) : Below w.heap.size w ((((w.alloc A).alloc B).alloc C).alloc D) := (below_lit3 w A B C).alloc (by simp; omega) D
/-- Three blocks, one behind the other. -/
theorem laid3 (w : World) (A B C : Obj) : (((w.alloc A).alloc B).alloc C).heap[w.heap.size]? = some A ∧ (((w.alloc A).alloc B).alloc C).heap[w.heap.size + 1]? = some B ∧ (((w.alloc A).alloc B).alloc C).heap[w.heap.size + 1 + 1]? = some C := by
  refine ⟨?_, ?_, alloc_new _ _ (by simp)⟩
  · rw [alloc_old _ _ (by simp; omega), alloc_old _ _ (by simp), alloc_new _ _ rfl]
  · rw [alloc_old _ _ (by simp), alloc_new _ _ (by simp)]
theorem laid4 (w : World) (A B C D : Obj) : ((((w.alloc A).alloc B).alloc C).alloc D).heap[w.heap.size]? = some A ∧ ((((w.alloc A).alloc B).alloc C).alloc D).heap[w.heap.size + 1]? = some B ∧ ((((w.alloc A).alloc B).alloc C).alloc D).heap[w.heap.size + 1 + 1]? = some C ∧ ((((w.alloc A).alloc B).alloc C).alloc D).heap[w.heap.size + 1 + 1 + 1]? = some D := by
  obtain ⟨h1, h2, h3⟩ := laid3 w A B C
  refine ⟨?_, ?_, ?_, alloc_new _ _ (by simp)⟩
  · rw [alloc_old _ _ (by simp <;> omega)]; exact h1
  · rw [alloc_old _ _ (by simp <;> omega)]; exact h2
  · rw [alloc_old _ _ (by simp <;> omega)]; exact h3
theorem laid2 (w : World) (A B : Obj) : ((w.alloc A).alloc B).heap[w.heap.size]? = some A ∧ ((w.alloc A).alloc B).heap[w.heap.size + 1]? = some B := by
  refine ⟨?_, alloc_new _ _ (by simp)⟩
  rw [alloc_old _ _ (by simp), alloc_new _ _ rfl]

/-- A block of three cells that may be written: its cells. -/
theorem cells3 (w : World) (g : Nat) (a b c : Value) (T : TypeId) (hg : w.heap[g]? = some (.cells #[a, b, c] T (0, 0))) :
    w.cell? ⟨g, 0, none⟩ = some a ∧ w.cell? ⟨g, 1, none⟩ = some b ∧ w.cell? ⟨g, 2, none⟩ = some c ∧ w.frozen? ⟨g, 0, none⟩ = false ∧ w.frozen? ⟨g, 1, none⟩ = false ∧ w.frozen? ⟨g, 2, none⟩ = false := by
  refine ⟨?_, ?_, ?_, frozen_of_row w g 0 _ _ hg, frozen_of_row w g 1 _ _ hg, frozen_of_row w g 2 _ _ hg⟩
  · rw [cell_of_row w g 0 _ _ (0, 0) hg]; rfl
  · rw [cell_of_row w g 1 _ _ (0, 0) hg]; rfl
  · rw [cell_of_row w g 2 _ _ (0, 0) hg]; rfl

/-- A block of two cells that may be written: its cells. -/
theorem cells2 (w : World) (g : Nat) (a b : Value) (T : TypeId) (hg : w.heap[g]? = some (.cells #[a, b] T (0, 0))) :
    w.cell? ⟨g, 0, none⟩ = some a ∧ w.cell? ⟨g, 1, none⟩ = some b ∧ w.frozen? ⟨g, 0, none⟩ = false ∧ w.frozen? ⟨g, 1, none⟩ = false := by
  refine ⟨?_, ?_, frozen_of_row w g 0 _ _ hg, frozen_of_row w g 1 _ _ hg⟩
  · rw [cell_of_row w g 0 _ _ (0, 0) hg]; rfl
  · rw [cell_of_row w g 1 _ _ (0, 0) hg]; rfl

theorem Row.set {w : World} {g q j : Nat} {bs : List UInt8} (h : Row w g bs) (v : Value) (hne : g ≠ q) : Row (w.setCell ⟨q, j, none⟩ v) g bs := h.of_block (heap_setCell_other w ⟨q, j, none⟩ g v hne)
theorem bset {B : Nat} {a w : World} {q j : Nat} (h : Below B a w) (v : Value) (hq : B ≤ q) : Below B a (w.setCell ⟨q, j, none⟩ v) := h.setCell (p := ⟨q, j, none⟩) hq v

theorem block_set {w : World} {g q j : Nat} {v : Value} {o : Option Obj} (h : w.heap[g]? = o) (hne : g ≠ q) : (w.setCell ⟨q, j, none⟩ v).heap[g]? = o := (heap_setCell_other w ⟨q, j, none⟩ g v hne).trans h
/-- A block of three cells, all of them written. -/
theorem set3 {w : World} {g : Nat} {a b c : Value} {T : TypeId} (x y z : Value) (hg : w.heap[g]? = some (.cells #[a, b, c] T (0, 0))) :
    (((w.setCell ⟨g, 0, none⟩ x).setCell ⟨g, 1, none⟩ y).setCell ⟨g, 2, none⟩ z).heap[g]? = some (.cells #[x, y, z] T (0, 0)) := by
  rw [heap_setCell_same _ g 2 _ _ _ (heap_setCell_same _ g 1 _ _ _ (heap_setCell_same w g 0 _ _ _ hg))]
  simp
/-- A block of two cells, both of them written. -/
theorem set2 {w : World} {g : Nat} {a b : Value} {T : TypeId} (x y : Value) (hg : w.heap[g]? = some (.cells #[a, b] T (0, 0))) :
    ((w.setCell ⟨g, 0, none⟩ x).setCell ⟨g, 1, none⟩ y).heap[g]? = some (.cells #[x, y] T (0, 0)) := by
  rw [heap_setCell_same _ g 1 _ _ _ (heap_setCell_same w g 0 _ _ _ hg)]
  simp
/-- The results: a variable of several cells, and a number or the like. -/
theorem results_row_tmp {P : Program} {fn : Func} {p u : Tmp} {ty : TypeId} (h : fn.results = #[.cell p ty, .tmp u]) (tmps : Array Value) (w : World) (g : Nat) (t : TypeId) (cs : Array Value) (fr : Nat × Nat) (d : TypeDesc)
    (hp : tmps.getD p undef = .pointer (some ⟨g, 0, none⟩)) (hg : w.heap[g]? = some (.cells cs t fr))
    (hu : P.underlying ty = some d) (hd : (match d with | .struct _ | .array _ _ => true | _ => false) = true) (hi : (P.info? ty).map (·.size) = some cs.size) :
    (results fn tmps).run P w = .ok (.tuple #[.agg cs, tmps.getD u undef]) w := by
  rw [results_cell_tmp h]
  simp only [hp, asAddr, Sem.run_pure, Result.andThen_ok, run_loadVar_row w g t ty cs fr d hg hu hd hi]

theorem Own.reads_drop {w : World} {q c L : Nat} {bs : List UInt8} (h : Own w q c bs) (hn : bs.length = L) (k : Nat) (hk : k ≤ L) : Reads w (some ⟨q, k, none⟩) (L - k) (bs.drop k) := by
  refine ⟨by simp; omega, .inr ⟨q, k, rfl, fun j hj => ?_⟩⟩
  have := h.row.cell (k + j) (by omega)
  rw [this]; simp [List.getD]
/-- What append leaves of a slice of the call's own: where it lies. -/
theorem own_app {w1 : World} {B q n m c N : Nat} {bs xs : List UInt8} {v1 : Value} (hown : w1.ownsRow B 5 1 v1 (n + m) (bs.map cb ++ xs.map cb)) (hnil : ¬ v1 = .slice none 0 0) (hat : v1.ownBlock = (Value.slice (some ⟨q, 0, none⟩) n c).ownBlock ∨ v1.ownBlock = some N) :
    ∃ q' c', v1 = .slice (some ⟨q', 0, none⟩) (n + m) c' ∧ B ≤ q' ∧ Own w1 q' c' (bs ++ xs) ∧ (q' = q ∨ q' = N) := by
  rw [← List.map_append] at hown
  obtain ⟨g, c', hv, hg, hO⟩ := own_row hown hnil
  subst hv
  exact ⟨g, c', rfl, hg, hO, by simpa [Value.ownBlock] using hat⟩

end Go.Proofs.Ytlididoalekeoaa
