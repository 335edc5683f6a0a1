/- Contracts of what the program writes of signs: the bytes of a sign, of all signs. -/
import Derived.Test.YtjbideiifoadkaaDoorCodeI
import Derived.Test.YtjbideiifoadkaaDoorInts
namespace Go.Proofs.YtjbideiifoadkaaDoor
set_option maxRecDepth 4000
open Go.RowKit

/-- The bytes of a sign are answered, if it has some. -/
structure BytesOf (w : World) (cs n : Int) (e : Ending) (w' : World) : Prop where
  out : ∃ (v : Value), e = .returned (.tuple #[v, .bool (putOk cs n)]) ∧ (putOk cs n = true → ∃ g c, v = .slice (some ⟨g, 0, none⟩) (putB cs n).length c ∧ Own w' g c (putB cs n)) ∧ Below w.heap.size w w'

/-- The first bytes laid behind nil. -/
theorem nil_own (w : World) : w.ownsRow w.heap.size 5 1 (.slice none 0 0) 0 (([] : List UInt8).map cb) := ⟨rfl, .inl ⟨rfl, rfl⟩⟩

theorem own_lit (w : World) (y : UInt8) : Own (w.alloc (.cells #[cb y] 5)) w.heap.size 1 [y] := ⟨#[cb y], heap_alloc_new w _, by simp, by unfold maxLen; omega, rfl, by simp⟩
theorem size_alloc (w : World) (o : Obj) : (w.alloc o).heap.size = w.heap.size + 1 := by simp

/-- Signs lie in a row of numbers. -/
structure SignsLie (w : World) (lb L : Nat) (l : List Int) : Prop where
  size : l.length = L
  sg : ∀ n ∈ l, isSign n
  cell : ∀ j, j < L → w.cell? ⟨lb, 0 + j, none⟩ = some (.int .i64 (l.getD j 0))

/-- Where the loop of writeAll stands. -/
structure WAt (w : World) (cs : Int) (l : List Int) (k q c n lost : Nat) (wr : World) : Prop where
  out : ∃ bs : List UInt8, bs.length = n ∧ WriteAt cs l k bs lost ∧ w.heap.size ≤ q ∧ Own wr q c bs ∧ Below w.heap.size w wr
structure WriteOut (w : World) (cs : Int) (l : List Int) (e : Ending) (w' : World) : Prop where
  out : ∃ g c, e = .returned (.tuple #[.slice (some ⟨g, 0, none⟩) (writeB cs l).length c, .int .i64 (lostW cs l : Int)]) ∧ w.heap.size ≤ g ∧ Own w' g c (writeB cs l) ∧ Below w.heap.size w w'

theorem wAt_zero (w : World) (cs : Int) (l : List Int) (L : Nat) (hL : L ≤ maxLen) : WAt w cs l 0 w.heap.size L 0 0 (w.alloc (.cells (madeCells #[.int .u8 0] L) 5)) :=
  ⟨[], rfl, writeAt_zero cs l, Nat.le_refl _, ⟨madeCells #[.int .u8 0] L, heap_alloc_new w _, Nat.zero_le _, hL, by rw [← Array.length_toList, zeros_length], by simp⟩, below_lit _ _⟩
/-- A sign's bytes, or the mark, were appended. -/
theorem wAt_next {w wr wx w2 : World} {cs : Int} {l : List Int} {k q c n lost : Nat} {z : Int} {v : Value} {m : Nat} {ys : List UInt8} (h : WAt w cs l k q c n lost wr) (hk : k < l.length) (hz : l.getD k 0 = z)
    (hy : ys = oneW cs z) (hm : ys.length = m) (hx : Below wr.heap.size wr wx) (hown : w2.ownsRow w.heap.size 5 1 v (n + m) (((writeB cs (l.take k)) ++ ys).map cb)) (hgr : wx.grownBy w2 (some q)) (hne : v ≠ .slice none 0 0) :
    ∃ q' c', v = .slice (some ⟨q', 0, none⟩) (n + m) c' ∧ WAt w cs l (k + 1) q' c' (n + m) (lost + if putOk cs z = true then 0 else 1) w2 := by
  obtain ⟨bs, h1, h2, h3, h4, h5⟩ := h.out
  have hb : bs = writeB cs (l.take k) := h2.text
  obtain ⟨q', c', hv, hq, hO⟩ := own_row hown hne
  refine ⟨q', c', hv, _, ?_, writeAt_next h2 hk hz, hq, ?_, ?_⟩
  · rw [List.length_append, h1, ← hy, hm]
  · rw [hb, ← hy]; exact hO
  · exact (Below.next h5 hx).grown hgr (by have := h5.size; have := hx.size; omega) (fun i e => by simp at e; omega)

end Go.Proofs.YtjbideiifoadkaaDoor
