/- Bytes that lie there, to be read. -/
import Derived.Test.YtlididoalekeoaaGreatDoorBoxA
namespace Go.Proofs.YtlididoalekeoaaGreatDoor
set_option maxRecDepth 4000
open Go.RowKit

/-- Bytes that lie there, to be read. -/
structure Lies (w : World) (q n : Nat) (es : List UInt8) : Prop where
  size : es.length = n
  lt : q < w.heap.size
  cell : ∀ j, j < n → w.cell? ⟨q, 0 + j, none⟩ = some (.int .u8 ((es.getD j 0).toNat : Int))
theorem Lies.below {w w' : World} {q n : Nat} {es : List UInt8} (h : Lies w q n es) (hb : Below w.heap.size w w') : Lies w' q n es :=
  ⟨h.size, by have := hb.size; have := h.lt; omega, fun j hj => (hb.cell (p := ⟨q, 0 + j, none⟩) h.lt).trans (h.cell j hj)⟩
theorem Lies.take {w : World} {q n : Nat} {es : List UInt8} (h : Lies w q n es) (k : Nat) (hk : k ≤ n) : Lies w q k (es.take k) :=
  ⟨by rw [List.length_take, h.size]; omega, h.lt, fun j hj => by rw [h.cell j (by omega)]; simp [List.getD, hj]⟩
theorem Own.lies {w : World} {g c n : Nat} {bs : List UInt8} (h : Own w g c bs) (hn : bs.length = n) : Lies w g n bs := ⟨hn, h.lt, h.cell hn⟩

end Go.Proofs.YtlididoalekeoaaGreatDoor
