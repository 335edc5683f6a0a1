/- Bytes of a cell: nil without room, or at the head of a block. -/
import Derived.Test.YtlididoalekeoaaGreatDoorBoxA
import Derived.Test.YtlididoalekeoaaGreatDoorLie0
namespace Go.Proofs.YtlididoalekeoaaGreatDoor
set_option maxRecDepth 4000
open Go.RowKit

/-- The bytes of a cell that is handed in: nil, or they lie there. -/
def CellAt (w : World) (ao : Option Addr) (n c : Nat) (bs : List UInt8) : Prop :=
  (ao = none ∧ n = 0 ∧ c = 0 ∧ bs = []) ∨ ∃ q, ao = some ⟨q, 0, none⟩ ∧ n ≤ c ∧ Lies w q n bs
theorem CellAt.below {w w' : World} {ao : Option Addr} {n c : Nat} {bs : List UInt8} (h : CellAt w ao n c bs) (hb : Below w.heap.size w w') : CellAt w' ao n c bs := by
  rcases h with h | ⟨q, h1, h2, h3⟩
  · exact .inl h
  · exact .inr ⟨q, h1, h2, h3.below hb⟩
theorem CellAt.size {w : World} {ao : Option Addr} {n c : Nat} {bs : List UInt8} (h : CellAt w ao n c bs) : bs.length = n := by
  rcases h with ⟨_, rfl, _, rfl⟩ | ⟨q, _, _, h3⟩
  · rfl
  · exact h3.size
theorem CellAt.reads {w : World} {ao : Option Addr} {n c : Nat} {bs : List UInt8} (h : CellAt w ao n c bs) : Reads w ao n bs := by
  rcases h with ⟨rfl, rfl, _, rfl⟩ | ⟨q, rfl, _, h3⟩
  · exact ⟨rfl, .inl rfl⟩
  · exact ⟨h3.size, .inr ⟨q, 0, rfl, h3.cell⟩⟩
theorem OwnO.at_ {w : World} {B c n : Nat} {ao : Option Addr} {bs : List UInt8} (h : OwnO w B ao c bs) (hn : bs.length = n) : CellAt w ao n c bs := by
  rcases h with ⟨rfl, rfl, rfl⟩ | ⟨q, rfl, _, hO⟩
  · exact .inl ⟨rfl, by simpa using hn.symm, rfl, rfl⟩
  · exact .inr ⟨q, rfl, by have := hO.le; omega, hO.lies hn⟩

end Go.Proofs.YtlididoalekeoaaGreatDoor
