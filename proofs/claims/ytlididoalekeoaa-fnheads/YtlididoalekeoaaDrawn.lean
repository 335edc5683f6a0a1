/- Contracts of what draws numbers, signs and places out of a code. -/
import Derived.Test.YtlididoalekeoaaCommon
import Derived.Test.YtlididoalekeoaaBig
import Derived.Test.YtlididoalekeoaaDraw
import Derived.Test.YtlididoalekeoaaSign
namespace Go.Proofs.Ytlididoalekeoaa
set_option maxRecDepth 4000
open Go.RowKit

/-- A number is drawn, and the cursor goes on. -/
structure IntDrawn (w : World) (g : Nat) (ao : Option Addr) (len cap : Nat) (bs : List UInt8) (e : Ending) (w' : World) : Prop where
  out : ∃ z : Int, e = .returned (.int .i64 z) ∧ z ≤ 9223372036854775807 ∧ Cursor w' g ao len cap bs ∧ w.grownBy w' (some g)
/-- Bytes are drawn, in new memory, and the cursor goes on. -/
structure BytesDrawn (w : World) (g : Nat) (ao : Option Addr) (len cap : Nat) (bs : List UInt8) (L : Nat) (e : Ending) (w' : World) : Prop where
  out : ∃ (q m c : Nat) (ds : List UInt8), e = .returned (.slice (some ⟨q, 0, none⟩) m c) ∧ ds.length = m ∧ m ≤ L ∧ w.heap.size ≤ q ∧ Own w' q c ds ∧ Cursor w' g ao len cap bs ∧ w.grownBy w' (some g)
/-- A number; two numbers; a text; bytes and a number. -/
structure DrawnInt (w : World) (e : Ending) (w' : World) : Prop where
  out : ∃ z : Int, e = .returned (.int .i64 z) ∧ z ≤ 9223372036854775807 ∧ Below w.heap.size w w'
structure DrawnTwo (w : World) (e : Ending) (w' : World) : Prop where
  out : ∃ y z : Int, e = .returned (.tuple #[.int .i64 y, .int .i64 z]) ∧ y ≤ 9223372036854775807 ∧ z ≤ 9223372036854775807 ∧ Below w.heap.size w w'
structure DrawnText (w : World) (e : Ending) (w' : World) : Prop where
  out : ∃ s : ByteArray, e = .returned (.string s) ∧ Below w.heap.size w w'
structure DrawnBytesInt (w : World) (L : Nat) (e : Ending) (w' : World) : Prop where
  out : ∃ (q m c : Nat) (ds : List UInt8) (z : Int), e = .returned (.tuple #[.slice (some ⟨q, 0, none⟩) m c, .int .i64 z]) ∧ ds.length = m ∧ m ≤ L ∧ z ≤ 9223372036854775807 ∧ w.heap.size ≤ q ∧ Own w' q c ds ∧ Below w.heap.size w w'

end Go.Proofs.Ytlididoalekeoaa
