/- Contracts of PutEuc, in the program (over its table) and in the specification. -/
import Derived.Test.YtlididoalekeoaaGreatDoorPairA
import Derived.Test.YtlididoalekeoaaGreatDoorSign
namespace Go.Proofs.YtlididoalekeoaaGreatDoor
set_option maxRecDepth 4000
open Go.RowKit

/-- What PutEuc answers: bytes in new memory, and a flag. -/
structure PutOut (w : World) (bs : List UInt8) (ok : Bool) (e : Ending) (w' : World) : Prop where
  out : ∃ g c, e = .returned (.tuple #[.slice (some ⟨g, 0, none⟩) bs.length c, .bool ok]) ∧ w.heap.size ≤ g ∧ Own w' g c bs ∧ Below w.heap.size w w'

end Go.Proofs.YtlididoalekeoaaGreatDoor
