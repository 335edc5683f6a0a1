/- Contracts of EucSign at every place, in the program and in the specification. -/
import Derived.Test.YtcddjfdmodpnjabDoorEuc
namespace Go.Proofs.YtcddjfdmodpnjabDoor
open Go.RowKit

/-- What EucSign answers: the sign there, the place behind, and whether there is one; nothing that was there is written. -/
structure EucOut (w : World) (bs : List UInt8) (at_ : Int) (e : Ending) (w' : World) : Prop where
  out : e = .returned (.tuple #[.int .i64 (eucAt bs at_).1, .int .i64 (eucAt bs at_).2.1, .bool (eucAt bs at_).2.2])
  bel : Below w.heap.size w w'

end Go.Proofs.YtcddjfdmodpnjabDoor
