/- A row. -/
import Derived.Test.YtlididoalekeoaaGreatDoorPutA
namespace Go.Proofs.YtlididoalekeoaaGreatDoor
set_option maxRecDepth 4000
open Go.RowKit

/-- A row. -/
structure RowD where
  key : ByteArray
  t1 : Int
  b1 : List UInt8
  t2 : Int
  b2 : List UInt8
  has : Int
  aside : Bool
def zeroRow : RowD := ⟨⟨#[]⟩, 0, [], 0, [], 0, false⟩

end Go.Proofs.YtlididoalekeoaaGreatDoor
