/- Who asked last; what a node knows. -/
import Derived.Test.YtlididoalekeoaaGreatDoorRecDat
namespace Go.Proofs.YtlididoalekeoaaGreatDoor
set_option maxRecDepth 4000
open Go.RowKit

/-- Who asked last. -/
structure MarkD where
  who : Int
  seq : Int
  code : Int
/-- What a node knows. -/
structure TabD where
  rows : List RowD
  phase : Int
  marks : List MarkD

end Go.Proofs.YtlididoalekeoaaGreatDoor
