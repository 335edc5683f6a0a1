/- A store: the plain values, and whether it is right. -/
import Derived.Test.YtlididoalekeoaaGreatDoorTabDat
import Derived.Test.YtlididoalekeoaaGreatDoorDevP
namespace Go.Proofs.YtlididoalekeoaaGreatDoor
set_option maxRecDepth 4000
open Go.RowKit

structure StoreD where
  d : DevD
  t : TabD
  gen : Int
  place : Int

end Go.Proofs.YtlididoalekeoaaGreatDoor
