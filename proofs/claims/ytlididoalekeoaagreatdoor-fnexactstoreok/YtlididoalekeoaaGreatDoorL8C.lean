/- The contract of l8Copy. -/
import Derived.Test.YtlididoalekeoaaGreatDoorCellA
import Derived.Test.YtlididoalekeoaaGreatDoorBoxA
import Derived.Deep.RegionHeldLaw
namespace Go.Proofs.YtlididoalekeoaaGreatDoor
set_option maxRecDepth 4000
open Go.RowKit

end Go.Proofs.YtlididoalekeoaaGreatDoor
